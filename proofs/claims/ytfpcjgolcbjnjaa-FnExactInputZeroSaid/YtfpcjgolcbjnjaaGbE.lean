/- The program's parts of garbling an and gate: hashed, labels, entries, label. No condition. -/
import Derived.Test.YtfpcjgolcbjnjaaProg
import Derived.Test.YtfpcjgolcbjnjaaGbI
import Derived.Test.YtfpcjgolcbjnjaaGbB
import Derived.Test.YtfpcjgolcbjnjaaB1
import Derived.BigQuiet
import Derived.Lib.QuietBelow
import Derived.Deep.RegionHeld3
namespace Go.Proofs.Ytfpcjgolcbjnjaa
open Go Go.RowKit
theorem calls_belowE {p : Program} {f : Nat} {xs : Array Value} {w : World} {v : Value} (h : Calls p f xs w fun e w' => e = .returned v ∧ w = w') : Calls p f xs w fun e w' => e = .returned v ∧ Below w.heap.size w w' :=
  h.mono fun _ _ k => ⟨k.1, by rw [← k.2]; exact Below.refl _ _⟩
set_option maxRecDepth 100000 in
theorem impl_hashed (x y n u v : Int) (hu : hshI x n = u) (hv : hshI y n = v) (w : World) :
    Calls Try.prog 116 #[.agg #[.int .i64 x, .int .i64 y], .int .i64 n] w fun e w' => e = .returned (.agg #[.int .i64 u, .int .i64 v]) ∧ Below w.heap.size w w' := by
  have hx := Boxed.start w 104 (.int .i64 x) (.int .i64 y) 104 (.int .i64 0) (.int .i64 0)
  have cX := impl_HashLabel_is x n u hu
  have cY := impl_HashLabel_is y n v hv
  clear hu hv
  go_enter Try.func116, Try.ntmps116
  go_upto_region 1 with (fail)
  generalize hw0 : (w.alloc (.cells #[.int .i64 x, .int .i64 y] 104)).alloc (.cells #[.int .i64 0, .int .i64 0] 104) = w0 at *
  clear hw0
  obtain ⟨c0, c1, _, _⟩ := box2 hx.arg
  obtain ⟨r0, r1, r2, r3⟩ := box2 hx.res
  have d0 : w0.drew.cell? ⟨w.heap.size, 0, none⟩ = some (.int .i64 x) := c0
  have d1 : w0.drew.cell? ⟨w.heap.size, 1, none⟩ = some (.int .i64 y) := c1
  have hx5 := (hx.set (.int .i64 u) (.int .i64 v)).drew
  go_region_law (first
    | (go_simp; go_at_call 120; (with_reducible refine (cX _).mono ?_); rintro e w3 ⟨rfl, rfl⟩)
    | (go_simp; go_at_call 120; (with_reducible refine (cY _).mono ?_); rintro e w3 ⟨rfl, rfl⟩))
  all_goals
    go_wp2_with fail
    (try simp only [Exit.inBlock, Exit.then])
    refine bodyPost_ret (results_cell_row (P := Try.prog) rfl _ _ (w.heap.size + 1) 104 _ (0, 0) _ rfl hx5.res Try.underlying104 rfl (by kernel_rfl)) rfl ?_
    exact ⟨rfl, hx5.low⟩
/-- The type of the box of a garbling in the program. -/
abbrev GC (A0 : Option Addr) (n0 c0 : Nat) (A1 : Option Addr) (n1 c1 : Nat) : List Value := [.slice A0 n0 c0, .slice A1 n1 c1]
set_option maxRecDepth 100000 in
theorem impl_labels {B g n m n0 c0 n1 c1 : Nat} {A0 A1 : Option Addr} {d : Int} {vz vt : Value} {zs ts : List Int} {w0 w : World} (h : Gb B g w0 w (GC A0 n0 c0 A1 n1 c1) 77 d vz vt n m zs ts) (x y : Int) (hx : 0 ≤ x ∧ x < n) (hy : zs.getD x.toNat 0 = y) :
    Calls Try.prog 84 #[.pointer (some ⟨g, 0, none⟩), .int .i64 x] w fun e w' => e = .returned (.agg #[.int .i64 y, .int .i64 (bits .xor .i64 y d)]) ∧ Below w.heap.size w w' := by
  obtain ⟨Az, cz, rfl⟩ := h.zform
  have low := below_alloc w (.cells #[.int .i64 0, .int .i64 0] 104)
  have bx := heap_alloc_new w (.cells #[.int .i64 0, .int .i64 0] 104)
  have h1 := h.alloc (.cells #[.int .i64 0, .int .i64 0] 104)
  obtain ⟨q, o, rfl, -, e0⟩ := h1.zints.at_ (j := x.toNat) (by have := h1.zlen; omega)
  rw [hy] at e0
  have v2 := (h1.cell (i := 2) rfl).1
  have v3 := (h1.cell (i := 3) rfl).1
  have v4 := (h1.cell (i := 4) rfl).1
  have cP := impl_pairFrom y d
  generalize bits .xor .i64 y d = z at *
  clear h hy h1
  go_enter Try.func84, Try.ntmps84
  go_upto_region 1 with (fail)
  generalize hw1 : w.alloc (.cells #[.int .i64 0, .int .i64 0] 104) = w1 at *
  clear hw1
  have e0d : w1.drew.cell? ⟨q, o + x.toNat, none⟩ = some (.int .i64 y) := e0
  have v2d : w1.drew.cell? ⟨g, 2, none⟩ = some (.int .i64 d) := v2
  have v3d : w1.drew.cell? ⟨g, 3, none⟩ = some (.slice (some ⟨q, o, none⟩) n cz) := v3
  have hs := heap_lt bx
  go_region_law (go_simp; go_at_call 91; (with_reducible refine (cP _).mono ?_); rintro e w3 ⟨rfl, hb3⟩; (have bx3 := heap_below (w := w1.drew) bx hb3); (obtain ⟨r0, r1, r2, r3⟩ := box2 bx3))
  all_goals
    have R := Lib.hid (box2_set bx3 (.int .i64 y) (.int .i64 z))
    have L := Lib.hid (((low.drew.trans (hb3.mono low.size)).setCell (p := ⟨w.heap.size, 0, none⟩) (Nat.le_refl _) (.int .i64 y)).setCell (p := ⟨w.heap.size, 1, none⟩) (Nat.le_refl _) (.int .i64 z))
    go_wp2_with fail
    (try simp only [Exit.inBlock, Exit.then])
    refine bodyPost_ret (results_cell_row (P := Try.prog) rfl _ _ w.heap.size 104 _ (0, 0) _ rfl R.out Try.underlying104 rfl (by kernel_rfl)) rfl ?_
    exact ⟨rfl, L.out⟩
set_option maxRecDepth 100000 in
theorem impl_label (n : Nat) (G E a b : Int) (hn : n ≤ 6000) (hG : isLbl G) (hE : isLbl E) (ha : isLbl a) (hb : isLbl b) (w : World) :
    Calls Try.prog 110 #[.agg #[.int .i64 G, .int .i64 E], .int .i64 a, .int .i64 b, .int .i64 n] w fun e w' => e = .returned (.int .i64 (evA n a b G E)) ∧ Below w.heap.size w w' := by
  rw [ev_pairs hn ha hb hG hE]
  have low := below_alloc w (.cells #[.int .i64 G, .int .i64 E] 120)
  have bx := heap_alloc_new w (.cells #[.int .i64 G, .int .i64 E] 120)
  have cF := impl_firstHash (n : Int) (by omega)
  have cS := impl_secondHash (n : Int) (by omega)
  have c1 := impl_HashLabel a (2 * n)
  have c2 := impl_HashLabel b (2 * n + 1)
  have c3 := impl_ifPermuted a G hG
  have c4 := impl_ifPermuted b (bits .xor .i64 E a) (by rw [lx_bits hE ha]; exact lx_lbl hE ha)
  generalize hshI a (2 * n) = u1 at *
  generalize hshI b (2 * n + 1) = u2 at *
  generalize ifI (a % 2) G = u3 at *
  generalize ifI (b % 2) (bits .xor .i64 E a) = u4 at *
  have n0 : (0 : Int) ≤ n := by omega
  have n1 : (n : Int) ≤ 6000 := by omega
  clear ha hb hG hE hn
  go_enter Try.func110, Try.ntmps110
  go_upto_region 1 with (fail)
  generalize hw1 : w.alloc (.cells #[.int .i64 G, .int .i64 E] 120) = w1 at *
  clear hw1
  have b0 := cell_regrown (box2 bx).1
  have b1 := cell_regrown (box2 bx).2.1
  have k1 : ∀ x os, Calls Try.prog 117 #[.int .i64 n] (Go.Sort.grow (redrawn w1 x) os) fun e w'' => e = .returned (.int .i64 (2 * n)) ∧ ∃ p : Regrown, w'' = Go.Sort.grow (redrawn w1 p.d) p.os := fun x os => Calls.regrown_of (calls_belowE (cF _))
  have k2 : ∀ x os, Calls Try.prog 120 #[.int .i64 a, .int .i64 (2 * n)] (Go.Sort.grow (redrawn w1 x) os) fun e w'' => e = .returned (.int .i64 u1) ∧ ∃ p : Regrown, w'' = Go.Sort.grow (redrawn w1 p.d) p.os := fun x os => Calls.regrown_of (calls_belowE (c1 _))
  have k3 : ∀ x os, Calls Try.prog 119 #[.int .i64 a, .int .i64 G] (Go.Sort.grow (redrawn w1 x) os) fun e w'' => e = .returned (.int .i64 u3) ∧ ∃ p : Regrown, w'' = Go.Sort.grow (redrawn w1 p.d) p.os := fun x os => Calls.regrown_of (calls_belowE (c3 _))
  refine wp_region_quiet_below (by kernel_rfl) (by kernel_rfl) ?_
  repeat (first | go_big_quiet_step (first | with_reducible exact k1 _ _ | with_reducible exact k2 _ _ | with_reducible exact k3 _ _) | quiet_step (first | with_reducible exact k1 _ _ | with_reducible exact k2 _ _ | with_reducible exact k3 _ _))
  refine wpQuiet_nil ?_
  intro _ hw'
  obtain ⟨⟨dq, osq⟩, hw''⟩ := hw'
  subst hw''
  have hr := below_regrown w1 dq osq
  have bx2 := heap_below bx hr
  have low2 := low.trans (hr.mono low.size)
  generalize Go.Sort.grow (redrawn w1 dq) osq = w2 at *
  clear k1 k2 k3 hr b0 b1 bx low
  go_upto_region 2 with (fail)
  have b0 := cell_regrown (box2 bx2).1
  have b1 := cell_regrown (box2 bx2).2.1
  have k1 : ∀ x os, Calls Try.prog 118 #[.int .i64 n] (Go.Sort.grow (redrawn w2 x) os) fun e w'' => e = .returned (.int .i64 (2 * n + 1)) ∧ ∃ p : Regrown, w'' = Go.Sort.grow (redrawn w2 p.d) p.os := fun x os => Calls.regrown_of (calls_belowE (cS _))
  have k2 : ∀ x os, Calls Try.prog 120 #[.int .i64 b, .int .i64 (2 * n + 1)] (Go.Sort.grow (redrawn w2 x) os) fun e w'' => e = .returned (.int .i64 u2) ∧ ∃ p : Regrown, w'' = Go.Sort.grow (redrawn w2 p.d) p.os := fun x os => Calls.regrown_of (calls_belowE (c2 _))
  have k3 : ∀ x os, Calls Try.prog 119 #[.int .i64 b, .int .i64 (bits .xor .i64 E a)] (Go.Sort.grow (redrawn w2 x) os) fun e w'' => e = .returned (.int .i64 u4) ∧ ∃ p : Regrown, w'' = Go.Sort.grow (redrawn w2 p.d) p.os := fun x os => Calls.regrown_of (calls_belowE (c4 _))
  refine wp_region_quiet_below (by kernel_rfl) (by kernel_rfl) ?_
  repeat (first | go_big_quiet_step (first | with_reducible exact k1 _ _ | with_reducible exact k2 _ _ | with_reducible exact k3 _ _) | quiet_step (first | with_reducible exact k1 _ _ | with_reducible exact k2 _ _ | with_reducible exact k3 _ _))
  refine wpQuiet_nil ?_
  intro _ hw'
  obtain ⟨⟨dq, osq⟩, hw''⟩ := hw'
  subst hw''
  have low3 := low2.trans ((below_regrown w2 dq osq).mono low2.size)
  generalize Go.Sort.grow (redrawn w2 dq) osq = w3 at *
  clear k1 k2 k3 b0 b1 bx2
  go_wp2_with fail
  go_ret
  exact ⟨rfl, low3⟩
end Go.Proofs.Ytfpcjgolcbjnjaa

/- StepState: the boxes of the program's, and the copy that it begins with. No condition. -/
import Derived.Test.YtlaidjibcpfnjaaProg
import Derived.Test.YtlaidjibcpfnjaaRunO
import Derived.Test.YtlaidjibcpfnjaaCloneI
import Derived.Test.YtlaidjibcpfnjaaB4
import Derived.Test.YtlaidjibcpfnjaaB1
namespace Go.Proofs.Ytlaidjibcpfnjaa
open Go Go.RowKit
/-- The three boxes of StepState: the state, the statement, the result. -/
structure Bx3S (w wr : World) (fs ss rs : Array Value) : Prop where
  f : wr.heap[w.heap.size]? = some (.cells fs 38 (0, 0))
  s : wr.heap[w.heap.size + 1]? = some (.cells ss 42 (0, 0))
  r : wr.heap[w.heap.size + 2]? = some (.cells rs 38 (0, 0))
  low : Below w.heap.size w wr
theorem Bx3S.start (w : World) (fs ss rs : Array Value) : Bx3S w (((w.alloc (.cells fs 38)).alloc (.cells ss 42)).alloc (.cells rs 38)) fs ss rs := by
  have b := Bx3.start w 38 fs 42 ss 38 rs
  exact ⟨b.two.arg, b.two.res, b.out, b.two.low⟩
theorem Bx3S.next {w wr w1 : World} {fs ss rs : Array Value} (h : Bx3S w wr fs ss rs) (hb : Below wr.heap.size wr w1) : Bx3S w w1 fs ss rs :=
  ⟨heap_below h.f hb, heap_below h.s hb, heap_below h.r hb, h.low.trans (hb.mono h.low.size)⟩
theorem Bx3S.lt {w wr : World} {fs ss rs : Array Value} (h : Bx3S w wr fs ss rs) : w.heap.size + 2 < wr.heap.size := heap_lt h.r
theorem Bx3S.far {w wr : World} {fs ss rs : Array Value} (h : Bx3S w wr fs ss rs) {g : Nat} (hg : w.heap.size + 2 < g) (i : Nat) (v : Value) : Bx3S w (wr.setCell ⟨g, i, none⟩ v) fs ss rs :=
  ⟨heap_far h.f (by simp; omega) v, heap_far h.s (by simp; omega) v, heap_far h.r (by simp; omega) v, h.low.setCell (by simp; omega) _⟩
theorem Bx3S.drew {w wr : World} {fs ss rs : Array Value} (h : Bx3S w wr fs ss rs) : Bx3S w wr.drew fs ss rs := ⟨h.f, h.s, h.r, h.low.drew⟩
theorem Bx3S.grown {w wr w1 : World} {fs ss rs : Array Value} {row : Option Nat} (h : Bx3S w wr fs ss rs) (hg : wr.grownBy w1 row) (hr : ∀ k, row = some k → w.heap.size + 2 < k) : Bx3S w w1 fs ss rs :=
  ⟨heap_grown h.f hg (fun e => by have := hr _ e; omega), heap_grown h.s hg (fun e => by have := hr _ e; omega), heap_grown h.r hg (fun e => by have := hr _ e; omega), h.low.grown hg h.low.size (fun k e => by have := hr k e; omega)⟩
/-- The result is stored and handed back. -/
theorem state_out {w wr : World} {fs ss : Array Value} {u v : Value} {A0 A1 : Option Addr} {n0 n1 c0 c1 lo hi : Nat} {z0 z1 : List Int} (h : Bx3S w wr fs ss #[u, v]) (o : OwnState lo hi wr (.slice A0 n0 c0) (.slice A1 n1 c1) n0 n1 z0 z1)
    (hlo : w.heap.size + 2 < lo) (hhi : hi ≤ wr.heap.size) (tmps : Array Value) (ht : tmps.getD 6 undef = .pointer (some ⟨w.heap.size + 2, 0, none⟩)) :
    bodyPost Try.prog Try.f22 (Post_State z0 z1 w) Exit.ret { tmps := tmps, defers := [] } ((wr.setCell ⟨w.heap.size + 2, 0, none⟩ (.slice A0 n0 c0)).setCell ⟨w.heap.size + 2, 1, none⟩ (.slice A1 n1 c1)) := by
  have b2 := heap_set (i := 1) (heap_set (i := 0) h.r (.slice A0 n0 c0)) (.slice A1 n1 c1)
  have o2 := (o.setFar (g := w.heap.size + 2) (i := 0) hlo (.slice A0 n0 c0)).setFar (g := w.heap.size + 2) (i := 1) hlo (.slice A1 n1 c1)
  refine bodyPost_ret (results_cell_row (P := Try.prog) rfl _ _ (w.heap.size + 2) 38 _ (0, 0) _ ht b2 Try.underlying38 rfl (by kernel_rfl)) rfl ?_
  exact ⟨_, _, _, _, _, _, rfl, o2.wide (by omega) (by simpa using hhi), (h.low.setCell (by simp) _).setCell (by simp) _⟩
/-- The copy: a struct in block g, its slices in blocks of their own. -/
structure Aft (w0 wr : World) (g : Nat) (v0 v1 : Value) (n0 n1 : Nat) (rs os : List Int) : Prop where
  low : Below w0.heap.size w0 wr
  ge : w0.heap.size ≤ g
  box : wr.heap[g]? = some (.cells #[v0, v1] 38 (0, 0))
  o0 : OwnI w0.heap.size wr.heap.size wr v0 n0 rs
  o1 : OwnI w0.heap.size wr.heap.size wr v1 n1 os
  ap : apart v0 v1
  f0 : v0.ownBlock ≠ some g
  f1 : v1.ownBlock ≠ some g
section
variable {w0 wr w1 : World} {g : Nat} {v0 v1 : Value} {n0 n1 : Nat} {rs os : List Int}
theorem Aft.next (h : Aft w0 wr g v0 v1 n0 n1 rs os) (hb : Below wr.heap.size wr w1) : Aft w0 w1 g v0 v1 n0 n1 rs os :=
  ⟨h.low.trans (hb.mono h.low.size), h.ge, heap_below h.box hb, (h.o0.below hb).wide (Nat.le_refl _) hb.size, (h.o1.below hb).wide (Nat.le_refl _) hb.size, h.ap, h.f0, h.f1⟩
theorem Aft.drew (h : Aft w0 wr g v0 v1 n0 n1 rs os) : Aft w0 wr.drew g v0 v1 n0 n1 rs os := ⟨h.low.drew, h.ge, h.box, h.o0.drew, h.o1.drew, h.ap, h.f0, h.f1⟩
theorem Aft.lt (h : Aft w0 wr g v0 v1 n0 n1 rs os) : g < wr.heap.size := heap_lt h.box
theorem OwnI.off {lo hi k : Nat} {v : Value} {n : Nat} {w : World} {zs : List Int} (h : OwnI lo hi w v n zs) (hk : k < lo ∨ hi ≤ k) : v.ownBlock ≠ some k := fun e => by
  have := h.ltB e
  omega
/-- The struct was made last. -/
theorem Aft.last {lo0 hi0 lo1 hi1 : Nat} (low : Below w0.heap.size w0 wr) (o0 : OwnI lo0 hi0 wr v0 n0 rs) (o1 : OwnI lo1 hi1 wr v1 n1 os) (l0 : w0.heap.size ≤ lo0) (l1 : w0.heap.size ≤ lo1) (t0 : hi0 ≤ wr.heap.size) (t1 : hi1 ≤ wr.heap.size) (ap : apart v0 v1) :
    Aft w0 (wr.alloc (.cells #[v0, v1] 38)) wr.heap.size v0 v1 n0 n1 rs os :=
  ⟨low.alloc low.size _, low.size, heap_alloc_new wr _, (o0.alloc _).wide l0 (by simp; omega), (o1.alloc _).wide l1 (by simp; omega), ap, o0.off (.inr t0), o1.off (.inr t1)⟩
/-- The struct was made before. -/
theorem Aft.early {lo0 hi0 lo1 hi1 : Nat} (low : Below w0.heap.size w0 wr) (hbox : wr.heap[g]? = some (.cells #[.slice none 0 0, .slice none 0 0] 38 (0, 0))) (hg : w0.heap.size ≤ g) (o0 : OwnI lo0 hi0 wr v0 n0 rs) (o1 : OwnI lo1 hi1 wr v1 n1 os) (l0 : w0.heap.size ≤ lo0) (l1 : w0.heap.size ≤ lo1) (t0 : hi0 ≤ wr.heap.size) (t1 : hi1 ≤ wr.heap.size) (ap : apart v0 v1) (d0 : g < lo0 ∨ hi0 ≤ g) (d1 : g < lo1 ∨ hi1 ≤ g) :
    Aft w0 ((wr.setCell ⟨g, 0, none⟩ v0).setCell ⟨g, 1, none⟩ v1) g v0 v1 n0 n1 rs os := by
  have far : ∀ {lo hi n : Nat} {v : Value} {zs : List Int} (w : World) (i : Nat) (u : Value), OwnI lo hi w v n zs → (g < lo ∨ hi ≤ g) → OwnI lo hi (w.setCell ⟨g, i, none⟩ u) v n zs := fun w i u o d => d.elim (fun h => o.setFar h u) (fun h => o.setFar' h u)
  refine ⟨(low.setCell (p := ⟨g, 0, none⟩) hg _).setCell (p := ⟨g, 1, none⟩) hg _, hg, ?_, (far _ _ _ (far _ _ _ o0 d0) d0).wide l0 (by simpa using t0), (far _ _ _ (far _ _ _ o1 d1) d1).wide l1 (by simpa using t1), ap, o0.off d0, o1.off d1⟩
  exact heap_set (i := 1) (heap_set (i := 0) hbox v0) v1
end
theorem low_fin : ∀ x : Fin 16, ((x.val : Int)).tmod 2 = bits .and .i64 (x.val : Int) 1 := by decide +kernel
theorem low_four {x : Int} (h : 0 ≤ x ∧ x ≤ 15) : x % 2 = bits .and .i64 x 1 := by
  have h2 := low_fin ⟨x.toNat, by omega⟩
  simp only [Int.toNat_of_nonneg h.1] at h2
  rw [← h2, Int.tmod_eq_emod_of_nonneg h.1]
theorem impl_IsWord4 (x : Int) (h0 : 0 ≤ x) (h1 : x ≤ 15) (w : World) : Calls Try.prog 100 #[.int .i64 x] w fun e w' => e = .returned (.bool true) ∧ w = w' := by
  have h2 : x ≤ 4294967295 := by omega
  go_enter Try.func100, Try.ntmps100
  go_wp2_with fail
  go_ret
  exact ⟨rfl, rfl⟩
theorem impl_LowBit4 (x : Int) (h0 : 0 ≤ x) (h1 : x ≤ 15) (w : World) : Calls Try.prog 66 #[.int .i64 x] w fun e w' => e = .returned (.int .i64 (bits .and .i64 x 1)) ∧ w = w' := by
  have hb := low_four ⟨h0, h1⟩
  go_enter Try.func66, Try.ntmps66
  go_wp2_with fail
  refine (impl_IsWord4 x h0 h1 w).mono ?_
  rintro e w1 ⟨rfl, rfl⟩
  have Hb := Lib.hid hb
  clear hb
  go_wp2_with fail
  go_ret
  exact ⟨ret_int Hb.out, rfl⟩
theorem OwnI.setOff {lo hi k i n : Nat} {v : Value} {w : World} {zs : List Int} (h : OwnI lo hi w v n zs) (hk : v.ownBlock ≠ some k) (u : Value) : OwnI lo hi (w.setCell ⟨k, i, none⟩ u) v n zs := by
  refine ⟨⟨h.own.1, ?_⟩, h.top⟩
  rcases h.own.2 with e | ⟨g, cap, cur, e, hg, hh, r⟩
  · exact .inl e
  · exact .inr ⟨g, cap, cur, e, hg, heap_far hh (fun e2 => hk (by rw [e, show k = g from e2.symm]; rfl)) u, r⟩
theorem OwnI.setAt {lo hi b c n j : Nat} {w : World} {zs : List Int} (h : OwnI lo hi w (.slice (some ⟨b, 0, none⟩) n c) n zs) (x : Int) : OwnI lo hi (w.setCell ⟨b, j, none⟩ (.int .i64 x)) (.slice (some ⟨b, 0, none⟩) n c) n (zs.set j x) := by
  refine ⟨?_, h.top⟩
  have := (h.own.stored j (.int .i64 x)).1
  simpa [intVals, List.map_set] using this
theorem OwnI.cellAt {lo hi b c n j : Nat} {w : World} {zs : List Int} (h : OwnI lo hi w (.slice (some ⟨b, 0, none⟩) n c) n zs) (hj : j < n) : w.cell? ⟨b, j, none⟩ = some (.int .i64 (zs.getD j 0)) ∧ w.frozen? ⟨b, j, none⟩ = false := by
  refine ⟨?_, h.own.frozenAt j⟩
  have hl := h.len
  rw [h.own.cellAt j (by omega)]
  simp [intVals, List.getElem?_map, List.getD_eq_getElem?_getD, List.getElem?_eq_getElem (show j < zs.length by omega)]
/-- A number of the copy is set. -/
theorem Aft.set {w0 wr : World} {g b c j n0 n1 : Nat} {v1 : Value} {rs os : List Int} (h : Aft w0 wr g (.slice (some ⟨b, 0, none⟩) n0 c) v1 n0 n1 rs os) (hb : w0.heap.size ≤ b) (x : Int) :
    Aft w0 (wr.setCell ⟨b, j, none⟩ (.int .i64 x)) g (.slice (some ⟨b, 0, none⟩) n0 c) v1 n0 n1 (rs.set j x) os :=
  ⟨h.low.setCell (p := ⟨b, j, none⟩) hb _, h.ge, heap_far h.box (fun e => h.f0 (by rw [e]; rfl)) _, (h.o0.setAt x).wide (Nat.le_refl _) (by simp), (h.o1.setOff (fun e => h.ap b rfl e) _).wide (Nat.le_refl _) (by simp), h.ap, h.f0, h.f1⟩
/-- An output is appended, and the list stored. -/
theorem Aft.app {w0 w5 w7 : World} {g g3 cap n0 n1 : Nat} {v0 v1 : Value} {rs os : List Int} {x : Int} {o : Obj} (h : Aft w0 w5 g v0 v1 n0 n1 rs os) (ho : w7.ownsRow w0.heap.size 3 1 (.slice (some ⟨g3, 0, none⟩) (n1 + 1) cap) (n1 + 1) (intVals os ++ [.int .i64 x])) (hg : (w5.alloc o).grownBy w7 v1.ownBlock) (hat : v1.ownBlock = some g3 ∨ g3 = w5.heap.size + 1) :
    Aft w0 (w7.setCell ⟨g, 1, none⟩ (.slice (some ⟨g3, 0, none⟩) (n1 + 1) cap)) g v0 (.slice (some ⟨g3, 0, none⟩) (n1 + 1) cap) n0 (n1 + 1) rs (os ++ [x]) := by
  have hgt := h.lt
  have low5 := h.low.alloc h.low.size o
  have hne : g3 ≠ g := by
    rcases hat with e | e
    · exact fun e2 => h.f1 (by rw [e, e2])
    · omega
  have ho2 : w7.ownsRow w0.heap.size 3 1 (.slice (some ⟨g3, 0, none⟩) (n1 + 1) cap) (n1 + 1) (intVals (os ++ [x])) := by
    rw [show intVals (os ++ [x]) = intVals os ++ [Value.int .i64 x] by simp [intVals]]
    exact ho
  have hs := hg.size
  have hs5 : (w5.alloc o).heap.size = w5.heap.size + 1 := by simp
  have f1 : (Value.slice (some ⟨g3, 0, none⟩) (n1 + 1) cap).ownBlock ≠ some g := fun e => hne (by simpa [Value.ownBlock] using e)
  refine ⟨(low5.grown hg low5.size (fun k e => (h.o1.ltB e).1)).setCell (p := ⟨g, 1, none⟩) h.ge _, h.ge, ?_, ?_, ?_, ?_, h.f0, f1⟩
  · exact heap_set (i := 1) (heap_grown (heap_alloc h.box o) hg (fun e => h.f1 e)) _
  · exact (((h.o0.alloc o).keep hg h.ap).setOff h.f0 _).wide (Nat.le_refl _) (by simp; omega)
  · exact ((OwnI.of_own ho2).setOff f1 _).wide (Nat.le_refl _) (by simp)
  · intro k e e'
    have e2 : g3 = k := by simpa [Value.ownBlock] using e'
    subst e2
    rcases hat with e3 | e3
    · exact h.ap _ e e3
    · have := h.o0.top _ e; omega
theorem set_lows {B G : Nat} {w0 w : World} (h : Below B w0 w) (hG : B ≤ G) (u v : Value) : Below B w0 ((w.setCell ⟨G, 0, none⟩ u).setCell ⟨G, 1, none⟩ v) :=
  (h.setCell (p := ⟨G, 0, none⟩) hG _).setCell (p := ⟨G, 1, none⟩) hG _
theorem CloneI_keep (A : Option Addr) (n c : Nat) (xs : List Int) (W w : World) (hx : Ints W A xs) (lx : xs.length = n) (mx : n ≤ 2000000) (p1 p2 : Addr) (v1 v2 : Value) (c1 : w.cell? p1 = some v1) (c2 : w.cell? p2 = some v2) (hl : Below W.heap.size W w) :
    Calls Try.prog 64 #[.slice A n c] w fun e w' => ∃ (A' : Option Addr) (c' : Nat), e = .returned (.slice A' n c') ∧ OwnI w.heap.size w'.heap.size w' (.slice A' n c') n xs ∧ w'.cell? p1 = some v1 ∧ w'.cell? p2 = some v2 ∧ Below W.heap.size W w' ∧ W.heap.size ≤ w'.heap.size ∧ Below w.heap.size w w' :=
  (impl_CloneI A n c xs w (Ints.below hx hl) lx mx).mono fun _ _ ⟨A', m, c', he, hm, ho, hb⟩ => by
    obtain rfl : m = n := by omega
    exact ⟨A', c', he, ho, (hb.cell (World.block_lt_of_cell? w p1 c1)).trans c1, (hb.cell (World.block_lt_of_cell? w p2 c2)).trans c2, hl.trans (hb.mono hl.size), Nat.le_trans hl.size hb.size, hb⟩
end Go.Proofs.Ytlaidjibcpfnjaa

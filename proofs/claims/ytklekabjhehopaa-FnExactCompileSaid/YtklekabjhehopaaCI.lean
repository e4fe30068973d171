/- Compilation: the word of a statement: the model's. No condition. And what goes with it. -/
import Derived.Test.YtklekabjhehopaaProg
import Derived.Test.YtklekabjhehopaaCmH
import Derived.Test.YtklekabjhehopaaW3
import Derived.Deep.RegionHeld3
namespace Go.Proofs.Ytklekabjhehopaa
open Go Go.RowKit
theorem and7_fin : ∀ a : Fin 8, bits .and .i64 (a.val : Int) 7 = (a.val : Int) := by decide +kernel
theorem and7 {a : Nat} (h : a < 8) : bits .and .i64 (a : Int) 7 = (a : Int) := and7_fin ⟨a, h⟩
/-- A list of four wires, made behind a builder. -/
theorem Wl.cons4 {B g n : Nat} {w w1 : World} {v : Value} {v1 : Rest} {z : List Int} {x : Int} (h : Cir B g w1 v v1 n z) (hs : w.heap.size ≤ w1.heap.size) : Wl g v w.heap.size (w1.alloc (.cells #[.int .i64 x, .int .i64 0, .int .i64 0, .int .i64 0] 3)) (.slice (some ⟨w1.heap.size, 0, none⟩) 4 4) 4 [x, 0, 0, 0] := by
  refine ⟨World.ownsRow_lit (e := 3) (size := 1) (base := w.heap.size) w1 #[.int .i64 x, .int .i64 0, .int .i64 0, .int .i64 0] 4 hs (by unfold maxLen; omega) rfl, fun e => ?_, fun q e e' => ?_⟩
  · have e1 : w1.heap.size = g := by simpa [Value.ownBlock] using e
    have := h.lt
    omega
  · have e1 : w1.heap.size = q := by simpa [Value.ownBlock] using e
    have := (h.own.lt q e').2
    omega
set_option maxRecDepth 100000 in
set_option maxHeartbeats 2000000 in
theorem spec_word_1 (B g b c : Nat) (v u : Value) (vs : List Value) (n m : Nat) (z os : List Int) (rg : List (List Int)) (d : Int) (a e : Nat) (f k : Int) (ha : a < 8) (he : e < 8) (hk : 0 ≤ k ∧ k ≤ 15) (w : World) (h : Cs B g b c w v u vs n m z os rg) (hB : B ≤ w.heap.size) (hn : n ≤ 900000) :
    Calls Try.prog 64 #[.pointer (some ⟨g, 0, none⟩), .slice (some ⟨b, 0, none⟩) 8 c, .agg #[.int .i64 1, .int .i64 d, .int .i64 a, .int .i64 e, .int .i64 f, .int .i64 k], .int .i64 0] w (PutR B g ⟨[u], 31⟩ n (wordG z rg 0 1 a e f k).1 (wordG z rg 0 1 a e f k).2 v w) := by
  show Calls Try.prog 64 _ w (PutR B g ⟨[u], 31⟩ n (constAt z k 4).1 (constAt z k 4).2 v w)
  have al := below_alloc w (.cells #[.int .i64 1, .int .i64 d, .int .i64 a, .int .i64 e, .int .i64 f, .int .i64 k] 71)
  have k0 := h.below al
  have gl := h.cir.lt
  have bl := h.blt
  obtain ⟨A, ca, ea, _, la, ra⟩ := h.tab.row a ha
  obtain ⟨A', cb, eb, _, lb, rb⟩ := h.tab.row e he
  have ta := (k0.cell ha ea).1
  have tb := (k0.cell he eb).1
  have na : w.heap.size ≠ g := by omega
  have nv : v.ownBlock ≠ some w.heap.size := fun e => by have := (h.cir.own.lt _ e).2; omega
  have oa := ra.off.below al
  have ob := rb.off.below al
  have B0 : B ≤ (w.alloc (.cells #[.int .i64 1, .int .i64 d, .int .i64 a, .int .i64 e, .int .i64 f, .int .i64 k] 71)).heap.size := by simp; omega
  have a0 : (0 : Int) ≤ a := by omega
  have a1 : (a : Int) < 8 := by omega
  have p0 : (0 : Int) ≤ e := by omega
  have p1 : (e : Int) < 8 := by omega
  have h7 := and7 ha
  go_enter Try.func64, Try.ntmps64
  go_wp2_with fail
  generalize w.alloc (.cells #[.int .i64 1, .int .i64 d, .int .i64 a, .int .i64 e, .int .i64 f, .int .i64 k] 71) = w0 at *
  refine (spec_l14Const B g n v _ z k hk w0 k0.cir B0 (by omega)).mono ?_
  rintro e9 w3 ⟨v3, A3, j3, c3, rfl, l3, h3, t3, wl3⟩
  have T := Lib.hid (((Turn.refl g v w).below al).trans t3)
  have C := Lib.hid (And.intro h3 (wl3.mono (B' := w.heap.size) (al.size)))
  have l4 : j3 = 4 := by rw [← l3, constAt_len4]
  subst l4
  clear h3 t3 wl3 ta tb oa ob ra rb k0 h
  go_wp2_with fail
  go_ret
  exact ⟨v3, n + 4, A3, c3, rfl, rfl, by omega, C.out.1, T.out, C.out.2⟩
set_option maxRecDepth 100000 in
set_option maxHeartbeats 2000000 in
theorem spec_word_2 (B g b c : Nat) (v u : Value) (vs : List Value) (n m : Nat) (z os : List Int) (rg : List (List Int)) (d : Int) (a e : Nat) (f : Int) (k : Nat) (ha : a < 8) (he : e < 8) (ha4 : a ≤ 4) (hk : k ≤ 3) (w : World) (h : Cs B g b c w v u vs n m z os rg) (hB : B ≤ w.heap.size) (hn : n ≤ 900000) :
    Calls Try.prog 64 #[.pointer (some ⟨g, 0, none⟩), .slice (some ⟨b, 0, none⟩) 8 c, .agg #[.int .i64 2, .int .i64 d, .int .i64 a, .int .i64 e, .int .i64 f, .int .i64 k], .int .i64 0] w (PutR B g ⟨[u], 31⟩ n (wordG z rg 0 2 a e f k).1 (wordG z rg 0 2 a e f k).2 v w) := by
  show Calls Try.prog 64 _ w (PutR B g ⟨[u], 31⟩ n (inAt z ((a : Int) * 4 + (k : Int)) 4).1 (inAt z ((a : Int) * 4 + (k : Int)) 4).2 v w)
  have al := below_alloc w (.cells #[.int .i64 2, .int .i64 d, .int .i64 a, .int .i64 e, .int .i64 f, .int .i64 k] 71)
  have k0 := h.below al
  have gl := h.cir.lt
  have bl := h.blt
  obtain ⟨A, ca, ea, _, la, ra⟩ := h.tab.row a ha
  obtain ⟨A', cb, eb, _, lb, rb⟩ := h.tab.row e he
  have ta := (k0.cell ha ea).1
  have tb := (k0.cell he eb).1
  have na : w.heap.size ≠ g := by omega
  have nv : v.ownBlock ≠ some w.heap.size := fun e => by have := (h.cir.own.lt _ e).2; omega
  have oa := ra.off.below al
  have ob := rb.off.below al
  have B0 : B ≤ (w.alloc (.cells #[.int .i64 2, .int .i64 d, .int .i64 a, .int .i64 e, .int .i64 f, .int .i64 k] 71)).heap.size := by simp; omega
  have a0 : (0 : Int) ≤ a := by omega
  have a1 : (a : Int) < 8 := by omega
  have p0 : (0 : Int) ≤ e := by omega
  have p1 : (e : Int) < 8 := by omega
  have h7 := and7 ha
  have b0 := heap_alloc_new w (.cells #[.int .i64 2, .int .i64 d, .int .i64 a, .int .i64 e, .int .i64 f, .int .i64 k] 71)
  obtain ⟨x2, -⟩ := blk (i := 2) b0 rfl
  obtain ⟨x5, -⟩ := blk (i := 5) b0 rfl
  have sz0 : (w.alloc (.cells #[.int .i64 2, .int .i64 d, .int .i64 a, .int .i64 e, .int .i64 f, .int .i64 k] 71)).heap.size = w.heap.size + 1 := by simp
  generalize hq : a * 4 + k = q at *
  have q20 : q < 20 := by omega
  have eq1 : (a : Int) * 4 + (k : Int) = (q : Int) := by omega
  rw [eq1]
  go_enter Try.func64, Try.ntmps64
  go_wp2_with fail
  generalize w.alloc (.cells #[.int .i64 2, .int .i64 d, .int .i64 a, .int .i64 e, .int .i64 f, .int .i64 k] 71) = w0 at *
  have S0 := Lib.hid (Bl.empty k0.cir)
  generalize hw3 : w0.alloc (.cells #[] 3) = w3 at *
  clear hw3
  go_loopw [11, 12] (fun s i wr => ∃ (j : Nat) (v' : Value), j ≤ 4 ∧ i = .int .i64 j ∧ Bl B g v w0 wr v' ⟨[u], 31⟩ (n + j) (inAt z (q : Nat) j).1 s j (inAt z (q : Nat) j).2) (fun _ i _ => 4 - (intOf i).toNat)
  case atStart => exact ⟨0, v, by omega, rfl, by have := S0.out; rw [sz0] at this; exact this⟩
  case round =>
    obtain ⟨j, v', hj, rfl, hs⟩ := hrel
    clear S0
    by_cases hlt : j < 4
    · have j0 : (0 : Int) ≤ j := by omega
      have j1 : (j : Int) < 4 := by omega
      have B1 := Nat.le_trans B0 hs.size
      have y2 := hs.turn.cell x2 na nv
      have y5 := hs.turn.cell x5 na nv
      have e1 : IntKind.i64.wrap ((a : Int) * 4) = (a : Int) * 4 := wrapB (by omega) (by omega)
      have e2 : IntKind.i64.wrap ((a : Int) * 4 + (k : Int)) = (q : Int) := by rw [eq1]; exact wrapB (by omega) (by omega)
      have e3 : IntKind.i64.wrap ((q : Int) * 4) = (q : Int) * 4 := wrapB (by omega) (by omega)
      have e4 : IntKind.i64.wrap ((q : Int) * 4 + (j : Int)) = (q : Int) * 4 + (j : Int) := wrapB (by omega) (by omega)
      go_wp2_with fail
      refine (spec_l14Put B g (n + j) v' _ (inAt z (q : Nat) j).1 1 ((q : Int) * 4 + (j : Int)) 0 wr hs.cir B1 (by omega)).mono ?_
      rintro e9 w4 ⟨v4, rfl, h4, t4⟩
      have h5 := hs.next h4 t4
      have sz := h5.size
      clear h4 t4 hs y2 y5
      go_wp2_with (first | (at_builtin; refine app_list (e' := 3) elemInt rfl _ _ rfl w0.heap.size _ j (intVals (inAt z (q : Nat) j).2) rfl (h5.alloc (.cells #[.int .i64 (nG (inAt z (q : Nat) j).1)] 3)).wl.own w4.heap.size 1 1 _ (0, 0) rfl (heap_alloc_new w4 _) rfl (oneCell_i64 [_]) (by omega) (by unfold maxLen; omega) (by omega) (by simp; omega) (w4.heap.size + 1) (by simp) ?_))
      intro g5 c5 w5 ho5 hg5 hat5 _
      rw [← sz0] at ho5
      have H := Lib.hid (h5.app ho5 hg5 hat5)
      clear h5 ho5 hg5 hat5
      go_wp2_with fail
      go_roundw
      case rel => exact ⟨j + 1, v4, by omega, by go_num, H.out⟩
      case measure => simp [intOf]; omega
    · obtain rfl : j = 4 := by omega
      obtain ⟨A3, c3, rfl⟩ := hs.wl.form
      have H := Lib.hid hs
      clear hs
      go_wp2_with fail
      go_ret
      exact ⟨v', n + 4, A3, c3, rfl, rfl, by omega, H.out.cir, ((Turn.refl g v w).below al).trans H.out.turn, H.out.wl.mono al.size⟩
set_option maxRecDepth 100000 in
set_option maxHeartbeats 2000000 in
theorem spec_word_3 (B g b c : Nat) (v u : Value) (vs : List Value) (n m : Nat) (z os : List Int) (rg : List (List Int)) (d : Int) (a e : Nat) (f k : Int) (ha : a < 8) (he : e < 8) (w : World) (h : Cs B g b c w v u vs n m z os rg) (hB : B ≤ w.heap.size) (hn : n ≤ 900000) :
    Calls Try.prog 64 #[.pointer (some ⟨g, 0, none⟩), .slice (some ⟨b, 0, none⟩) 8 c, .agg #[.int .i64 3, .int .i64 d, .int .i64 a, .int .i64 e, .int .i64 f, .int .i64 k], .int .i64 0] w (PutR B g ⟨[u], 31⟩ n (wordG z rg 0 3 a e f k).1 (wordG z rg 0 3 a e f k).2 v w) := by
  show Calls Try.prog 64 _ w (PutR B g ⟨[u], 31⟩ n (sumA z (rg.getD a []) (rg.getD e []) 0 3).1 (sumA z (rg.getD a []) (rg.getD e []) 0 3).2 v w)
  have al := below_alloc w (.cells #[.int .i64 3, .int .i64 d, .int .i64 a, .int .i64 e, .int .i64 f, .int .i64 k] 71)
  have k0 := h.below al
  have gl := h.cir.lt
  have bl := h.blt
  obtain ⟨A, ca, ea, _, la, ra⟩ := h.tab.row a ha
  obtain ⟨A', cb, eb, _, lb, rb⟩ := h.tab.row e he
  have ta := (k0.cell ha ea).1
  have tb := (k0.cell he eb).1
  have na : w.heap.size ≠ g := by omega
  have nv : v.ownBlock ≠ some w.heap.size := fun e => by have := (h.cir.own.lt _ e).2; omega
  have oa := ra.off.below al
  have ob := rb.off.below al
  have B0 : B ≤ (w.alloc (.cells #[.int .i64 3, .int .i64 d, .int .i64 a, .int .i64 e, .int .i64 f, .int .i64 k] 71)).heap.size := by simp; omega
  have a0 : (0 : Int) ≤ a := by omega
  have a1 : (a : Int) < 8 := by omega
  have p0 : (0 : Int) ≤ e := by omega
  have p1 : (e : Int) < 8 := by omega
  have h7 := and7 ha
  go_enter Try.func64, Try.ntmps64
  go_wp2_with fail
  generalize w.alloc (.cells #[.int .i64 3, .int .i64 d, .int .i64 a, .int .i64 e, .int .i64 f, .int .i64 k] 71) = w0 at *
  refine (spec_l14Sum B g n v _ z A 3 ca _ A' cb _ 0 w0 k0.cir B0 oa la ob lb (by omega) (by omega)).mono ?_
  rintro e9 w3 ⟨v3, A3, j3, c3, rfl, l3, h3, t3, wl3⟩
  have T := Lib.hid (((Turn.refl g v w).below al).trans t3)
  have C := Lib.hid (And.intro h3 (wl3.mono (B' := w.heap.size) (al.size)))
  have l4 : j3 = 4 := by rw [← l3, sumA_len4]
  subst l4
  clear h3 t3 wl3 ta tb oa ob ra rb k0 h
  go_wp2_with fail
  go_ret
  exact ⟨v3, n + 1 + 5 * 3 + 1 + 1, A3, c3, rfl, rfl, by omega, C.out.1, T.out, C.out.2⟩
set_option maxRecDepth 100000 in
set_option maxHeartbeats 2000000 in
theorem spec_word_4 (B g b c : Nat) (v u : Value) (vs : List Value) (n m : Nat) (z os : List Int) (rg : List (List Int)) (d : Int) (a e : Nat) (f k : Int) (ha : a < 8) (he : e < 8) (w : World) (h : Cs B g b c w v u vs n m z os rg) (hB : B ≤ w.heap.size) (hn : n ≤ 900000) :
    Calls Try.prog 64 #[.pointer (some ⟨g, 0, none⟩), .slice (some ⟨b, 0, none⟩) 8 c, .agg #[.int .i64 4, .int .i64 d, .int .i64 a, .int .i64 e, .int .i64 f, .int .i64 k], .int .i64 0] w (PutR B g ⟨[u], 31⟩ n (wordG z rg 0 4 a e f k).1 (wordG z rg 0 4 a e f k).2 v w) := by
  show Calls Try.prog 64 _ w (PutR B g ⟨[u], 31⟩ n (sumA (notsAt z (rg.getD e []) 4).1 (rg.getD a []) (notsAt z (rg.getD e []) 4).2 1 3).1 (sumA (notsAt z (rg.getD e []) 4).1 (rg.getD a []) (notsAt z (rg.getD e []) 4).2 1 3).2 v w)
  have al := below_alloc w (.cells #[.int .i64 4, .int .i64 d, .int .i64 a, .int .i64 e, .int .i64 f, .int .i64 k] 71)
  have k0 := h.below al
  have gl := h.cir.lt
  have bl := h.blt
  obtain ⟨A, ca, ea, _, la, ra⟩ := h.tab.row a ha
  obtain ⟨A', cb, eb, _, lb, rb⟩ := h.tab.row e he
  have ta := (k0.cell ha ea).1
  have tb := (k0.cell he eb).1
  have na : w.heap.size ≠ g := by omega
  have nv : v.ownBlock ≠ some w.heap.size := fun e => by have := (h.cir.own.lt _ e).2; omega
  have oa := ra.off.below al
  have ob := rb.off.below al
  have B0 : B ≤ (w.alloc (.cells #[.int .i64 4, .int .i64 d, .int .i64 a, .int .i64 e, .int .i64 f, .int .i64 k] 71)).heap.size := by simp; omega
  have a0 : (0 : Int) ≤ a := by omega
  have a1 : (a : Int) < 8 := by omega
  have p0 : (0 : Int) ≤ e := by omega
  have p1 : (e : Int) < 8 := by omega
  have h7 := and7 ha
  go_enter Try.func64, Try.ntmps64
  go_wp2_with fail
  generalize w.alloc (.cells #[.int .i64 4, .int .i64 d, .int .i64 a, .int .i64 e, .int .i64 f, .int .i64 k] 71) = w0 at *
  refine (spec_l14Nots B g n v _ z A' 4 cb _ w0 k0.cir B0 ob lb (by omega) (by omega)).mono ?_
  rintro e9 w2 ⟨v2, A2, j2, c2, rfl, l2, h2, t2, wl2⟩
  have l24 : j2 = 4 := by rw [← l2]; rfl
  subst l24
  have B2 := Nat.le_trans B0 t2.size
  have oa2 := oa.turn t2
  have ol2 := wl2.off
  have s2 := t2.size
  clear wl2
  go_wp2_with fail
  refine (spec_l14Sum B g (n + 4) v2 _ (notsAt z (rg.getD e []) 4).1 A 3 ca _ A2 c2 _ 1 w2 h2 B2 oa2 la ol2 l2 (by omega) (by omega)).mono ?_
  rintro e9 w3 ⟨v3, A3, j3, c3, rfl, l3, h3, t3, wl3⟩
  have T := Lib.hid (((Turn.refl g v w).below al).trans (t2.trans t3))
  have C := Lib.hid (And.intro h3 (wl3.mono (B' := w.heap.size) (Nat.le_trans al.size s2)))
  have l4 : j3 = 4 := by rw [← l3, sumA_len4]
  subst l4
  clear h2 oa2 ol2 h3 t3 wl3 ta tb oa ob ra rb k0 h
  go_wp2_with fail
  go_ret
  exact ⟨v3, n + 4 + 1 + 5 * 3 + 1 + 1, A3, c3, rfl, rfl, by omega, C.out.1, T.out, C.out.2⟩
end Go.Proofs.Ytklekabjhehopaa

namespace Go.Proofs.Ytklekabjhehopaa
open Go Go.RowKit
set_option maxRecDepth 100000 in
set_option maxHeartbeats 2000000 in
theorem spec_word_5 (B g b c : Nat) (v u : Value) (vs : List Value) (n m : Nat) (z os : List Int) (rg : List (List Int)) (d : Int) (a e : Nat) (f k : Int) (ha : a < 8) (he : e < 8) (w : World) (h : Cs B g b c w v u vs n m z os rg) (hB : B ≤ w.heap.size) (hn : n ≤ 900000) :
    Calls Try.prog 64 #[.pointer (some ⟨g, 0, none⟩), .slice (some ⟨b, 0, none⟩) 8 c, .agg #[.int .i64 5, .int .i64 d, .int .i64 a, .int .i64 e, .int .i64 f, .int .i64 k], .int .i64 0] w (PutR B g ⟨[u], 31⟩ n (wordG z rg 0 5 a e f k).1 (wordG z rg 0 5 a e f k).2 v w) := by
  show Calls Try.prog 64 _ w (PutR B g ⟨[u], 31⟩ n (mulAt z (rg.getD a []) (rg.getD e []) 3).1 (mulAt z (rg.getD a []) (rg.getD e []) 3).2 v w)
  have al := below_alloc w (.cells #[.int .i64 5, .int .i64 d, .int .i64 a, .int .i64 e, .int .i64 f, .int .i64 k] 71)
  have k0 := h.below al
  have gl := h.cir.lt
  have bl := h.blt
  obtain ⟨A, ca, ea, _, la, ra⟩ := h.tab.row a ha
  obtain ⟨A', cb, eb, _, lb, rb⟩ := h.tab.row e he
  have ta := (k0.cell ha ea).1
  have tb := (k0.cell he eb).1
  have na : w.heap.size ≠ g := by omega
  have nv : v.ownBlock ≠ some w.heap.size := fun e => by have := (h.cir.own.lt _ e).2; omega
  have oa := ra.off.below al
  have ob := rb.off.below al
  have B0 : B ≤ (w.alloc (.cells #[.int .i64 5, .int .i64 d, .int .i64 a, .int .i64 e, .int .i64 f, .int .i64 k] 71)).heap.size := by simp; omega
  have a0 : (0 : Int) ≤ a := by omega
  have a1 : (a : Int) < 8 := by omega
  have p0 : (0 : Int) ≤ e := by omega
  have p1 : (e : Int) < 8 := by omega
  have h7 := and7 ha
  go_enter Try.func64, Try.ntmps64
  go_wp2_with fail
  generalize w.alloc (.cells #[.int .i64 5, .int .i64 d, .int .i64 a, .int .i64 e, .int .i64 f, .int .i64 k] 71) = w0 at *
  refine (spec_l14Mul B g n v _ z A ca _ A' cb _ w0 k0.cir B0 oa la ob lb (by omega)).mono ?_
  rintro e9 w3 ⟨v3, A3, j3, c3, rfl, l3, h3, t3, wl3⟩
  have T := Lib.hid (((Turn.refl g v w).below al).trans t3)
  have C := Lib.hid (And.intro h3 (wl3.mono (B' := w.heap.size) (al.size)))
  have l4 : j3 = 4 := by rw [← l3, mulAt_length _ _ _ 3 (by omega)]
  subst l4
  clear h3 t3 wl3 ta tb oa ob ra rb k0 h
  go_wp2_with fail
  go_ret
  exact ⟨v3, n + mulN 3, A3, c3, rfl, mulAt_length _ _ _ 3 (by omega), by simp only [mulN]; omega, C.out.1, T.out, C.out.2⟩
set_option maxRecDepth 100000 in
set_option maxHeartbeats 2000000 in
theorem spec_word_6 (B g b c : Nat) (v u : Value) (vs : List Value) (n m : Nat) (z os : List Int) (rg : List (List Int)) (d : Int) (a e : Nat) (f k : Int) (ha : a < 8) (he : e < 8) (w : World) (h : Cs B g b c w v u vs n m z os rg) (hB : B ≤ w.heap.size) (hn : n ≤ 900000) :
    Calls Try.prog 64 #[.pointer (some ⟨g, 0, none⟩), .slice (some ⟨b, 0, none⟩) 8 c, .agg #[.int .i64 6, .int .i64 d, .int .i64 a, .int .i64 e, .int .i64 f, .int .i64 k], .int .i64 0] w (PutR B g ⟨[u], 31⟩ n (wordG z rg 0 6 a e f k).1 (wordG z rg 0 6 a e f k).2 v w) := by
  show Calls Try.prog 64 _ w (PutR B g ⟨[u], 31⟩ n (bitsAt z 4 (rg.getD a []) (rg.getD e []) 4).1 (bitsAt z 4 (rg.getD a []) (rg.getD e []) 4).2 v w)
  have al := below_alloc w (.cells #[.int .i64 6, .int .i64 d, .int .i64 a, .int .i64 e, .int .i64 f, .int .i64 k] 71)
  have k0 := h.below al
  have gl := h.cir.lt
  have bl := h.blt
  obtain ⟨A, ca, ea, _, la, ra⟩ := h.tab.row a ha
  obtain ⟨A', cb, eb, _, lb, rb⟩ := h.tab.row e he
  have ta := (k0.cell ha ea).1
  have tb := (k0.cell he eb).1
  have na : w.heap.size ≠ g := by omega
  have nv : v.ownBlock ≠ some w.heap.size := fun e => by have := (h.cir.own.lt _ e).2; omega
  have oa := ra.off.below al
  have ob := rb.off.below al
  have B0 : B ≤ (w.alloc (.cells #[.int .i64 6, .int .i64 d, .int .i64 a, .int .i64 e, .int .i64 f, .int .i64 k] 71)).heap.size := by simp; omega
  have a0 : (0 : Int) ≤ a := by omega
  have a1 : (a : Int) < 8 := by omega
  have p0 : (0 : Int) ≤ e := by omega
  have p1 : (e : Int) < 8 := by omega
  have h7 := and7 ha
  go_enter Try.func64, Try.ntmps64
  go_wp2_with fail
  generalize w.alloc (.cells #[.int .i64 6, .int .i64 d, .int .i64 a, .int .i64 e, .int .i64 f, .int .i64 k] 71) = w0 at *
  refine (spec_l15Bits B g n v _ z 4 A ca _ A' cb _ w0 k0.cir B0 oa la ob lb (by omega)).mono ?_
  rintro e9 w3 ⟨v3, A3, j3, c3, rfl, l3, h3, t3, wl3⟩
  have T := Lib.hid (((Turn.refl g v w).below al).trans t3)
  have C := Lib.hid (And.intro h3 (wl3.mono (B' := w.heap.size) (al.size)))
  have l4 : j3 = 4 := by rw [← l3, bitsAt_len4]
  subst l4
  clear h3 t3 wl3 ta tb oa ob ra rb k0 h
  go_wp2_with fail
  go_ret
  exact ⟨v3, n + 4, A3, c3, rfl, rfl, by omega, C.out.1, T.out, C.out.2⟩
set_option maxRecDepth 100000 in
set_option maxHeartbeats 2000000 in
theorem spec_word_7 (B g b c : Nat) (v u : Value) (vs : List Value) (n m : Nat) (z os : List Int) (rg : List (List Int)) (d : Int) (a e : Nat) (f k : Int) (ha : a < 8) (he : e < 8) (w : World) (h : Cs B g b c w v u vs n m z os rg) (hB : B ≤ w.heap.size) (hn : n ≤ 900000) :
    Calls Try.prog 64 #[.pointer (some ⟨g, 0, none⟩), .slice (some ⟨b, 0, none⟩) 8 c, .agg #[.int .i64 7, .int .i64 d, .int .i64 a, .int .i64 e, .int .i64 f, .int .i64 k], .int .i64 0] w (PutR B g ⟨[u], 31⟩ n (wordG z rg 0 7 a e f k).1 (wordG z rg 0 7 a e f k).2 v w) := by
  show Calls Try.prog 64 _ w (PutR B g ⟨[u], 31⟩ n (bitsAt z 3 (rg.getD a []) (rg.getD e []) 4).1 (bitsAt z 3 (rg.getD a []) (rg.getD e []) 4).2 v w)
  have al := below_alloc w (.cells #[.int .i64 7, .int .i64 d, .int .i64 a, .int .i64 e, .int .i64 f, .int .i64 k] 71)
  have k0 := h.below al
  have gl := h.cir.lt
  have bl := h.blt
  obtain ⟨A, ca, ea, _, la, ra⟩ := h.tab.row a ha
  obtain ⟨A', cb, eb, _, lb, rb⟩ := h.tab.row e he
  have ta := (k0.cell ha ea).1
  have tb := (k0.cell he eb).1
  have na : w.heap.size ≠ g := by omega
  have nv : v.ownBlock ≠ some w.heap.size := fun e => by have := (h.cir.own.lt _ e).2; omega
  have oa := ra.off.below al
  have ob := rb.off.below al
  have B0 : B ≤ (w.alloc (.cells #[.int .i64 7, .int .i64 d, .int .i64 a, .int .i64 e, .int .i64 f, .int .i64 k] 71)).heap.size := by simp; omega
  have a0 : (0 : Int) ≤ a := by omega
  have a1 : (a : Int) < 8 := by omega
  have p0 : (0 : Int) ≤ e := by omega
  have p1 : (e : Int) < 8 := by omega
  have h7 := and7 ha
  go_enter Try.func64, Try.ntmps64
  go_wp2_with fail
  generalize w.alloc (.cells #[.int .i64 7, .int .i64 d, .int .i64 a, .int .i64 e, .int .i64 f, .int .i64 k] 71) = w0 at *
  refine (spec_l15Bits B g n v _ z 3 A ca _ A' cb _ w0 k0.cir B0 oa la ob lb (by omega)).mono ?_
  rintro e9 w3 ⟨v3, A3, j3, c3, rfl, l3, h3, t3, wl3⟩
  have T := Lib.hid (((Turn.refl g v w).below al).trans t3)
  have C := Lib.hid (And.intro h3 (wl3.mono (B' := w.heap.size) (al.size)))
  have l4 : j3 = 4 := by rw [← l3, bitsAt_len4]
  subst l4
  clear h3 t3 wl3 ta tb oa ob ra rb k0 h
  go_wp2_with fail
  go_ret
  exact ⟨v3, n + 4, A3, c3, rfl, rfl, by omega, C.out.1, T.out, C.out.2⟩
end Go.Proofs.Ytklekabjhehopaa

namespace Go.Proofs.Ytklekabjhehopaa
open Go Go.RowKit
set_option maxRecDepth 100000 in
set_option maxHeartbeats 2000000 in
theorem spec_word_8 (B g b c : Nat) (v u : Value) (vs : List Value) (n m : Nat) (z os : List Int) (rg : List (List Int)) (d : Int) (a e : Nat) (f k : Int) (ha : a < 8) (he : e < 8) (w : World) (h : Cs B g b c w v u vs n m z os rg) (hB : B ≤ w.heap.size) (hn : n ≤ 900000) :
    Calls Try.prog 64 #[.pointer (some ⟨g, 0, none⟩), .slice (some ⟨b, 0, none⟩) 8 c, .agg #[.int .i64 8, .int .i64 d, .int .i64 a, .int .i64 e, .int .i64 f, .int .i64 k], .int .i64 0] w (PutR B g ⟨[u], 31⟩ n (wordG z rg 0 8 a e f k).1 (wordG z rg 0 8 a e f k).2 v w) := by
  show Calls Try.prog 64 _ w (PutR B g ⟨[u], 31⟩ n (lessA z (rg.getD a []) (rg.getD e [])).1 [(lessA z (rg.getD a []) (rg.getD e [])).2, 0, 0, 0] v w)
  have al := below_alloc w (.cells #[.int .i64 8, .int .i64 d, .int .i64 a, .int .i64 e, .int .i64 f, .int .i64 k] 71)
  have k0 := h.below al
  have gl := h.cir.lt
  have bl := h.blt
  obtain ⟨A, ca, ea, _, la, ra⟩ := h.tab.row a ha
  obtain ⟨A', cb, eb, _, lb, rb⟩ := h.tab.row e he
  have ta := (k0.cell ha ea).1
  have tb := (k0.cell he eb).1
  have na : w.heap.size ≠ g := by omega
  have nv : v.ownBlock ≠ some w.heap.size := fun e => by have := (h.cir.own.lt _ e).2; omega
  have oa := ra.off.below al
  have ob := rb.off.below al
  have B0 : B ≤ (w.alloc (.cells #[.int .i64 8, .int .i64 d, .int .i64 a, .int .i64 e, .int .i64 f, .int .i64 k] 71)).heap.size := by simp; omega
  have a0 : (0 : Int) ≤ a := by omega
  have a1 : (a : Int) < 8 := by omega
  have p0 : (0 : Int) ≤ e := by omega
  have p1 : (e : Int) < 8 := by omega
  have h7 := and7 ha
  go_enter Try.func64, Try.ntmps64
  go_wp2_with fail
  generalize w.alloc (.cells #[.int .i64 8, .int .i64 d, .int .i64 a, .int .i64 e, .int .i64 f, .int .i64 k] 71) = w0 at *
  refine (spec_l14Less B g n v _ z A ca _ A' cb _ w0 k0.cir B0 oa la ob lb (by omega)).mono ?_
  rintro e9 w3 ⟨v3, rfl, h3, t3⟩
  have al3 := below_alloc w3 (.cells #[.int .i64 (lessA z (rg.getD a []) (rg.getD e [])).2, .int .i64 0, .int .i64 0, .int .i64 0] 3)
  have T := Lib.hid ((((Turn.refl g v w).below al).trans t3).below al3)
  have C := Lib.hid (And.intro (h3.below al3) (Wl.cons4 (w := w) (x := (lessA z (rg.getD a []) (rg.getD e [])).2) h3 (Nat.le_trans al.size t3.size)))
  clear h3 t3 ta tb oa ob ra rb k0 h
  go_wp2_with fail
  go_ret
  exact ⟨v3, n + 4 + 1 + 5 * 4 + 1, _, 4, rfl, rfl, by omega, C.out.1, T.out, C.out.2⟩
set_option maxRecDepth 100000 in
set_option maxHeartbeats 2000000 in
theorem spec_word_9 (B g b c : Nat) (v u : Value) (vs : List Value) (n m : Nat) (z os : List Int) (rg : List (List Int)) (d : Int) (a e : Nat) (f k : Int) (ha : a < 8) (he : e < 8) (w : World) (h : Cs B g b c w v u vs n m z os rg) (hB : B ≤ w.heap.size) (hn : n ≤ 900000) :
    Calls Try.prog 64 #[.pointer (some ⟨g, 0, none⟩), .slice (some ⟨b, 0, none⟩) 8 c, .agg #[.int .i64 9, .int .i64 d, .int .i64 a, .int .i64 e, .int .i64 f, .int .i64 k], .int .i64 0] w (PutR B g ⟨[u], 31⟩ n (wordG z rg 0 9 a e f k).1 (wordG z rg 0 9 a e f k).2 v w) := by
  show Calls Try.prog 64 _ w (PutR B g ⟨[u], 31⟩ n (equalA z (rg.getD a []) (rg.getD e [])).1 [(equalA z (rg.getD a []) (rg.getD e [])).2, 0, 0, 0] v w)
  have al := below_alloc w (.cells #[.int .i64 9, .int .i64 d, .int .i64 a, .int .i64 e, .int .i64 f, .int .i64 k] 71)
  have k0 := h.below al
  have gl := h.cir.lt
  have bl := h.blt
  obtain ⟨A, ca, ea, _, la, ra⟩ := h.tab.row a ha
  obtain ⟨A', cb, eb, _, lb, rb⟩ := h.tab.row e he
  have ta := (k0.cell ha ea).1
  have tb := (k0.cell he eb).1
  have na : w.heap.size ≠ g := by omega
  have nv : v.ownBlock ≠ some w.heap.size := fun e => by have := (h.cir.own.lt _ e).2; omega
  have oa := ra.off.below al
  have ob := rb.off.below al
  have B0 : B ≤ (w.alloc (.cells #[.int .i64 9, .int .i64 d, .int .i64 a, .int .i64 e, .int .i64 f, .int .i64 k] 71)).heap.size := by simp; omega
  have a0 : (0 : Int) ≤ a := by omega
  have a1 : (a : Int) < 8 := by omega
  have p0 : (0 : Int) ≤ e := by omega
  have p1 : (e : Int) < 8 := by omega
  have h7 := and7 ha
  go_enter Try.func64, Try.ntmps64
  go_wp2_with fail
  generalize w.alloc (.cells #[.int .i64 9, .int .i64 d, .int .i64 a, .int .i64 e, .int .i64 f, .int .i64 k] 71) = w0 at *
  refine (spec_l14Equal B g n v _ z A ca _ A' cb _ w0 k0.cir B0 oa la ob lb (by omega)).mono ?_
  rintro e9 w3 ⟨v3, rfl, h3, t3⟩
  have al3 := below_alloc w3 (.cells #[.int .i64 (equalA z (rg.getD a []) (rg.getD e [])).2, .int .i64 0, .int .i64 0, .int .i64 0] 3)
  have T := Lib.hid ((((Turn.refl g v w).below al).trans t3).below al3)
  have C := Lib.hid (And.intro (h3.below al3) (Wl.cons4 (w := w) (x := (equalA z (rg.getD a []) (rg.getD e [])).2) h3 (Nat.le_trans al.size t3.size)))
  clear h3 t3 ta tb oa ob ra rb k0 h
  go_wp2_with fail
  go_ret
  exact ⟨v3, n + 2 * 4 + 3, _, 4, rfl, rfl, by omega, C.out.1, T.out, C.out.2⟩
set_option maxRecDepth 100000 in
set_option maxHeartbeats 2000000 in
theorem spec_word_10 (B g b c : Nat) (v u : Value) (vs : List Value) (n m : Nat) (z os : List Int) (rg : List (List Int)) (d : Int) (a e f : Nat) (k : Int) (ha : a < 8) (he : e < 8) (hf : f < 8) (w : World) (h : Cs B g b c w v u vs n m z os rg) (hB : B ≤ w.heap.size) (hn : n ≤ 900000) :
    Calls Try.prog 64 #[.pointer (some ⟨g, 0, none⟩), .slice (some ⟨b, 0, none⟩) 8 c, .agg #[.int .i64 10, .int .i64 d, .int .i64 a, .int .i64 e, .int .i64 f, .int .i64 k], .int .i64 0] w (PutR B g ⟨[u], 31⟩ n (wordG z rg 0 10 a e f k).1 (wordG z rg 0 10 a e f k).2 v w) := by
  show Calls Try.prog 64 _ w (PutR B g ⟨[u], 31⟩ n (muxAt z ((rg.getD a []).getD 0 0) (rg.getD e []) (rg.getD f []) 4).1 (muxAt z ((rg.getD a []).getD 0 0) (rg.getD e []) (rg.getD f []) 4).2 v w)
  have al := below_alloc w (.cells #[.int .i64 10, .int .i64 d, .int .i64 a, .int .i64 e, .int .i64 f, .int .i64 k] 71)
  have k0 := h.below al
  have gl := h.cir.lt
  have bl := h.blt
  obtain ⟨A, ca, ea, _, la, ra⟩ := h.tab.row a ha
  obtain ⟨A', cb, eb, _, lb, rb⟩ := h.tab.row e he
  have ta := (k0.cell ha ea).1
  have tb := (k0.cell he eb).1
  have na : w.heap.size ≠ g := by omega
  have nv : v.ownBlock ≠ some w.heap.size := fun e => by have := (h.cir.own.lt _ e).2; omega
  have oa := ra.off.below al
  have ob := rb.off.below al
  have B0 : B ≤ (w.alloc (.cells #[.int .i64 10, .int .i64 d, .int .i64 a, .int .i64 e, .int .i64 f, .int .i64 k] 71)).heap.size := by simp; omega
  have a0 : (0 : Int) ≤ a := by omega
  have a1 : (a : Int) < 8 := by omega
  have p0 : (0 : Int) ≤ e := by omega
  have p1 : (e : Int) < 8 := by omega
  have h7 := and7 ha
  have b0 := heap_alloc_new w (.cells #[.int .i64 10, .int .i64 d, .int .i64 a, .int .i64 e, .int .i64 f, .int .i64 k] 71)
  obtain ⟨x4, -⟩ := blk (i := 4) b0 rfl
  obtain ⟨Ac, cc, ec, _, lc, rc⟩ := h.tab.row f hf
  obtain ⟨ka, oq, rfl, qa⟩ := (ra.tn ((Tn.refl g b v u w).below al)).at_ (j := 0) (by omega)
  obtain ⟨_, _, e1, _, ⟨kg, _, kv, _⟩, _⟩ := ra
  injection e1 with e1; injection e1 with e11 e12; subst e11 e12
  rw [Nat.add_zero] at qa
  have oc := rc.off.below al
  have tc := (k0.cell hf ec).1
  have f0 : (0 : Int) ≤ f := by omega
  have f1 : (f : Int) < 8 := by omega
  generalize (rg.getD a []).getD 0 0 = sa at *
  go_enter Try.func64, Try.ntmps64
  go_upto_region 27 with (fail)
  generalize w.alloc (.cells #[.int .i64 10, .int .i64 d, .int .i64 a, .int .i64 e, .int .i64 f, .int .i64 k] 71) = w0 at *
  have kd := k0.drew
  have Bd : B ≤ w0.drew.heap.size := B0
  have obd := ob.drew
  have ocd := oc.drew
  have d4 : w0.drew.cell? ⟨w.heap.size, 4, none⟩ = some (.int .i64 f) := x4
  have dc : w0.drew.cell? ⟨b, f, none⟩ = some (.slice Ac 4 cc) := tc
  have dq : w0.drew.cell? ⟨ka, oq, none⟩ = some (.int .i64 sa) := qa
  go_region_held3 (fun w' => w'.cell? ⟨w.heap.size, 4, none⟩ = some (.int .i64 f) ∧ w'.cell? ⟨b, f, none⟩ = some (.slice Ac 4 cc) ∧ w'.cell? ⟨ka, oq, none⟩ = some (.int .i64 sa)) (first | exact ⟨d4, dc, dq⟩ | exact ⟨y4, yc, yq⟩) (first
    | (go_at_call 101; (with_reducible refine (spec_l14Mux B g n v _ z sa A' cb _ Ac cc _ _ kd.cir Bd obd lb ocd lc (by omega)).mono ?_); rintro e9 w3 ⟨v3, A3, j3, c3, rfl, l3, h3, t3, wl3⟩; (have y4 := t3.cell d4 na nv); (have yc := t3.cell dc h.ne h.nv); (have yq := t3.cell dq kg kv)))
  all_goals
    have T := Lib.hid (((Turn.refl g v w).below al).drew.trans t3)
    have C := Lib.hid (And.intro h3 (wl3.mono (B' := w.heap.size) al.size))
    have l4 : j3 = 4 := by rw [← l3, muxAt_len4]
    subst l4
    clear h3 t3 wl3 ta tb oa ob rb rc k0 h kd y4 yc yq
    go_wp2_with fail
    go_ret
    exact ⟨v3, n + 3 * 4, A3, c3, rfl, rfl, by omega, C.out.1, T.out, C.out.2⟩
end Go.Proofs.Ytklekabjhehopaa

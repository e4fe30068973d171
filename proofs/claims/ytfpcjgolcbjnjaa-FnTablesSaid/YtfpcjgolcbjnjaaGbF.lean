/- The program's table entries of an and gate. No condition. -/
import Derived.Test.YtfpcjgolcbjnjaaProg
import Derived.Test.YtfpcjgolcbjnjaaGbE
import Derived.Deep.Light
namespace Go.Proofs.Ytfpcjgolcbjnjaa
open Go Go.RowKit
set_option maxRecDepth 100000 in
set_option maxHeartbeats 40000000 in
theorem impl_entries {B g n0 c0 n1 c1 m k : Nat} {A0 A1 : Option Addr} {d : Int} {vz vt : Value} {zs ts : List Int} {w0 w : World} (h : Gb B g w0 w (GC A0 n0 c0 A1 n1 c1) 77 d vz vt k m zs ts) (a a' b b' : Int) (n : Nat) (hn : n ≤ 6000) (hd : isLbl d) (G E : Int)
    (hG : bits .xor .i64 (bits .xor .i64 (hshI a (2 * n)) (hshI a' (2 * n))) (ifI (b % 2) d) = G) (hE : bits .xor .i64 (bits .xor .i64 (hshI b (2 * n + 1)) (hshI b' (2 * n + 1))) a = E) :
    Calls Try.prog 109 #[.pointer (some ⟨g, 0, none⟩), .agg #[.int .i64 a, .int .i64 a'], .agg #[.int .i64 b, .int .i64 b'], .int .i64 n] w fun e w' => e = .returned (.agg #[.int .i64 G, .int .i64 E]) ∧ Below w.heap.size w w' := by
  have k0 := Bx3.start w 104 #[.int .i64 a, .int .i64 a'] 104 #[.int .i64 b, .int .i64 b'] 120 #[.int .i64 0, .int .i64 0]
  have cF := impl_firstHash (n : Int) (by omega)
  have cS := impl_secondHash (n : Int) (by omega)
  have c4 := impl_ifPermuted b d hd
  obtain ⟨u1, e1⟩ : ∃ u, hshI a (2 * n) = u := ⟨_, rfl⟩
  obtain ⟨u2, e2⟩ : ∃ u, hshI a' (2 * n) = u := ⟨_, rfl⟩
  obtain ⟨u3, e3⟩ : ∃ u, hshI b (2 * n + 1) = u := ⟨_, rfl⟩
  obtain ⟨u4, e4⟩ : ∃ u, hshI b' (2 * n + 1) = u := ⟨_, rfl⟩
  rw [e1, e2] at hG
  rw [e3, e4] at hE
  have cA := impl_hashed a a' (2 * n) u1 u2 e1 e2
  have cB := impl_hashed b b' (2 * n + 1) u3 u4 e3 e4
  generalize ifI (b % 2) d = u5 at *
  have n0 : (0 : Int) ≤ n := by omega
  have n1 : (n : Int) ≤ 6000 := by omega
  have HG := Lib.hid hG
  have HE := Lib.hid hE
  clear e1 e2 e3 e4 hd hG hE
  go_enter Try.func109, Try.ntmps109
  go_upto_region 1 with (fail)
  generalize hw1 : ((w.alloc (.cells #[.int .i64 a, .int .i64 a'] 104)).alloc (.cells #[.int .i64 b, .int .i64 b'] 104)).alloc (.cells #[.int .i64 0, .int .i64 0] 120) = w1 at *
  clear hw1
  obtain ⟨a0, a1, _, _⟩ := box2 k0.two.arg
  obtain ⟨b0, b1, _, _⟩ := box2 k0.two.res
  have hlt := k0.lt
  have a0d : w1.drew.cell? ⟨w.heap.size, 0, none⟩ = some (.int .i64 a) := a0
  have a1d : w1.drew.cell? ⟨w.heap.size, 1, none⟩ = some (.int .i64 a') := a1
  have b0d : w1.drew.cell? ⟨w.heap.size + 1, 0, none⟩ = some (.int .i64 b) := b0
  have b1d : w1.drew.cell? ⟨w.heap.size + 1, 1, none⟩ = some (.int .i64 b') := b1
  go_cut [9, 10] (fun s t wx => ∃ p q, s = .pointer (some ⟨p, 0, none⟩) ∧ t = .pointer (some ⟨q, 0, none⟩) ∧ wx.heap[p]? = some (.cells #[.int .i64 u1, .int .i64 u2] 104 (0, 0)) ∧ wx.heap[q]? = some (.cells #[.int .i64 u3, .int .i64 u4] 104 (0, 0)) ∧ Below w1.heap.size w1 wx)
  case first =>
    have l0 : Below w1.heap.size w1 w1.drew := (Below.refl _ _).drew
    have l1 := low_alloc l0 (.cells #[.int .i64 0, .int .i64 0] 104)
    have l2 := low_alloc l1 (.cells #[.int .i64 0, .int .i64 0] 104)
    have l1x : Below w1.heap.size w1 (w1.alloc (.cells #[.int .i64 0, .int .i64 0] 104)).drew := l1
    have l2x : Below w1.heap.size w1 ((w1.alloc (.cells #[.int .i64 0, .int .i64 0] 104)).alloc (.cells #[.int .i64 0, .int .i64 0] 104)).drew := l2
    have p1 : (w1.drew.alloc (.cells #[.int .i64 0, .int .i64 0] 104)).heap[w1.heap.size]? = some (.cells #[.int .i64 0, .int .i64 0] 104 (0, 0)) := heap_alloc_new w1 _
    have p2 : ((w1.drew.alloc (.cells #[.int .i64 0, .int .i64 0] 104)).alloc (.cells #[.int .i64 0, .int .i64 0] 104)).heap[w1.heap.size]? = some (.cells #[.int .i64 0, .int .i64 0] 104 (0, 0)) := heap_alloc p1 _
    have q2 : ((w1.drew.alloc (.cells #[.int .i64 0, .int .i64 0] 104)).alloc (.cells #[.int .i64 0, .int .i64 0] 104)).heap[w1.heap.size + 1]? = some (.cells #[.int .i64 0, .int .i64 0] 104 (0, 0)) := new_at _ _ _ (by show (w1.alloc (.cells #[.int .i64 0, .int .i64 0] 104)).heap.size = _; simp)
    have s1 : ∀ W : World, W.heap.size + 1 ≤ (W.alloc (.cells #[.int .i64 0, .int .i64 0] 104)).heap.size := fun W => by simp
    have s2 : ∀ W : World, W.heap.size + 2 ≤ ((W.alloc (.cells #[.int .i64 0, .int .i64 0] 104)).alloc (.cells #[.int .i64 0, .int .i64 0] 104)).heap.size := fun W => by simp
    have t2 : ∀ W : World, ((W.alloc (.cells #[.int .i64 0, .int .i64 0] 104)).alloc (.cells #[.int .i64 0, .int .i64 0] 104)).heap[W.heap.size + 1]? = some (.cells #[.int .i64 0, .int .i64 0] 104 (0, 0)) := fun W => new_at _ _ _ (by simp)
    go_region_held3 (fun w' => w'.cell? ⟨w.heap.size, 0, none⟩ = some (.int .i64 a) ∧ w'.cell? ⟨w.heap.size, 1, none⟩ = some (.int .i64 a') ∧ w'.cell? ⟨w.heap.size + 1, 0, none⟩ = some (.int .i64 b) ∧ w'.cell? ⟨w.heap.size + 1, 1, none⟩ = some (.int .i64 b')) (first | with_reducible exact ⟨a0, a1, b0, b1⟩ | with_reducible exact ⟨a0d, a1d, b0d, b1d⟩ | (refine ⟨cell_on a0 ?_, cell_on a1 ?_, cell_on b0 ?_, cell_on b1 ?_⟩ <;> (repeat (first | (with_reducible assumption) | ((with_reducible refine Below.setCell ?_ ?_ _); rotate_left; (first | exact Nat.le_refl _ | exact Nat.le_succ _ | assumption | (refine Nat.le_succ_of_le ?_; assumption) | omega | (simp; done) | (simp; omega))) | (with_reducible refine low_alloc ?_ _))))) (first
      | (go_at_call 117; (with_reducible refine (cF _).mono ?_); rintro e w3 ⟨rfl, rfl⟩)
      | (go_at_call 118; (with_reducible refine (cS _).mono ?_); rintro e w3 ⟨rfl, rfl⟩)
      | (go_at_call 116; (with_reducible refine (cA _).mono ?_); rintro e w6 ⟨rfl, hbA⟩; (first | (have lA : Below w1.heap.size w1 w6 := l0.trans (hbA.mono l0.size)) | (have lA : Below w1.heap.size w1 w6 := l1.trans (hbA.mono l1.size)) | (have lA : Below w1.heap.size w1 w6 := l2.trans (hbA.mono l2.size))); (have gA := lA.size); (first | (have sA : w1.heap.size + 2 ≤ w6.heap.size := Nat.le_trans (s2 w1) hbA.size) | (have sA : w1.heap.size + 1 ≤ w6.heap.size := Nat.le_trans (s1 w1) hbA.size) | (have sA : w1.heap.size ≤ w6.heap.size := hbA.size)); (first | (have pA : w6.heap[w1.heap.size]? = some (.cells #[.int .i64 0, .int .i64 0] 104 (0, 0)) := heap_below p1 hbA; have pA0 := (box2 pA).1; have pA1 := (box2 pA).2.1; have pA2 := (box2 pA).2.2.1; have pA3 := (box2 pA).2.2.2) | (have pA : w6.heap[w1.heap.size]? = some (.cells #[.int .i64 0, .int .i64 0] 104 (0, 0)) := heap_below p2 hbA; have pA0 := (box2 pA).1; have pA1 := (box2 pA).2.1; have pA2 := (box2 pA).2.2.1; have pA3 := (box2 pA).2.2.2) | skip); (first | (have qA : w6.heap[w1.heap.size + 1]? = some (.cells #[.int .i64 0, .int .i64 0] 104 (0, 0)) := heap_below q2 hbA; have qA0 := (box2 qA).1; have qA1 := (box2 qA).2.1; have qA2 := (box2 qA).2.2.1; have qA3 := (box2 qA).2.2.2) | skip); (have m1 := low_alloc lA (.cells #[.int .i64 0, .int .i64 0] 104)); (have m2 := low_alloc m1 (.cells #[.int .i64 0, .int .i64 0] 104)))
      | (go_at_call 116; (with_reducible refine (cB _).mono ?_); rintro e w7 ⟨rfl, hbB⟩; (first | (have lB : Below w1.heap.size w1 w7 := lA.trans (hbB.mono lA.size)) | (have lB : Below w1.heap.size w1 w7 := m1.trans (hbB.mono m1.size)) | (have lB : Below w1.heap.size w1 w7 := m2.trans (hbB.mono m2.size))); (have gB := lB.size); (first | (have sB : w6.heap.size + 2 ≤ w7.heap.size := Nat.le_trans (s2 w6) hbB.size) | (have sB : w6.heap.size + 1 ≤ w7.heap.size := Nat.le_trans (s1 w6) hbB.size) | (have sB : w6.heap.size ≤ w7.heap.size := hbB.size)); (first | (have pB : w7.heap[w1.heap.size]? = some (.cells #[.int .i64 0, .int .i64 0] 104 (0, 0)) := heap_below pA hbB; have pB0 := (box2 pB).1; have pB1 := (box2 pB).2.1; have pB2 := (box2 pB).2.2.1; have pB3 := (box2 pB).2.2.2; have pBx := heap_alloc pB (.cells #[.int .i64 0, .int .i64 0] 104); have pB4 := (box2 pBx).1; have pB5 := (box2 pBx).2.1; have pB6 := (box2 pBx).2.2.1; have pB7 := (box2 pBx).2.2.2; have pBy := heap_alloc pB (.cells #[.int .i64 u1, .int .i64 u2] 104); have pB8 := (box2 pBy).1; have pB9 := (box2 pBy).2.1; have pB10 := (box2 pBy).2.2.1; have pB11 := (box2 pBy).2.2.2) | (have pB : w7.heap[w1.heap.size]? = some (.cells #[.int .i64 0, .int .i64 0] 104 (0, 0)) := heap_below (heap_alloc pA _) hbB; have pB0 := (box2 pB).1; have pB1 := (box2 pB).2.1; have pB2 := (box2 pB).2.2.1; have pB3 := (box2 pB).2.2.2; have pBx := heap_alloc pB (.cells #[.int .i64 0, .int .i64 0] 104); have pB4 := (box2 pBx).1; have pB5 := (box2 pBx).2.1; have pB6 := (box2 pBx).2.2.1; have pB7 := (box2 pBx).2.2.2; have pBy := heap_alloc pB (.cells #[.int .i64 u1, .int .i64 u2] 104); have pB8 := (box2 pBy).1; have pB9 := (box2 pBy).2.1; have pB10 := (box2 pBy).2.2.1; have pB11 := (box2 pBy).2.2.2) | (have pB : w7.heap[w1.heap.size]? = some (.cells #[.int .i64 0, .int .i64 0] 104 (0, 0)) := heap_below (heap_alloc (heap_alloc pA _) _) hbB; have pB0 := (box2 pB).1; have pB1 := (box2 pB).2.1; have pB2 := (box2 pB).2.2.1; have pB3 := (box2 pB).2.2.2; have pBx := heap_alloc pB (.cells #[.int .i64 0, .int .i64 0] 104); have pB4 := (box2 pBx).1; have pB5 := (box2 pBx).2.1; have pB6 := (box2 pBx).2.2.1; have pB7 := (box2 pBx).2.2.2; have pBy := heap_alloc pB (.cells #[.int .i64 u1, .int .i64 u2] 104); have pB8 := (box2 pBy).1; have pB9 := (box2 pBy).2.1; have pB10 := (box2 pBy).2.2.1; have pB11 := (box2 pBy).2.2.2) | skip); (first | (have qB : w7.heap[w1.heap.size + 1]? = some (.cells #[.int .i64 0, .int .i64 0] 104 (0, 0)) := heap_below qA hbB; have qB0 := (box2 qB).1; have qB1 := (box2 qB).2.1; have qB2 := (box2 qB).2.2.1; have qB3 := (box2 qB).2.2.2; have qBx := heap_alloc qB (.cells #[.int .i64 0, .int .i64 0] 104); have qB4 := (box2 qBx).1; have qB5 := (box2 qBx).2.1; have qB6 := (box2 qBx).2.2.1; have qB7 := (box2 qBx).2.2.2; have qBy := heap_alloc qB (.cells #[.int .i64 u1, .int .i64 u2] 104); have qB8 := (box2 qBy).1; have qB9 := (box2 qBy).2.1; have qB10 := (box2 qBy).2.2.1; have qB11 := (box2 qBy).2.2.2) | (have qB : w7.heap[w1.heap.size + 1]? = some (.cells #[.int .i64 0, .int .i64 0] 104 (0, 0)) := heap_below (heap_alloc qA _) hbB; have qB0 := (box2 qB).1; have qB1 := (box2 qB).2.1; have qB2 := (box2 qB).2.2.1; have qB3 := (box2 qB).2.2.2; have qBx := heap_alloc qB (.cells #[.int .i64 0, .int .i64 0] 104); have qB4 := (box2 qBx).1; have qB5 := (box2 qBx).2.1; have qB6 := (box2 qBx).2.2.1; have qB7 := (box2 qBx).2.2.2; have qBy := heap_alloc qB (.cells #[.int .i64 u1, .int .i64 u2] 104); have qB8 := (box2 qBy).1; have qB9 := (box2 qBy).2.1; have qB10 := (box2 qBy).2.2.1; have qB11 := (box2 qBy).2.2.2) | skip); (first | (have rB : w7.heap[w6.heap.size]? = some (.cells #[.int .i64 0, .int .i64 0] 104 (0, 0)) := heap_below (heap_alloc_new w6 _) hbB; have rB0 := (box2 rB).1; have rB1 := (box2 rB).2.1; have rB2 := (box2 rB).2.2.1; have rB3 := (box2 rB).2.2.2; have rBx := heap_alloc rB (.cells #[.int .i64 0, .int .i64 0] 104); have rB4 := (box2 rBx).1; have rB5 := (box2 rBx).2.1; have rB6 := (box2 rBx).2.2.1; have rB7 := (box2 rBx).2.2.2; have rBy := heap_alloc rB (.cells #[.int .i64 u1, .int .i64 u2] 104); have rB8 := (box2 rBy).1; have rB9 := (box2 rBy).2.1; have rB10 := (box2 rBy).2.2.1; have rB11 := (box2 rBy).2.2.2) | (have rB : w7.heap[w6.heap.size]? = some (.cells #[.int .i64 0, .int .i64 0] 104 (0, 0)) := heap_below (heap_alloc (heap_alloc_new w6 _) _) hbB; have rB0 := (box2 rB).1; have rB1 := (box2 rB).2.1; have rB2 := (box2 rB).2.2.1; have rB3 := (box2 rB).2.2.2; have rBx := heap_alloc rB (.cells #[.int .i64 0, .int .i64 0] 104); have rB4 := (box2 rBx).1; have rB5 := (box2 rBx).2.1; have rB6 := (box2 rBx).2.2.1; have rB7 := (box2 rBx).2.2.2; have rBy := heap_alloc rB (.cells #[.int .i64 u1, .int .i64 u2] 104); have rB8 := (box2 rBy).1; have rB9 := (box2 rBy).2.1; have rB10 := (box2 rBy).2.2.1; have rB11 := (box2 rBy).2.2.2) | skip); (first | (have sB2 : w7.heap[w6.heap.size + 1]? = some (.cells #[.int .i64 0, .int .i64 0] 104 (0, 0)) := heap_below (t2 w6) hbB; have sB20 := (box2 sB2).1; have sB21 := (box2 sB2).2.1; have sB22 := (box2 sB2).2.2.1; have sB23 := (box2 sB2).2.2.2; have sB2x := heap_alloc sB2 (.cells #[.int .i64 0, .int .i64 0] 104); have sB24 := (box2 sB2x).1; have sB25 := (box2 sB2x).2.1; have sB26 := (box2 sB2x).2.2.1; have sB27 := (box2 sB2x).2.2.2; have sB2y := heap_alloc sB2 (.cells #[.int .i64 u1, .int .i64 u2] 104); have sB28 := (box2 sB2y).1; have sB29 := (box2 sB2y).2.1; have sB210 := (box2 sB2y).2.2.1; have sB211 := (box2 sB2y).2.2.2) | skip); (have g67 : w6.heap.size ≤ w7.heap.size := by omega); (first | (have n67 : w6.heap.size ≠ w7.heap.size := Nat.ne_of_lt sB) | skip); (first | (have n17 : w1.heap.size ≠ w7.heap.size := Nat.ne_of_lt (Nat.lt_of_lt_of_le sA g67)) | skip); (have npq : w1.heap.size ≠ w1.heap.size + 1 := Nat.ne_of_lt (Nat.lt_succ_self _)); (have nrs : w6.heap.size ≠ w6.heap.size + 1 := Nat.ne_of_lt (Nat.lt_succ_self _)); (first | (have z0 := (box2_other (w := w7) (g := w1.heap.size) (g' := w1.heap.size + 1) (npq.symm) (.int .i64 u1) (.int .i64 u2)).trans qB; have z00 := (box2 z0).1; have z01 := (box2 z0).2.1; have z02 := (box2 z0).2.2.1; have z03 := (box2 z0).2.2.2) | skip); (first | (have z1 := (box2_other (w := w7) (g := w1.heap.size + 1) (g' := w1.heap.size) (npq) (.int .i64 u1) (.int .i64 u2)).trans pB; have z10 := (box2 z1).1; have z11 := (box2 z1).2.1; have z12 := (box2 z1).2.2.1; have z13 := (box2 z1).2.2.2) | skip); (first | (have z2 := (box2_other (w := w7) (g := w1.heap.size) (g' := w6.heap.size) ((Nat.ne_of_lt sA).symm) (.int .i64 u1) (.int .i64 u2)).trans rB; have z20 := (box2 z2).1; have z21 := (box2 z2).2.1; have z22 := (box2 z2).2.2.1; have z23 := (box2 z2).2.2.2) | skip); (first | (have z3 := (box2_other (w := w7) (g := w6.heap.size) (g' := w1.heap.size) (Nat.ne_of_lt sA) (.int .i64 u1) (.int .i64 u2)).trans pB; have z30 := (box2 z3).1; have z31 := (box2 z3).2.1; have z32 := (box2 z3).2.2.1; have z33 := (box2 z3).2.2.2) | skip); (first | (have z4 := (box2_other (w := w7) (g := w6.heap.size) (g' := w6.heap.size + 1) (nrs.symm) (.int .i64 u1) (.int .i64 u2)).trans sB2; have z40 := (box2 z4).1; have z41 := (box2 z4).2.1; have z42 := (box2 z4).2.2.1; have z43 := (box2 z4).2.2.2) | skip); (first | (have z5 := (box2_other (w := w7) (g := w6.heap.size + 1) (g' := w6.heap.size) (nrs) (.int .i64 u1) (.int .i64 u2)).trans rB; have z50 := (box2 z5).1; have z51 := (box2 z5).2.1; have z52 := (box2 z5).2.2.1; have z53 := (box2 z5).2.2.2) | skip)))
    all_goals
      go_wp2_with fail
      go_meet
      go_light
      refine ⟨_, _, rfl, rfl, ?_, ?_, ?_⟩
      · repeat (first | (with_reducible assumption) | (with_reducible exact heap_alloc_new _ _) | (with_reducible exact new_at _ _ _ (by simp)) | (with_reducible refine heap_alloc ?_ _) | (with_reducible refine box2_set (x := .int .i64 0) (y := .int .i64 0) ?_ _ _) | ((with_reducible refine (box2_other ?_ _ _).trans ?_); (first | (with_reducible assumption) | (refine Ne.symm ?_; with_reducible assumption) | omega)))
      · repeat (first | (with_reducible assumption) | (with_reducible exact heap_alloc_new _ _) | (with_reducible exact new_at _ _ _ (by simp)) | (with_reducible refine heap_alloc ?_ _) | (with_reducible refine box2_set (x := .int .i64 0) (y := .int .i64 0) ?_ _ _) | ((with_reducible refine (box2_other ?_ _ _).trans ?_); (first | (with_reducible assumption) | (refine Ne.symm ?_; with_reducible assumption) | omega)))
      · repeat (first | (with_reducible assumption) | ((with_reducible refine Below.setCell ?_ ?_ _); rotate_left; (first | exact Nat.le_refl _ | exact Nat.le_succ _ | (with_reducible assumption) | (refine Nat.le_succ_of_le ?_; with_reducible assumption) | omega | (simp; done) | (simp; omega))) | (with_reducible refine low_alloc ?_ _))
  case rest =>
    obtain ⟨p, q, rfl, rfl, hp, hq, hb⟩ := hcut
    have L := k0.two.low.trans (hb.mono k0.two.low.size)
    have ha2 := heap_below k0.two.arg hb
    have hb2 := heap_below k0.two.res hb
    have ho2 := heap_below k0.out hb
    have hg2 := (h.below (k0.two.low.trans (hb.mono k0.two.low.size)))
    obtain ⟨x0, _, _, _⟩ := box2 ha2
    obtain ⟨y0, _, _, _⟩ := box2 hb2
    obtain ⟨p0, p1, _, _⟩ := box2 hp
    obtain ⟨q0, q1, _, _⟩ := box2 hq
    obtain ⟨r0, r1, r2, r3⟩ := box2 ho2
    have v2 := (hg2.cell (i := 2) rfl).1
    have R := Lib.hid (box2_set ho2 (.int .i64 G) (.int .i64 E))
    have LL := Lib.hid ((L.setCell (p := ⟨w.heap.size + 1 + 1, 0, none⟩) (Nat.le_succ_of_le (Nat.le_succ _)) (.int .i64 G)).setCell (p := ⟨w.heap.size + 1 + 1, 1, none⟩) (Nat.le_succ_of_le (Nat.le_succ _)) (.int .i64 E))
    have hpr : p ≠ w.heap.size + 1 + 1 := fun e => by
      rw [e, ho2] at hp
      simp at hp
    have hqr : q ≠ w.heap.size + 1 + 1 := fun e => by
      rw [e, ho2] at hq
      simp at hq
    have hgr : g ≠ w.heap.size + 1 + 1 := fun e => by have := h.lt; omega
    have har : w.heap.size ≠ w.heap.size + 1 + 1 := by omega
    have hbr : w.heap.size + 1 ≠ w.heap.size + 1 + 1 := by omega
    have c5 := c4 wc
    have dx0 : wc.drew.cell? ⟨w.heap.size, 0, none⟩ = some (.int .i64 a) := x0
    have dy0 : wc.drew.cell? ⟨w.heap.size + 1, 0, none⟩ = some (.int .i64 b) := y0
    have dp0 : wc.drew.cell? ⟨p, 0, none⟩ = some (.int .i64 u1) := p0
    have dp1 : wc.drew.cell? ⟨p, 1, none⟩ = some (.int .i64 u2) := p1
    have dq0 : wc.drew.cell? ⟨q, 0, none⟩ = some (.int .i64 u3) := q0
    have dq1 : wc.drew.cell? ⟨q, 1, none⟩ = some (.int .i64 u4) := q1
    have dv2 : wc.drew.cell? ⟨g, 2, none⟩ = some (.int .i64 d) := v2
    clear ha2 hb2 hg2 hp hq a0 a1 b0 b1 a0d a1d b0d b1d c5 hb L h k0 cA cB cF cS
    go_upto_region 2 with (fail)
    have hGo := HG.out
    have hEo := HE.out
    have ho2d : wc.drew.heap[w.heap.size + 1 + 1]? = some (.cells #[.int .i64 0, .int .i64 0] 120 (0, 0)) := ho2
    go_region_held3 (fun w' => w'.cell? ⟨w.heap.size, 0, none⟩ = some (.int .i64 a) ∧ w'.cell? ⟨w.heap.size + 1, 0, none⟩ = some (.int .i64 b) ∧ w'.cell? ⟨p, 0, none⟩ = some (.int .i64 u1) ∧ w'.cell? ⟨p, 1, none⟩ = some (.int .i64 u2) ∧ w'.cell? ⟨q, 0, none⟩ = some (.int .i64 u3) ∧ w'.cell? ⟨q, 1, none⟩ = some (.int .i64 u4) ∧ w'.cell? ⟨g, 2, none⟩ = some (.int .i64 d)) (first | with_reducible exact ⟨x0, y0, p0, p1, q0, q1, v2⟩ | with_reducible exact ⟨dx0, dy0, dp0, dp1, dq0, dq1, dv2⟩ | exact ⟨far_two dx0 har _ _, far_two dy0 hbr _ _, far_two dp0 hpr _ _, far_two dp1 hpr _ _, far_two dq0 hqr _ _, far_two dq1 hqr _ _, far_two dv2 hgr _ _⟩) (first
      | (go_at_call 119; (with_reducible refine (c4 _).mono ?_); rintro e w3 ⟨rfl, rfl⟩))
    all_goals
      go_wp2_with fail
      (try simp only [Exit.inBlock, Exit.then])
      refine bodyPost_ret (results_cell_row (P := Try.prog) rfl _ _ (w.heap.size + 1 + 1) 120 _ (0, 0) _ rfl (box2_set ho2d (.int .i64 G) (.int .i64 E)) Try.underlying120 rfl (by kernel_rfl)) rfl ?_
      exact ⟨rfl, LL.out.drew⟩
end Go.Proofs.Ytfpcjgolcbjnjaa

/- Simplification, the program's: a gate's operands replaced by the wires that stand for them. No condition. -/
import Derived.Test.YtkcknejkldhmaaaProg
import Derived.Test.YtkcknejkldhmaaaSmJb
import Derived.Deep.RegionLaw
namespace Go.Proofs.Ytkcknejkldhmaaa
open Go Go.RowKit
/-- The box of the result behind the store of a gate. -/
theorem box3_set {w : World} {q : Nat} {T : TypeId} {x y z : Value} (h : w.heap[q]? = some (.cells #[x, y, z] T (0, 0))) (u v t : Value) : (((w.setCell ⟨q, 0, none⟩ u).setCell ⟨q, 1, none⟩ v).setCell ⟨q, 2, none⟩ t).heap[q]? = some (.cells #[u, v, t] T (0, 0)) :=
  heap_set (i := 2) (heap_set (i := 1) (heap_set (i := 0) h u) v) t
set_option maxRecDepth 100000 in
set_option maxHeartbeats 1000000 in
theorem impl_rewired (k a b : Int) (A : Option Addr) (nv cv : Nat) (ts : List Int) (m : Nat) (ok : gateOk k a b m) (w : World) (ht : Ints w A ts) (lt : ts.length = nv) (hm : m ≤ nv) :
    Calls Try.prog 65 #[.agg #[.int .i64 k, .int .i64 a, .int .i64 b], .slice A nv cv] w fun e w' => e = .returned (.agg #[.int .i64 k, .int .i64 (rewA ts k a), .int .i64 (rewB ts k b)]) ∧ Below w.heap.size w w' := by
  have k0 := Bx2.start w 40 #[.int .i64 k, .int .i64 a, .int .i64 b] 40 #[.int .i64 0, .int .i64 0, .int .i64 0]
  have iv := ((ht.al (.cells #[.int .i64 k, .int .i64 a, .int .i64 b] 40)).al (.cells #[.int .i64 0, .int .i64 0, .int .i64 0] 40))
  have EA : Hid (rewA ts k a = if one1 k then ts.getD a.toNat 0 else a) := Lib.hid rfl
  have EB : Hid (rewB ts k b = if two k then ts.getD b.toNat 0 else b) := Lib.hid rfl
  generalize rewA ts k a = ra at *
  generalize rewB ts k b = rb at *
  have hbt := ht.bound
  clear ht
  by_cases h2 : two k
  · have ok2 := ok
    have e1 : one1 k := by unfold two at h2; unfold one1; omega
    have ra1 : ts.getD a.toNat 0 = ra := (EA.out.trans (if_pos e1)).symm
    have rb1 : ts.getD b.toNat 0 = rb := (EB.out.trans (if_pos h2)).symm
    have ab : (0 ≤ a ∧ a < (nv : Int)) ∧ 0 ≤ b ∧ b < (nv : Int) := by unfold gateOk at ok; unfold two at h2; omega
    obtain ⟨⟨a0, a1⟩, b0, b1⟩ := ab
    obtain ⟨g, o, rfl, -, q⟩ := iv.at_ (j := a.toNat) (by omega)
    obtain ⟨_, _, e2, -, p⟩ := iv.at_ (j := b.toNat) (by omega)
    injection e2 with e2; injection e2 with e21 e22; subst e21 e22
    rw [ra1] at q
    rw [rb1] at p
    have hgl : g < w.heap.size := by
      obtain ⟨b', o', e', hl', _⟩ := hbt.at_ (j := a.toNat) (by omega)
      injection e' with e'; injection e' with e1' e2'
      omega
    obtain ⟨a, rfl⟩ : ∃ x : Nat, a = x := Int.eq_ofNat_of_zero_le a0
    obtain ⟨b, rfl⟩ : ∃ x : Nat, b = x := Int.eq_ofNat_of_zero_le b0
    rw [Int.toNat_natCast] at q p
    clear EA EB ra1 rb1 iv ok ok2 e1 hbt
    rcases h2 with rfl | rfl
    · go_enter Try.func65, Try.ntmps65
      go_upto_region 4 with (fail)
      generalize hw0 : (w.alloc _).alloc _ = w0 at *
      clear hw0
      obtain ⟨c0, f0⟩ := blk (i := 0) k0.arg rfl
      obtain ⟨c1, f1⟩ := blk (i := 1) k0.arg rfl
      obtain ⟨c2, f2⟩ := blk (i := 2) k0.arg rfl
      have K := Lib.hid k0
      have ng : g ≠ w.heap.size := by omega
      have p1 := far_one (i := 1) p ng (.int .i64 ra)
      have q2 := far_one (i := 2) q ng (.int .i64 rb)
      clear k0 lt hm hgl
      go_region
      have r2 : ((w0.setCell ⟨w.heap.size, 1, none⟩ (.int .i64 ra)).setCell ⟨w.heap.size, 2, none⟩ (.int .i64 rb)).heap[w.heap.size]? = some (.cells #[.int .i64 3, .int .i64 ra, .int .i64 rb] 40 (0, 0)) := heap_set (i := 2) (heap_set (i := 1) K.out.arg (.int .i64 ra)) (.int .i64 rb)
      have r3 : ((w0.setCell ⟨w.heap.size, 1, none⟩ (.int .i64 ra)).setCell ⟨w.heap.size, 2, none⟩ (.int .i64 rb)).heap[w.heap.size + 1]? = some (.cells #[.int .i64 0, .int .i64 0, .int .i64 0] 40 (0, 0)) := (Below.heap_setCell _ _ _ _ (by simp)).trans ((Below.heap_setCell _ _ _ _ (by simp)).trans K.out.res)
      have L1 := Lib.hid ((K.out.low.setCell (p := ⟨w.heap.size, 1, none⟩) (Nat.le_refl _) (.int .i64 ra)).setCell (p := ⟨w.heap.size, 2, none⟩) (Nat.le_refl _) (.int .i64 rb))
      clear K c0 c1 c2 f0 f1 f2 q p p1 q2
      generalize (w0.setCell ⟨w.heap.size, 1, none⟩ (.int .i64 ra)).setCell ⟨w.heap.size, 2, none⟩ (.int .i64 rb) = w2 at *
      obtain ⟨d0, -⟩ := blk (i := 0) r2 rfl
      obtain ⟨d1, -⟩ := blk (i := 1) r2 rfl
      obtain ⟨d2, -⟩ := blk (i := 2) r2 rfl
      obtain ⟨e0, g0⟩ := blk (i := 0) r3 rfl
      obtain ⟨e1, g1⟩ := blk (i := 1) r3 rfl
      obtain ⟨e2, g2⟩ := blk (i := 2) r3 rfl
      have R := Lib.hid (box3_set (w := w2.drew) r3 (.int .i64 3) (.int .i64 ra) (.int .i64 rb))
      have L := Lib.hid (((L1.out.drew.setCell (p := ⟨w.heap.size + 1, 0, none⟩) (by simp) (.int .i64 3)).setCell (p := ⟨w.heap.size + 1, 1, none⟩) (by simp) (.int .i64 ra)).setCell (p := ⟨w.heap.size + 1, 2, none⟩) (by simp) (.int .i64 rb))
      clear r2 r3 L1
      go_wp2_with fail
      refine bodyPost_ret (results_cell_row (P := Try.prog) rfl _ _ (w.heap.size + 1) 40 _ (0, 0) _ rfl R.out Try.underlying40 rfl (by kernel_rfl)) rfl ?_
      exact ⟨rfl, L.out⟩
    · go_enter Try.func65, Try.ntmps65
      go_upto_region 4 with (fail)
      generalize hw0 : (w.alloc _).alloc _ = w0 at *
      clear hw0
      obtain ⟨c0, f0⟩ := blk (i := 0) k0.arg rfl
      obtain ⟨c1, f1⟩ := blk (i := 1) k0.arg rfl
      obtain ⟨c2, f2⟩ := blk (i := 2) k0.arg rfl
      have K := Lib.hid k0
      have ng : g ≠ w.heap.size := by omega
      have p1 := far_one (i := 1) p ng (.int .i64 ra)
      have q2 := far_one (i := 2) q ng (.int .i64 rb)
      clear k0 lt hm hgl
      go_region
      have r2 : ((w0.setCell ⟨w.heap.size, 1, none⟩ (.int .i64 ra)).setCell ⟨w.heap.size, 2, none⟩ (.int .i64 rb)).heap[w.heap.size]? = some (.cells #[.int .i64 4, .int .i64 ra, .int .i64 rb] 40 (0, 0)) := heap_set (i := 2) (heap_set (i := 1) K.out.arg (.int .i64 ra)) (.int .i64 rb)
      have r3 : ((w0.setCell ⟨w.heap.size, 1, none⟩ (.int .i64 ra)).setCell ⟨w.heap.size, 2, none⟩ (.int .i64 rb)).heap[w.heap.size + 1]? = some (.cells #[.int .i64 0, .int .i64 0, .int .i64 0] 40 (0, 0)) := (Below.heap_setCell _ _ _ _ (by simp)).trans ((Below.heap_setCell _ _ _ _ (by simp)).trans K.out.res)
      have L1 := Lib.hid ((K.out.low.setCell (p := ⟨w.heap.size, 1, none⟩) (Nat.le_refl _) (.int .i64 ra)).setCell (p := ⟨w.heap.size, 2, none⟩) (Nat.le_refl _) (.int .i64 rb))
      clear K c0 c1 c2 f0 f1 f2 q p p1 q2
      generalize (w0.setCell ⟨w.heap.size, 1, none⟩ (.int .i64 ra)).setCell ⟨w.heap.size, 2, none⟩ (.int .i64 rb) = w2 at *
      obtain ⟨d0, -⟩ := blk (i := 0) r2 rfl
      obtain ⟨d1, -⟩ := blk (i := 1) r2 rfl
      obtain ⟨d2, -⟩ := blk (i := 2) r2 rfl
      obtain ⟨e0, g0⟩ := blk (i := 0) r3 rfl
      obtain ⟨e1, g1⟩ := blk (i := 1) r3 rfl
      obtain ⟨e2, g2⟩ := blk (i := 2) r3 rfl
      have R := Lib.hid (box3_set (w := w2.drew) r3 (.int .i64 4) (.int .i64 ra) (.int .i64 rb))
      have L := Lib.hid (((L1.out.drew.setCell (p := ⟨w.heap.size + 1, 0, none⟩) (by simp) (.int .i64 4)).setCell (p := ⟨w.heap.size + 1, 1, none⟩) (by simp) (.int .i64 ra)).setCell (p := ⟨w.heap.size + 1, 2, none⟩) (by simp) (.int .i64 rb))
      clear r2 r3 L1
      go_wp2_with fail
      refine bodyPost_ret (results_cell_row (P := Try.prog) rfl _ _ (w.heap.size + 1) 40 _ (0, 0) _ rfl R.out Try.underlying40 rfl (by kernel_rfl)) rfl ?_
      exact ⟨rfl, L.out⟩
  · have e2 : rb = b := EB.out.trans (if_neg h2)
    subst e2
    by_cases h5 : k = 5
    · subst h5
      have ra1 : ts.getD a.toNat 0 = ra := (EA.out.trans (if_pos (by unfold one1; omega))).symm
      have ab : 0 ≤ a ∧ a < (nv : Int) := by unfold gateOk at ok; omega
      obtain ⟨a0, a1⟩ := ab
      obtain ⟨g, o, rfl, -, q⟩ := iv.at_ (j := a.toNat) (by omega)
      rw [ra1] at q
      obtain ⟨a, rfl⟩ : ∃ x : Nat, a = x := Int.eq_ofNat_of_zero_le a0
      rw [Int.toNat_natCast] at q
      clear EA EB ra1 iv ok h2 hbt lt hm
      go_enter Try.func65, Try.ntmps65
      go_upto_region 6 with (fail)
      generalize hw0 : (w.alloc _).alloc _ = w0 at *
      clear hw0
      obtain ⟨c0, f0⟩ := blk (i := 0) k0.arg rfl
      obtain ⟨c1, f1⟩ := blk (i := 1) k0.arg rfl
      obtain ⟨c2, f2⟩ := blk (i := 2) k0.arg rfl
      have r2 : (w0.setCell ⟨w.heap.size, 1, none⟩ (.int .i64 ra)).heap[w.heap.size]? = some (.cells #[.int .i64 5, .int .i64 ra, .int .i64 rb] 40 (0, 0)) := heap_set (i := 1) k0.arg (.int .i64 ra)
      have r3 : (w0.setCell ⟨w.heap.size, 1, none⟩ (.int .i64 ra)).heap[w.heap.size + 1]? = some (.cells #[.int .i64 0, .int .i64 0, .int .i64 0] 40 (0, 0)) := (Below.heap_setCell _ _ _ _ (by simp)).trans k0.res
      have L1 := Lib.hid (k0.low.setCell (p := ⟨w.heap.size, 1, none⟩) (Nat.le_refl _) (.int .i64 ra))
      obtain ⟨d0, -⟩ := blk (i := 0) r2 rfl
      obtain ⟨d1, -⟩ := blk (i := 1) r2 rfl
      obtain ⟨d2, -⟩ := blk (i := 2) r2 rfl
      obtain ⟨e0, g0⟩ := blk (i := 0) r3 rfl
      obtain ⟨e1, g1⟩ := blk (i := 1) r3 rfl
      obtain ⟨e2, g2⟩ := blk (i := 2) r3 rfl
      have R := Lib.hid (box3_set r3 (.int .i64 5) (.int .i64 ra) (.int .i64 rb))
      have L := Lib.hid (((L1.out.setCell (p := ⟨w.heap.size + 1, 0, none⟩) (by simp) (.int .i64 5)).setCell (p := ⟨w.heap.size + 1, 1, none⟩) (by simp) (.int .i64 ra)).setCell (p := ⟨w.heap.size + 1, 2, none⟩) (by simp) (.int .i64 rb))
      clear k0 r2 r3 L1
      go_wp2_with fail
      refine bodyPost_ret (results_cell_row (P := Try.prog) rfl _ _ (w.heap.size + 1) 40 _ (0, 0) _ rfl R.out Try.underlying40 rfl (by kernel_rfl)) rfl ?_
      exact ⟨rfl, L.out⟩
    · have e1 : ra = a := EA.out.trans (if_neg (by unfold one1; unfold two at h2; omega))
      subst e1
      have e3 : (k == 3) = false := beq_eq_false_iff_ne.2 (by unfold two at h2; omega)
      have e4 : (k == 4) = false := beq_eq_false_iff_ne.2 (by unfold two at h2; omega)
      have e5 : (k == 5) = false := beq_eq_false_iff_ne.2 h5
      clear EA EB iv ok h2 hbt h5 lt hm
      go_enter Try.func65, Try.ntmps65
      go_upto_region 7 with (fail)
      generalize hw0 : (w.alloc _).alloc _ = w0 at *
      clear hw0
      obtain ⟨c0, f0⟩ := blk (i := 0) k0.arg rfl
      obtain ⟨c1, f1⟩ := blk (i := 1) k0.arg rfl
      obtain ⟨c2, f2⟩ := blk (i := 2) k0.arg rfl
      obtain ⟨e0', g0⟩ := blk (i := 0) k0.res rfl
      obtain ⟨e1', g1⟩ := blk (i := 1) k0.res rfl
      obtain ⟨e2', g2⟩ := blk (i := 2) k0.res rfl
      have R := Lib.hid (box3_set k0.res (.int .i64 k) (.int .i64 ra) (.int .i64 rb))
      have L := Lib.hid (((k0.low.setCell (p := ⟨w.heap.size + 1, 0, none⟩) (by simp) (.int .i64 k)).setCell (p := ⟨w.heap.size + 1, 1, none⟩) (by simp) (.int .i64 ra)).setCell (p := ⟨w.heap.size + 1, 2, none⟩) (by simp) (.int .i64 rb))
      clear k0
      go_wp2_with fail
      refine bodyPost_ret (results_cell_row (P := Try.prog) rfl _ _ (w.heap.size + 1) 40 _ (0, 0) _ rfl R.out Try.underlying40 rfl (by kernel_rfl)) rfl ?_
      exact ⟨rfl, L.out⟩
end Go.Proofs.Ytkcknejkldhmaaa

/- Marking lists of statements, and finding the marks again. No condition. -/
import Derived.Test.YtklmhkckhdmelaaProg
import Derived.Test.YtklmhkckhdmelaaStmtA
import Derived.Test.YtklmhkckhdmelaaIntsX
import Derived.Test.YtklmhkckhdmelaaSeg
namespace Go.Proofs.Ytklmhkckhdmelaa
open Go Go.RowKit
theorem get_set {ys : List Value} {p q : Nat} {v : Value} (h : p < ys.length) : (ys.set p v)[q]? = if q = p then some v else ys[q]? := by
  rw [List.getElem?_set]
  by_cases e : p = q
  · subst e; simp [h]
  · rw [if_neg e, if_neg (Ne.symm e)]
set_option maxRecDepth 100000 in
set_option maxHeartbeats 1000000 in
theorem markStmtS_own {te : TypeId} (lo n k : Nat) (v : Value) (zs : List Int) (w : World) (hown : w.ownsRow lo te 6 v n (intVals zs)) (hn : n * 6 + k ≤ 1000000000) :
    Calls Try.prog 29 #[v, .int .i64 (k : Int)] w fun e w' => e = .returned (.int .i64 ((k + n * 6 : Nat) : Int)) ∧ w'.ownsRow lo te 6 v n (intVals (markInts k (n * 6))) ∧ w.grownBy w' v.ownBlock := by
  obtain ⟨A, m, cp, rfl, rfl⟩ := ownsRow_slice hown
  go_enter Try.func29, Try.ntmps29
  go_wp2_with fail
  go_loopw [1, 5] (fun a i wr => ∃ (j K : Nat) (ys : List Value), j ≤ n ∧ a = .int .i64 (K : Int) ∧ i = .int .i64 j ∧ Hid (K = k + j * 6) ∧ wr.ownsRow lo te 6 (.slice A n cp) n ys ∧ Hid (∀ i, i < j * 6 → ys[i]? = some (.int .i64 ((k + i : Nat) : Int))) ∧ w.grownBy wr (Value.slice A n cp).ownBlock) (fun _ i _ => n - (intOf i).toNat)
  case atStart => exact ⟨0, k, intVals zs, Nat.zero_le _, rfl, rfl, (show k = k + 0 * 6 by omega), hown, (show ∀ i, i < 0 * 6 → _ from fun i hi => by omega), World.grownBy.refl w _⟩
  case round =>
    obtain ⟨j, K, ys, hj, rfl, rfl, hK, hown, hys, hgr⟩ := hrel
    have hyl : ys.length = n * 6 := hown.1
    by_cases hlt : j < n
    · obtain ⟨g, rfl, hg, hgl⟩ := own_addr hown (by omega)
      have hc : ∀ i, i < 6 → ∃ u, wr.cell? ⟨g, j * 6 + i, none⟩ = some u ∧ wr.frozen? ⟨g, j * 6 + i, none⟩ = false := fun i hi => ⟨_, (hown.cellAt (j * 6 + i) (by omega)).trans (List.getElem?_eq_getElem (by omega)), hown.frozenAt _⟩
      obtain ⟨u0, c0, f0⟩ := hc 0 (by omega)
      obtain ⟨u1, c1, f1⟩ := hc 1 (by omega)
      obtain ⟨u2, c2, f2⟩ := hc 2 (by omega)
      obtain ⟨u3, c3, f3⟩ := hc 3 (by omega)
      obtain ⟨u4, c4, f4⟩ := hc 4 (by omega)
      obtain ⟨u5, c5, f5⟩ := hc 5 (by omega)
      rw [Nat.add_zero] at c0 f0
      have s0 := hown.stored (j * 6) (.int .i64 ((K : Int)))
      have s1 := s0.1.stored (j * 6 + 1) (.int .i64 ((K : Int) + 1))
      have s2 := s1.1.stored (j * 6 + 2) (.int .i64 ((K : Int) + 1 + 1))
      have s3 := s2.1.stored (j * 6 + 3) (.int .i64 ((K : Int) + 1 + 1 + 1))
      have s4 := s3.1.stored (j * 6 + 4) (.int .i64 ((K : Int) + 1 + 1 + 1 + 1))
      have s5 := s4.1.stored (j * 6 + 5) (.int .i64 ((K : Int) + 1 + 1 + 1 + 1 + 1))
      have Hgr2 := Lib.hid ((((((hgr.trans s0.2).trans s1.2).trans s2.2).trans s3.2).trans s4.2).trans s5.2)
      have Hys := Lib.hid (show ∀ i, i < (j + 1) * 6 → ((((((ys.set (j * 6) (Value.int .i64 ((K : Int)))).set (j * 6 + 1) (Value.int .i64 ((K : Int) + 1))).set (j * 6 + 2) (Value.int .i64 ((K : Int) + 1 + 1))).set (j * 6 + 3) (Value.int .i64 ((K : Int) + 1 + 1 + 1))).set (j * 6 + 4) (Value.int .i64 ((K : Int) + 1 + 1 + 1 + 1))).set (j * 6 + 5) (Value.int .i64 ((K : Int) + 1 + 1 + 1 + 1 + 1)))[i]? = some (.int .i64 ((k + i : Nat) : Int)) from fun i hi => by
        have e0 := hK.out
        rw [get_set (by simp only [List.length_set]; omega), get_set (by simp only [List.length_set]; omega), get_set (by simp only [List.length_set]; omega), get_set (by simp only [List.length_set]; omega), get_set (by simp only [List.length_set]; omega), get_set (by omega)]
        split
        · subst_vars; congr 2
        · split
          · subst_vars; congr 2
          · split
            · subst_vars; congr 2
            · split
              · subst_vars; congr 2
              · split
                · subst_vars; congr 2
                · split
                  · subst_vars; congr 2
                  · exact hys.out i (by omega))
      have Hst := Lib.hid s5.1
      have hK2 : K ≤ 1000000000 := by have := hK.out; omega
      have hj0 : (0 : Int) ≤ j := by omega
      have hj1 : (j : Int) < n := by omega
      clear s0 s1 s2 s3 s4 s5 hown hyl hys hgr hc
      go_wp2_with fail
      go_roundw
      case rel => exact ⟨j + 1, K + 6, _, by omega, by go_num, by go_num, (show K + 6 = k + (j + 1) * 6 from by have := hK.out; omega), Hst.out, Hys.out, Hgr2.out⟩
      case measure => simp [intOf] <;> omega
    · obtain rfl : j = n := by omega
      have hm := markInts_of hyl hys.out
      have hfin := hK.out
      subst hm hfin
      have Hown := Lib.hid hown
      have Hgr := Lib.hid hgr
      clear hown hys hyl hgr
      go_wp2_with fail
      go_ret
      exact ⟨by first | rfl | simp, Hown.out, Hgr.out⟩
end Go.Proofs.Ytklmhkckhdmelaa

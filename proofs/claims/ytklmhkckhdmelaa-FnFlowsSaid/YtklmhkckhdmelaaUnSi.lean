/- UnrolledSize of the program. No condition. -/
import Derived.Test.YtklmhkckhdmelaaProg
import Derived.Test.YtklmhkckhdmelaaPg8
import Derived.Test.YtklmhkckhdmelaaUnO
namespace Go.Proofs.Ytklmhkckhdmelaa
open Go Go.RowKit
set_option maxRecDepth 100000 in
set_option maxHeartbeats 1000000 in
theorem impl_UnrolledSize (A : Option Addr) (n cp : Nat) (ss : List St) (w : World) (hr : Ints w A (flat ss)) (hl : ss.length = n) (hn : n ≤ 2000000) :
    Calls Try.prog 11 #[.slice A n cp] w fun e w' => e = .returned (.int .i64 (sizeI ss)) ∧ Below w.heap.size w w' := by
  have c1 := impl_ProgramOk A n cp ss w hr hl hn
  unfold sizeI
  by_cases hp : progI ss
  case neg =>
    rw [decide_eq_false hp] at c1
    rw [if_neg hp]
    clear hp hr
    go_enter Try.func11, Try.ntmps11
    go_wp2_with fail
    refine c1.mono ?_
    rintro e w1 ⟨rfl, hb⟩
    go_wp2_with fail
    go_ret
    exact ⟨rfl, hb⟩
  rw [decide_eq_true hp] at c1
  rw [if_pos hp]
  have Hl := Lib.hid hl
  have n40 : n ≤ 40 := by have := hp.1; omega
  have HA := Lib.hid (At.start hp.2)
  clear hl hp
  go_enter Try.func11, Try.ntmps11
  go_wp2_with fail
  refine c1.mono ?_
  rintro e w1 ⟨rfl, hb1⟩
  have hr1 := hr.bound.below hb1
  have hs1 := hb1.size
  clear c1
  go_wp2_with fail
  go_loopw [3, 4, 14] (fun sv ov i wr => ∃ (k : Nat) (C : List St) (K : Fr), k ≤ n ∧ i = .int .i64 k ∧ sv = .int .i64 ((full C K).length : Int) ∧ OwnF w.heap.size wr ov K ∧ Hid (At ss k C K) ∧ Below w.heap.size w wr) (fun _ _ i _ => n - (intOf i).toNat)
  case atStart => exact ⟨0, [], [], Nat.zero_le _, rfl, rfl, World.ownsRow_made (e := 64) (size := 2) (base := w.heap.size) w1 #[] 0 hs1 (by unfold maxLen; omega) rfl, HA, hb1.alloc hs1 _⟩
  case round =>
    obtain ⟨k, C, K, hk, rfl, rfl, hown, hA, hb⟩ := hrel
    clear HA hb1 hr1
    have hdeep := hA.out.deep
    have hbd := hA.out.bound
    by_cases hlt : k < n
    · rcases hs : ss.getD k s0 with ⟨op, d, a, b, c, m⟩
      have hlk : k < ss.length := by rw [Hl.out]; exact hlt
      obtain ⟨g, o, rfl, hbl, q0, q1, q2, q3, q4, q5⟩ := cell6 (hr.bound.below hb) hlk hs
      have hcase : op = 12 ∨ op = 13 ∨ (op ≠ 12 ∧ op ≠ 13) := by omega
      have k0 : (0 : Int) ≤ k := by omega
      have k1 : (k : Int) < n := by omega
      clear hr
      rcases hcase with rfl | rfl | ⟨h12, h13⟩
      · obtain ⟨hA2, hm1, hm8⟩ := hA.out.loop hlk hs rfl
        have hb2 := low_alloc hb (.cells #[.int .i64 12, .int .i64 d, .int .i64 a, .int .i64 b, .int .i64 c, .int .i64 m] 43)
        have hown2 : OwnF w.heap.size _ _ K := own_below hown (below_alloc wr (.cells #[.int .i64 12, .int .i64 d, .int .i64 a, .int .i64 b, .int .i64 c, .int .i64 m] 43))
        clear hown
        have HA2 := Lib.hid hA2
        obtain ⟨A1, m1, c1, rfl, hm⟩ := ownsRow_slice hown2
        subst hm
        have hs2 := hb.size
        clear hA hA2 hs hlk
        go_wp2_with (first | (at_builtin; go_loud (refine app_list (e' := 64) elemOpen rfl _ _ rfl w.heap.size _ K.length (intVals (opens K)) rfl (own_below hown2 (below_alloc _ _)) (wr.heap.size + 1) 1 1 _ (0, 0) rfl (new_at _ _ _ (by simp)) rfl (oneCell_i64 [_, _]) (by omega) (by unfold maxLen; omega) (by omega) (by simp; omega) (wr.heap.size + 1 + 1) (by simp) ?_)))
        intro g2 cap w4 hown4 hgrow hat hgl2
        have hb4 := below_own (low_alloc hb2 _) (own_below hown2 (below_alloc _ _)) hgrow (Nat.le_refl _) (low_alloc hb2 _).size
        have Hown4 := Lib.hid (OwnF.push (n := m.toNat) (p := C) rfl (by omega) hown4)
        clear hown4 hown2 hgrow hat hgl2 hb2 hb
        go_wp2_with fail
        go_roundw
        case rel => exact ⟨k + 1, [], (m.toNat, C) :: K, by omega, by go_num, by rw [full_nil], Hown4.out, HA2, hb4⟩
        case measure => simp [intOf]; omega
      · obtain ⟨t, p, K', rfl, ht1, ht8, hA2⟩ := hA.out.end_ hlk hs rfl
        have hb2 := low_alloc hb (.cells #[.int .i64 13, .int .i64 d, .int .i64 a, .int .i64 b, .int .i64 c, .int .i64 m] 43)
        have hown2 : OwnF w.heap.size _ _ ((t, p) :: K') := own_below hown (below_alloc wr (.cells #[.int .i64 13, .int .i64 d, .int .i64 a, .int .i64 b, .int .i64 c, .int .i64 m] 43))
        have HA2 := Lib.hid hA2
        obtain ⟨A1, m1, c1, rfl, hm⟩ := ownsRow_slice hown2
        rw [List.length_cons] at hm
        subst hm
        have hs2 := hb.size
        have hK2 : K'.length ≤ 1000000 := by rw [List.length_cons] at hdeep; omega
        have c3 := fun w' h => impl_closeInnermost w.heap.size t c1 A1 K' p w' h hK2
        have hnew : ((full (p ++ rep t C) K').length : Int) = ((full p K').length : Int) + (t : Int) * (((full C ((t, p) :: K')).length : Int) - ((full p K').length : Int)) := by
          rw [full_app, List.length_append, rep_length]
          simp only [full, List.length_append]
          have e : ((((full p K').length + C.length : Nat) : Int) - ((full p K').length : Int)) = (C.length : Int) := by omega
          rw [e]
          push_cast
          rfl
        have hxS : ((full p K').length : Int) ≤ ((full C ((t, p) :: K')).length : Int) := by simp only [full, List.length_append]; omega
        have hS : ((full C ((t, p) :: K')).length : Int) ≤ 20480 := by omega
        have hx0 : (0 : Int) ≤ ((full p K').length : Int) := by omega
        have Hnew := Lib.hid hnew
        generalize ((full C ((t, p) :: K')).length : Int) = S at *
        generalize ((full p K').length : Int) = x at *
        have hy0 : 0 ≤ (t : Int) * (S - x) := Int.mul_nonneg (by omega) (by omega)
        have hy1 : (t : Int) * (S - x) ≤ 163840 := by
          have : (t : Int) * (S - x) ≤ 8 * 20480 := Int.mul_le_mul (by omega) (by omega) (by omega) (by omega)
          omega
        have Hown2 := Lib.hid hown2
        clear hA hA2 hs hlk hnew hown2
        go_wp2_with fail
        refine (c3 _ (own_below Hown2.out (below_alloc _ _))).mono ?_
        rintro e w2 ⟨rfl, hb3⟩
        have hb4 := (low_alloc hb2 (.cells #[.int .i64 0, .int .i64 0] 64)).trans (hb3.mono (low_alloc hb2 _).size)
        have hbox := heap_below (new_at (wr.alloc (.cells #[.int .i64 13, .int .i64 d, .int .i64 a, .int .i64 b, .int .i64 c, .int .i64 m] 43)) (.cells #[.int .i64 0, .int .i64 0] 64) (wr.heap.size + 1) (by simp)) hb3
        obtain ⟨z0, f0⟩ := blk (i := 0) hbox rfl
        obtain ⟨z1, f1⟩ := blk (i := 1) hbox rfl
        have hbw : Below wr.heap.size wr w2 := (low_alloc (below_alloc wr (.cells #[.int .i64 13, .int .i64 d, .int .i64 a, .int .i64 b, .int .i64 c, .int .i64 m] 43)) (.cells #[.int .i64 0, .int .i64 0] 64)).trans (hb3.mono (by simp; omega))
        have Hpop := Lib.hid (OwnF.pop (own_below hown ((hbw.setCell (p := ⟨wr.heap.size + 1, 0, none⟩) (by simp) (.int .i64 x)).setCell (p := ⟨wr.heap.size + 1, 1, none⟩) (by simp) (.int .i64 (t : Int)))))
        have hb5 := (hb4.setCell (p := ⟨wr.heap.size + 1, 0, none⟩) (by simp; omega) (.int .i64 x)).setCell (p := ⟨wr.heap.size + 1, 1, none⟩) (by simp; omega) (.int .i64 (t : Int))
        clear hb3 hb2 hbox Hown2 c3 q0 q1 q2 q3 q4 q5 hbw hb4 hown
        go_wp2_with fail
        go_roundw
        case rel => exact ⟨k + 1, _, K', by omega, by go_num, by rw [← Hnew.out], Hpop.out, HA2, hb5⟩
        case measure => simp [intOf]; omega
      · have hA2 := hA.out.plain hlk hs h12 h13
        have HA2 := Lib.hid hA2
        have hb2 := low_alloc hb (.cells #[.int .i64 op, .int .i64 d, .int .i64 a, .int .i64 b, .int .i64 c, .int .i64 m] 43)
        have Hown := Lib.hid (show OwnF w.heap.size _ _ K from own_below hown (below_alloc wr (.cells #[.int .i64 op, .int .i64 d, .int .i64 a, .int .i64 b, .int .i64 c, .int .i64 m] 43)))
        have Hsz : Hid (((full (C ++ [⟨op, d, a, b, c, m⟩]) K).length : Int) = ((full C K).length : Int) + 1) := by
          rw [full_app, List.length_append]
          exact Lib.hid (by simp)
        clear hA hA2 hs hlk hown hb
        go_wp2_with fail
        go_roundw
        case rel => exact ⟨k + 1, _, K, by omega, by go_num, by rw [← Hsz.out], Hown.out, HA2, hb2⟩
        case measure => simp [intOf]; omega
    · obtain rfl : k = n := by omega
      have hA2 := hA.out
      rw [← Hl.out] at hA2
      obtain ⟨rfl, he⟩ := hA2.done
      have He := Lib.hid he
      clear hA hA2 he hown hr
      go_wp2_with fail
      go_ret
      exact ⟨by rw [He.out]; rfl, hb⟩
end Go.Proofs.Ytklmhkckhdmelaa

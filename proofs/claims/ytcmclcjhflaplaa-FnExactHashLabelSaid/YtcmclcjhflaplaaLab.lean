/- IsLabel, LabelFor, HashLabel, ValueOf, DeltaOf and their models: the same answers. No condition. -/
import Derived.Test.YtcmclcjhflaplaaProg
import Derived.Test.YtcmclcjhflaplaaRng
import Derived.Test.YtcmclcjhflaplaaTapeS
import Derived.Test.YtcmclcjhflaplaaTp6
import Derived.Test.YtcmclcjhflaplaaGbM
import Derived.BigQuiet
import Derived.Laws.StructEq
namespace Go.Proofs.Ytcmclcjhflaplaa
open Go Go.RowKit
theorem impl_IsLabel_is (x : Int) (r : Bool) (h : decide (isLbl x) = r) (w : World) :
    Calls Try.prog 14 #[.int .i64 x] w fun e w' => e = .returned (.bool r) ∧ w = w' := by
  have hd : decide (0 ≤ x ∧ x ≤ 65535) = r := h
  clear h
  go_enter Try.func14, Try.ntmps14
  go_wp2_with fail
  refine (impl_inRange x 0 65535 (by omega) w).mono ?_
  rw [hd]
  rintro e w1 ⟨rfl, rfl⟩
  go_wp2_with fail
  go_ret
  exact ⟨rfl, rfl⟩
theorem impl_IsLabel (x : Int) (w : World) :
    Calls Try.prog 14 #[.int .i64 x] w fun e w' => e = .returned (.bool (decide (isLbl x))) ∧ w = w' := impl_IsLabel_is x _ rfl w
theorem spec_IsLabel (x : Int) (w : World) :
    Calls Try.prog 17 #[.int .i64 x] w fun e w' => e = .returned (.bool (decide (isLbl x))) ∧ w = w' := by
  go_enter Try.func17, Try.ntmps17
  go_wp2_with fail
  refine (l01In_is x 0 65535 (decide (isLbl x)) rfl w).mono ?_
  rintro e w1 ⟨rfl, rfl⟩
  go_wp2_with fail
  go_ret
  exact ⟨rfl, rfl⟩
theorem spec_IsLabel_is (x : Int) (r : Bool) (h : decide (isLbl x) = r) (w : World) :
    Calls Try.prog 17 #[.int .i64 x] w fun e w' => e = .returned (.bool r) ∧ w = w' := by subst h; exact spec_IsLabel x w
theorem impl_canStart (s a : Int) (r : Bool) (hr : decide (dOk s a) = r) (w : World) :
    Calls Try.prog 27 #[.agg #[.int .i64 s, .int .i64 a]] w fun e w' => e = .returned (.bool r) ∧ Below w.heap.size w w' := by
  subst hr
  have hx := heap_alloc_new w (.cells #[.int .i64 s, .int .i64 a] 25)
  have k0 : Below w.heap.size w (w.alloc (.cells #[.int .i64 s, .int .i64 a] 25)) := (Below.refl _ _).alloc (Nat.le_refl _) _
  go_enter Try.func27, Try.ntmps27
  go_wp2_with fail
  refine (impl_TapeOk s a _).mono ?_
  rintro e w1 ⟨rfl, hb1⟩
  have hc := box2_below hx hb1
  have hb2 := k0.trans (hb1.mono k0.size)
  obtain ⟨c0, c1, _, _⟩ := box2 hc
  by_cases hs : isTape s a
  · rw [decide_eq_true hs]
    go_wp2
    all_goals go_ret
    all_goals exact ⟨ret_bool (by simp [dOk, hs]), hb2⟩
  · rw [decide_eq_false hs]
    go_wp2_with fail
    go_ret
    exact ⟨ret_bool (by simp [dOk, hs]), hb2⟩
theorem spec_canStart (s a : Int) (r : Bool) (hr : decide (dOk s a) = r) (w : World) :
    Calls Try.prog 34 #[.agg #[.int .i64 s, .int .i64 a]] w fun e w' => e = .returned (.bool r) ∧ Below w.heap.size w w' :=
  spec_l06Tape s a r ((decide_eq_decide.2 Iff.rfl).trans hr) w
theorem impl_HashLabel (x n : Int) (w : World) :
    Calls Try.prog 16 #[.int .i64 x, .int .i64 n] w fun e w' => e = .returned (.int .i64 (hshI x n)) ∧ w = w' := by
  by_cases hx : isLbl x
  · have Hx := decide_eq_true hx
    by_cases hn : 0 ≤ n ∧ n ≤ 1000000
    · have Hn := decide_eq_true hn
      have hk := keyedI_word 77 n x
      have e0 : hshI x n = keyedI 77 n x % 65536 := if_pos ⟨hx, hn⟩
      obtain ⟨y, hy⟩ : ∃ y, keyedI 77 n x = y := ⟨_, rfl⟩
      rw [e0]
      rw [hy] at hk ⊢
      obtain ⟨k0, k1⟩ := hk
      have Hy := Lib.hid hy
      clear hx hn e0 hy
      go_enter Try.func16, Try.ntmps16
      go_wp2_with fail
      refine (impl_IsLabel_is x true Hx w).mono ?_
      rintro e w1 ⟨rfl, rfl⟩
      go_wp2_with fail
      refine (impl_inRange n 0 1000000 (by omega) w).mono ?_
      rw [Hn]
      rintro e w1 ⟨rfl, rfl⟩
      go_wp2_with fail
      refine (impl_Keyed_is 77 n x y Hy.out w).mono ?_
      rintro e w1 ⟨rfl, rfl⟩
      go_wp2_with fail
      go_ret
      exact ⟨rfl, rfl⟩
    · have Hn := decide_eq_false hn
      have e0 : hshI x n = -1 := if_neg (fun k => hn k.2)
      rw [e0]
      clear hx hn e0
      go_enter Try.func16, Try.ntmps16
      go_wp2_with fail
      refine (impl_IsLabel_is x true Hx w).mono ?_
      rintro e w1 ⟨rfl, rfl⟩
      go_wp2_with fail
      refine (impl_inRange n 0 1000000 (by omega) w).mono ?_
      rw [Hn]
      rintro e w1 ⟨rfl, rfl⟩
      go_wp2_with fail
      go_ret
      exact ⟨rfl, rfl⟩
  · have Hx := decide_eq_false hx
    have e0 : hshI x n = -1 := if_neg (fun k => hx k.1)
    rw [e0]
    clear hx e0
    go_enter Try.func16, Try.ntmps16
    go_wp2_with fail
    refine (impl_IsLabel_is x false Hx w).mono ?_
    rintro e w1 ⟨rfl, rfl⟩
    go_wp2_with fail
    go_ret
    exact ⟨rfl, rfl⟩
theorem impl_HashLabel_is (x n r : Int) (h : hshI x n = r) (w : World) :
    Calls Try.prog 16 #[.int .i64 x, .int .i64 n] w fun e w' => e = .returned (.int .i64 r) ∧ w = w' := by subst h; exact impl_HashLabel x n w
theorem spec_HashLabel (x n : Int) (w : World) :
    Calls Try.prog 22 #[.int .i64 x, .int .i64 n] w fun e w' => e = .returned (.int .i64 (hshI x n)) ∧ w = w' := by
  by_cases hx : isLbl x
  · have Hx := decide_eq_true hx
    by_cases hn : 0 ≤ n ∧ n ≤ 1000000
    · have Hn := decide_eq_true hn
      have e0 : hshI x n = bits .and .i64 (keyedI 77 n x) 65535 := (if_pos ⟨hx, hn⟩).trans (i64_and_mask16 _).symm
      rw [e0]
      clear hx hn e0
      go_enter Try.func22, Try.ntmps22
      go_wp2_with fail
      refine (spec_IsLabel_is x true Hx w).mono ?_
      rintro e w1 ⟨rfl, rfl⟩
      go_wp2_with fail
      refine (l01In_is n 0 1000000 true Hn w).mono ?_
      rintro e w1 ⟨rfl, rfl⟩
      go_wp2_with fail
      refine (spec_Keyed 77 n x w).mono ?_
      rintro e w1 ⟨rfl, rfl⟩
      go_wp2_with fail
      go_ret
      exact ⟨rfl, rfl⟩
    · have Hn := decide_eq_false hn
      have e0 : hshI x n = -1 := if_neg (fun k => hn k.2)
      rw [e0]
      clear hx hn e0
      go_enter Try.func22, Try.ntmps22
      go_wp2_with fail
      refine (spec_IsLabel_is x true Hx w).mono ?_
      rintro e w1 ⟨rfl, rfl⟩
      go_wp2_with fail
      refine (l01In_is n 0 1000000 false Hn w).mono ?_
      rintro e w1 ⟨rfl, rfl⟩
      go_wp2_with fail
      go_ret
      exact ⟨rfl, rfl⟩
  · have Hx := decide_eq_false hx
    have e0 : hshI x n = -1 := if_neg (fun k => hx k.1)
    rw [e0]
    clear hx e0
    go_enter Try.func22, Try.ntmps22
    go_wp2_with fail
    refine (spec_IsLabel_is x false Hx w).mono ?_
    rintro e w1 ⟨rfl, rfl⟩
    go_wp2_with fail
    go_ret
    exact ⟨rfl, rfl⟩
theorem spec_HashLabel_is (x n r : Int) (h : hshI x n = r) (w : World) :
    Calls Try.prog 22 #[.int .i64 x, .int .i64 n] w fun e w' => e = .returned (.int .i64 r) ∧ w = w' := by subst h; exact spec_HashLabel x n w
theorem spec_LabelFor (z d v : Int) (w : World) :
    Calls Try.prog 21 #[.int .i64 z, .int .i64 d, .int .i64 v] w fun e w' => e = .returned (.int .i64 (lblI z d v)) ∧ w = w' := by
  by_cases hz : isLbl z
  · have Hz := decide_eq_true hz
    by_cases hd : isLbl d
    · have Hd := decide_eq_true hd
      by_cases hv : 0 ≤ v ∧ v ≤ 1
      · have Hv := decide_eq_true hv
        have e0 : lblI z d v = if v = 1 then lx z d else z := if_pos ⟨hz, hd, by unfold isBit; omega⟩
        have e1 := Lib.hid (lx_bits hz hd)
        rw [e0]
        clear hz hd hv e0
        go_enter Try.func21, Try.ntmps21
        go_wp2_with fail
        refine (spec_IsLabel_is z true Hz w).mono ?_
        rintro e w1 ⟨rfl, rfl⟩
        go_wp2_with fail
        refine (spec_IsLabel_is d true Hd w).mono ?_
        rintro e w1 ⟨rfl, rfl⟩
        go_wp2_with fail
        refine (l01In_is v 0 1 true Hv w).mono ?_
        rintro e w1 ⟨rfl, rfl⟩
        by_cases h1 : v = 1
        · subst h1
          go_wp2_with fail
          go_ret
          exact ⟨ret_int (by first | exact e1.out | (rw [if_pos rfl]; exact e1.out)), rfl⟩
        · have b1 : (v == 1) = false := beq_eq_false_iff_ne.2 h1
          go_wp2_with fail
          go_ret
          exact ⟨ret_int (by first | rfl | (rw [if_neg h1])), rfl⟩
      · have Hv := decide_eq_false hv
        have e0 : lblI z d v = -1 := if_neg (fun k => hv (by have := k.2.2; unfold isBit at this; omega))
        rw [e0]
        clear hz hd hv e0
        go_enter Try.func21, Try.ntmps21
        go_wp2_with fail
        refine (spec_IsLabel_is z true Hz w).mono ?_
        rintro e w1 ⟨rfl, rfl⟩
        go_wp2_with fail
        refine (spec_IsLabel_is d true Hd w).mono ?_
        rintro e w1 ⟨rfl, rfl⟩
        go_wp2_with fail
        refine (l01In_is v 0 1 false Hv w).mono ?_
        rintro e w1 ⟨rfl, rfl⟩
        go_wp2_with fail
        go_ret
        exact ⟨rfl, rfl⟩
    · have Hd := decide_eq_false hd
      have e0 : lblI z d v = -1 := if_neg (fun k => hd k.2.1)
      rw [e0]
      clear hz hd e0
      go_enter Try.func21, Try.ntmps21
      go_wp2_with fail
      refine (spec_IsLabel_is z true Hz w).mono ?_
      rintro e w1 ⟨rfl, rfl⟩
      go_wp2_with fail
      refine (spec_IsLabel_is d false Hd w).mono ?_
      rintro e w1 ⟨rfl, rfl⟩
      go_wp2_with fail
      go_ret
      exact ⟨rfl, rfl⟩
  · have Hz := decide_eq_false hz
    have e0 : lblI z d v = -1 := if_neg (fun k => hz k.1)
    rw [e0]
    clear hz e0
    go_enter Try.func21, Try.ntmps21
    go_wp2_with fail
    refine (spec_IsLabel_is z false Hz w).mono ?_
    rintro e w1 ⟨rfl, rfl⟩
    go_wp2_with fail
    go_ret
    exact ⟨rfl, rfl⟩
theorem spec_LabelFor_is (z d v r : Int) (h : lblI z d v = r) (w : World) :
    Calls Try.prog 21 #[.int .i64 z, .int .i64 d, .int .i64 v] w fun e w' => e = .returned (.int .i64 r) ∧ w = w' := by subst h; exact spec_LabelFor z d v w
theorem spec_ValueOf (z d l : Int) (w : World) :
    Calls Try.prog 23 #[.int .i64 z, .int .i64 d, .int .i64 l] w fun e w' => e = .returned (.int .i64 (lvI z d l)) ∧ w = w' := by
  obtain ⟨p, hp⟩ : ∃ p, lblI z d 0 = p := ⟨_, rfl⟩
  obtain ⟨q, hq⟩ : ∃ q, lblI z d 1 = q := ⟨_, rfl⟩
  have Hp := Lib.hid hp
  have Hq := Lib.hid hq
  have e0 : lvI z d l = if 0 ≤ p ∧ p = l then 0 else if 0 ≤ q ∧ q = l then 1 else -1 := by unfold lvI; rw [hp, hq]
  obtain ⟨r, hr⟩ : ∃ r, lvI z d l = r := ⟨_, rfl⟩
  rw [hr] at e0 ⊢
  have Hr := Lib.hid e0
  clear hp hq e0 hr
  go_enter Try.func23, Try.ntmps23
  go_wp2_with fail
  go_loop [7] (fun v => ∃ k : Nat, k ≤ 2 ∧ v = .int .i64 k ∧ Hid ((1 ≤ k → ¬ (0 ≤ p ∧ p = l)) ∧ (2 ≤ k → ¬ (0 ≤ q ∧ q = l)))) (fun v => 2 - (intOf v).toNat)
  case atStart => exact ⟨0, by omega, rfl, Lib.hid ⟨by omega, by omega⟩⟩
  case round =>
    obtain ⟨k, hk, rfl, h12⟩ := hrel
    rcases (show k = 0 ∨ k = 1 ∨ k = 2 by omega) with rfl | rfl | rfl
    · have hr : 0 ≤ p ∧ p = l → r = 0 := fun h => by rw [Hr.out, if_pos h]
      have Hr2 := Lib.hid hr
      clear hr h12
      rw [show ((0 : Nat) : Int) = 0 from rfl]
      go_wp2_with fail
      refine (spec_LabelFor_is z d 0 p Hp.out w).mono ?_
      rintro e w1 ⟨rfl, rfl⟩
      by_cases h0 : 0 ≤ p ∧ p = l
      · obtain ⟨h1, rfl⟩ := h0
        have e := Hr2.out ⟨h1, rfl⟩
        subst e
        go_wp2_with fail
        go_ret
        exact ⟨rfl, rfl⟩
      · have Hn := Lib.hid h0
        by_cases h1 : 0 ≤ p
        · have h2 : (p == l) = false := beq_eq_false_iff_ne.2 (fun e => h0 ⟨h1, e⟩)
          clear h0
          go_wp2_with fail
          go_round
          case rel => exact ⟨1, by omega, rfl, Lib.hid ⟨fun _ => Hn.out, by omega⟩⟩
          case measure => simp [intOf]
        · have h2 : p < 0 := by omega
          clear h0 h1
          go_wp2_with fail
          go_round
          case rel => exact ⟨1, by omega, rfl, Lib.hid ⟨fun _ => Hn.out, by omega⟩⟩
          case measure => simp [intOf]
    · have hr : 0 ≤ q ∧ q = l → r = 1 := fun h => by rw [Hr.out, if_neg (h12.out.1 (by omega)), if_pos h]
      have Hr2 := Lib.hid hr
      clear hr
      rw [show ((1 : Nat) : Int) = 1 from rfl]
      go_wp2_with fail
      refine (spec_LabelFor_is z d 1 q Hq.out w).mono ?_
      rintro e w1 ⟨rfl, rfl⟩
      by_cases h0 : 0 ≤ q ∧ q = l
      · obtain ⟨h1, rfl⟩ := h0
        have e := Hr2.out ⟨h1, rfl⟩
        subst e
        go_wp2_with fail
        go_ret
        exact ⟨rfl, rfl⟩
      · have Hn := Lib.hid h0
        by_cases h1 : 0 ≤ q
        · have h2 : (q == l) = false := beq_eq_false_iff_ne.2 (fun e => h0 ⟨h1, e⟩)
          clear h0
          go_wp2_with fail
          go_round
          case rel => exact ⟨2, by omega, rfl, Lib.hid ⟨fun _ => h12.out.1 (by omega), fun _ => Hn.out⟩⟩
          case measure => simp [intOf]
        · have h2 : q < 0 := by omega
          clear h0 h1
          go_wp2_with fail
          go_round
          case rel => exact ⟨2, by omega, rfl, Lib.hid ⟨fun _ => h12.out.1 (by omega), fun _ => Hn.out⟩⟩
          case measure => simp [intOf]
    · have hr : r = -1 := by rw [Hr.out, if_neg (h12.out.1 (by omega)), if_neg (h12.out.2 (by omega))]
      subst hr
      rw [show ((2 : Nat) : Int) = 2 from rfl]
      go_wp2_with fail
      go_ret
      exact ⟨rfl, rfl⟩
theorem impl_pairFrom (z d : Int) (w : World) :
    Calls Try.prog 29 #[.int .i64 z, .int .i64 d] w fun e w' => e = .returned (.agg #[.int .i64 z, .int .i64 (bits .xor .i64 z d)]) ∧ Below w.heap.size w w' := by
  go_enter Try.func29, Try.ntmps29
  go_wp2_with fail
  go_returns
  exact ⟨rfl, (Below.refl _ _).alloc (Nat.le_refl _) _⟩
theorem impl_negated (x y : Int) (w : World) :
    Calls Try.prog 31 #[.agg #[.int .i64 x, .int .i64 y]] w fun e w' => e = .returned (.agg #[.int .i64 y, .int .i64 x]) ∧ Below w.heap.size w w' := by
  go_enter Try.func31, Try.ntmps31
  go_wp2_with fail
  go_returns
  exact ⟨rfl, ((Below.refl _ _).alloc (Nat.le_refl _) _).alloc (by simp) _⟩
theorem impl_LabelFor (z d v : Int) (w : World) :
    Calls Try.prog 13 #[.int .i64 z, .int .i64 d, .int .i64 v] w fun e w' => e = .returned (.int .i64 (lblI z d v)) ∧ Below w.heap.size w w' := by
  by_cases hz : isLbl z
  · have Hz := decide_eq_true hz
    by_cases hd : isLbl d
    · have Hd := decide_eq_true hd
      have e0 : lblI z d v = if v = 0 then z else if v = 1 then bits .xor .i64 z d else -1 := by
        rw [lx_bits hz hd]
        by_cases h0 : v = 0
        · rw [if_pos h0, lblI, if_pos ⟨hz, hd, by unfold isBit; omega⟩, if_neg (by omega)]
        · by_cases h1 : v = 1
          · rw [if_neg h0, if_pos h1, lblI, if_pos ⟨hz, hd, by unfold isBit; omega⟩, if_pos h1]
          · rw [if_neg h0, if_neg h1, lblI, if_neg (fun k => by have := k.2.2; unfold isBit at this; omega)]
      rw [e0]
      clear e0 hz hd
      go_enter Try.func13, Try.ntmps13
      go_wp2_with fail
      refine (impl_IsLabel_is z true Hz w).mono ?_
      rintro e w1 ⟨rfl, rfl⟩
      go_wp2_with fail
      refine (impl_IsLabel_is d true Hd w).mono ?_
      rintro e w1 ⟨rfl, rfl⟩
      go_wp2_with fail
      refine (impl_pairFrom z d w).mono ?_
      rintro e w1 ⟨rfl, hb⟩
      have hb2 := hb.alloc hb.size (.cells #[.int .i64 z, .int .i64 (bits .xor .i64 z d)] 47)
      by_cases h0 : v = 0
      · subst h0
        go_wp2_with fail
        go_ret
        exact ⟨ret_int rfl, hb2⟩
      · by_cases h1 : v = 1
        · subst h1
          go_wp2_with fail
          go_ret
          exact ⟨ret_int rfl, hb2⟩
        · have b0 : (v == 0) = false := beq_eq_false_iff_ne.2 h0
          have b1 : (v == 1) = false := beq_eq_false_iff_ne.2 h1
          go_wp2_with fail
          go_ret
          exact ⟨ret_int rfl, hb2⟩
    · have Hd := decide_eq_false hd
      have e0 : lblI z d v = -1 := if_neg (fun k => hd k.2.1)
      rw [e0]
      clear e0 hz hd
      go_enter Try.func13, Try.ntmps13
      go_wp2_with fail
      refine (impl_IsLabel_is z true Hz w).mono ?_
      rintro e w1 ⟨rfl, rfl⟩
      go_wp2_with fail
      refine (impl_IsLabel_is d false Hd w).mono ?_
      rintro e w1 ⟨rfl, rfl⟩
      go_wp2_with fail
      go_ret
      exact ⟨rfl, Below.refl _ _⟩
  · have Hz := decide_eq_false hz
    have e0 : lblI z d v = -1 := if_neg (fun k => hz k.1)
    rw [e0]
    clear e0 hz
    go_enter Try.func13, Try.ntmps13
    go_wp2_with fail
    refine (impl_IsLabel_is z false Hz w).mono ?_
    rintro e w1 ⟨rfl, rfl⟩
    go_wp2_with fail
    go_ret
    exact ⟨rfl, Below.refl _ _⟩
theorem impl_LabelFor_is (z d v r : Int) (h : lblI z d v = r) (w : World) :
    Calls Try.prog 13 #[.int .i64 z, .int .i64 d, .int .i64 v] w fun e w' => e = .returned (.int .i64 r) ∧ Below w.heap.size w w' := by subst h; exact impl_LabelFor z d v w
theorem pair_eql (x y x' y' : Int) (w : World) : (binOp .eql 47 (.agg #[.int .i64 x, .int .i64 y]) (.agg #[.int .i64 x', .int .i64 y'])).run Try.prog w = .ok (.bool (decide (x = x' ∧ y = y'))) w := by
  have hS : Try.prog.underlying 47 = some (.struct (Try.prog.fieldsOf 47)) := by kernel_rfl
  have hp : Try.prog.stoodInHeld 47 = false := by kernel_rfl
  rw [run_eql_struct, show (10000 : Nat) = 9999 + 1 from rfl, run_equalIn_agg w 9999 47 _ _ hS hp]
  simp only [Program.fieldsOf, Try.underlying47]
  go_simp
  by_cases h1 : x = x' <;> by_cases h2 : y = y' <;> simp [h1, h2]
theorem pair_guard : Try.prog.eqGuardType Try.prog.depth 47 = false := by kernel_rfl
theorem lv_yes {z d l : Int} (hz : isLbl z) (hd : isLbl d) : lvI z d l = if l = z then 0 else if l = lx z d then 1 else -1 := by
  have h0 : lblI z d 0 = z := by unfold lblI; rw [if_pos ⟨hz, hd, by unfold isBit; omega⟩, if_neg (by omega)]
  have h1 : lblI z d 1 = lx z d := by unfold lblI; rw [if_pos ⟨hz, hd, by unfold isBit; omega⟩, if_pos rfl]
  have n0 := hz.1
  have n1 := (lx_lbl hz hd).1
  unfold lvI
  rw [h0, h1]
  by_cases e0 : l = z
  · rw [if_pos ⟨n0, e0.symm⟩, if_pos e0]
  · rw [if_neg (fun k => e0 k.2.symm), if_neg e0]
    by_cases e1 : l = lx z d
    · rw [if_pos ⟨n1, e1.symm⟩, if_pos e1]
    · rw [if_neg (fun k => e1 k.2.symm), if_neg e1]
theorem pair_zero {z d l : Int} : (l = z ∧ bits .xor .i64 l d = bits .xor .i64 z d) ↔ l = z := ⟨fun h => h.1, fun h => by subst h; exact ⟨rfl, rfl⟩⟩
theorem pair_one {z d l : Int} (hz : isLbl z) (hd : isLbl d) : (l = bits .xor .i64 z d ∧ bits .xor .i64 l d = z) ↔ l = lx z d := by
  rw [lx_bits hz hd]
  refine ⟨fun h => h.1, fun h => ?_⟩
  subst h
  refine ⟨rfl, ?_⟩
  rw [lx_bits (lx_lbl hz hd) hd]
  have e : lx z d = lx d z := by unfold lx; rw [Nat.xor_comm]
  rw [e]
  have e2 : lx (lx d z) d = lx d (lx d z) := by unfold lx; rw [Nat.xor_comm]
  rw [e2]
  exact lx_back hz.1
set_option maxRecDepth 100000 in
theorem impl_ValueOf (z d l : Int) (w : World) :
    Calls Try.prog 15 #[.int .i64 z, .int .i64 d, .int .i64 l] w fun e w' => e = .returned (.int .i64 (lvI z d l)) ∧ Below w.heap.size w w' := by
  by_cases hz : isLbl z
  · have Hz := decide_eq_true hz
    by_cases hd : isLbl d
    · have Hd := decide_eq_true hd
      rw [lv_yes hz hd]
      have eq0 := fun W => pair_eql l (bits .xor .i64 l d) z (bits .xor .i64 z d) W
      have eq1 := fun W => pair_eql l (bits .xor .i64 l d) (bits .xor .i64 z d) z W
      simp only [pair_zero] at eq0
      simp only [pair_one hz hd] at eq1
      have hg := pair_guard
      generalize lx z d = q at *
      obtain ⟨r, hr⟩ : ∃ r : Int, (if l = z then 0 else if l = q then 1 else -1) = r := ⟨_, rfl⟩
      rw [hr]
      have Hr := Lib.hid hr
      clear hr
      obtain ⟨zd, hzd⟩ : ∃ r, bits .xor .i64 z d = r := ⟨_, rfl⟩
      obtain ⟨ld, hld⟩ : ∃ r, bits .xor .i64 l d = r := ⟨_, rfl⟩
      rw [hzd, hld] at eq0 eq1
      clear hz hd
      go_enter Try.func15, Try.ntmps15
      go_wp2_with fail
      refine (impl_IsLabel_is z true Hz w).mono ?_
      rintro e w1 ⟨rfl, rfl⟩
      go_wp2_with fail
      refine (impl_IsLabel_is d true Hd w).mono ?_
      rintro e w1 ⟨rfl, rfl⟩
      go_wp2_with fail
      refine (impl_pairFrom z d w).mono ?_
      rw [hzd]
      rintro e w1 ⟨rfl, b1⟩
      go_wp2_with fail
      refine (impl_pairFrom l d w1).mono ?_
      rw [hld]
      rintro e w2 ⟨rfl, b2⟩
      have b3 := b1.trans (b2.mono b1.size)
      clear b1 b2
      have x1 := heap_alloc_new w2 (.cells #[.int .i64 z, .int .i64 zd] 47)
      have x2 := heap_alloc_new (w2.alloc (.cells #[.int .i64 z, .int .i64 zd] 47)) (.cells #[.int .i64 l, .int .i64 ld] 47)
      have x3 := heap_alloc x1 (.cells #[.int .i64 l, .int .i64 ld] 47)
      have b4 := (b3.alloc b3.size (.cells #[.int .i64 z, .int .i64 zd] 47)).alloc (by have := b3.size; simp; omega) (.cells #[.int .i64 l, .int .i64 ld] 47)
      clear x1 b3
      rw [show (w2.alloc (.cells #[.int .i64 z, .int .i64 zd] 47)).heap.size = w2.heap.size + 1 by simp] at x2
      by_cases h0 : l = z
      · have eq2 := fun W => (eq0 W).trans (by rw [decide_eq_true h0] : _ = Result.ok (Value.bool true) W)
        have e2 := Hr.out.symm.trans (if_pos h0)
        subst e2
        clear eq0 eq1 h0 Hr
        go_wp2_with fail
        go_ret
        exact ⟨rfl, b4⟩
      · have eq2 := fun W => (eq0 W).trans (by rw [decide_eq_false h0] : _ = Result.ok (Value.bool false) W)
        have Hr2 := Lib.hid (Hr.out.symm.trans (if_neg h0))
        clear eq0 h0 Hr
        obtain ⟨c0, c1, _, _⟩ := box2 x3
        obtain ⟨d0, d1, _, _⟩ := box2 x2
        go_wp2_with fail
        generalize (w2.alloc (.cells #[.int .i64 z, .int .i64 zd] 47)).alloc (.cells #[.int .i64 l, .int .i64 ld] 47) = W at *
        generalize w2.heap.size = p7 at *
        have c0d : W.drew.cell? ⟨p7, 0, none⟩ = some (.int .i64 z) := c0
        have c1d : W.drew.cell? ⟨p7, 1, none⟩ = some (.int .i64 zd) := c1
        have d0d : W.drew.cell? ⟨p7 + 1, 0, none⟩ = some (.int .i64 l) := d0
        have d1d : W.drew.cell? ⟨p7 + 1, 1, none⟩ = some (.int .i64 ld) := d1
        go_cut [27] (fun t wx => t = .bool (decide (l = q)) ∧ Below W.heap.size W wx)
        case first =>
          go_region_held3 (fun w' => w'.cell? ⟨p7, 0, none⟩ = some (.int .i64 z) ∧ w'.cell? ⟨p7, 1, none⟩ = some (.int .i64 zd) ∧ w'.cell? ⟨p7 + 1, 0, none⟩ = some (.int .i64 l) ∧ w'.cell? ⟨p7 + 1, 1, none⟩ = some (.int .i64 ld)) (first | exact ⟨c0, c1, d0, d1⟩ | exact ⟨c0d, c1d, d0d, d1d⟩ | exact ⟨f0, f1, g0, g1⟩) (first
            | (go_at_call 31; (with_reducible refine (impl_negated z zd _).mono ?_); rintro e w3 ⟨rfl, hb3⟩; (have f0 := cell_on c0d hb3); (have f1 := cell_on c1d hb3); (have g0 := cell_on d0d hb3); (have g1 := cell_on d1d hb3)))
          all_goals
            go_wp2_with fail
            go_meet
            exact ⟨rfl, (Below.refl _ _).drew.trans hb3⟩
        case rest =>
          obtain ⟨rfl, hb3⟩ := hcut
          have b5 := b4.trans (hb3.mono b4.size)
          by_cases h1 : l = q
          · have e2 := Hr2.out.trans (if_pos h1)
            subst e2
            rw [decide_eq_true h1]
            clear h1 eq1 eq2 Hr2
            go_wp2_with fail
            go_ret
            exact ⟨rfl, b5⟩
          · have e2 := Hr2.out.trans (if_neg h1)
            subst e2
            rw [decide_eq_false h1]
            clear h1 eq1 eq2 Hr2
            go_wp2_with fail
            go_ret
            exact ⟨rfl, b5⟩
    · have Hd := decide_eq_false hd
      have e0 : lvI z d l = -1 := by
        unfold lvI
        have a : ∀ v, lblI z d v = -1 := fun v => if_neg (fun k => hd k.2.1)
        rw [a, a, if_neg (by omega), if_neg (by omega)]
      rw [e0]
      clear e0 hz hd
      go_enter Try.func15, Try.ntmps15
      go_wp2_with fail
      refine (impl_IsLabel_is z true Hz w).mono ?_
      rintro e w1 ⟨rfl, rfl⟩
      go_wp2_with fail
      refine (impl_IsLabel_is d false Hd w).mono ?_
      rintro e w1 ⟨rfl, rfl⟩
      go_wp2_with fail
      go_ret
      exact ⟨rfl, Below.refl _ _⟩
  · have Hz := decide_eq_false hz
    have e0 : lvI z d l = -1 := by
      unfold lvI
      have a : ∀ v, lblI z d v = -1 := fun v => if_neg (fun k => hz k.1)
      rw [a, a, if_neg (by omega), if_neg (by omega)]
    rw [e0]
    clear e0 hz
    go_enter Try.func15, Try.ntmps15
    go_wp2_with fail
    refine (impl_IsLabel_is z false Hz w).mono ?_
    rintro e w1 ⟨rfl, rfl⟩
    go_wp2_with fail
    go_ret
    exact ⟨rfl, Below.refl _ _⟩
theorem delta_is {s a : Int} (h : dOk s a) : dltI s a = bits .or .i64 (tbI s a 65536) 1 ∧ dltA s a = tbaI s a 65536 := by
  have hb : isBound 65536 := by unfold isBound; omega
  have hm : more s a := ⟨h.1, by have := h.2; omega⟩
  have e : tbI s a 65536 = redI (keyedI s 7 a) 65536 := if_pos ⟨hb, hm⟩
  have hr := redI_range (x := keyedI s 7 a) hb
  rw [← e] at hr
  refine ⟨?_, ?_⟩
  · rw [or_one hr]
    exact if_pos h
  · rw [dltA, if_pos h, tbaI, if_pos ⟨hb, hm⟩]
theorem impl_DeltaOf (s a : Int) (w : World) :
    Calls Try.prog 12 #[.agg #[.int .i64 s, .int .i64 a]] w fun e w' => e = .returned (.tuple #[.int .i64 (dltI s a), .agg #[.int .i64 s, .int .i64 (dltA s a)]]) ∧ Below w.heap.size w w' := by
  have hx := Boxed.start w 25 (.int .i64 s) (.int .i64 a) 25 (.int .i64 0) (.int .i64 0)
  by_cases h : dOk s a
  · have H := decide_eq_true h
    obtain ⟨e1, e2⟩ := delta_is h
    rw [e1, e2]
    obtain ⟨p, hp⟩ : ∃ p, tbI s a 65536 = p := ⟨_, rfl⟩
    obtain ⟨q, hq⟩ : ∃ q, tbaI s a 65536 = q := ⟨_, rfl⟩
    rw [hp, hq]
    have Hp := Lib.hid hp
    have Hq := Lib.hid hq
    clear e1 e2 hp hq h
    go_enter Try.func12, Try.ntmps12
    go_wp2_with fail
    refine (impl_canStart s a true H _).mono ?_
    rintro e w1 ⟨rfl, hb⟩
    have hx1 := hx.next hb
    clear hb hx
    obtain ⟨t0, t1, _, _⟩ := box2 hx1.arg
    go_wp2_with fail
    refine (impl_TapeBelow s a 65536 w1).mono ?_
    rw [Hp.out, Hq.out]
    rintro e w2 ⟨rfl, hb⟩
    have hx2 := hx1.next hb
    have y3 := heap_alloc_new w2 (.cells #[.int .i64 s, .int .i64 q] 25)
    have hx3 := hx2.alloc (.cells #[.int .i64 s, .int .i64 q] 25)
    obtain ⟨b0, b1, _, _⟩ := box2 y3
    obtain ⟨r0, r1, r2, r3⟩ := box2 hx3.res
    have hx5 := (hx3.set (.int .i64 s) (.int .i64 q)).drew
    clear hb hx1 hx2 t0 t1
    go_wp2_with fail
    go_region
    go_wp2_with fail
    (try simp only [Exit.inBlock, Exit.then])
    refine bodyPost_ret (results_tmp_cell_row (P := Try.prog) rfl _ _ _ (w.heap.size + 1) 25 _ (0, 0) _ rfl rfl hx5.res Try.underlying25 rfl (by kernel_rfl)) rfl ?_
    exact ⟨rfl, hx5.low⟩
  · have H := decide_eq_false h
    have e1 : dltI s a = 0 := if_neg h
    have e2 : dltA s a = a := if_neg h
    rw [e1, e2]
    clear e1 e2 h
    go_enter Try.func12, Try.ntmps12
    go_wp2_with fail
    refine (impl_canStart s a false H _).mono ?_
    rintro e w1 ⟨rfl, hb⟩
    have hx1 := hx.next hb
    clear hb hx
    obtain ⟨t0, t1, _, _⟩ := box2 hx1.arg
    obtain ⟨r0, r1, r2, r3⟩ := box2 hx1.res
    have hx5 := (hx1.set (.int .i64 s) (.int .i64 a)).drew
    go_wp2_with fail
    go_region
    go_wp2_with fail
    (try simp only [Exit.inBlock, Exit.then])
    refine bodyPost_ret (results_tmp_cell_row (P := Try.prog) rfl _ _ _ (w.heap.size + 1) 25 _ (0, 0) _ rfl rfl hx5.res Try.underlying25 rfl (by kernel_rfl)) rfl ?_
    exact ⟨rfl, hx5.low⟩
theorem spec_DeltaOf (s a : Int) (w : World) :
    Calls Try.prog 18 #[.agg #[.int .i64 s, .int .i64 a]] w fun e w' => e = .returned (.tuple #[.int .i64 (dltI s a), .agg #[.int .i64 s, .int .i64 (dltA s a)]]) ∧ Below w.heap.size w w' := by
  have hx := Boxed.start w 25 (.int .i64 s) (.int .i64 a) 25 (.int .i64 0) (.int .i64 0)
  by_cases h : dOk s a
  · have H := decide_eq_true h
    obtain ⟨e1, e2⟩ := delta_is h
    rw [e1, e2]
    obtain ⟨p, hp⟩ : ∃ p, tbI s a 65536 = p := ⟨_, rfl⟩
    obtain ⟨q, hq⟩ : ∃ q, tbaI s a 65536 = q := ⟨_, rfl⟩
    rw [hp, hq]
    have Hp := Lib.hid hp
    have Hq := Lib.hid hq
    clear e1 e2 hp hq h
    go_enter Try.func18, Try.ntmps18
    go_wp2_with fail
    refine (spec_canStart s a true H _).mono ?_
    rintro e w1 ⟨rfl, hb⟩
    have hx1 := hx.next hb
    clear hb hx
    obtain ⟨t0, t1, _, _⟩ := box2 hx1.arg
    go_wp2_with fail
    refine (spec_TapeBelow s a 65536 w1).mono ?_
    rw [Hp.out, Hq.out]
    rintro e w2 ⟨rfl, hb⟩
    have hx2 := hx1.next hb
    have y3 := heap_alloc_new w2 (.cells #[.int .i64 s, .int .i64 q] 25)
    have hx3 := hx2.alloc (.cells #[.int .i64 s, .int .i64 q] 25)
    obtain ⟨b0, b1, _, _⟩ := box2 y3
    obtain ⟨r0, r1, r2, r3⟩ := box2 hx3.res
    have hx5 := (hx3.set (.int .i64 s) (.int .i64 q)).drew
    clear hb hx1 hx2 t0 t1
    go_wp2_with fail
    go_region
    go_wp2_with fail
    (try simp only [Exit.inBlock, Exit.then])
    refine bodyPost_ret (results_tmp_cell_row (P := Try.prog) rfl _ _ _ (w.heap.size + 1) 25 _ (0, 0) _ rfl rfl hx5.res Try.underlying25 rfl (by kernel_rfl)) rfl ?_
    exact ⟨rfl, hx5.low⟩
  · have H := decide_eq_false h
    have e1 : dltI s a = 0 := if_neg h
    have e2 : dltA s a = a := if_neg h
    rw [e1, e2]
    clear e1 e2 h
    go_enter Try.func18, Try.ntmps18
    go_wp2_with fail
    refine (spec_canStart s a false H _).mono ?_
    rintro e w1 ⟨rfl, hb⟩
    have hx1 := hx.next hb
    clear hb hx
    obtain ⟨t0, t1, _, _⟩ := box2 hx1.arg
    obtain ⟨r0, r1, r2, r3⟩ := box2 hx1.res
    have hx5 := (hx1.set (.int .i64 s) (.int .i64 a)).drew
    go_wp2_with fail
    go_region
    go_wp2_with fail
    (try simp only [Exit.inBlock, Exit.then])
    refine bodyPost_ret (results_tmp_cell_row (P := Try.prog) rfl _ _ _ (w.heap.size + 1) 25 _ (0, 0) _ rfl rfl hx5.res Try.underlying25 rfl (by kernel_rfl)) rfl ?_
    exact ⟨rfl, hx5.low⟩
end Go.Proofs.Ytcmclcjhflaplaa

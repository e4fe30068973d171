/- IsLabel, LabelFor, HashLabel, ValueOf, DeltaOf and their models: the same answers. No condition. -/
import Derived.Test.YtfpcjgolcbjnjaaProg
import Derived.Test.YtfpcjgolcbjnjaaRng
import Derived.Test.YtfpcjgolcbjnjaaTapeS
import Derived.Test.YtfpcjgolcbjnjaaTp6
import Derived.Test.YtfpcjgolcbjnjaaGbM
import Derived.BigQuiet
import Derived.Laws.StructEq
namespace Go.Proofs.Ytfpcjgolcbjnjaa
open Go Go.RowKit
theorem impl_IsLabel_is (x : Int) (r : Bool) (h : decide (isLbl x) = r) (w : World) :
    Calls Try.prog 90 #[.int .i64 x] w fun e w' => e = .returned (.bool r) ∧ w = w' := by
  have hd : decide (0 ≤ x ∧ x ≤ 65535) = r := h
  clear h
  go_enter Try.func90, Try.ntmps90
  go_wp2_with fail
  refine (impl_inRange x 0 65535 (by omega) w).mono ?_
  rw [hd]
  rintro e w1 ⟨rfl, rfl⟩
  go_wp2_with fail
  go_ret
  exact ⟨rfl, rfl⟩
theorem impl_IsLabel (x : Int) (w : World) :
    Calls Try.prog 90 #[.int .i64 x] w fun e w' => e = .returned (.bool (decide (isLbl x))) ∧ w = w' := impl_IsLabel_is x _ rfl w
theorem spec_IsLabel (x : Int) (w : World) :
    Calls Try.prog 60 #[.int .i64 x] w fun e w' => e = .returned (.bool (decide (isLbl x))) ∧ w = w' := by
  go_enter Try.func60, Try.ntmps60
  go_wp2_with fail
  refine (l01In_is x 0 65535 (decide (isLbl x)) rfl w).mono ?_
  rintro e w1 ⟨rfl, rfl⟩
  go_wp2_with fail
  go_ret
  exact ⟨rfl, rfl⟩
theorem spec_IsLabel_is (x : Int) (r : Bool) (h : decide (isLbl x) = r) (w : World) :
    Calls Try.prog 60 #[.int .i64 x] w fun e w' => e = .returned (.bool r) ∧ w = w' := by subst h; exact spec_IsLabel x w
theorem impl_canStart (s a : Int) (r : Bool) (hr : decide (dOk s a) = r) (w : World) :
    Calls Try.prog 48 #[.agg #[.int .i64 s, .int .i64 a]] w fun e w' => e = .returned (.bool r) ∧ Below w.heap.size w w' := by
  subst hr
  have hx := heap_alloc_new w (.cells #[.int .i64 s, .int .i64 a] 29)
  have k0 : Below w.heap.size w (w.alloc (.cells #[.int .i64 s, .int .i64 a] 29)) := (Below.refl _ _).alloc (Nat.le_refl _) _
  go_enter Try.func48, Try.ntmps48
  go_wp2_with fail
  refine (impl_TapeOk s a _).mono ?_
  rintro e w1 ⟨rfl, hb1⟩
  have hc := box2_below hx hb1
  have hb2 := k0.trans (hb1.mono k0.size)
  obtain ⟨c0, c1, _, _⟩ := box2 hc
  by_cases hs : isTape s a
  · rw [decide_eq_true hs]
    go_wp2
    all_goals go_ret
    all_goals exact ⟨ret_bool (by simp [dOk, hs]), hb2⟩
  · rw [decide_eq_false hs]
    go_wp2_with fail
    go_ret
    exact ⟨ret_bool (by simp [dOk, hs]), hb2⟩
theorem spec_canStart (s a : Int) (r : Bool) (hr : decide (dOk s a) = r) (w : World) :
    Calls Try.prog 68 #[.agg #[.int .i64 s, .int .i64 a]] w fun e w' => e = .returned (.bool r) ∧ Below w.heap.size w w' :=
  spec_l06Tape s a r ((decide_eq_decide.2 Iff.rfl).trans hr) w
theorem impl_HashLabel (x n : Int) (w : World) :
    Calls Try.prog 120 #[.int .i64 x, .int .i64 n] w fun e w' => e = .returned (.int .i64 (hshI x n)) ∧ w = w' := by
  by_cases hx : isLbl x
  · have Hx := decide_eq_true hx
    by_cases hn : 0 ≤ n ∧ n ≤ 1000000
    · have Hn := decide_eq_true hn
      have hk := keyedI_word 77 n x
      have e0 : hshI x n = keyedI 77 n x % 65536 := if_pos ⟨hx, hn⟩
      obtain ⟨y, hy⟩ : ∃ y, keyedI 77 n x = y := ⟨_, rfl⟩
      rw [e0]
      rw [hy] at hk ⊢
      obtain ⟨k0, k1⟩ := hk
      have Hy := Lib.hid hy
      clear hx hn e0 hy
      go_enter Try.func120, Try.ntmps120
      go_wp2_with fail
      refine (impl_IsLabel_is x true Hx w).mono ?_
      rintro e w1 ⟨rfl, rfl⟩
      go_wp2_with fail
      refine (impl_inRange n 0 1000000 (by omega) w).mono ?_
      rw [Hn]
      rintro e w1 ⟨rfl, rfl⟩
      go_wp2_with fail
      refine (impl_Keyed_is 77 n x y Hy.out w).mono ?_
      rintro e w1 ⟨rfl, rfl⟩
      go_wp2_with fail
      go_ret
      exact ⟨rfl, rfl⟩
    · have Hn := decide_eq_false hn
      have e0 : hshI x n = -1 := if_neg (fun k => hn k.2)
      rw [e0]
      clear hx hn e0
      go_enter Try.func120, Try.ntmps120
      go_wp2_with fail
      refine (impl_IsLabel_is x true Hx w).mono ?_
      rintro e w1 ⟨rfl, rfl⟩
      go_wp2_with fail
      refine (impl_inRange n 0 1000000 (by omega) w).mono ?_
      rw [Hn]
      rintro e w1 ⟨rfl, rfl⟩
      go_wp2_with fail
      go_ret
      exact ⟨rfl, rfl⟩
  · have Hx := decide_eq_false hx
    have e0 : hshI x n = -1 := if_neg (fun k => hx k.1)
    rw [e0]
    clear hx e0
    go_enter Try.func120, Try.ntmps120
    go_wp2_with fail
    refine (impl_IsLabel_is x false Hx w).mono ?_
    rintro e w1 ⟨rfl, rfl⟩
    go_wp2_with fail
    go_ret
    exact ⟨rfl, rfl⟩
theorem impl_HashLabel_is (x n r : Int) (h : hshI x n = r) (w : World) :
    Calls Try.prog 120 #[.int .i64 x, .int .i64 n] w fun e w' => e = .returned (.int .i64 r) ∧ w = w' := by subst h; exact impl_HashLabel x n w
theorem spec_HashLabel (x n : Int) (w : World) :
    Calls Try.prog 70 #[.int .i64 x, .int .i64 n] w fun e w' => e = .returned (.int .i64 (hshI x n)) ∧ w = w' := by
  by_cases hx : isLbl x
  · have Hx := decide_eq_true hx
    by_cases hn : 0 ≤ n ∧ n ≤ 1000000
    · have Hn := decide_eq_true hn
      have e0 : hshI x n = bits .and .i64 (keyedI 77 n x) 65535 := (if_pos ⟨hx, hn⟩).trans (i64_and_mask16 _).symm
      rw [e0]
      clear hx hn e0
      go_enter Try.func70, Try.ntmps70
      go_wp2_with fail
      refine (spec_IsLabel_is x true Hx w).mono ?_
      rintro e w1 ⟨rfl, rfl⟩
      go_wp2_with fail
      refine (l01In_is n 0 1000000 true Hn w).mono ?_
      rintro e w1 ⟨rfl, rfl⟩
      go_wp2_with fail
      refine (spec_Keyed 77 n x w).mono ?_
      rintro e w1 ⟨rfl, rfl⟩
      go_wp2_with fail
      go_ret
      exact ⟨rfl, rfl⟩
    · have Hn := decide_eq_false hn
      have e0 : hshI x n = -1 := if_neg (fun k => hn k.2)
      rw [e0]
      clear hx hn e0
      go_enter Try.func70, Try.ntmps70
      go_wp2_with fail
      refine (spec_IsLabel_is x true Hx w).mono ?_
      rintro e w1 ⟨rfl, rfl⟩
      go_wp2_with fail
      refine (l01In_is n 0 1000000 false Hn w).mono ?_
      rintro e w1 ⟨rfl, rfl⟩
      go_wp2_with fail
      go_ret
      exact ⟨rfl, rfl⟩
  · have Hx := decide_eq_false hx
    have e0 : hshI x n = -1 := if_neg (fun k => hx k.1)
    rw [e0]
    clear hx e0
    go_enter Try.func70, Try.ntmps70
    go_wp2_with fail
    refine (spec_IsLabel_is x false Hx w).mono ?_
    rintro e w1 ⟨rfl, rfl⟩
    go_wp2_with fail
    go_ret
    exact ⟨rfl, rfl⟩
theorem spec_HashLabel_is (x n r : Int) (h : hshI x n = r) (w : World) :
    Calls Try.prog 70 #[.int .i64 x, .int .i64 n] w fun e w' => e = .returned (.int .i64 r) ∧ w = w' := by subst h; exact spec_HashLabel x n w
theorem spec_LabelFor (z d v : Int) (w : World) :
    Calls Try.prog 16 #[.int .i64 z, .int .i64 d, .int .i64 v] w fun e w' => e = .returned (.int .i64 (lblI z d v)) ∧ w = w' := by
  by_cases hz : isLbl z
  · have Hz := decide_eq_true hz
    by_cases hd : isLbl d
    · have Hd := decide_eq_true hd
      by_cases hv : 0 ≤ v ∧ v ≤ 1
      · have Hv := decide_eq_true hv
        have e0 : lblI z d v = if v = 1 then lx z d else z := if_pos ⟨hz, hd, by unfold isBit; omega⟩
        have e1 := Lib.hid (lx_bits hz hd)
        rw [e0]
        clear hz hd hv e0
        go_enter Try.func16, Try.ntmps16
        go_wp2_with fail
        refine (spec_IsLabel_is z true Hz w).mono ?_
        rintro e w1 ⟨rfl, rfl⟩
        go_wp2_with fail
        refine (spec_IsLabel_is d true Hd w).mono ?_
        rintro e w1 ⟨rfl, rfl⟩
        go_wp2_with fail
        refine (l01In_is v 0 1 true Hv w).mono ?_
        rintro e w1 ⟨rfl, rfl⟩
        by_cases h1 : v = 1
        · subst h1
          go_wp2_with fail
          go_ret
          exact ⟨ret_int (by first | exact e1.out | (rw [if_pos rfl]; exact e1.out)), rfl⟩
        · have b1 : (v == 1) = false := beq_eq_false_iff_ne.2 h1
          go_wp2_with fail
          go_ret
          exact ⟨ret_int (by first | rfl | (rw [if_neg h1])), rfl⟩
      · have Hv := decide_eq_false hv
        have e0 : lblI z d v = -1 := if_neg (fun k => hv (by have := k.2.2; unfold isBit at this; omega))
        rw [e0]
        clear hz hd hv e0
        go_enter Try.func16, Try.ntmps16
        go_wp2_with fail
        refine (spec_IsLabel_is z true Hz w).mono ?_
        rintro e w1 ⟨rfl, rfl⟩
        go_wp2_with fail
        refine (spec_IsLabel_is d true Hd w).mono ?_
        rintro e w1 ⟨rfl, rfl⟩
        go_wp2_with fail
        refine (l01In_is v 0 1 false Hv w).mono ?_
        rintro e w1 ⟨rfl, rfl⟩
        go_wp2_with fail
        go_ret
        exact ⟨rfl, rfl⟩
    · have Hd := decide_eq_false hd
      have e0 : lblI z d v = -1 := if_neg (fun k => hd k.2.1)
      rw [e0]
      clear hz hd e0
      go_enter Try.func16, Try.ntmps16
      go_wp2_with fail
      refine (spec_IsLabel_is z true Hz w).mono ?_
      rintro e w1 ⟨rfl, rfl⟩
      go_wp2_with fail
      refine (spec_IsLabel_is d false Hd w).mono ?_
      rintro e w1 ⟨rfl, rfl⟩
      go_wp2_with fail
      go_ret
      exact ⟨rfl, rfl⟩
  · have Hz := decide_eq_false hz
    have e0 : lblI z d v = -1 := if_neg (fun k => hz k.1)
    rw [e0]
    clear hz e0
    go_enter Try.func16, Try.ntmps16
    go_wp2_with fail
    refine (spec_IsLabel_is z false Hz w).mono ?_
    rintro e w1 ⟨rfl, rfl⟩
    go_wp2_with fail
    go_ret
    exact ⟨rfl, rfl⟩
theorem spec_LabelFor_is (z d v r : Int) (h : lblI z d v = r) (w : World) :
    Calls Try.prog 16 #[.int .i64 z, .int .i64 d, .int .i64 v] w fun e w' => e = .returned (.int .i64 r) ∧ w = w' := by subst h; exact spec_LabelFor z d v w
theorem impl_pairFrom (z d : Int) (w : World) :
    Calls Try.prog 91 #[.int .i64 z, .int .i64 d] w fun e w' => e = .returned (.agg #[.int .i64 z, .int .i64 (bits .xor .i64 z d)]) ∧ Below w.heap.size w w' := by
  go_enter Try.func91, Try.ntmps91
  go_wp2_with fail
  go_returns
  exact ⟨rfl, (Below.refl _ _).alloc (Nat.le_refl _) _⟩
theorem impl_negated (x y : Int) (w : World) :
    Calls Try.prog 85 #[.agg #[.int .i64 x, .int .i64 y]] w fun e w' => e = .returned (.agg #[.int .i64 y, .int .i64 x]) ∧ Below w.heap.size w w' := by
  go_enter Try.func85, Try.ntmps85
  go_wp2_with fail
  go_returns
  exact ⟨rfl, ((Below.refl _ _).alloc (Nat.le_refl _) _).alloc (by simp) _⟩
theorem impl_LabelFor (z d v : Int) (w : World) :
    Calls Try.prog 55 #[.int .i64 z, .int .i64 d, .int .i64 v] w fun e w' => e = .returned (.int .i64 (lblI z d v)) ∧ Below w.heap.size w w' := by
  by_cases hz : isLbl z
  · have Hz := decide_eq_true hz
    by_cases hd : isLbl d
    · have Hd := decide_eq_true hd
      have e0 : lblI z d v = if v = 0 then z else if v = 1 then bits .xor .i64 z d else -1 := by
        rw [lx_bits hz hd]
        by_cases h0 : v = 0
        · rw [if_pos h0, lblI, if_pos ⟨hz, hd, by unfold isBit; omega⟩, if_neg (by omega)]
        · by_cases h1 : v = 1
          · rw [if_neg h0, if_pos h1, lblI, if_pos ⟨hz, hd, by unfold isBit; omega⟩, if_pos h1]
          · rw [if_neg h0, if_neg h1, lblI, if_neg (fun k => by have := k.2.2; unfold isBit at this; omega)]
      rw [e0]
      clear e0 hz hd
      go_enter Try.func55, Try.ntmps55
      go_wp2_with fail
      refine (impl_IsLabel_is z true Hz w).mono ?_
      rintro e w1 ⟨rfl, rfl⟩
      go_wp2_with fail
      refine (impl_IsLabel_is d true Hd w).mono ?_
      rintro e w1 ⟨rfl, rfl⟩
      go_wp2_with fail
      refine (impl_pairFrom z d w).mono ?_
      rintro e w1 ⟨rfl, hb⟩
      have hb2 := hb.alloc hb.size (.cells #[.int .i64 z, .int .i64 (bits .xor .i64 z d)] 104)
      by_cases h0 : v = 0
      · subst h0
        go_wp2_with fail
        go_ret
        exact ⟨ret_int rfl, hb2⟩
      · by_cases h1 : v = 1
        · subst h1
          go_wp2_with fail
          go_ret
          exact ⟨ret_int rfl, hb2⟩
        · have b0 : (v == 0) = false := beq_eq_false_iff_ne.2 h0
          have b1 : (v == 1) = false := beq_eq_false_iff_ne.2 h1
          go_wp2_with fail
          go_ret
          exact ⟨ret_int rfl, hb2⟩
    · have Hd := decide_eq_false hd
      have e0 : lblI z d v = -1 := if_neg (fun k => hd k.2.1)
      rw [e0]
      clear e0 hz hd
      go_enter Try.func55, Try.ntmps55
      go_wp2_with fail
      refine (impl_IsLabel_is z true Hz w).mono ?_
      rintro e w1 ⟨rfl, rfl⟩
      go_wp2_with fail
      refine (impl_IsLabel_is d false Hd w).mono ?_
      rintro e w1 ⟨rfl, rfl⟩
      go_wp2_with fail
      go_ret
      exact ⟨rfl, Below.refl _ _⟩
  · have Hz := decide_eq_false hz
    have e0 : lblI z d v = -1 := if_neg (fun k => hz k.1)
    rw [e0]
    clear e0 hz
    go_enter Try.func55, Try.ntmps55
    go_wp2_with fail
    refine (impl_IsLabel_is z false Hz w).mono ?_
    rintro e w1 ⟨rfl, rfl⟩
    go_wp2_with fail
    go_ret
    exact ⟨rfl, Below.refl _ _⟩
theorem impl_LabelFor_is (z d v r : Int) (h : lblI z d v = r) (w : World) :
    Calls Try.prog 55 #[.int .i64 z, .int .i64 d, .int .i64 v] w fun e w' => e = .returned (.int .i64 r) ∧ Below w.heap.size w w' := by subst h; exact impl_LabelFor z d v w
theorem pair_eql (x y x' y' : Int) (w : World) : (binOp .eql 104 (.agg #[.int .i64 x, .int .i64 y]) (.agg #[.int .i64 x', .int .i64 y'])).run Try.prog w = .ok (.bool (decide (x = x' ∧ y = y'))) w := by
  have hS : Try.prog.underlying 104 = some (.struct (Try.prog.fieldsOf 104)) := by kernel_rfl
  have hp : Try.prog.stoodInHeld 104 = false := by kernel_rfl
  rw [run_eql_struct, show (10000 : Nat) = 9999 + 1 from rfl, run_equalIn_agg w 9999 104 _ _ hS hp]
  simp only [Program.fieldsOf, Try.underlying104]
  go_simp
  by_cases h1 : x = x' <;> by_cases h2 : y = y' <;> simp [h1, h2]
theorem pair_guard : Try.prog.eqGuardType Try.prog.depth 104 = false := by kernel_rfl
theorem lv_yes {z d l : Int} (hz : isLbl z) (hd : isLbl d) : lvI z d l = if l = z then 0 else if l = lx z d then 1 else -1 := by
  have h0 : lblI z d 0 = z := by unfold lblI; rw [if_pos ⟨hz, hd, by unfold isBit; omega⟩, if_neg (by omega)]
  have h1 : lblI z d 1 = lx z d := by unfold lblI; rw [if_pos ⟨hz, hd, by unfold isBit; omega⟩, if_pos rfl]
  have n0 := hz.1
  have n1 := (lx_lbl hz hd).1
  unfold lvI
  rw [h0, h1]
  by_cases e0 : l = z
  · rw [if_pos ⟨n0, e0.symm⟩, if_pos e0]
  · rw [if_neg (fun k => e0 k.2.symm), if_neg e0]
    by_cases e1 : l = lx z d
    · rw [if_pos ⟨n1, e1.symm⟩, if_pos e1]
    · rw [if_neg (fun k => e1 k.2.symm), if_neg e1]
theorem pair_zero {z d l : Int} : (l = z ∧ bits .xor .i64 l d = bits .xor .i64 z d) ↔ l = z := ⟨fun h => h.1, fun h => by subst h; exact ⟨rfl, rfl⟩⟩
theorem pair_one {z d l : Int} (hz : isLbl z) (hd : isLbl d) : (l = bits .xor .i64 z d ∧ bits .xor .i64 l d = z) ↔ l = lx z d := by
  rw [lx_bits hz hd]
  refine ⟨fun h => h.1, fun h => ?_⟩
  subst h
  refine ⟨rfl, ?_⟩
  rw [lx_bits (lx_lbl hz hd) hd]
  have e : lx z d = lx d z := by unfold lx; rw [Nat.xor_comm]
  rw [e]
  have e2 : lx (lx d z) d = lx d (lx d z) := by unfold lx; rw [Nat.xor_comm]
  rw [e2]
  exact lx_back hz.1
theorem delta_is {s a : Int} (h : dOk s a) : dltI s a = bits .or .i64 (tbI s a 65536) 1 ∧ dltA s a = tbaI s a 65536 := by
  have hb : isBound 65536 := by unfold isBound; omega
  have hm : more s a := ⟨h.1, by have := h.2; omega⟩
  have e : tbI s a 65536 = redI (keyedI s 7 a) 65536 := if_pos ⟨hb, hm⟩
  have hr := redI_range (x := keyedI s 7 a) hb
  rw [← e] at hr
  refine ⟨?_, ?_⟩
  · rw [or_one hr]
    exact if_pos h
  · rw [dltA, if_pos h, tbaI, if_pos ⟨hb, hm⟩]
theorem impl_DeltaOf (s a : Int) (w : World) :
    Calls Try.prog 19 #[.agg #[.int .i64 s, .int .i64 a]] w fun e w' => e = .returned (.tuple #[.int .i64 (dltI s a), .agg #[.int .i64 s, .int .i64 (dltA s a)]]) ∧ Below w.heap.size w w' := by
  have hx := Boxed.start w 29 (.int .i64 s) (.int .i64 a) 29 (.int .i64 0) (.int .i64 0)
  by_cases h : dOk s a
  · have H := decide_eq_true h
    obtain ⟨e1, e2⟩ := delta_is h
    rw [e1, e2]
    obtain ⟨p, hp⟩ : ∃ p, tbI s a 65536 = p := ⟨_, rfl⟩
    obtain ⟨q, hq⟩ : ∃ q, tbaI s a 65536 = q := ⟨_, rfl⟩
    rw [hp, hq]
    have Hp := Lib.hid hp
    have Hq := Lib.hid hq
    clear e1 e2 hp hq h
    go_enter Try.func19, Try.ntmps19
    go_wp2_with fail
    refine (impl_canStart s a true H _).mono ?_
    rintro e w1 ⟨rfl, hb⟩
    have hx1 := hx.next hb
    clear hb hx
    obtain ⟨t0, t1, _, _⟩ := box2 hx1.arg
    go_wp2_with fail
    refine (impl_TapeBelow s a 65536 w1).mono ?_
    rw [Hp.out, Hq.out]
    rintro e w2 ⟨rfl, hb⟩
    have hx2 := hx1.next hb
    have y3 := heap_alloc_new w2 (.cells #[.int .i64 s, .int .i64 q] 29)
    have hx3 := hx2.alloc (.cells #[.int .i64 s, .int .i64 q] 29)
    obtain ⟨b0, b1, _, _⟩ := box2 y3
    obtain ⟨r0, r1, r2, r3⟩ := box2 hx3.res
    have hx5 := (hx3.set (.int .i64 s) (.int .i64 q)).drew
    clear hb hx1 hx2 t0 t1
    go_wp2_with fail
    go_region
    go_wp2_with fail
    (try simp only [Exit.inBlock, Exit.then])
    refine bodyPost_ret (results_tmp_cell_row (P := Try.prog) rfl _ _ _ (w.heap.size + 1) 29 _ (0, 0) _ rfl rfl hx5.res Try.underlying29 rfl (by kernel_rfl)) rfl ?_
    exact ⟨rfl, hx5.low⟩
  · have H := decide_eq_false h
    have e1 : dltI s a = 0 := if_neg h
    have e2 : dltA s a = a := if_neg h
    rw [e1, e2]
    clear e1 e2 h
    go_enter Try.func19, Try.ntmps19
    go_wp2_with fail
    refine (impl_canStart s a false H _).mono ?_
    rintro e w1 ⟨rfl, hb⟩
    have hx1 := hx.next hb
    clear hb hx
    obtain ⟨t0, t1, _, _⟩ := box2 hx1.arg
    obtain ⟨r0, r1, r2, r3⟩ := box2 hx1.res
    have hx5 := (hx1.set (.int .i64 s) (.int .i64 a)).drew
    go_wp2_with fail
    go_region
    go_wp2_with fail
    (try simp only [Exit.inBlock, Exit.then])
    refine bodyPost_ret (results_tmp_cell_row (P := Try.prog) rfl _ _ _ (w.heap.size + 1) 29 _ (0, 0) _ rfl rfl hx5.res Try.underlying29 rfl (by kernel_rfl)) rfl ?_
    exact ⟨rfl, hx5.low⟩
theorem spec_DeltaOf (s a : Int) (w : World) :
    Calls Try.prog 69 #[.agg #[.int .i64 s, .int .i64 a]] w fun e w' => e = .returned (.tuple #[.int .i64 (dltI s a), .agg #[.int .i64 s, .int .i64 (dltA s a)]]) ∧ Below w.heap.size w w' := by
  have hx := Boxed.start w 29 (.int .i64 s) (.int .i64 a) 29 (.int .i64 0) (.int .i64 0)
  by_cases h : dOk s a
  · have H := decide_eq_true h
    obtain ⟨e1, e2⟩ := delta_is h
    rw [e1, e2]
    obtain ⟨p, hp⟩ : ∃ p, tbI s a 65536 = p := ⟨_, rfl⟩
    obtain ⟨q, hq⟩ : ∃ q, tbaI s a 65536 = q := ⟨_, rfl⟩
    rw [hp, hq]
    have Hp := Lib.hid hp
    have Hq := Lib.hid hq
    clear e1 e2 hp hq h
    go_enter Try.func69, Try.ntmps69
    go_wp2_with fail
    refine (spec_canStart s a true H _).mono ?_
    rintro e w1 ⟨rfl, hb⟩
    have hx1 := hx.next hb
    clear hb hx
    obtain ⟨t0, t1, _, _⟩ := box2 hx1.arg
    go_wp2_with fail
    refine (spec_TapeBelow s a 65536 w1).mono ?_
    rw [Hp.out, Hq.out]
    rintro e w2 ⟨rfl, hb⟩
    have hx2 := hx1.next hb
    have y3 := heap_alloc_new w2 (.cells #[.int .i64 s, .int .i64 q] 29)
    have hx3 := hx2.alloc (.cells #[.int .i64 s, .int .i64 q] 29)
    obtain ⟨b0, b1, _, _⟩ := box2 y3
    obtain ⟨r0, r1, r2, r3⟩ := box2 hx3.res
    have hx5 := (hx3.set (.int .i64 s) (.int .i64 q)).drew
    clear hb hx1 hx2 t0 t1
    go_wp2_with fail
    go_region
    go_wp2_with fail
    (try simp only [Exit.inBlock, Exit.then])
    refine bodyPost_ret (results_tmp_cell_row (P := Try.prog) rfl _ _ _ (w.heap.size + 1) 29 _ (0, 0) _ rfl rfl hx5.res Try.underlying29 rfl (by kernel_rfl)) rfl ?_
    exact ⟨rfl, hx5.low⟩
  · have H := decide_eq_false h
    have e1 : dltI s a = 0 := if_neg h
    have e2 : dltA s a = a := if_neg h
    rw [e1, e2]
    clear e1 e2 h
    go_enter Try.func69, Try.ntmps69
    go_wp2_with fail
    refine (spec_canStart s a false H _).mono ?_
    rintro e w1 ⟨rfl, hb⟩
    have hx1 := hx.next hb
    clear hb hx
    obtain ⟨t0, t1, _, _⟩ := box2 hx1.arg
    obtain ⟨r0, r1, r2, r3⟩ := box2 hx1.res
    have hx5 := (hx1.set (.int .i64 s) (.int .i64 a)).drew
    go_wp2_with fail
    go_region
    go_wp2_with fail
    (try simp only [Exit.inBlock, Exit.then])
    refine bodyPost_ret (results_tmp_cell_row (P := Try.prog) rfl _ _ _ (w.heap.size + 1) 29 _ (0, 0) _ rfl rfl hx5.res Try.underlying29 rfl (by kernel_rfl)) rfl ?_
    exact ⟨rfl, hx5.low⟩
end Go.Proofs.Ytfpcjgolcbjnjaa

/- Interpretation: the tests of states and inputs. No condition. -/
import Derived.Test.YtlaidjibcpfnjaaProg
import Derived.Test.YtlaidjibcpfnjaaRunA
namespace Go.Proofs.Ytlaidjibcpfnjaa
open Go Go.RowKit
set_option maxRecDepth 100000 in
theorem impl_StateOk (A0 : Option Addr) (n0 c0 : Nat) (rs : List Int) (A1 : Option Addr) (n1 c1 : Nat) (os : List Int) (w : World) (h0 : Ints w A0 rs) (l0 : rs.length = n0) (m0 : n0 ≤ 1000000000000) (h1 : Ints w A1 os) (l1 : os.length = n1) (m1 : n1 ≤ 1000000000000) :
    Calls Try.prog 23 #[.agg #[.slice A0 n0 c0, .slice A1 n1 c1]] w (Post_bool (decide (stOk rs os)) w) := by
  have low := below_alloc w (.cells #[.slice A0 n0 c0, .slice A1 n1 c1] 38)
  by_cases h8 : n0 = 8
  case neg =>
    have hd : decide (stOk rs os) = false := decide_eq_false (fun h => h8 (by rw [← l0]; exact h.1))
    rw [hd]
    have hne : ((n0 : Int) == 8) = false := beq_eq_false_iff_ne.2 (by omega)
    clear h0 h1 l0 l1 hd
    go_enter Try.func23, Try.ntmps23
    go_wp2_with fail
    go_ret
    exact ⟨rfl, low⟩
  subst h8
  have i0 := h0.al (.cells #[.slice A0 8 c0, .slice A1 n1 c1] 38)
  have i1 := h1.al (.cells #[.slice A0 8 c0, .slice A1 n1 c1] 38)
  by_cases ha : all4 rs
  case neg =>
    have hd : decide (stOk rs os) = false := decide_eq_false (fun h => ha h.2.1)
    rw [hd]
    have k1 := impl_allRegValues A0 8 c0 rs false (decide_eq_false ha) _ i0 l0 (by omega)
    clear h0 h1 l0 l1 hd i0 i1 ha
    go_enter Try.func23, Try.ntmps23
    go_wp2_with fail
    refine k1.mono ?_
    rintro e w1 ⟨rfl, rfl⟩
    go_wp2_with fail
    go_ret
    exact ⟨rfl, low⟩
  have hd : decide (stOk rs os) = decide (all4 os) := by
    by_cases hb : all4 os
    · rw [decide_eq_true hb, decide_eq_true (show stOk rs os from ⟨l0, ha, hb⟩)]
    · rw [decide_eq_false hb, decide_eq_false (fun h : stOk rs os => hb h.2.2)]
  rw [hd]
  have k1 := impl_allRegValues A0 8 c0 rs true (decide_eq_true ha) _ i0 l0 (by omega)
  have k2 := impl_allRegValues A1 n1 c1 os (decide (all4 os)) rfl _ i1 l1 m1
  generalize decide (all4 os) = b at *
  clear h0 h1 l0 l1 hd i0 i1 ha
  go_enter Try.func23, Try.ntmps23
  go_wp2_with fail
  refine k1.mono ?_
  rintro e w1 ⟨rfl, rfl⟩
  go_wp2_with fail
  refine k2.mono ?_
  rintro e w1 ⟨rfl, rfl⟩
  go_wp2_with fail
  go_ret
  exact ⟨rfl, low⟩
set_option maxRecDepth 100000 in
theorem spec_StateOk (A0 : Option Addr) (n0 c0 : Nat) (rs : List Int) (A1 : Option Addr) (n1 c1 : Nat) (os : List Int) (w : World) (h0 : Ints w A0 rs) (l0 : rs.length = n0) (m0 : n0 ≤ 1000000000000) (h1 : Ints w A1 os) (l1 : os.length = n1) (m1 : n1 ≤ 1000000000000) :
    Calls Try.prog 34 #[.agg #[.slice A0 n0 c0, .slice A1 n1 c1]] w (Post_bool (decide (stOk rs os)) w) := by
  have low := below_alloc w (.cells #[.slice A0 n0 c0, .slice A1 n1 c1] 38)
  by_cases h8 : n0 = 8
  case neg =>
    have hd : decide (stOk rs os) = false := decide_eq_false (fun h => h8 (by rw [← l0]; exact h.1))
    rw [hd]
    have hne : ((n0 : Int) == 8) = false := beq_eq_false_iff_ne.2 (by omega)
    clear h0 h1 l0 l1 hd
    go_enter Try.func34, Try.ntmps34
    go_wp2_with fail
    go_ret
    exact ⟨rfl, low⟩
  subst h8
  have i0 := h0.al (.cells #[.slice A0 8 c0, .slice A1 n1 c1] 38)
  have i1 := h1.al (.cells #[.slice A0 8 c0, .slice A1 n1 c1] 38)
  by_cases ha : all4 rs
  case neg =>
    have hd : decide (stOk rs os) = false := decide_eq_false (fun h => ha h.2.1)
    rw [hd]
    have k1 := spec_l12All A0 8 c0 rs false (decide_eq_false ha) _ i0 l0 (by omega)
    clear h0 h1 l0 l1 hd i0 i1 ha
    go_enter Try.func34, Try.ntmps34
    go_wp2_with fail
    refine k1.mono ?_
    rintro e w1 ⟨rfl, rfl⟩
    go_wp2_with fail
    go_ret
    exact ⟨rfl, low⟩
  have hd : decide (stOk rs os) = decide (all4 os) := by
    by_cases hb : all4 os
    · rw [decide_eq_true hb, decide_eq_true (show stOk rs os from ⟨l0, ha, hb⟩)]
    · rw [decide_eq_false hb, decide_eq_false (fun h : stOk rs os => hb h.2.2)]
  rw [hd]
  have k1 := spec_l12All A0 8 c0 rs true (decide_eq_true ha) _ i0 l0 (by omega)
  have k2 := spec_l12All A1 n1 c1 os (decide (all4 os)) rfl _ i1 l1 m1
  generalize decide (all4 os) = b at *
  clear h0 h1 l0 l1 hd i0 i1 ha
  go_enter Try.func34, Try.ntmps34
  go_wp2_with fail
  refine k1.mono ?_
  rintro e w1 ⟨rfl, rfl⟩
  go_wp2_with fail
  refine k2.mono ?_
  rintro e w1 ⟨rfl, rfl⟩
  go_wp2_with fail
  go_ret
  exact ⟨rfl, low⟩
theorem row_dec {zs : List Int} (h4 : zs.length = 4) : decide (rowOk zs) = decide (all4 zs) := by
  by_cases hb : all4 zs
  · rw [decide_eq_true hb, decide_eq_true (show rowOk zs from ⟨h4, hb⟩)]
  · rw [decide_eq_false hb, decide_eq_false (fun h : rowOk zs => hb h.2)]
theorem impl_notInputsOfParty (A : Option Addr) (n c : Nat) (zs : List Int) (r : Bool) (hr : decide (rowOk zs) = r) (w : World) (hz : Ints w A zs) (hl : zs.length = n) :
    Calls Try.prog 69 #[.slice A n c] w fun e w' => e = .returned (.bool (!r)) ∧ w = w' := by
  by_cases h4 : n = 4
  · have hd := row_dec (zs := zs) (by omega)
    have k1 := impl_allRegValues A n c zs r (by rw [← hd]; exact hr) w hz hl (by omega)
    subst h4
    clear hr hz hl hd
    go_enter Try.func69, Try.ntmps69
    go_wp2_with fail
    refine k1.mono ?_
    rintro e w1 ⟨rfl, rfl⟩
    go_wp2_with fail
    go_ret
    exact ⟨rfl, rfl⟩
  · obtain rfl : r = false := by rw [← hr]; exact decide_eq_false (fun h => h4 (by rw [← hl]; exact h.1))
    have hne : ((n : Int) == 4) = false := beq_eq_false_iff_ne.2 (by omega)
    clear hr hz hl
    go_enter Try.func69, Try.ntmps69
    go_wp2_with fail
    go_ret
    exact ⟨rfl, rfl⟩
def rowsOk (I : List (List Int)) : Prop := ∀ r ∈ I, rowOk r
instance (I : List (List Int)) : Decidable (rowsOk I) := by unfold rowsOk; infer_instance
set_option maxRecDepth 100000 in
theorem impl_IndexRow (A : Option Addr) (n c : Nat) (I : List (List Int)) (w : World) (hz : Rows w.heap.size w A I) (hl : I.length = n) (hn : n ≤ 1000000000000) :
    Calls Try.prog 103 #[.slice A n c, .func (.func 69) #[] #[]] w fun e w' => ∃ r : Int, e = .returned (.int .i64 r) ∧ (0 ≤ r ↔ ¬ rowsOk I) ∧ w = w' := by
  have Hl := Lib.hid hl
  clear hl
  go_enter Try.func103, Try.ntmps103
  go_wp2_with fail
  go_loop [8] (fun i => ∃ k : Nat, k ≤ n ∧ i = .int .i64 k ∧ Hid (∀ j, j < k → rowOk (I.getD j []))) (fun i => n - (intOf i).toNat)
  case atStart => exact ⟨0, Nat.zero_le _, rfl, fun _ h => by omega⟩
  case round =>
    obtain ⟨k, hk, rfl, hne⟩ := hrel
    by_cases hlt : k < n
    · obtain ⟨b, o, Aj, cj, rfl, _, c0, r0⟩ := hz.at_ (j := k) (by rw [Hl.out]; exact hlt)
      have Hyes : Hid (¬ rowOk (I.getD k []) → ¬ rowsOk I) := fun e => rows_no (by rw [Hl.out]; exact hlt) e
      have Hnx : Hid (rowOk (I.getD k []) → ∀ j, j < k + 1 → rowOk (I.getD j [])) := fun e j hj => by
        rcases Nat.lt_or_ge j k with h | h
        · exact hne.out j h
        · obtain rfl : j = k := by omega
          exact e
      generalize I.getD k [] = y at c0 Hyes Hnx r0
      have i0 := r0.ints (Nat.le_refl _)
      obtain ⟨m, hm⟩ : ∃ m, y.length = m := ⟨_, rfl⟩
      rw [hm] at c0
      have k0 : (0 : Int) ≤ k := by omega
      have k1 : (k : Int) < n := by omega
      clear hz r0
      by_cases hxy : rowOk y
      · have Hn := Lib.hid (Hnx.out hxy)
        have cN := impl_notInputsOfParty Aj m cj y true (decide_eq_true hxy) w i0 hm
        clear Hnx Hyes hxy hm i0
        go_wp2_with fail
        refine cN.mono ?_
        rintro e w1 ⟨rfl, rfl⟩
        go_wp2_with fail
        go_round
        case rel => exact ⟨k + 1, by omega, by go_num, Hn.out⟩
        case measure => simp [intOf]; omega
      · have Hy := Lib.hid (Hyes.out hxy)
        have cN := impl_notInputsOfParty Aj m cj y false (decide_eq_false hxy) w i0 hm
        clear Hnx Hyes hxy hm i0
        go_wp2_with fail
        refine cN.mono ?_
        rintro e w1 ⟨rfl, rfl⟩
        go_wp2_with fail
        go_ret
        exact ⟨_, rfl, ⟨fun _ => Hy.out, fun _ => k0⟩, rfl⟩
    · obtain rfl : k = n := by omega
      have Hno : Hid (rowsOk I) := rows_of (fun j hj => hne.out j (by rw [← Hl.out]; exact hj))
      go_wp2_with fail
      go_ret
      exact ⟨_, rfl, ⟨fun h => by omega, fun h => absurd Hno.out h⟩, rfl⟩
theorem impl_ContainsRow (A : Option Addr) (n c : Nat) (I : List (List Int)) (r : Bool) (hr : decide (rowsOk I) = r) (w : World) (hz : Rows w.heap.size w A I) (hl : I.length = n) (hn : n ≤ 1000000000000) :
    Calls Try.prog 68 #[.slice A n c, .func (.func 69) #[] #[]] w fun e w' => e = .returned (.bool (!r)) ∧ w = w' := by
  go_enter Try.func68, Try.ntmps68
  go_wp2_with fail
  refine (impl_IndexRow A n c I w hz hl hn).mono ?_
  rintro e w1 ⟨q, rfl, hq, rfl⟩
  have hd : decide (0 ≤ q) = !r := by
    rw [← hr]
    by_cases h : rowsOk I
    · rw [decide_eq_true h, decide_eq_false (fun e => hq.1 e h)]; rfl
    · rw [decide_eq_false h, decide_eq_true (hq.2 h)]; rfl
  have Hd := Lib.hid hd
  clear hq hd
  go_wp2_with fail
  go_ret
  exact ⟨ret_bool Hd.out, rfl⟩
theorem ins_dec {I : List (List Int)} (h5 : I.length = 5) : decide (insOk I) = decide (rowsOk I) := by
  by_cases hb : rowsOk I
  · rw [decide_eq_true hb, decide_eq_true (show insOk I from ⟨h5, hb⟩)]
  · rw [decide_eq_false hb, decide_eq_false (fun h : insOk I => hb h.2)]
theorem impl_InputsOk (A : Option Addr) (n c : Nat) (I : List (List Int)) (b : Bool) (hb : decide (insOk I) = b) (w : World) (hz : Rows w.heap.size w A I) (hl : I.length = n) (hn : n ≤ 1000000000000) :
    Calls Try.prog 25 #[.slice A n c] w fun e w' => e = .returned (.bool b) ∧ w = w' := by
  by_cases h5 : n = 5
  · have hd := ins_dec (I := I) (by omega)
    have k1 := impl_ContainsRow A n c I b (by rw [← hd]; exact hb) w hz hl hn
    subst h5
    clear hb hz hl hd
    go_enter Try.func25, Try.ntmps25
    go_wp2_with fail
    refine k1.mono ?_
    rintro e w1 ⟨rfl, rfl⟩
    go_wp2_with fail
    go_ret
    exact ⟨ret_bool (by cases b <;> rfl), rfl⟩
  · obtain rfl : b = false := by rw [← hb]; exact decide_eq_false (fun h => h5 (by rw [← hl]; exact h.1))
    have hne : ((n : Int) == 5) = false := beq_eq_false_iff_ne.2 (by omega)
    clear hb hz hl
    go_enter Try.func25, Try.ntmps25
    go_wp2_with fail
    go_ret
    exact ⟨rfl, rfl⟩
set_option maxRecDepth 100000 in
theorem spec_InputsOk (A : Option Addr) (n c : Nat) (I : List (List Int)) (b : Bool) (hb : decide (insOk I) = b) (w : World) (hz : Rows w.heap.size w A I) (hl : I.length = n) (hn : n ≤ 1000000000000) :
    Calls Try.prog 37 #[.slice A n c] w fun e w' => e = .returned (.bool b) ∧ w = w' := by
  have Hl := Lib.hid hl
  have Hb := Lib.hid hb
  clear hl hb
  go_enter Try.func37, Try.ntmps37
  go_wp2_with fail
  go_loop [3] (fun i => ∃ k : Nat, k ≤ n ∧ i = .int .i64 k ∧ Hid (∀ j, j < k → rowOk (I.getD j []))) (fun i => n - (intOf i).toNat)
  case atStart => exact ⟨0, Nat.zero_le _, rfl, fun _ h => by omega⟩
  case round =>
    obtain ⟨k, hk, rfl, hne⟩ := hrel
    by_cases hlt : k < n
    · obtain ⟨g, o, Aj, cj, rfl, _, c0, r0⟩ := hz.at_ (j := k) (by rw [Hl.out]; exact hlt)
      have Hno : Hid (¬ rowOk (I.getD k []) → b = false) := fun e => by
        rw [← Hb.out]
        exact decide_eq_false (fun h => rows_no (by rw [Hl.out]; exact hlt) e h.2)
      have Hnx : Hid (rowOk (I.getD k []) → ∀ j, j < k + 1 → rowOk (I.getD j [])) := fun e j hj => by
        rcases Nat.lt_or_ge j k with h | h
        · exact hne.out j h
        · obtain rfl : j = k := by omega
          exact e
      generalize I.getD k [] = y at c0 Hno Hnx r0
      have i0 := r0.ints (Nat.le_refl _)
      obtain ⟨m, hm⟩ : ∃ m, y.length = m := ⟨_, rfl⟩
      rw [hm] at c0
      have k0 : (0 : Int) ≤ k := by omega
      have k1 : (k : Int) < n := by omega
      clear hz r0
      by_cases h4 : m = 4
      · subst h4
        by_cases hxy : all4 y
        · have Hn := Lib.hid (Hnx.out ⟨hm, hxy⟩)
          have cN := spec_l12All Aj 4 cj y true (decide_eq_true hxy) w i0 hm (by omega)
          clear Hnx Hno hxy hm i0
          go_wp2_with fail
          refine cN.mono ?_
          rintro e w1 ⟨rfl, rfl⟩
          go_wp2_with fail
          go_round
          case rel => exact ⟨k + 1, by omega, by go_num, Hn.out⟩
          case measure => simp [intOf]; omega
        · have Hy := Lib.hid (Hno.out (fun h => hxy h.2))
          have cN := spec_l12All Aj 4 cj y false (decide_eq_false hxy) w i0 hm (by omega)
          clear Hnx Hno hxy hm i0
          go_wp2_with fail
          refine cN.mono ?_
          rintro e w1 ⟨rfl, rfl⟩
          go_wp2_with fail
          go_ret
          exact ⟨ret_bool Hy.out.symm, rfl⟩
      · have Hy := Lib.hid (Hno.out (fun h => h4 (by rw [← hm]; exact h.1)))
        have hne4 : ((m : Int) == 4) = false := beq_eq_false_iff_ne.2 (by omega)
        clear Hnx Hno hm i0
        go_wp2_with fail
        go_ret
        exact ⟨ret_bool Hy.out.symm, rfl⟩
    · obtain rfl : k = n := by omega
      have Hall : Hid (((k : Int) == 5) = b) := by
        have hr : ∀ r ∈ I, rowOk r := rows_of (fun j hj => hne.out j (by rw [← Hl.out]; exact hj))
        by_cases h5 : k = 5
        · subst h5
          exact (by rw [← Hb.out, decide_eq_true (show insOk I from ⟨Hl.out, hr⟩)]; rfl)
        · exact (by rw [← Hb.out, decide_eq_false (fun h : insOk I => h5 (by rw [← Hl.out]; exact h.1))]; exact beq_eq_false_iff_ne.2 (by omega))
      clear hz hne
      go_wp2_with fail
      go_ret
      exact ⟨ret_bool Hall.out, rfl⟩
end Go.Proofs.Ytlaidjibcpfnjaa

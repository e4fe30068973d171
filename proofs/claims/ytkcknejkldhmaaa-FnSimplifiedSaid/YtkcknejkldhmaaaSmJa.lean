/- Simplification, the program's: exclusive or, and; a gate whose operands are new wires. No condition. -/
import Derived.Test.YtkcknejkldhmaaaProg
import Derived.Test.YtkcknejkldhmaaaSmIa
namespace Go.Proofs.Ytkcknejkldhmaaa
open Go Go.RowKit
/-- The rules for two operands, in the program's order. -/
theorem ord_min (z : List Int) (k : Int) (hk : k = 3 ∨ k = 4) (i j : Nat) : ordG z k i j = gateG z k ((min i j : Nat) : Int) ((max i j : Nat) : Int) := by
  unfold ordG
  by_cases h : j < i
  · rw [if_pos ⟨by omega, hk⟩, Nat.min_eq_right (by omega), Nat.max_eq_left (by omega)]
  · rw [if_neg (by omega), Nat.min_eq_left (by omega), Nat.max_eq_right (by omega)]
theorem valG_yes {z : List Int} {i : Nat} (h : gk z i = 2) : valG z i = ga z i := by unfold valG; rw [Int.toNat_natCast, if_pos h]
theorem valG_no {z : List Int} {i : Nat} (h : ¬ gk z i = 2) : valG z i = -1 := by unfold valG; rw [Int.toNat_natCast, if_neg h]
section
variable {z : List Int} {n i j : Nat}
theorem const_bit (hg : gatesOk z n) (hi : i < n) (h : gk z i = 2) : (ga z i = 0 ∨ ga z i = 1) ∧ gb z i = 0 := by
  have := hg i hi
  unfold gateOk at this
  omega
theorem xor_same : xorG z i i = ordG z 2 0 0 := by unfold xorG; rw [if_pos rfl]
theorem xor_fst (hne : i ≠ j) (hg : gatesOk z n) (hi : i < n) (h : gk z i = 2) : xorG z i j = if ga z i = 0 then (z, (j : Int)) else notG z j := by
  unfold xorG
  rw [if_neg (by omega), valG_yes h]
  by_cases h0 : ga z i = 0
  · rw [if_pos h0, if_pos h0]
  · rw [if_neg h0, if_neg h0, if_pos ((const_bit hg hi h).1.resolve_left h0)]
theorem xor_snd (hne : i ≠ j) (hg : gatesOk z n) (hj : j < n) (h : ¬ gk z i = 2) (h2 : gk z j = 2) : xorG z i j = if ga z j = 0 then (z, (i : Int)) else notG z i := by
  unfold xorG
  rw [if_neg (by omega), valG_no h, if_neg (by omega), if_neg (by omega), valG_yes h2]
  by_cases h0 : ga z j = 0
  · rw [if_pos h0, if_pos h0]
  · rw [if_neg h0, if_neg h0, if_pos ((const_bit hg hj h2).1.resolve_left h0)]
theorem xor_none (hne : i ≠ j) (h : ¬ gk z i = 2) (h2 : ¬ gk z j = 2) : xorG z i j = gateG z 3 ((min i j : Nat) : Int) ((max i j : Nat) : Int) := by
  unfold xorG
  rw [if_neg (by omega), valG_no h, if_neg (by omega), if_neg (by omega), valG_no h2, if_neg (by omega), if_neg (by omega), ord_min z 3 (.inl rfl)]
theorem zero_once (hz : z.length = n * 3) (hg : gatesOk z n) (ho : once z n) (hi : i < n) (h : gk z i = 2) (h0 : ga z i = 0) : ordG z 2 0 0 = (z, (i : Int)) := by
  have hb := (const_bit hg hi h).2
  have e : findG z 2 0 0 n = i := findG_is hi ⟨h, h0, hb⟩ (fun t ht => by
    have := ho t i ht hi
    rw [h, h0, hb] at this
    exact this)
  unfold ordG gateG
  rw [if_neg (by omega), show z.length / 3 = n by omega, e, if_pos hi]
theorem and_same : andG z i i = (z, (i : Int)) := by unfold andG; rw [if_pos rfl]
theorem and_fst (hne : i ≠ j) (hz : z.length = n * 3) (hg : gatesOk z n) (ho : once z n) (hi : i < n) (h : gk z i = 2) : andG z i j = if ga z i = 0 then (z, (i : Int)) else (z, (j : Int)) := by
  unfold andG
  rw [if_neg (by omega), valG_yes h]
  by_cases h0 : ga z i = 0
  · rw [if_pos h0, if_pos h0]
    exact zero_once hz hg ho hi h h0
  · rw [if_neg h0, if_neg h0, if_pos ((const_bit hg hi h).1.resolve_left h0)]
theorem and_snd (hne : i ≠ j) (hz : z.length = n * 3) (hg : gatesOk z n) (ho : once z n) (hj : j < n) (h : ¬ gk z i = 2) (h2 : gk z j = 2) : andG z i j = if ga z j = 0 then (z, (j : Int)) else (z, (i : Int)) := by
  unfold andG
  rw [if_neg (by omega), valG_no h, if_neg (by omega), if_neg (by omega), valG_yes h2]
  by_cases h0 : ga z j = 0
  · rw [if_pos h0, if_pos h0]
    exact zero_once hz hg ho hj h2 h0
  · rw [if_neg h0, if_neg h0, if_pos ((const_bit hg hj h2).1.resolve_left h0)]
theorem and_none (hne : i ≠ j) (h : ¬ gk z i = 2) (h2 : ¬ gk z j = 2) : andG z i j = gateG z 4 ((min i j : Nat) : Int) ((max i j : Nat) : Int) := by
  unfold andG
  rw [if_neg (by omega), valG_no h, if_neg (by omega), if_neg (by omega), valG_no h2, if_neg (by omega), if_neg (by omega), ord_min z 4 (.inr rfl)]
end
/-- Both operands, in which order. -/
theorem impl_constantFirst (B g mb n : Nat) (v : Value) (z : List Int) (i j : Nat) (w : World) (h : Sp B g mb n w v z) (hi : i < n) (hj : j < n) (r s : Nat) (hr : (r, s) = if gk z j = 2 ∧ ¬ gk z i = 2 then (j, i) else (i, j)) :
    Calls Try.prog 149 #[.pointer (some ⟨g, 0, none⟩), .int .i64 (i : Int), .int .i64 (j : Int)] w fun e w' => e = .returned (.tuple #[.int .i64 (r : Int), .int .i64 (s : Int)]) ∧ w' = w := by
  have ci := impl_isConstant B g mb n v z i w h hi
  have cj := impl_isConstant B g mb n v z j w h hj
  clear h
  by_cases h2 : gk z j = 2
  · rw [beq_iff_eq.2 h2] at cj
    by_cases h1 : gk z i = 2
    · rw [beq_iff_eq.2 h1] at ci
      rw [if_neg (by omega)] at hr
      injection hr with e1 e2
      subst e1 e2
      clear h1 h2
      go_enter Try.func149, Try.ntmps149
      go_wp2_with fail
      refine cj.mono ?_
      rintro e w1 ⟨rfl, rfl⟩
      go_wp2_with fail
      refine ci.mono ?_
      rintro e w2 ⟨rfl, rfl⟩
      go_wp2_with fail
      go_ret2
      exact ⟨rfl, rfl⟩
    · rw [beq_eq_false_iff_ne.2 h1] at ci
      rw [if_pos ⟨h2, h1⟩] at hr
      injection hr with e1 e2
      subst e1 e2
      clear h1 h2
      go_enter Try.func149, Try.ntmps149
      go_wp2_with fail
      refine cj.mono ?_
      rintro e w1 ⟨rfl, rfl⟩
      go_wp2_with fail
      refine ci.mono ?_
      rintro e w2 ⟨rfl, rfl⟩
      go_wp2_with fail
      go_ret2
      exact ⟨rfl, rfl⟩
  · rw [beq_eq_false_iff_ne.2 h2] at cj
    rw [if_neg (by omega)] at hr
    injection hr with e1 e2
    subst e1 e2
    clear h2 ci
    go_enter Try.func149, Try.ntmps149
    go_wp2_with fail
    refine cj.mono ?_
    rintro e w1 ⟨rfl, rfl⟩
    go_wp2_with fail
    go_ret2
    exact ⟨rfl, rfl⟩
set_option maxRecDepth 100000 in
set_option maxHeartbeats 1000000 in
theorem impl_sxor_ne (B g mb n : Nat) (v : Value) (z : List Int) (i j r s : Nat) (hne : i ≠ j) (hi : i < n) (hj : j < n) (hrs : (r, s) = if gk z j = 2 ∧ ¬ gk z i = 2 then (j, i) else (i, j)) (w : World) (h : Sp B g mb n w v z) (hB : B ≤ w.heap.size) (hn : n ≤ 900000)
    (E1 : gk z r = 2 → xorG z i j = if ga z r = 0 then (z, (s : Int)) else notG z s) (E2 : ¬ gk z r = 2 → xorG z i j = gateG z 3 ((min r s : Nat) : Int) ((max r s : Nat) : Int)) :
    Calls Try.prog 116 #[.pointer (some ⟨g, 0, none⟩), .int .i64 (i : Int), .int .i64 (j : Int)] w (PutK B g mb n (xorG z i j) v w) := by
  have cF := impl_constantFirst B g mb n v z i j w h hi hj r s hrs
  have hr : r < n ∧ s < n := by
    split at hrs
    · injection hrs with e1 e2; omega
    · injection hrs with e1 e2; omega
  have cR := impl_isConstant B g mb n v z r w h hr.1
  have en : ((i : Int) == (j : Int)) = false := beq_eq_false_iff_ne.2 (by omega)
  have r0 : (0 : Int) ≤ r := by omega
  have r1 : (r : Int) < n := by omega
  obtain ⟨hr1, hr2⟩ := hr
  clear hi hj
  by_cases h2 : gk z r = 2
  · have E := Lib.hid (E1 h2)
    rw [beq_iff_eq.2 h2] at cR
    obtain ⟨q, c, hv, -, c1, -⟩ := h.cir.gate hr1
    have g0 := h.gates
    rw [hv] at g0
    by_cases h0 : ga z r = 0
    · have e0 : (ga z r == 0) = true := beq_iff_eq.2 h0
      have E' := Lib.hid (E.out.trans (if_pos h0))
      have H := Lib.hid h
      generalize ga z r = a at *
      clear E E1 E2 h h0 h2 hv hrs
      go_enter Try.func116, Try.ntmps116
      go_wp2_with fail
      refine cF.mono ?_
      rintro e w1 ⟨rfl, rfl⟩
      go_wp2_with fail
      refine cR.mono ?_
      rintro e w2 ⟨rfl, rfl⟩
      go_wp2_with fail
      go_ret
      exact ⟨v, n, ret_int (by rw [E'.out]), Nat.le_refl _, by omega, by rw [E'.out]; exact H.out, Tm.refl _ _ _ _⟩
    · have e0 : (ga z r == 0) = false := beq_eq_false_iff_ne.2 h0
      have E' := Lib.hid (E.out.trans (if_neg h0))
      have H := Lib.hid h
      have cN := impl_negation B g mb n v z s hr2 w h hB hn
      generalize ga z r = a at *
      clear E E1 E2 h h0 h2 hv hrs
      go_enter Try.func116, Try.ntmps116
      go_wp2_with fail
      refine cF.mono ?_
      rintro e w1 ⟨rfl, rfl⟩
      go_wp2_with fail
      refine cR.mono ?_
      rintro e w2 ⟨rfl, rfl⟩
      go_wp2_with fail
      refine cN.mono ?_
      rintro e w3 ⟨v', n', rfl, p1, p2, p3, p4⟩
      have H3 := Lib.hid p3
      have T3 := Lib.hid p4
      clear p3 p4 cN
      go_wp2_with fail
      go_ret
      exact ⟨v', n', ret_int (by rw [E'.out]), p1, p2, by rw [E'.out]; exact H3.out, T3.out⟩
  · have E := Lib.hid (E2 h2)
    rw [beq_eq_false_iff_ne.2 h2] at cR
    have cW := impl_wireOf B g mb n v z 3 ((min r s : Nat) : Int) ((max r s : Nat) : Int) w h hB hn (.inr (.inr (.inl ⟨.inl rfl, ⟨by omega, by omega⟩, by omega, by omega⟩)))
    clear E1 E2 h h2
    have hsr : r ≠ s := by
      split at hrs
      · injection hrs with e1 e2; omega
      · injection hrs with e1 e2; omega
    clear hrs
    rcases Nat.lt_or_ge s r with hlt | hge
    · rw [Nat.min_eq_right (by omega), Nat.max_eq_left (by omega)] at cW E
      have d1 : (s : Int) < (r : Int) := by omega
      have d2 : ¬ (r : Int) < (s : Int) := by omega
      clear hlt hsr
      go_enter Try.func116, Try.ntmps116
      go_wp2_with fail
      refine cF.mono ?_
      rintro e w1 ⟨rfl, rfl⟩
      go_wp2_with fail
      refine cR.mono ?_
      rintro e w2 ⟨rfl, rfl⟩
      go_wp2_with fail
      refine cW.mono ?_
      rintro e w3 ⟨v', n', rfl, p1, p2, p3, p4⟩
      have H3 := Lib.hid p3
      have T3 := Lib.hid p4
      clear p3 p4 cW
      go_wp2_with fail
      go_ret
      exact ⟨v', n', ret_int (by rw [E.out]), p1, p2, by rw [E.out]; exact H3.out, T3.out⟩
    · rw [Nat.min_eq_left (by omega), Nat.max_eq_right (by omega)] at cW E
      have d1 : (r : Int) < (s : Int) := by omega
      have d2 : ¬ (s : Int) < (r : Int) := by omega
      clear hge hsr
      go_enter Try.func116, Try.ntmps116
      go_wp2_with fail
      refine cF.mono ?_
      rintro e w1 ⟨rfl, rfl⟩
      go_wp2_with fail
      refine cR.mono ?_
      rintro e w2 ⟨rfl, rfl⟩
      go_wp2_with fail
      refine cW.mono ?_
      rintro e w3 ⟨v', n', rfl, p1, p2, p3, p4⟩
      have H3 := Lib.hid p3
      have T3 := Lib.hid p4
      clear p3 p4 cW
      go_wp2_with fail
      go_ret
      exact ⟨v', n', ret_int (by rw [E.out]), p1, p2, by rw [E.out]; exact H3.out, T3.out⟩
set_option maxRecDepth 100000 in
set_option maxHeartbeats 1000000 in
theorem impl_sand_ne (B g mb n : Nat) (v : Value) (z : List Int) (i j r s : Nat) (hne : i ≠ j) (hi : i < n) (hj : j < n) (hrs : (r, s) = if gk z j = 2 ∧ ¬ gk z i = 2 then (j, i) else (i, j)) (w : World) (h : Sp B g mb n w v z) (hB : B ≤ w.heap.size) (hn : n ≤ 900000)
    (E1 : gk z r = 2 → andG z i j = if ga z r = 0 then (z, (r : Int)) else (z, (s : Int))) (E2 : ¬ gk z r = 2 → andG z i j = gateG z 4 ((min r s : Nat) : Int) ((max r s : Nat) : Int)) :
    Calls Try.prog 117 #[.pointer (some ⟨g, 0, none⟩), .int .i64 (i : Int), .int .i64 (j : Int)] w (PutK B g mb n (andG z i j) v w) := by
  have cF := impl_constantFirst B g mb n v z i j w h hi hj r s hrs
  have hr : r < n ∧ s < n := by
    split at hrs
    · injection hrs with e1 e2; omega
    · injection hrs with e1 e2; omega
  have cR := impl_isConstant B g mb n v z r w h hr.1
  have en : ((i : Int) == (j : Int)) = false := beq_eq_false_iff_ne.2 (by omega)
  have r0 : (0 : Int) ≤ r := by omega
  have r1 : (r : Int) < n := by omega
  obtain ⟨hr1, hr2⟩ := hr
  clear hi hj
  by_cases h2 : gk z r = 2
  · have E := Lib.hid (E1 h2)
    rw [beq_iff_eq.2 h2] at cR
    obtain ⟨q, c, hv, -, c1, -⟩ := h.cir.gate hr1
    have g0 := h.gates
    rw [hv] at g0
    by_cases h0 : ga z r = 0
    · have e0 : (ga z r == 0) = true := beq_iff_eq.2 h0
      have E' := Lib.hid (E.out.trans (if_pos h0))
      have H := Lib.hid h
      generalize ga z r = a at *
      clear E E1 E2 h h0 h2 hv hrs
      go_enter Try.func117, Try.ntmps117
      go_wp2_with fail
      refine cF.mono ?_
      rintro e w1 ⟨rfl, rfl⟩
      go_wp2_with fail
      refine cR.mono ?_
      rintro e w2 ⟨rfl, rfl⟩
      go_wp2_with fail
      go_ret
      exact ⟨v, n, ret_int (by rw [E'.out]), Nat.le_refl _, by omega, by rw [E'.out]; exact H.out, Tm.refl _ _ _ _⟩
    · have e0 : (ga z r == 0) = false := beq_eq_false_iff_ne.2 h0
      have E' := Lib.hid (E.out.trans (if_neg h0))
      have H := Lib.hid h
      have cN := True.intro
      generalize ga z r = a at *
      clear E E1 E2 h h0 h2 hv hrs
      go_enter Try.func117, Try.ntmps117
      go_wp2_with fail
      refine cF.mono ?_
      rintro e w1 ⟨rfl, rfl⟩
      go_wp2_with fail
      refine cR.mono ?_
      rintro e w2 ⟨rfl, rfl⟩
      go_wp2_with fail
      clear cN
      go_ret
      exact ⟨v, n, ret_int (by rw [E'.out]), Nat.le_refl _, by omega, by rw [E'.out]; exact H.out, Tm.refl _ _ _ _⟩
  · have E := Lib.hid (E2 h2)
    rw [beq_eq_false_iff_ne.2 h2] at cR
    have cW := impl_wireOf B g mb n v z 4 ((min r s : Nat) : Int) ((max r s : Nat) : Int) w h hB hn (.inr (.inr (.inl ⟨.inr rfl, ⟨by omega, by omega⟩, by omega, by omega⟩)))
    clear E1 E2 h h2
    have hsr : r ≠ s := by
      split at hrs
      · injection hrs with e1 e2; omega
      · injection hrs with e1 e2; omega
    clear hrs
    rcases Nat.lt_or_ge s r with hlt | hge
    · rw [Nat.min_eq_right (by omega), Nat.max_eq_left (by omega)] at cW E
      have d1 : (s : Int) < (r : Int) := by omega
      have d2 : ¬ (r : Int) < (s : Int) := by omega
      clear hlt hsr
      go_enter Try.func117, Try.ntmps117
      go_wp2_with fail
      refine cF.mono ?_
      rintro e w1 ⟨rfl, rfl⟩
      go_wp2_with fail
      refine cR.mono ?_
      rintro e w2 ⟨rfl, rfl⟩
      go_wp2_with fail
      refine cW.mono ?_
      rintro e w3 ⟨v', n', rfl, p1, p2, p3, p4⟩
      have H3 := Lib.hid p3
      have T3 := Lib.hid p4
      clear p3 p4 cW
      go_wp2_with fail
      go_ret
      exact ⟨v', n', ret_int (by rw [E.out]), p1, p2, by rw [E.out]; exact H3.out, T3.out⟩
    · rw [Nat.min_eq_left (by omega), Nat.max_eq_right (by omega)] at cW E
      have d1 : (r : Int) < (s : Int) := by omega
      have d2 : ¬ (s : Int) < (r : Int) := by omega
      clear hge hsr
      go_enter Try.func117, Try.ntmps117
      go_wp2_with fail
      refine cF.mono ?_
      rintro e w1 ⟨rfl, rfl⟩
      go_wp2_with fail
      refine cR.mono ?_
      rintro e w2 ⟨rfl, rfl⟩
      go_wp2_with fail
      refine cW.mono ?_
      rintro e w3 ⟨v', n', rfl, p1, p2, p3, p4⟩
      have H3 := Lib.hid p3
      have T3 := Lib.hid p4
      clear p3 p4 cW
      go_wp2_with fail
      go_ret
      exact ⟨v', n', ret_int (by rw [E.out]), p1, p2, by rw [E.out]; exact H3.out, T3.out⟩
end Go.Proofs.Ytkcknejkldhmaaa

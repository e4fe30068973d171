/- Simplification, the program's: a gate whose operands are new wires; operands replaced. No condition. -/
import Derived.Test.YtkcknejkldhmaaaProg
import Derived.Test.YtkcknejkldhmaaaSmJa
namespace Go.Proofs.Ytkcknejkldhmaaa
open Go Go.RowKit
/-- A gate whose operands are new wires. -/
def addG (z : List Int) (k a b : Int) : List Int × Int := if k = 3 then xorG z a b else if k = 4 then andG z a b else if k = 5 then notG z a else ordG z k a b
def rewA (ts : List Int) (k a : Int) : Int := if one1 k then ts.getD a.toNat 0 else a
def rewB (ts : List Int) (k b : Int) : Int := if two k then ts.getD b.toNat 0 else b
theorem simG_add (y ts : List Int) (k a b : Int) : simG y ts k a b = addG y k (rewA ts k a) (rewB ts k b) := by
  unfold simG addG rewA rewB one1 two
  by_cases h3 : k = 3
  · subst h3; simp
  · by_cases h4 : k = 4
    · subst h4; simp
    · by_cases h5 : k = 5
      · subst h5; simp
      · simp [h3, h4, h5]
set_option maxRecDepth 100000 in
theorem impl_sxor (B g mb n : Nat) (v : Value) (z : List Int) (i j : Nat) (hi : i < n) (hj : j < n) (w : World) (h : Sp B g mb n w v z) (hB : B ≤ w.heap.size) (hn : n ≤ 900000) :
    Calls Try.prog 116 #[.pointer (some ⟨g, 0, none⟩), .int .i64 (i : Int), .int .i64 (j : Int)] w (PutK B g mb n (xorG z i j) v w) := by
  by_cases hne : i = j
  · subst hne
    have cC := impl_sconstant B g mb n v z 0 (by unfold isBit; omega) w h hB hn
    rw [← xor_same (i := i)] at cC
    clear h hj
    go_enter Try.func116, Try.ntmps116
    go_wp2_with fail
    refine cC.mono ?_
    rintro e w1 ⟨v', n', rfl, h1, h2, h3, h4⟩
    have H := Lib.hid h3
    have T := Lib.hid h4
    clear h3 h4 cC
    go_wp2_with fail
    go_ret
    exact ⟨v', n', rfl, h1, h2, H.out, T.out⟩
  by_cases hs : gk z j = 2 ∧ ¬ gk z i = 2
  · exact impl_sxor_ne B g mb n v z i j j i hne hi hj (by rw [if_pos hs]) w h hB hn (fun _ => xor_snd hne h.ok hj hs.2 hs.1) (fun e => absurd hs.1 e)
  · refine impl_sxor_ne B g mb n v z i j i j hne hi hj (by rw [if_neg hs]) w h hB hn (fun e => xor_fst hne h.ok hi e) (fun e => xor_none hne e (fun e2 => hs ⟨e2, e⟩))
set_option maxRecDepth 100000 in
theorem impl_sand (B g mb n : Nat) (v : Value) (z : List Int) (i j : Nat) (hi : i < n) (hj : j < n) (w : World) (h : Sp B g mb n w v z) (hB : B ≤ w.heap.size) (hn : n ≤ 900000) :
    Calls Try.prog 117 #[.pointer (some ⟨g, 0, none⟩), .int .i64 (i : Int), .int .i64 (j : Int)] w (PutK B g mb n (andG z i j) v w) := by
  have hz := h.len
  by_cases hne : i = j
  · subst hne
    have E := Lib.hid (and_same (z := z) (i := i))
    have H := Lib.hid h
    clear h hj
    go_enter Try.func117, Try.ntmps117
    go_wp2_with fail
    go_ret
    exact ⟨v, n, ret_int (by rw [E.out]), Nat.le_refl _, by omega, by rw [E.out]; exact H.out, Tm.refl _ _ _ _⟩
  by_cases hs : gk z j = 2 ∧ ¬ gk z i = 2
  · exact impl_sand_ne B g mb n v z i j j i hne hi hj (by rw [if_pos hs]) w h hB hn (fun _ => and_snd hne hz h.ok h.one hj hs.2 hs.1) (fun e => absurd hs.1 e)
  · refine impl_sand_ne B g mb n v z i j i j hne hi hj (by rw [if_neg hs]) w h hB hn (fun e => and_fst hne hz h.ok h.one hi e) (fun e => and_none hne e (fun e2 => hs ⟨e2, e⟩))
set_option maxRecDepth 100000 in
set_option maxHeartbeats 1000000 in
theorem impl_sadd (B g mb n : Nat) (v : Value) (z : List Int) (k a b : Int) (ok : gateOk k a b n) (w : World) (h : Sp B g mb n w v z) (hB : B ≤ w.heap.size) (hn : n ≤ 900000) :
    Calls Try.prog 64 #[.pointer (some ⟨g, 0, none⟩), .agg #[.int .i64 k, .int .i64 a, .int .i64 b]] w (PutK B g mb n (addG z k a b) v w) := by
  have al := below_alloc w (.cells #[.int .i64 k, .int .i64 a, .int .i64 b] 40)
  have b0 := heap_alloc_new w (.cells #[.int .i64 k, .int .i64 a, .int .i64 b] 40)
  have h0 := h.below al
  have t0 := (Tm.refl g mb v w).below al
  have hB0 : B ≤ (w.alloc (.cells #[.int .i64 k, .int .i64 a, .int .i64 b] 40)).heap.size := by simp; omega
  have T := Lib.hid t0
  clear h t0 al
  by_cases h3 : k = 3
  · subst h3
    obtain ⟨i, rfl⟩ : ∃ i : Nat, a = i := Int.eq_ofNat_of_zero_le (by unfold gateOk at ok; omega)
    obtain ⟨j, rfl⟩ : ∃ j : Nat, b = j := Int.eq_ofNat_of_zero_le (by unfold gateOk at ok; omega)
    have cC := impl_sxor B g mb n v z i j (by unfold gateOk at ok; omega) (by unfold gateOk at ok; omega) _ h0 hB0 hn
    have E := Lib.hid (show addG z 3 i j = xorG z i j from if_pos rfl)
    clear ok h0
    go_enter Try.func64, Try.ntmps64
    go_wp2_with fail
    refine cC.mono ?_
    rintro e w1 ⟨v', n', rfl, h1, h2, h3, h4⟩
    have H3 := Lib.hid h3
    have T3 := Lib.hid (T.out.trans h4)
    clear h3 h4 cC
    go_wp2_with fail
    go_ret
    exact ⟨v', n', ret_int (by rw [E.out]), h1, h2, by rw [E.out]; exact H3.out, T3.out⟩
  by_cases h4 : k = 4
  · subst h4
    obtain ⟨i, rfl⟩ : ∃ i : Nat, a = i := Int.eq_ofNat_of_zero_le (by unfold gateOk at ok; omega)
    obtain ⟨j, rfl⟩ : ∃ j : Nat, b = j := Int.eq_ofNat_of_zero_le (by unfold gateOk at ok; omega)
    have cC := impl_sand B g mb n v z i j (by unfold gateOk at ok; omega) (by unfold gateOk at ok; omega) _ h0 hB0 hn
    have E := Lib.hid (show addG z 4 i j = andG z i j from (if_neg (by omega)).trans (if_pos rfl))
    clear ok h0 h3
    go_enter Try.func64, Try.ntmps64
    go_wp2_with fail
    refine cC.mono ?_
    rintro e w1 ⟨v', n', rfl, h1, h2, h3, h4⟩
    have H3 := Lib.hid h3
    have T3 := Lib.hid (T.out.trans h4)
    clear h3 h4 cC
    go_wp2_with fail
    go_ret
    exact ⟨v', n', ret_int (by rw [E.out]), h1, h2, by rw [E.out]; exact H3.out, T3.out⟩
  by_cases h5 : k = 5
  · subst h5
    obtain ⟨i, rfl⟩ : ∃ i : Nat, a = i := Int.eq_ofNat_of_zero_le (by unfold gateOk at ok; omega)
    have cC := impl_negation B g mb n v z i (by unfold gateOk at ok; omega) _ h0 hB0 hn
    have E := Lib.hid (show addG z 5 i b = notG z i from (if_neg (by omega)).trans ((if_neg (by omega)).trans (if_pos rfl)))
    clear ok h0 h3 h4
    go_enter Try.func64, Try.ntmps64
    go_wp2_with fail
    refine cC.mono ?_
    rintro e w1 ⟨v', n', rfl, h1, h2, h3, h4⟩
    have H3 := Lib.hid h3
    have T3 := Lib.hid (T.out.trans h4)
    clear h3 h4 cC
    go_wp2_with fail
    go_ret
    exact ⟨v', n', ret_int (by rw [E.out]), h1, h2, by rw [E.out]; exact H3.out, T3.out⟩
  have cC := impl_wireOf B g mb n v z k a b _ h0 hB0 hn ok
  have E := Lib.hid (show addG z k a b = gateG z k a b from (if_neg h3).trans ((if_neg h4).trans ((if_neg h5).trans (by unfold ordG; rw [if_neg (by omega)]))))
  have e3 : (k == 3) = false := beq_eq_false_iff_ne.2 h3
  have e4 : (k == 4) = false := beq_eq_false_iff_ne.2 h4
  have e5 : (k == 5) = false := beq_eq_false_iff_ne.2 h5
  clear ok h0 h3 h4 h5
  go_enter Try.func64, Try.ntmps64
  go_wp2_with fail
  refine cC.mono ?_
  rintro e w1 ⟨v', n', rfl, h1, h2, h3, h4⟩
  have H3 := Lib.hid h3
  have T3 := Lib.hid (T.out.trans h4)
  clear h3 h4 cC
  go_wp2_with fail
  go_ret
  exact ⟨v', n', ret_int (by rw [E.out]), h1, h2, by rw [E.out]; exact H3.out, T3.out⟩
end Go.Proofs.Ytkcknejkldhmaaa

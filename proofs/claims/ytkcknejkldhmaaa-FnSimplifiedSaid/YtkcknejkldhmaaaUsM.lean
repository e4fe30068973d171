/- Pruning in plain numbers: how often each wire is used by the gates before it is known which are needed. No condition. -/
import Derived.Test.YtkcknejkldhmaaaProg
import Derived.Test.YtkcknejkldhmaaaSmQ
import Derived.Test.YtkcknejkldhmaaaCirE
namespace Go.Proofs.Ytkcknejkldhmaaa
open Go Go.RowKit
/-- The wires that gate j uses. -/
def opsG (z : List Int) (j : Nat) : List Int := opsL (gk z j) (ga z j) (gb z j)
theorem opnd_ops {z : List Int} {j i : Nat} : opnd z j i ↔ (i : Int) ∈ opsG z j := by
  unfold opnd opsG opsL one1 two
  generalize gk z j = k
  generalize ga z j = a
  generalize gb z j = b
  split
  · rename_i h
    simp only [List.mem_cons, List.not_mem_nil, or_false]
    omega
  · split
    · simp only [List.mem_cons, List.not_mem_nil, or_false]
      omega
    · simp only [List.not_mem_nil, iff_false]
      omega
theorem opsG_length (z : List Int) (j : Nat) : (opsG z j).length ≤ 2 := by
  unfold opsG opsL
  split
  · simp
  · split <;> simp
theorem opsG_lt {z : List Int} {n : Nat} (hg : gatesOk z n) {j : Nat} (hj : j < n) {x : Int} (hx : x ∈ opsG z j) : 0 ≤ x ∧ x < (j : Int) := by
  have ok := hg j hj
  unfold gateOk at ok
  unfold opsG opsL at hx
  split at hx
  · simp only [List.mem_cons, List.not_mem_nil, or_false] at hx
    omega
  · split at hx
    · simp only [List.mem_cons, List.not_mem_nil, or_false] at hx
      omega
    · simp at hx
/-- How often the first m gates use wire i. -/
def smN (z : List Int) (i : Nat) : Nat → Nat
  | 0 => 0
  | j + 1 => smN z i j + (opsG z j).count (i : Int)
/-- The same, of the gates from t on those only that are needed. -/
def usN (z : List Int) (L : List Bool) (t i : Nat) : Nat → Nat
  | 0 => 0
  | j + 1 => usN z L t i j + if j < t ∨ fl L j = true then (opsG z j).count (i : Int) else 0
section
variable {z os : List Int} {L : List Bool} {n t i m : Nat}
theorem ops_count_le (z : List Int) (j i : Nat) : (opsG z j).count (i : Int) ≤ 2 := Nat.le_trans List.count_le_length (opsG_length z j)
theorem smN_le (z : List Int) (i m : Nat) : smN z i m ≤ 2 * m := by
  induction m with
  | zero => simp [smN]
  | succ m ih => have := ops_count_le z m i; simp only [smN]; omega
theorem usN_le (z : List Int) (L : List Bool) (t i m : Nat) : usN z L t i m ≤ smN z i m := by
  induction m with
  | zero => simp [usN]
  | succ m ih => simp only [usN, smN]; split <;> omega
theorem usN_all (h : m ≤ t) : usN z L t i m = smN z i m := by
  induction m with
  | zero => rfl
  | succ m ih => simp only [usN, smN]; rw [ih (by omega), if_pos (.inl (by omega))]
theorem usN_step (m : Nat) : usN z L (t + 1) i m = usN z L t i m + if t < m ∧ ¬ fl L t = true then (opsG z t).count (i : Int) else 0 := by
  induction m with
  | zero => simp [usN]
  | succ m ih =>
    simp only [usN]
    rw [ih]
    by_cases hm : m = t
    · subst hm
      by_cases hf : fl L m = true
      · simp [hf]
      · simp [hf]
    · have e1 : (m < t + 1) ↔ (m < t) := by omega
      have e2 : (t < m + 1) ↔ (t < m) := by omega
      simp only [e1, e2]
      exact Nat.add_right_comm _ _ _
theorem usN_pos (m : Nat) : 0 < usN z L t i m ↔ ∃ j, j < m ∧ (j < t ∨ fl L j = true) ∧ (i : Int) ∈ opsG z j := by
  induction m with
  | zero => simp [usN]
  | succ m ih =>
    simp only [usN]
    constructor
    · intro h
      by_cases h1 : 0 < usN z L t i m
      · obtain ⟨j, h2, h3⟩ := ih.1 h1
        exact ⟨j, by omega, h3⟩
      · split at h
        · rename_i h2
          exact ⟨m, by omega, h2, List.count_pos_iff.1 (by omega)⟩
        · omega
    · rintro ⟨j, h1, h2, h3⟩
      by_cases e : j = m
      · subst e
        rw [if_pos h2]
        have := List.count_pos_iff.2 h3
        omega
      · have := ih.2 ⟨j, by omega, h2, h3⟩
        omega
theorem smN_pos (m : Nat) : 0 < smN z i m ↔ ∃ j, j < m ∧ (i : Int) ∈ opsG z j := by
  rw [← usN_all (L := []) (t := m) (Nat.le_refl m), usN_pos]
  exact ⟨fun ⟨j, h1, _, h3⟩ => ⟨j, h1, h3⟩, fun ⟨j, h1, h3⟩ => ⟨j, h1, .inl h1, h3⟩⟩
end
/-- The number that the map has for wire i when the gates from t on are decided. -/
def usC (z : List Int) (n : Nat) (os : List Int) (t i : Nat) : Int := if t ≤ i ∧ ¬ fl (lv z n os) i = true then 0 else ((os.count (i : Int) + usN z (lv z n os) t i n : Nat) : Int)
/-- Whether the map has wire i then. -/
def usF (z : List Int) (n : Nat) (os : List Int) (t i : Nat) : Bool := if t ≤ i then fl (lv z n os) i else decide (0 < os.count (i : Int) + smN z i n)
section
variable {z os : List Int} {n t i : Nat}
theorem usC_range (z os : List Int) (n t i : Nat) : 0 ≤ usC z n os t i ∧ usC z n os t i ≤ os.length + 2 * n := by
  have h1 := usN_le z (lv z n os) t i n
  have h2 := smN_le z i n
  have h3 := List.count_le_length (l := os) (a := (i : Int))
  unfold usC
  split <;> omega
theorem us_top (hi : i < n) : usC z n os n i = ((os.count (i : Int) + smN z i n : Nat) : Int) ∧ usF z n os n i = decide (0 < os.count (i : Int) + smN z i n) := by
  unfold usC usF
  rw [if_neg (by omega), if_neg (by omega), usN_all (Nat.le_refl n)]
  exact ⟨rfl, rfl⟩
theorem us_at (hc : cirOk z n os) (ht : t < n) : 0 < usC z n os (t + 1) t ↔ fl (lv z n os) t = true := by
  have hg := hc.2.1
  have e : usC z n os (t + 1) t = ((os.count (t : Int) + usN z (lv z n os) (t + 1) t n : Nat) : Int) := by
    unfold usC
    rw [if_neg (by omega)]
  rw [e]
  constructor
  · intro h
    by_cases h1 : 0 < os.count (t : Int)
    · exact lv_out hg ht (List.count_pos_iff.1 h1)
    · obtain ⟨j, h2, h3, h4⟩ := (usN_pos (z := z) (L := lv z n os) (t := t + 1) (i := t) n).1 (by omega)
      have h5 := opsG_lt hg h2 h4
      rcases h3 with h3 | h3
      · omega
      · exact lv_arg hg h2 h3 (opnd_ops.2 h4)
  · intro h
    rcases lv_why hg ht n (Nat.le_refl n) h with h1 | ⟨j, h1, h2, h3, h4⟩
    · have := List.count_pos_iff.2 h1
      omega
    · have := (usN_pos (z := z) (L := lv z n os) (t := t + 1) (i := t) n).2 ⟨j, h2, .inr h3, opnd_ops.1 h4⟩
      omega
theorem us_live (hc : cirOk z n os) (ht : t < n) (hf : fl (lv z n os) t = true) : usC z n os t i = usC z n os (t + 1) i ∧ usF z n os t i = usF z n os (t + 1) i := by
  have hs := usN_step (z := z) (L := lv z n os) (t := t) (i := i) n
  rw [if_neg (by simp [hf])] at hs
  have h0 := (us_at hc ht).2 hf
  unfold usC usF at *
  simp only [hs, Nat.add_zero]
  by_cases e : i = t
  · subst e
    rw [if_neg (by simp [hf]), if_neg (by omega), if_pos (Nat.le_refl _), if_neg (by omega), hf]
    refine ⟨rfl, ?_⟩
    rw [if_neg (by omega)] at h0
    have := usN_le z (lv z n os) (i + 1) i n
    exact (decide_eq_true (by omega)).symm
  · have e1 : (t + 1 ≤ i) ↔ (t ≤ i) := by omega
    simp only [e1, and_self]
theorem us_dead (hc : cirOk z n os) (ht : t < n) (hf : ¬ fl (lv z n os) t = true) :
    usC z n os t i = (if i = t then 0 else usC z n os (t + 1) i) - ((opsG z t).count (i : Int) : Nat) ∧ usF z n os t i = ((if i = t then false else usF z n os (t + 1) i) || decide ((i : Int) ∈ opsG z t)) := by
  have hg := hc.2.1
  have hs := usN_step (z := z) (L := lv z n os) (t := t) (i := i) n
  rw [if_pos ⟨ht, hf⟩] at hs
  have hno : ¬ i < t → (opsG z t).count (i : Int) = 0 := fun h => List.count_eq_zero.2 (fun hm => by have := opsG_lt hg ht hm; omega)
  have hmem : (i : Int) ∈ opsG z t ↔ 0 < (opsG z t).count (i : Int) := List.count_pos_iff.symm
  unfold usC usF
  by_cases e : i = t
  · subst e
    have h0 := hno (by omega)
    have hf2 : fl (lv z n os) i = false := by cases hh : fl (lv z n os) i <;> simp_all
    rw [if_pos ⟨Nat.le_refl _, hf⟩, if_pos rfl, if_pos (Nat.le_refl _), if_pos rfl, h0, hf2, decide_eq_false (by rw [hmem]; omega)]
    exact ⟨rfl, rfl⟩
  · rw [if_neg e, if_neg e]
    by_cases h1 : t ≤ i
    · have h0 := hno (by omega)
      have e1 : (t + 1 ≤ i) ↔ (t ≤ i) := by omega
      have e2 : ¬ (i : Int) ∈ opsG z t := by rw [hmem]; omega
      rw [h0] at hs
      simp only [hs, h0, e1, h1, e2, if_true, true_and, Nat.add_zero, decide_false, Bool.or_false, and_true]
      omega
    · rw [if_neg (by omega), if_neg (by omega), if_neg h1, if_neg (by omega), hs]
      refine ⟨by omega, ?_⟩
      by_cases hm : (i : Int) ∈ opsG z t
      · have := (smN_pos (z := z) (i := i) n).2 ⟨t, ht, hm⟩
        rw [decide_eq_true hm, decide_eq_true (by omega)]
        rfl
      · rw [decide_eq_false hm, Bool.or_false]
theorem us_end (z os : List Int) (n i : Nat) : usF z n os 0 i = fl (lv z n os) i := by
  unfold usF
  rw [if_pos (Nat.zero_le _)]
end
/-- How many of the first n are there. -/
def cntT (f : Nat → Bool) : Nat → Nat
  | 0 => 0
  | i + 1 => cntT f i + if f i = true then 1 else 0
theorem cntT_le (f : Nat → Bool) (n : Nat) : cntT f n ≤ n := by
  induction n with
  | zero => simp [cntT]
  | succ n ih => simp only [cntT]; split <;> omega
theorem cntT_congr {f g : Nat → Bool} {n : Nat} (h : ∀ i, i < n → f i = g i) : cntT f n = cntT g n := by
  induction n with
  | zero => rfl
  | succ n ih => simp only [cntT]; rw [ih (fun i hi => h i (by omega)), h n (by omega)]
theorem cntT_rnk (L : List Bool) (n : Nat) : cntT (fl L) n = rnk L n := by
  induction n with
  | zero => rfl
  | succ n ih => simp only [cntT, rnk]; rw [ih]
theorem cntT_set (f : Nat → Bool) (o : Nat) (x : Bool) (n : Nat) : cntT (fun i => if i = o then x else f i) n + (if o < n ∧ f o = true then 1 else 0) = cntT f n + if o < n ∧ x = true then 1 else 0 := by
  induction n with
  | zero => simp [cntT]
  | succ n ih =>
    simp only [cntT]
    by_cases e : n = o
    · subst e
      simp only [Nat.lt_irrefl, false_and, if_false, Nat.add_zero] at ih
      rw [ih]
      by_cases hf : f n = true <;> by_cases hx : x = true <;> simp [hf, hx]
    · have e1 : (o < n + 1) ↔ (o < n) := by omega
      simp only [e, if_false, e1]
      omega
/-- The map is empty. -/
theorem cntT_none (n : Nat) : cntT (fun _ => false) n = 0 := by
  induction n with
  | zero => rfl
  | succ n ih => simp [cntT, ih]
end Go.Proofs.Ytkcknejkldhmaaa

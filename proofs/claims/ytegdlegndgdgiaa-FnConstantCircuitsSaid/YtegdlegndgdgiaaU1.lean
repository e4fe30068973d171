/- Pruning in plain numbers: how often each wire is used by the gates before it is known which are needed. No condition. And what goes with it. -/
import Derived.Test.YtegdlegndgdgiaaProg
import Derived.Test.YtegdlegndgdgiaaS1
import Derived.Test.YtegdlegndgdgiaaCirE
import Derived.Maps.OwnSet
import Derived.Maps.OwnIn
namespace Go.Proofs.Ytegdlegndgdgiaa
open Go Go.RowKit
/-- The wires that gate j uses. -/
def opsG (z : List Int) (j : Nat) : List Int := opsL (gk z j) (ga z j) (gb z j)
theorem opnd_ops {z : List Int} {j i : Nat} : opnd z j i ↔ (i : Int) ∈ opsG z j := by
  unfold opnd opsG opsL one1 two
  generalize gk z j = k
  generalize ga z j = a
  generalize gb z j = b
  split
  · rename_i h
    simp only [List.mem_cons, List.not_mem_nil, or_false]
    omega
  · split
    · simp only [List.mem_cons, List.not_mem_nil, or_false]
      omega
    · simp only [List.not_mem_nil, iff_false]
      omega
theorem opsG_length (z : List Int) (j : Nat) : (opsG z j).length ≤ 2 := by
  unfold opsG opsL
  split
  · simp
  · split <;> simp
theorem opsG_lt {z : List Int} {n : Nat} (hg : gatesOk z n) {j : Nat} (hj : j < n) {x : Int} (hx : x ∈ opsG z j) : 0 ≤ x ∧ x < (j : Int) := by
  have ok := hg j hj
  unfold gateOk at ok
  unfold opsG opsL at hx
  split at hx
  · simp only [List.mem_cons, List.not_mem_nil, or_false] at hx
    omega
  · split at hx
    · simp only [List.mem_cons, List.not_mem_nil, or_false] at hx
      omega
    · simp at hx
/-- How often the first m gates use wire i. -/
def smN (z : List Int) (i : Nat) : Nat → Nat
  | 0 => 0
  | j + 1 => smN z i j + (opsG z j).count (i : Int)
/-- The same, of the gates from t on those only that are needed. -/
def usN (z : List Int) (L : List Bool) (t i : Nat) : Nat → Nat
  | 0 => 0
  | j + 1 => usN z L t i j + if j < t ∨ fl L j = true then (opsG z j).count (i : Int) else 0
section
variable {z os : List Int} {L : List Bool} {n t i m : Nat}
theorem ops_count_le (z : List Int) (j i : Nat) : (opsG z j).count (i : Int) ≤ 2 := Nat.le_trans List.count_le_length (opsG_length z j)
theorem smN_le (z : List Int) (i m : Nat) : smN z i m ≤ 2 * m := by
  induction m with
  | zero => simp [smN]
  | succ m ih => have := ops_count_le z m i; simp only [smN]; omega
theorem usN_le (z : List Int) (L : List Bool) (t i m : Nat) : usN z L t i m ≤ smN z i m := by
  induction m with
  | zero => simp [usN]
  | succ m ih => simp only [usN, smN]; split <;> omega
theorem usN_all (h : m ≤ t) : usN z L t i m = smN z i m := by
  induction m with
  | zero => rfl
  | succ m ih => simp only [usN, smN]; rw [ih (by omega), if_pos (.inl (by omega))]
theorem usN_step (m : Nat) : usN z L (t + 1) i m = usN z L t i m + if t < m ∧ ¬ fl L t = true then (opsG z t).count (i : Int) else 0 := by
  induction m with
  | zero => simp [usN]
  | succ m ih =>
    simp only [usN]
    rw [ih]
    by_cases hm : m = t
    · subst hm
      by_cases hf : fl L m = true
      · simp [hf]
      · simp [hf]
    · have e1 : (m < t + 1) ↔ (m < t) := by omega
      have e2 : (t < m + 1) ↔ (t < m) := by omega
      simp only [e1, e2]
      exact Nat.add_right_comm _ _ _
theorem usN_pos (m : Nat) : 0 < usN z L t i m ↔ ∃ j, j < m ∧ (j < t ∨ fl L j = true) ∧ (i : Int) ∈ opsG z j := by
  induction m with
  | zero => simp [usN]
  | succ m ih =>
    simp only [usN]
    constructor
    · intro h
      by_cases h1 : 0 < usN z L t i m
      · obtain ⟨j, h2, h3⟩ := ih.1 h1
        exact ⟨j, by omega, h3⟩
      · split at h
        · rename_i h2
          exact ⟨m, by omega, h2, List.count_pos_iff.1 (by omega)⟩
        · omega
    · rintro ⟨j, h1, h2, h3⟩
      by_cases e : j = m
      · subst e
        rw [if_pos h2]
        have := List.count_pos_iff.2 h3
        omega
      · have := ih.2 ⟨j, by omega, h2, h3⟩
        omega
theorem smN_pos (m : Nat) : 0 < smN z i m ↔ ∃ j, j < m ∧ (i : Int) ∈ opsG z j := by
  rw [← usN_all (L := []) (t := m) (Nat.le_refl m), usN_pos]
  exact ⟨fun ⟨j, h1, _, h3⟩ => ⟨j, h1, h3⟩, fun ⟨j, h1, h3⟩ => ⟨j, h1, .inl h1, h3⟩⟩
end
/-- The number that the map has for wire i when the gates from t on are decided. -/
def usC (z : List Int) (n : Nat) (os : List Int) (t i : Nat) : Int := if t ≤ i ∧ ¬ fl (lv z n os) i = true then 0 else ((os.count (i : Int) + usN z (lv z n os) t i n : Nat) : Int)
/-- Whether the map has wire i then. -/
def usF (z : List Int) (n : Nat) (os : List Int) (t i : Nat) : Bool := if t ≤ i then fl (lv z n os) i else decide (0 < os.count (i : Int) + smN z i n)
section
variable {z os : List Int} {n t i : Nat}
theorem usC_range (z os : List Int) (n t i : Nat) : 0 ≤ usC z n os t i ∧ usC z n os t i ≤ os.length + 2 * n := by
  have h1 := usN_le z (lv z n os) t i n
  have h2 := smN_le z i n
  have h3 := List.count_le_length (l := os) (a := (i : Int))
  unfold usC
  split <;> omega
theorem us_top (hi : i < n) : usC z n os n i = ((os.count (i : Int) + smN z i n : Nat) : Int) ∧ usF z n os n i = decide (0 < os.count (i : Int) + smN z i n) := by
  unfold usC usF
  rw [if_neg (by omega), if_neg (by omega), usN_all (Nat.le_refl n)]
  exact ⟨rfl, rfl⟩
theorem us_at (hc : cirOk z n os) (ht : t < n) : 0 < usC z n os (t + 1) t ↔ fl (lv z n os) t = true := by
  have hg := hc.2.1
  have e : usC z n os (t + 1) t = ((os.count (t : Int) + usN z (lv z n os) (t + 1) t n : Nat) : Int) := by
    unfold usC
    rw [if_neg (by omega)]
  rw [e]
  constructor
  · intro h
    by_cases h1 : 0 < os.count (t : Int)
    · exact lv_out hg ht (List.count_pos_iff.1 h1)
    · obtain ⟨j, h2, h3, h4⟩ := (usN_pos (z := z) (L := lv z n os) (t := t + 1) (i := t) n).1 (by omega)
      have h5 := opsG_lt hg h2 h4
      rcases h3 with h3 | h3
      · omega
      · exact lv_arg hg h2 h3 (opnd_ops.2 h4)
  · intro h
    rcases lv_why hg ht n (Nat.le_refl n) h with h1 | ⟨j, h1, h2, h3, h4⟩
    · have := List.count_pos_iff.2 h1
      omega
    · have := (usN_pos (z := z) (L := lv z n os) (t := t + 1) (i := t) n).2 ⟨j, h2, .inr h3, opnd_ops.1 h4⟩
      omega
theorem us_live (hc : cirOk z n os) (ht : t < n) (hf : fl (lv z n os) t = true) : usC z n os t i = usC z n os (t + 1) i ∧ usF z n os t i = usF z n os (t + 1) i := by
  have hs := usN_step (z := z) (L := lv z n os) (t := t) (i := i) n
  rw [if_neg (by simp [hf])] at hs
  have h0 := (us_at hc ht).2 hf
  unfold usC usF at *
  simp only [hs, Nat.add_zero]
  by_cases e : i = t
  · subst e
    rw [if_neg (by simp [hf]), if_neg (by omega), if_pos (Nat.le_refl _), if_neg (by omega), hf]
    refine ⟨rfl, ?_⟩
    rw [if_neg (by omega)] at h0
    have := usN_le z (lv z n os) (i + 1) i n
    exact (decide_eq_true (by omega)).symm
  · have e1 : (t + 1 ≤ i) ↔ (t ≤ i) := by omega
    simp only [e1, and_self]
theorem us_dead (hc : cirOk z n os) (ht : t < n) (hf : ¬ fl (lv z n os) t = true) :
    usC z n os t i = (if i = t then 0 else usC z n os (t + 1) i) - ((opsG z t).count (i : Int) : Nat) ∧ usF z n os t i = ((if i = t then false else usF z n os (t + 1) i) || decide ((i : Int) ∈ opsG z t)) := by
  have hg := hc.2.1
  have hs := usN_step (z := z) (L := lv z n os) (t := t) (i := i) n
  rw [if_pos ⟨ht, hf⟩] at hs
  have hno : ¬ i < t → (opsG z t).count (i : Int) = 0 := fun h => List.count_eq_zero.2 (fun hm => by have := opsG_lt hg ht hm; omega)
  have hmem : (i : Int) ∈ opsG z t ↔ 0 < (opsG z t).count (i : Int) := List.count_pos_iff.symm
  unfold usC usF
  by_cases e : i = t
  · subst e
    have h0 := hno (by omega)
    have hf2 : fl (lv z n os) i = false := by cases hh : fl (lv z n os) i <;> simp_all
    rw [if_pos ⟨Nat.le_refl _, hf⟩, if_pos rfl, if_pos (Nat.le_refl _), if_pos rfl, h0, hf2, decide_eq_false (by rw [hmem]; omega)]
    exact ⟨rfl, rfl⟩
  · rw [if_neg e, if_neg e]
    by_cases h1 : t ≤ i
    · have h0 := hno (by omega)
      have e1 : (t + 1 ≤ i) ↔ (t ≤ i) := by omega
      have e2 : ¬ (i : Int) ∈ opsG z t := by rw [hmem]; omega
      rw [h0] at hs
      simp only [hs, h0, e1, h1, e2, if_true, true_and, Nat.add_zero, decide_false, Bool.or_false, and_true]
      omega
    · rw [if_neg (by omega), if_neg (by omega), if_neg h1, if_neg (by omega), hs]
      refine ⟨by omega, ?_⟩
      by_cases hm : (i : Int) ∈ opsG z t
      · have := (smN_pos (z := z) (i := i) n).2 ⟨t, ht, hm⟩
        rw [decide_eq_true hm, decide_eq_true (by omega)]
        rfl
      · rw [decide_eq_false hm, Bool.or_false]
theorem us_end (z os : List Int) (n i : Nat) : usF z n os 0 i = fl (lv z n os) i := by
  unfold usF
  rw [if_pos (Nat.zero_le _)]
end
/-- How many of the first n are there. -/
def cntT (f : Nat → Bool) : Nat → Nat
  | 0 => 0
  | i + 1 => cntT f i + if f i = true then 1 else 0
theorem cntT_le (f : Nat → Bool) (n : Nat) : cntT f n ≤ n := by
  induction n with
  | zero => simp [cntT]
  | succ n ih => simp only [cntT]; split <;> omega
theorem cntT_congr {f g : Nat → Bool} {n : Nat} (h : ∀ i, i < n → f i = g i) : cntT f n = cntT g n := by
  induction n with
  | zero => rfl
  | succ n ih => simp only [cntT]; rw [ih (fun i hi => h i (by omega)), h n (by omega)]
theorem cntT_rnk (L : List Bool) (n : Nat) : cntT (fl L) n = rnk L n := by
  induction n with
  | zero => rfl
  | succ n ih => simp only [cntT, rnk]; rw [ih]
theorem cntT_set (f : Nat → Bool) (o : Nat) (x : Bool) (n : Nat) : cntT (fun i => if i = o then x else f i) n + (if o < n ∧ f o = true then 1 else 0) = cntT f n + if o < n ∧ x = true then 1 else 0 := by
  induction n with
  | zero => simp [cntT]
  | succ n ih =>
    simp only [cntT]
    by_cases e : n = o
    · subst e
      simp only [Nat.lt_irrefl, false_and, if_false, Nat.add_zero] at ih
      rw [ih]
      by_cases hf : f n = true <;> by_cases hx : x = true <;> simp [hf, hx]
    · have e1 : (o < n + 1) ↔ (o < n) := by omega
      simp only [e, if_false, e1]
      omega
/-- The map is empty. -/
theorem cntT_none (n : Nat) : cntT (fun _ => false) n = 0 := by
  induction n with
  | zero => rfl
  | succ n ih => simp [cntT, ih]
end Go.Proofs.Ytegdlegndgdgiaa

namespace Go.Proofs.Ytegdlegndgdgiaa
open Go Go.RowKit
/-- What the map has: which wires, and their numbers. -/
abbrev US := (Nat → Bool) × (Nat → Int)
/-- A wire's number is set, or the wire is taken out. -/
def putS (s : US) (o : Nat) (x : Int) : US := (fun i => if i = o then true else s.1 i, fun i => if i = o then x else s.2 i)
def delS (s : US) (o : Nat) : US := (fun i => if i = o then false else s.1 i, fun i => if i = o then 0 else s.2 i)
def addS (d : Int) (s : US) (o : Int) : US := putS s o.toNat (s.2 o.toNat + d)
def addL (d : Int) (s : US) (os : List Int) : US := os.foldl (addS d) s
theorem addL_at (d : Int) (s : US) (os : List Int) (h : ∀ x ∈ os, 0 ≤ x) (i : Nat) : (addL d s os).1 i = (s.1 i || decide ((i : Int) ∈ os)) ∧ (addL d s os).2 i = s.2 i + d * (os.count (i : Int) : Nat) := by
  induction os generalizing s with
  | nil => simp [addL]
  | cons o os ih =>
    have h0 := h o (List.mem_cons_self ..)
    have := ih (addS d s o) (fun x hx => h x (List.mem_cons_of_mem _ hx))
    rw [show addL d s (o :: os) = addL d (addS d s o) os from rfl, this.1, this.2, List.count_cons]
    unfold addS putS
    by_cases e : i = o.toNat
    · have e2 : o = (i : Int) := by omega
      subst e2
      simp
      rw [Int.mul_add]
      omega
    · have e2 : ¬ (i : Int) = o := by omega
      have e3 : ¬ o = (i : Int) := by omega
      simp [e, e2, e3]
theorem addL_snoc (d : Int) (s : US) (os : List Int) (o : Int) : addL d s (os ++ [o]) = addS d (addL d s os) o := by simp [addL]
theorem take_at {os : List Int} {j : Nat} (h : j < os.length) : os.take (j + 1) = os.take j ++ [os.getD j 0] := by
  rw [List.take_succ_eq_append_getElem h, List.getD_eq_getElem?_getD, List.getElem?_eq_getElem h]
  rfl
theorem addL_take (d : Int) (s : US) {os : List Int} {j : Nat} (h : j < os.length) : addL d s (os.take (j + 1)) = putS (addL d s (os.take j)) (os.getD j 0).toNat ((addL d s (os.take j)).2 (os.getD j 0).toNat + d) := by
  rw [take_at h, addL_snoc]
  rfl
theorem addL_all (d : Int) (s : US) (os : List Int) : addL d s (os.take os.length) = addL d s os := by rw [List.take_length]
/-- The numbers lie in a range. -/
def inS (s : US) (M : Int) : Prop := ∀ i, -M ≤ s.2 i ∧ s.2 i ≤ M
theorem inS.mono {s : US} {M M' : Int} (h : inS s M) (e : M ≤ M') : inS s M' := fun i => by have := h i; omega
theorem inS.add {s : US} {M d : Int} (h : inS s M) (hd : -1 ≤ d ∧ d ≤ 1) (o : Int) : inS (addS d s o) (M + 1) := fun i => by
  have h1 := h i
  have h2 := h o.toNat
  unfold addS putS
  by_cases e : i = o.toNat
  · simp only [e, if_true]; omega
  · simp only [e, if_false]; omega
theorem inS.addL {M d : Int} (hd : -1 ≤ d ∧ d ≤ 1) : ∀ (os : List Int) (s : US), inS s M → inS (addL d s os) (M + os.length)
  | [], s, h => by simpa [Go.Proofs.Ytegdlegndgdgiaa.addL] using h
  | o :: os, s, h => by
    have := inS.addL hd os (addS d s o) (h.add hd o)
    rw [show Go.Proofs.Ytegdlegndgdgiaa.addL d s (o :: os) = Go.Proofs.Ytegdlegndgdgiaa.addL d (addS d s o) os from rfl]
    exact this.mono (by simp only [List.length_cons]; omega)
theorem inS.take {s : US} {M d : Int} (h : inS s M) (hd : -1 ≤ d ∧ d ≤ 1) (os : List Int) (j : Nat) : inS (Go.Proofs.Ytegdlegndgdgiaa.addL d s (os.take j)) (M + os.length) :=
  (inS.addL hd (os.take j) s h).mono (by rw [List.length_take]; omega)
theorem inS.del {s : US} {M : Int} (h : inS s M) (h0 : 0 ≤ M) (o : Nat) : inS (delS s o) M := fun i => by
  have h1 := h i
  unfold delS
  by_cases e : i = o
  · simp only [e, if_true]; omega
  · simp only [e, if_false]; exact h1
/-- Before any gate. -/
def us0 : US := (fun _ => false, fun _ => 0)
theorem us0_in : inS us0 0 := fun _ => by simp [us0]
/-- The first k gates' operands are counted. -/
def usG (z : List Int) : Nat → US
  | 0 => us0
  | k + 1 => addL 1 (usG z k) (opsG z k)
/-- And the outputs. -/
def usO (z : List Int) (n : Nat) (os : List Int) : US := addL 1 (usG z n) os
theorem usG_at {z : List Int} {n : Nat} (hg : gatesOk z n) (i : Nat) : ∀ k, k ≤ n → (usG z k).1 i = decide (0 < smN z i k) ∧ (usG z k).2 i = (smN z i k : Nat) := by
  intro k
  induction k with
  | zero => intro _; simp [usG, us0, smN]
  | succ k ih =>
    intro hk
    have h1 := addL_at 1 (usG z k) (opsG z k) (fun x hx => (opsG_lt hg (by omega) hx).1) i
    obtain ⟨h2, h3⟩ := ih (by omega)
    rw [show usG z (k + 1) = addL 1 (usG z k) (opsG z k) from rfl, h1.1, h1.2, h2, h3]
    have es : smN z i (k + 1) = smN z i k + (opsG z k).count (i : Int) := rfl
    refine ⟨?_, by omega⟩
    have hm : (i : Int) ∈ opsG z k ↔ 0 < (opsG z k).count (i : Int) := List.count_pos_iff.symm
    by_cases h4 : 0 < (opsG z k).count (i : Int)
    · rw [decide_eq_true (hm.2 h4), Bool.or_true, decide_eq_true (by omega)]
    · rw [decide_eq_false (fun e => h4 (hm.1 e)), Bool.or_false, show smN z i (k + 1) = smN z i k by omega]
theorem usG_in (z : List Int) : ∀ k, inS (usG z k) (2 * k)
  | 0 => us0_in
  | k + 1 => (inS.addL (d := 1) (by omega) (opsG z k) _ (usG_in z k)).mono (by have := opsG_length z k; omega)
theorem usO_at {z os : List Int} {n : Nat} (hc : cirOk z n os) (i : Nat) : (usO z n os).1 i = decide (0 < os.count (i : Int) + smN z i n) ∧ (usO z n os).2 i = (os.count (i : Int) + smN z i n : Nat) := by
  have h1 := addL_at 1 (usG z n) os (fun x hx => (hc.2.2 x hx).1) i
  obtain ⟨h2, h3⟩ := usG_at hc.2.1 i n (Nat.le_refl n)
  rw [usO, h1.1, h1.2, h2, h3]
  refine ⟨?_, by omega⟩
  have hm : (i : Int) ∈ os ↔ 0 < os.count (i : Int) := List.count_pos_iff.symm
  by_cases h4 : 0 < os.count (i : Int)
  · rw [decide_eq_true (hm.2 h4), Bool.or_true, decide_eq_true (by omega)]
  · rw [decide_eq_false (fun e => h4 (hm.1 e)), Bool.or_false, show os.count (i : Int) = 0 by omega, Nat.zero_add]
theorem usO_in (z os : List Int) (n : Nat) : inS (usO z n os) (2 * n + os.length) := inS.addL (by omega) os _ (usG_in z n)
/-- One gate is looked at. -/
def stepS (z : List Int) (s : US) (j : Nat) : US := if 0 < s.2 j then s else addL (-1) (delS s j) (opsG z j)
theorem stepS_in {z : List Int} {s : US} {M : Int} (h : inS s M) (h0 : 0 ≤ M) (j : Nat) : inS (stepS z s j) (M + 2) := by
  unfold stepS
  split
  · exact h.mono (by omega)
  · exact (inS.addL (d := -1) (by omega) (opsG z j) _ (h.del h0 j)).mono (by have := opsG_length z j; omega)
def walkS (z : List Int) (s : US) (js : List Nat) : US := js.foldl (stepS z) s
theorem walkS_snoc (z : List Int) (s : US) (js : List Nat) (j : Nat) : walkS z s (js ++ [j]) = stepS z (walkS z s js) j := by simp [walkS]
theorem walkS_in {z : List Int} : ∀ (js : List Nat) {s : US} {M : Int}, inS s M → 0 ≤ M → inS (walkS z s js) (M + 2 * js.length)
  | [], s, M, h, _ => by simpa [walkS] using h
  | j :: js, s, M, h, h0 => by
    have := walkS_in (z := z) js (stepS_in (z := z) h h0 j) (by omega)
    rw [show walkS z s (j :: js) = walkS z (stepS z s j) js from rfl]
    exact this.mono (by simp only [List.length_cons]; omega)
/-- The gates from t on, the last first. -/
theorem walk_at {z os : List Int} {n : Nat} (hc : cirOk z n os) : ∀ d t, t + d = n → ∀ i, i < n → (walkS z (usO z n os) ((List.range' t d).reverse)).1 i = usF z n os t i ∧ (walkS z (usO z n os) ((List.range' t d).reverse)).2 i = usC z n os t i := by
  intro d
  induction d with
  | zero =>
    intro t ht i hi
    obtain rfl : t = n := by omega
    obtain ⟨h1, h2⟩ := us_top (z := z) (os := os) hi
    obtain ⟨h3, h4⟩ := usO_at hc i
    simp only [List.range'_zero, List.reverse_nil, walkS, List.foldl_nil]
    rw [h1, h2, h3, h4]
    exact ⟨rfl, rfl⟩
  | succ d ih =>
    intro t ht i hi
    have I := ih (t + 1) (by omega)
    have e : (List.range' t (d + 1)).reverse = (List.range' (t + 1) d).reverse ++ [t] := by
      rw [List.range'_succ, List.reverse_cons]
    rw [e, walkS_snoc]
    generalize walkS z (usO z n os) ((List.range' (t + 1) d).reverse) = s at *
    have ht2 : t < n := by omega
    have h0 := us_at hc ht2
    rw [← (I t ht2).2] at h0
    unfold stepS
    by_cases hp : 0 < s.2 t
    · rw [if_pos hp]
      obtain ⟨h1, h2⟩ := us_live (i := i) hc ht2 (h0.1 hp)
      rw [(I i hi).1, (I i hi).2, h1, h2]
      exact ⟨rfl, rfl⟩
    · rw [if_neg hp]
      have hf : ¬ fl (lv z n os) t = true := fun e => hp (h0.2 e)
      obtain ⟨h1, h2⟩ := us_dead (i := i) hc ht2 hf
      obtain ⟨h3, h4⟩ := addL_at (-1) (delS s t) (opsG z t) (fun x hx => (opsG_lt hc.2.1 ht2 hx).1) i
      rw [h1, h2, h3, h4]
      unfold delS
      simp only []
      rw [(I i hi).1, (I i hi).2]
      refine ⟨rfl, ?_⟩
      omega
theorem walk_end {z os : List Int} {n : Nat} (hc : cirOk z n os) : ∀ i, i < n → (walkS z (usO z n os) ((List.range n).reverse)).1 i = fl (lv z n os) i := fun i hi => by
  have := (walk_at hc n 0 (by omega) i hi).1
  rw [us_end, ← List.range_eq_range'] at this
  exact this
end Go.Proofs.Ytegdlegndgdgiaa

namespace Go.Proofs.Ytegdlegndgdgiaa
open Go Go.RowKit Go.Maps
/-- What a map of numbers has for the first n wires, and that it has nothing else. -/
structure Uses (n : Nat) (D : DataW Unit) (f : Nat → Bool) (c : Nat → Int) : Prop where
  has : ∀ i, i < n → Maps.has D (.int .i64 (i : Int)) = f i
  at_ : ∀ i, i < n → D.atKey (.int .i64 (i : Int)) (.lit (.int .i64 0)) = .lit (.int .i64 (c i))
  size : Maps.size D = cntT f n
theorem Uses.empty (n : Nat) : Uses n (.map []) (fun _ => false) (fun _ => 0) := ⟨fun _ _ => rfl, fun _ _ => rfl, (cntT_none n).symm⟩
theorem wire_ne {i j : Nat} (h : i ≠ j) : Lit.int .i64 (i : Int) ≠ Lit.int .i64 (j : Int) := fun e => by
  injection e with _ e
  omega
theorem Uses.congr {n : Nat} {D : DataW Unit} {f f' : Nat → Bool} {c c' : Nat → Int} (h : Uses n D f c) (e : ∀ i, i < n → f i = f' i ∧ c i = c' i) : Uses n D f' c' :=
  ⟨fun i hi => (h.has i hi).trans (e i hi).1, fun i hi => by rw [h.at_ i hi, (e i hi).2], h.size.trans (cntT_congr fun i hi => (e i hi).1)⟩
theorem Uses.put {n o : Nat} {D : DataW Unit} {f : Nat → Bool} {c : Nat → Int} (h : Uses n D f c) (hd : Tidy D) (ho : o < n) (x : Int) :
    Uses n (D.put (.int .i64 (o : Int)) (.lit (.int .i64 x))) (fun i => if i = o then true else f i) (fun i => if i = o then x else c i) := by
  have hk : WideAt.IsKeyLit (.int .i64 (o : Int)) := trivial
  refine ⟨fun i hi => ?_, fun i hi => ?_, ?_⟩
  · by_cases e : i = o
    · subst e
      rw [if_pos rfl]
      exact has_put_same hd.isMap hk _
    · rw [if_neg e, has_put_other (wire_ne e)]
      exact h.has i hi
  · by_cases e : i = o
    · subst e
      rw [if_pos rfl]
      exact atKey_put_same hd.isMap hk _ _
    · rw [if_neg e, atKey_put_other (wire_ne e)]
      exact h.at_ i hi
  · have e1 := size_put (k := .int .i64 (o : Int)) hd (.lit (.int .i64 x))
    have e2 := cntT_set f o true n
    rw [e1, h.has o ho, h.size]
    simp only [ho, true_and, if_true] at e2
    split at e2 <;> rename_i hf
    · rw [if_pos hf]; omega
    · rw [if_neg hf]; omega
theorem Uses.del {n o : Nat} {D : DataW Unit} {f : Nat → Bool} {c : Nat → Int} (h : Uses n D f c) (hd : Tidy D) (ho : o < n) :
    Uses n (D.del (.int .i64 (o : Int))) (fun i => if i = o then false else f i) (fun i => if i = o then 0 else c i) := by
  refine ⟨fun i hi => ?_, fun i hi => ?_, ?_⟩
  · by_cases e : i = o
    · subst e
      rw [if_pos rfl]
      exact has_del_same
    · rw [if_neg e, has_del_other (wire_ne e)]
      exact h.has i hi
  · by_cases e : i = o
    · subst e
      rw [if_pos rfl]
      exact atKey_del_same _
    · rw [if_neg e, atKey_del_other (wire_ne e)]
      exact h.at_ i hi
  · have e1 := size_del (k := .int .i64 (o : Int)) hd
    have e2 := cntT_set f o false n
    rw [h.has o ho, h.size] at e1
    simp only [ho, true_and, Bool.false_eq_true, if_false, Nat.add_zero] at e2
    split at e2 <;> rename_i hf
    · rw [if_pos hf] at e1; omega
    · rw [if_neg hf] at e1; omega
theorem keyI : Keyed Try.prog 3 := int_keyed Try.underlying3
theorem wire_wf {x : Int} (h : 0 ≤ x ∧ x ≤ 1000000000000) : (Lit.int .i64 x).wf = true := WalkArith.wf_i64 (by omega)
theorem wire_key {x : Int} (h : 0 ≤ x ∧ x ≤ 1000000000000) : keyOf Try.prog 3 (.int .i64 x) = some (.int .i64 x) := keyOf_int_mk Try.underlying3 (wire_wf h)
theorem zeroInt (w : World) : (zeroValue 3).run Try.prog w = .ok (.int .i64 0) w := by kernel_rfl
/-- The map of uses in block mb: f says which of the first n wires it has, c their numbers. -/
def Um (mb n : Nat) (w : World) (f : Nat → Bool) (c : Nat → Int) : Prop := ∃ D : DataW Unit, w.ownsMap Try.prog 3 (plainElem Try.prog 3) mb n D ∧ Uses n D f c
section
variable {mb n o B : Nat} {w w' : World} {f f' : Nat → Bool} {c c' : Nat → Int}
theorem Um.made (w : World) (n : Nat) : Um w.heap.size n (w.alloc (.map #[] 0)) (fun _ => false) (fun _ => 0) :=
  ⟨.map [], (World.ownsMap_made w _ _ _).mono (Nat.zero_le n), Uses.empty n⟩
theorem Um.lt (h : Um mb n w f c) : mb < w.heap.size := h.choose_spec.1.lt
theorem Um.kept {row : Option Nat} (h : Um mb n w f c) (hg : w.grownBy w' row) (hne : some mb ≠ row) : Um mb n w' f c := ⟨h.choose, h.choose_spec.1.kept hg hne, h.choose_spec.2⟩
theorem Um.below (h : Um mb n w f c) (hb : Below w.heap.size w w') : Um mb n w' f c := h.kept (row := none) ⟨hb.os, hb.tape, hb.output, hb.size, fun k hk _ => hb.block k hk⟩ (by simp)
theorem Um.alloc (h : Um mb n w f c) (o : Obj) : Um mb n (w.alloc o) f c := h.below (below_alloc w o)
theorem Um.drew (h : Um mb n w f c) : Um mb n w.drew f c := h
theorem Um.drewN (h : Um mb n w f c) (i : Nat) : Um mb n (w.drewN i) f c := h
theorem Um.congr (h : Um mb n w f c) (e : ∀ i, i < n → f i = f' i ∧ c i = c' i) : Um mb n w f' c' := ⟨h.choose, h.choose_spec.1, h.choose_spec.2.congr e⟩
theorem Um.setCell (h : Um mb n w f c) {a : Addr} (ha : mb ≠ a.block) (u : Value) : Um mb n (w.setCell a u) f c := ⟨h.choose, h.choose_spec.1.setCell ha u, h.choose_spec.2⟩
/-- The map is no block of cells. -/
theorem Um.ne (h : Um mb n w f c) {g : Nat} {xs : Array Value} {T : TypeId} {z : Nat × Nat} (hh : w.heap[g]? = some (.cells xs T z)) : g ≠ mb := fun e => by
  obtain ⟨D, ⟨es, clock, hb, _⟩, _⟩ := h
  subst e
  rw [hh] at hb
  cases hb
theorem Um.read (h : Um mb n w f c) (ho : o < n) (hn : n ≤ 1000000) : (Instr.lookup 99 (.map (some mb)) (.int .i64 (o : Int)) false).run Try.prog w = .ok (.int .i64 (c o)) w := by
  obtain ⟨D, hw, hu⟩ := h
  obtain ⟨x, hr, ha, _⟩ := hw.lookup_int keyI Try.underlying99 Try.underlying3 (zeroInt w) (wire_key (x := (o : Int)) (by omega))
  rw [hu.at_ o ho] at ha
  simp only [DataW.lit.injEq, Lit.int.injEq, true_and] at ha
  rw [hr, ← ha]
theorem Um.look (h : Um mb n w f c) (ho : o < n) (hn : n ≤ 1000000) : (Instr.lookup 99 (.map (some mb)) (.int .i64 (o : Int)) true).run Try.prog w = .ok (.tuple #[.int .i64 (c o), .bool (f o)]) w := by
  obtain ⟨D, hw, hu⟩ := h
  obtain ⟨v, ps, hr, hv⟩ := hw.look_ok keyI Try.underlying99 (zeroInt w) (plainElem_int Try.underlying3 (by decide)) (wire_key (x := (o : Int)) (by omega))
  obtain ⟨x, rfl, hx, _⟩ := plainElem_int_inv Try.underlying3 hv
  rw [hu.at_ o ho] at hx
  simp only [Prod.mk.injEq, DataW.lit.injEq, Lit.int.injEq, true_and] at hx
  rw [hr, hu.has o ho, ← hx.1]
theorem Um.shrink {N : Nat} {D : DataW Unit} (h : w.ownsMap Try.prog 3 (plainElem Try.prog 3) mb N D) (hu : Uses n D f c) : w.ownsMap Try.prog 3 (plainElem Try.prog 3) mb n D := by
  have hs := hu.size
  have hl := cntT_le f n
  obtain ⟨es, clock, hb, F, h1, rfl⟩ := h
  refine ⟨es, clock, hb, F, ?_, rfl⟩
  have e1 : Maps.size (DataW.map ((es.toList.map (WideElems.rg Try.prog 3 (plainElem (H := Unit) Try.prog 3))).foldr DataW.insert [])) = es.size := by simp [Maps.size, length_sorted]
  omega
/-- A number is stored. -/
theorem Um.write (h : Um mb n w f c) (ho : o < n) (hn : n ≤ 1000000) (x : Int) (hx : (Lit.int .i64 x).wf = true) :
    ∃ w', (Instr.mapUpdate 99 (.map (some mb)) (.int .i64 (o : Int)) (.int .i64 x)).run Try.prog w = .ok () w' ∧ Um mb n w' (fun i => if i = o then true else f i) (fun i => if i = o then x else c i) ∧ w.grownBy w' (some mb) ∧ w'.heap.size = w.heap.size := by
  obtain ⟨D, hw, hu⟩ := h
  obtain ⟨w', hr, ho', ht⟩ := hw.store keyI Try.underlying99 (by unfold maxLen; omega) (wire_key (x := (o : Int)) (by omega)) (plainElem_int Try.underlying3 hx)
  have hu' := hu.put (hw.tidy keyI) ho x
  refine ⟨w', hr, ⟨_, Um.shrink ho' hu', hu'⟩, ht.grown, ?_⟩
  obtain ⟨es, clock, es', clock', _, rfl⟩ := ht
  simp [ChangeMaps.setBlock]
theorem Um.drop (h : Um mb n w f c) (ho : o < n) (hn : n ≤ 1000000) (ty : TypeId) :
    ∃ w', (Builtin.delete_ #[99, 3] ty #[.map (some mb), .int .i64 (o : Int)]).run Try.prog w = .ok (.tuple #[]) w' ∧ Um mb n w' (fun i => if i = o then false else f i) (fun i => if i = o then 0 else c i) ∧ w.grownBy w' (some mb) ∧ w'.heap.size = w.heap.size := by
  obtain ⟨D, hw, hu⟩ := h
  obtain ⟨w', hr, ho', ht⟩ := hw.drop keyI Try.underlying99 (wire_key (x := (o : Int)) (by omega)) ty
  have hu' := hu.del (hw.tidy keyI) ho
  refine ⟨w', hr, ⟨_, Um.shrink ho' hu', hu'⟩, ht.grown, ?_⟩
  obtain ⟨es, clock, es', clock', _, rfl⟩ := ht
  simp [ChangeMaps.setBlock]
theorem Um.len (h : Um mb n w f c) (ty : TypeId) : (Builtin.len_ #[99] ty #[.map (some mb)]).run Try.prog w = .ok (.int .i64 (cntT f n : Nat)) w := by
  obtain ⟨D, hw, hu⟩ := h
  rw [hw.len Try.underlying99 ty, hu.size]
end
/-- 'make(map[int]int, n)'. -/
theorem run_make_hint (n : Int) (w : World) : (Instr.makeMap 99 (some (.int .i64 n))).run Try.prog w = .ok (.map (some w.heap.size)) (w.alloc (.map #[] 0)) := by
  simp [Instr.makeMap, run_underlying Try.underlying99, asInt, asIntOf, Result.andThen]
/-- A store into the map, for the walk. -/
theorem wpList_um_put (w : World) {ops : Array Oper} {rest : List Oper} {o : Oper} {a : Act} {Q : Exit → Act → World → Prop}
    (hg : o.guard = none) (m x v : Operand) (hop : o.op = Op.mapUpdate 99 m x v) {mb n : Nat} {f : Nat → Bool} {c : Nat → Int} (h : Um mb n w f c) (i : Nat) (hi : i < n) (hn : n ≤ 1000000) (y : Int) (hy : (Lit.int .i64 y).wf = true)
    (hm : a.eval m = .map (some mb)) (hx : a.eval x = .int .i64 (i : Int)) (hv : a.eval v = .int .i64 y)
    (hK : ∀ w', Um mb n w' (fun j => if j = i then true else f j) (fun j => if j = i then y else c j) → w.grownBy w' (some mb) → w'.heap.size = w.heap.size → wpList Try.prog ops Q rest (a.put o.dst undef) w') : wpList Try.prog ops Q (o :: rest) a w := by
  refine wpList_plain hg fun K' hK' => ?_
  obtain ⟨w', hrun, r1, r2, r3⟩ := h.write hi hn y hy
  unfold Oper.wp
  simp [execOp, hop, hm, hx, hv, hrun, Result.andThen]
  exact hK' _ _ (hK w' r1 r2 r3)
/-- The same under a fence, and in a round. -/
theorem wpListIn_um_put {F : Fence} {nF : Nat} (w : World) {ops : Array Oper} {rest : List Oper} {o : Oper} {a : Act} {Q : Exit → Act → World → Prop}
    (hg : o.guard = none) (m x v : Operand) (hop : o.op = Op.mapUpdate 99 m x v) {mb n : Nat} {f : Nat → Bool} {c : Nat → Int} (h : Um mb n w f c) (i : Nat) (hi : i < n) (hn : n ≤ 1000000) (y : Int) (hy : (Lit.int .i64 y).wf = true)
    (hm : a.eval m = .map (some mb)) (hx : a.eval x = .int .i64 (i : Int)) (hv : a.eval v = .int .i64 y)
    (hK : ∀ w', Um mb n w' (fun j => if j = i then true else f j) (fun j => if j = i then y else c j) → w.grownBy w' (some mb) → w'.heap.size = w.heap.size → wpListIn F nF Try.prog ops Q rest (a.put o.dst undef) w') : wpListIn F nF Try.prog ops Q (o :: rest) a w := by
  refine wpListIn_plain hg fun K' hK' => ?_
  obtain ⟨w', hrun, r1, r2, r3⟩ := h.write hi hn y hy
  unfold Oper.wpIn
  refine ⟨by simp [Oper.about, hop], ?_⟩
  rw [Oper.semAt_plain F _ _ (by rw [hop]; intro c hc'; cases hc')]
  simp [execOp, hop, hm, hx, hv, hrun, Result.andThen]
  exact hK' _ _ (hK w' r1 r2 r3)
theorem wpListIn_um_del {F : Fence} {nF : Nat} (w : World) {ops : Array Oper} {rest : List Oper} {o : Oper} {a : Act} {Q : Exit → Act → World → Prop}
    (hg : o.guard = none) (m x : Operand) (hop : o.op = Op.call { callee := Callee.builtin Builtin.delete, args := #[m, x], argTypes := #[99, 3] }) {mb n : Nat} {f : Nat → Bool} {c : Nat → Int} (h : Um mb n w f c) (i : Nat) (hi : i < n) (hn : n ≤ 1000000)
    (hm : a.eval m = .map (some mb)) (hx : a.eval x = .int .i64 (i : Int))
    (hK : ∀ w', Um mb n w' (fun j => if j = i then false else f j) (fun j => if j = i then 0 else c j) → w.grownBy w' (some mb) → w'.heap.size = w.heap.size → wpListIn F nF Try.prog ops Q rest (a.put o.dst (.tuple #[])) w') : wpListIn F nF Try.prog ops Q (o :: rest) a w := by
  refine wpListIn_plain hg fun K' hK' => ?_
  obtain ⟨w', hrun, r1, r2, r3⟩ := h.drop hi hn o.type
  unfold Oper.wpIn
  refine ⟨by simp [Oper.about, hop, resolve, Target.leads, Sem.run_pure], ?_⟩
  rw [Oper.semAt_plain F _ _ (by rw [hop]; intro c hc'; cases hc')]
  simp [execOp, hop, resolve, invoke, builtin, hm, hx, hrun, Result.andThen]
  exact hK' _ _ (hK w' r1 r2 r3)
end Go.Proofs.Ytegdlegndgdgiaa

/- Pruning in plain numbers: the map of uses, gate by gate from the last to the first. No condition. -/
import Derived.Test.YtkcknejkldhmaaaProg
import Derived.Test.YtkcknejkldhmaaaUsM
namespace Go.Proofs.Ytkcknejkldhmaaa
open Go Go.RowKit
/-- What the map has: which wires, and their numbers. -/
abbrev US := (Nat → Bool) × (Nat → Int)
/-- A wire's number is set, or the wire is taken out. -/
def putS (s : US) (o : Nat) (x : Int) : US := (fun i => if i = o then true else s.1 i, fun i => if i = o then x else s.2 i)
def delS (s : US) (o : Nat) : US := (fun i => if i = o then false else s.1 i, fun i => if i = o then 0 else s.2 i)
def addS (d : Int) (s : US) (o : Int) : US := putS s o.toNat (s.2 o.toNat + d)
def addL (d : Int) (s : US) (os : List Int) : US := os.foldl (addS d) s
theorem addL_at (d : Int) (s : US) (os : List Int) (h : ∀ x ∈ os, 0 ≤ x) (i : Nat) : (addL d s os).1 i = (s.1 i || decide ((i : Int) ∈ os)) ∧ (addL d s os).2 i = s.2 i + d * (os.count (i : Int) : Nat) := by
  induction os generalizing s with
  | nil => simp [addL]
  | cons o os ih =>
    have h0 := h o (List.mem_cons_self ..)
    have := ih (addS d s o) (fun x hx => h x (List.mem_cons_of_mem _ hx))
    rw [show addL d s (o :: os) = addL d (addS d s o) os from rfl, this.1, this.2, List.count_cons]
    unfold addS putS
    by_cases e : i = o.toNat
    · have e2 : o = (i : Int) := by omega
      subst e2
      simp
      rw [Int.mul_add]
      omega
    · have e2 : ¬ (i : Int) = o := by omega
      have e3 : ¬ o = (i : Int) := by omega
      simp [e, e2, e3]
theorem addL_snoc (d : Int) (s : US) (os : List Int) (o : Int) : addL d s (os ++ [o]) = addS d (addL d s os) o := by simp [addL]
theorem take_at {os : List Int} {j : Nat} (h : j < os.length) : os.take (j + 1) = os.take j ++ [os.getD j 0] := by
  rw [List.take_succ_eq_append_getElem h, List.getD_eq_getElem?_getD, List.getElem?_eq_getElem h]
  rfl
theorem addL_take (d : Int) (s : US) {os : List Int} {j : Nat} (h : j < os.length) : addL d s (os.take (j + 1)) = putS (addL d s (os.take j)) (os.getD j 0).toNat ((addL d s (os.take j)).2 (os.getD j 0).toNat + d) := by
  rw [take_at h, addL_snoc]
  rfl
theorem addL_all (d : Int) (s : US) (os : List Int) : addL d s (os.take os.length) = addL d s os := by rw [List.take_length]
/-- The numbers lie in a range. -/
def inS (s : US) (M : Int) : Prop := ∀ i, -M ≤ s.2 i ∧ s.2 i ≤ M
theorem inS.mono {s : US} {M M' : Int} (h : inS s M) (e : M ≤ M') : inS s M' := fun i => by have := h i; omega
theorem inS.add {s : US} {M d : Int} (h : inS s M) (hd : -1 ≤ d ∧ d ≤ 1) (o : Int) : inS (addS d s o) (M + 1) := fun i => by
  have h1 := h i
  have h2 := h o.toNat
  unfold addS putS
  by_cases e : i = o.toNat
  · simp only [e, if_true]; omega
  · simp only [e, if_false]; omega
theorem inS.addL {M d : Int} (hd : -1 ≤ d ∧ d ≤ 1) : ∀ (os : List Int) (s : US), inS s M → inS (addL d s os) (M + os.length)
  | [], s, h => by simpa [Go.Proofs.Ytkcknejkldhmaaa.addL] using h
  | o :: os, s, h => by
    have := inS.addL hd os (addS d s o) (h.add hd o)
    rw [show Go.Proofs.Ytkcknejkldhmaaa.addL d s (o :: os) = Go.Proofs.Ytkcknejkldhmaaa.addL d (addS d s o) os from rfl]
    exact this.mono (by simp only [List.length_cons]; omega)
theorem inS.take {s : US} {M d : Int} (h : inS s M) (hd : -1 ≤ d ∧ d ≤ 1) (os : List Int) (j : Nat) : inS (Go.Proofs.Ytkcknejkldhmaaa.addL d s (os.take j)) (M + os.length) :=
  (inS.addL hd (os.take j) s h).mono (by rw [List.length_take]; omega)
theorem inS.del {s : US} {M : Int} (h : inS s M) (h0 : 0 ≤ M) (o : Nat) : inS (delS s o) M := fun i => by
  have h1 := h i
  unfold delS
  by_cases e : i = o
  · simp only [e, if_true]; omega
  · simp only [e, if_false]; exact h1
/-- Before any gate. -/
def us0 : US := (fun _ => false, fun _ => 0)
theorem us0_in : inS us0 0 := fun _ => by simp [us0]
/-- The first k gates' operands are counted. -/
def usG (z : List Int) : Nat → US
  | 0 => us0
  | k + 1 => addL 1 (usG z k) (opsG z k)
/-- And the outputs. -/
def usO (z : List Int) (n : Nat) (os : List Int) : US := addL 1 (usG z n) os
theorem usG_at {z : List Int} {n : Nat} (hg : gatesOk z n) (i : Nat) : ∀ k, k ≤ n → (usG z k).1 i = decide (0 < smN z i k) ∧ (usG z k).2 i = (smN z i k : Nat) := by
  intro k
  induction k with
  | zero => intro _; simp [usG, us0, smN]
  | succ k ih =>
    intro hk
    have h1 := addL_at 1 (usG z k) (opsG z k) (fun x hx => (opsG_lt hg (by omega) hx).1) i
    obtain ⟨h2, h3⟩ := ih (by omega)
    rw [show usG z (k + 1) = addL 1 (usG z k) (opsG z k) from rfl, h1.1, h1.2, h2, h3]
    have es : smN z i (k + 1) = smN z i k + (opsG z k).count (i : Int) := rfl
    refine ⟨?_, by omega⟩
    have hm : (i : Int) ∈ opsG z k ↔ 0 < (opsG z k).count (i : Int) := List.count_pos_iff.symm
    by_cases h4 : 0 < (opsG z k).count (i : Int)
    · rw [decide_eq_true (hm.2 h4), Bool.or_true, decide_eq_true (by omega)]
    · rw [decide_eq_false (fun e => h4 (hm.1 e)), Bool.or_false, show smN z i (k + 1) = smN z i k by omega]
theorem usG_in (z : List Int) : ∀ k, inS (usG z k) (2 * k)
  | 0 => us0_in
  | k + 1 => (inS.addL (d := 1) (by omega) (opsG z k) _ (usG_in z k)).mono (by have := opsG_length z k; omega)
theorem usO_at {z os : List Int} {n : Nat} (hc : cirOk z n os) (i : Nat) : (usO z n os).1 i = decide (0 < os.count (i : Int) + smN z i n) ∧ (usO z n os).2 i = (os.count (i : Int) + smN z i n : Nat) := by
  have h1 := addL_at 1 (usG z n) os (fun x hx => (hc.2.2 x hx).1) i
  obtain ⟨h2, h3⟩ := usG_at hc.2.1 i n (Nat.le_refl n)
  rw [usO, h1.1, h1.2, h2, h3]
  refine ⟨?_, by omega⟩
  have hm : (i : Int) ∈ os ↔ 0 < os.count (i : Int) := List.count_pos_iff.symm
  by_cases h4 : 0 < os.count (i : Int)
  · rw [decide_eq_true (hm.2 h4), Bool.or_true, decide_eq_true (by omega)]
  · rw [decide_eq_false (fun e => h4 (hm.1 e)), Bool.or_false, show os.count (i : Int) = 0 by omega, Nat.zero_add]
theorem usO_in (z os : List Int) (n : Nat) : inS (usO z n os) (2 * n + os.length) := inS.addL (by omega) os _ (usG_in z n)
/-- One gate is looked at. -/
def stepS (z : List Int) (s : US) (j : Nat) : US := if 0 < s.2 j then s else addL (-1) (delS s j) (opsG z j)
theorem stepS_in {z : List Int} {s : US} {M : Int} (h : inS s M) (h0 : 0 ≤ M) (j : Nat) : inS (stepS z s j) (M + 2) := by
  unfold stepS
  split
  · exact h.mono (by omega)
  · exact (inS.addL (d := -1) (by omega) (opsG z j) _ (h.del h0 j)).mono (by have := opsG_length z j; omega)
def walkS (z : List Int) (s : US) (js : List Nat) : US := js.foldl (stepS z) s
theorem walkS_snoc (z : List Int) (s : US) (js : List Nat) (j : Nat) : walkS z s (js ++ [j]) = stepS z (walkS z s js) j := by simp [walkS]
theorem walkS_in {z : List Int} : ∀ (js : List Nat) {s : US} {M : Int}, inS s M → 0 ≤ M → inS (walkS z s js) (M + 2 * js.length)
  | [], s, M, h, _ => by simpa [walkS] using h
  | j :: js, s, M, h, h0 => by
    have := walkS_in (z := z) js (stepS_in (z := z) h h0 j) (by omega)
    rw [show walkS z s (j :: js) = walkS z (stepS z s j) js from rfl]
    exact this.mono (by simp only [List.length_cons]; omega)
/-- The gates from t on, the last first. -/
theorem walk_at {z os : List Int} {n : Nat} (hc : cirOk z n os) : ∀ d t, t + d = n → ∀ i, i < n → (walkS z (usO z n os) ((List.range' t d).reverse)).1 i = usF z n os t i ∧ (walkS z (usO z n os) ((List.range' t d).reverse)).2 i = usC z n os t i := by
  intro d
  induction d with
  | zero =>
    intro t ht i hi
    obtain rfl : t = n := by omega
    obtain ⟨h1, h2⟩ := us_top (z := z) (os := os) hi
    obtain ⟨h3, h4⟩ := usO_at hc i
    simp only [List.range'_zero, List.reverse_nil, walkS, List.foldl_nil]
    rw [h1, h2, h3, h4]
    exact ⟨rfl, rfl⟩
  | succ d ih =>
    intro t ht i hi
    have I := ih (t + 1) (by omega)
    have e : (List.range' t (d + 1)).reverse = (List.range' (t + 1) d).reverse ++ [t] := by
      rw [List.range'_succ, List.reverse_cons]
    rw [e, walkS_snoc]
    generalize walkS z (usO z n os) ((List.range' (t + 1) d).reverse) = s at *
    have ht2 : t < n := by omega
    have h0 := us_at hc ht2
    rw [← (I t ht2).2] at h0
    unfold stepS
    by_cases hp : 0 < s.2 t
    · rw [if_pos hp]
      obtain ⟨h1, h2⟩ := us_live (i := i) hc ht2 (h0.1 hp)
      rw [(I i hi).1, (I i hi).2, h1, h2]
      exact ⟨rfl, rfl⟩
    · rw [if_neg hp]
      have hf : ¬ fl (lv z n os) t = true := fun e => hp (h0.2 e)
      obtain ⟨h1, h2⟩ := us_dead (i := i) hc ht2 hf
      obtain ⟨h3, h4⟩ := addL_at (-1) (delS s t) (opsG z t) (fun x hx => (opsG_lt hc.2.1 ht2 hx).1) i
      rw [h1, h2, h3, h4]
      unfold delS
      simp only []
      rw [(I i hi).1, (I i hi).2]
      refine ⟨rfl, ?_⟩
      omega
theorem walk_end {z os : List Int} {n : Nat} (hc : cirOk z n os) : ∀ i, i < n → (walkS z (usO z n os) ((List.range n).reverse)).1 i = fl (lv z n os) i := fun i hi => by
  have := (walk_at hc n 0 (by omega) i hi).1
  rw [us_end, ← List.range_eq_range'] at this
  exact this
end Go.Proofs.Ytkcknejkldhmaaa

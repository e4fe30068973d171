/- Pruning in plain numbers: which gates are needed, and what is left. No condition. -/
import Derived.Test.YtkcknejkldhmaaaProg
import Derived.Test.YtkcknejkldhmaaaSmN
namespace Go.Proofs.Ytkcknejkldhmaaa
open Go Go.RowKit
/-- The flag at i. -/
def fl (L : List Bool) (i : Nat) : Bool := L.getD i false
theorem fl_set (L : List Bool) {a i : Nat} (h : a < L.length) : fl (L.set a true) i = true ↔ i = a ∨ fl L i = true := by
  unfold fl
  rw [List.getD_eq_getElem?_getD, List.getD_eq_getElem?_getD]
  by_cases e : a = i
  · subst e
    rw [List.getElem?_set_self h]
    simp
  · rw [List.getElem?_set_ne e]
    exact ⟨.inr, fun h => h.resolve_left (fun e2 => e e2.symm)⟩
def two (k : Int) : Prop := k = 3 ∨ k = 4
def one1 (k : Int) : Prop := k = 3 ∨ k = 4 ∨ k = 5
instance (k : Int) : Decidable (two k) := by unfold two; infer_instance
instance (k : Int) : Decidable (one1 k) := by unfold one1; infer_instance
/-- Gate j uses wire i. -/
def opnd (z : List Int) (j i : Nat) : Prop := (one1 (gk z j) ∧ ga z j = (i : Int)) ∨ (two (gk z j) ∧ gb z j = (i : Int))
/-- The outputs' flags. -/
def lvO (os : List Int) (n : Nat) : List Bool := (List.range n).map fun i : Nat => decide ((i : Int) ∈ os)
theorem lvO_at (os : List Int) {n i : Nat} (h : i < n) : fl (lvO os n) i = true ↔ (i : Int) ∈ os := by
  unfold fl lvO
  rw [List.getD_eq_getElem?_getD, List.getElem?_map, List.getElem?_range h]
  simp
theorem lvO_length (os : List Int) (n : Nat) : (lvO os n).length = n := by simp [lvO]
/-- One gate's operands are needed where the gate is. -/
def lvA (z : List Int) (L : List Bool) (i : Nat) : List Bool := if fl L i = true ∧ one1 (gk z i) then L.set (ga z i).toNat true else L
def lvS (z : List Int) (L : List Bool) (i : Nat) : List Bool := if fl (lvA z L i) i = true ∧ two (gk z i) then (lvA z L i).set (gb z i).toNat true else lvA z L i
/-- The flags when the last j gates are looked at. -/
def lvN (z : List Int) (n : Nat) (os : List Int) : Nat → List Bool
  | 0 => lvO os n
  | j + 1 => lvS z (lvN z n os j) (n - 1 - j)
def lv (z : List Int) (n : Nat) (os : List Int) : List Bool := lvN z n os n
theorem lvA_length (z : List Int) (L : List Bool) (i : Nat) : (lvA z L i).length = L.length := by unfold lvA; split <;> simp
theorem lvS_length (z : List Int) (L : List Bool) (i : Nat) : (lvS z L i).length = L.length := by unfold lvS; split <;> simp [lvA_length]
theorem lvN_length (z : List Int) (n : Nat) (os : List Int) (j : Nat) : (lvN z n os j).length = n := by
  induction j with
  | zero => exact lvO_length os n
  | succ j ih => rw [lvN, lvS_length, ih]
section
variable {z os : List Int} {n : Nat}
theorem arg_lt (hg : gatesOk z n) {j : Nat} (hj : j < n) : (one1 (gk z j) → 0 ≤ ga z j ∧ (ga z j).toNat < j) ∧ (two (gk z j) → 0 ≤ gb z j ∧ (gb z j).toNat < j) := by
  have ok := hg j hj
  unfold gateOk at ok
  unfold one1 two
  omega
/-- What one step does to the flags. -/
theorem lvS_at (hg : gatesOk z n) {L : List Bool} (hl : L.length = n) {t : Nat} (ht : t < n) (i : Nat) : fl (lvS z L t) i = true ↔ fl L i = true ∨ (fl L t = true ∧ opnd z t i) := by
  obtain ⟨b1, b2⟩ := arg_lt hg ht
  have keep : fl (lvA z L t) t = fl L t := by
    rw [Bool.eq_iff_iff]
    unfold lvA
    split
    · rename_i h
      rw [fl_set _ (by have := b1 h.2; omega)]
      exact ⟨fun h2 => h2.elim (fun e => by have := b1 h.2; omega) (fun e => e), .inr⟩
    · exact Iff.rfl
  have A : fl (lvA z L t) i = true ↔ fl L i = true ∨ (fl L t = true ∧ one1 (gk z t) ∧ ga z t = (i : Int)) := by
    unfold lvA
    split
    · rename_i h
      have := b1 h.2
      rw [fl_set _ (by omega)]
      exact ⟨fun h2 => h2.elim (fun e => .inr ⟨h.1, h.2, by omega⟩) .inl, fun h2 => h2.elim .inr (fun e => .inl (by omega))⟩
    · rename_i h
      exact ⟨.inl, fun h2 => h2.elim (fun e => e) (fun e => (h ⟨e.1, e.2.1⟩).elim)⟩
  unfold lvS
  rw [keep]
  unfold opnd
  split
  · rename_i h
    have := b2 h.2
    rw [fl_set _ (by rw [lvA_length]; omega), A]
    constructor
    · rintro (e | e | e)
      · exact .inr ⟨h.1, .inr ⟨h.2, by omega⟩⟩
      · exact .inl e
      · exact .inr ⟨e.1, .inl e.2⟩
    · rintro (e | ⟨e1, e | e⟩)
      · exact .inr (.inl e)
      · exact .inr (.inr ⟨e1, e⟩)
      · exact .inl (by omega)
  · rename_i h
    rw [A]
    constructor
    · rintro (e | e)
      · exact .inl e
      · exact .inr ⟨e.1, .inl e.2⟩
    · rintro (e | ⟨e1, e | e⟩)
      · exact .inl e
      · exact .inr ⟨e1, e⟩
      · exact (h ⟨e1, e.1⟩).elim
theorem lvN_up (hg : gatesOk z n) {j k i : Nat} (hjk : j ≤ k) (hk : k ≤ n) (h : fl (lvN z n os j) i = true) : fl (lvN z n os k) i = true := by
  induction k with
  | zero => rw [show j = 0 by omega] at h; exact h
  | succ k ih =>
    rcases Nat.lt_or_ge j (k + 1) with h1 | h1
    · rw [lvN]
      exact (lvS_at hg (lvN_length z n os k) (by omega) i).2 (.inl (ih (by omega) (by omega)))
    · rw [show k + 1 = j by omega]
      exact h
/-- A gate's flag turns no more when the gates behind it are looked at. -/
theorem lvN_last (hg : gatesOk z n) {i : Nat} (hi : i < n) {j : Nat} (h0 : n - 1 - i ≤ j) (hj : j ≤ n) : fl (lvN z n os j) i = true ↔ fl (lvN z n os (n - 1 - i)) i = true := by
  induction j with
  | zero => rw [show n - 1 - i = 0 by omega]
  | succ j ih =>
    rcases Nat.lt_or_ge (n - 1 - i) (j + 1) with h1 | h1
    · rw [lvN, lvS_at hg (lvN_length z n os j) (by omega) i, ih (by omega) (by omega)]
      constructor
      · rintro (e | ⟨_, e⟩)
        · exact e
        · exfalso
          obtain ⟨b1, b2⟩ := arg_lt hg (show n - 1 - j < n by omega)
          rcases e with ⟨e1, e2⟩ | ⟨e1, e2⟩
          · have := b1 e1; omega
          · have := b2 e1; omega
      · exact .inl
    · rw [show n - 1 - i = j + 1 by omega]
theorem lv_last (hg : gatesOk z n) {i : Nat} (hi : i < n) {j : Nat} (h0 : n - 1 - i ≤ j) (hj : j ≤ n) : fl (lvN z n os j) i = true ↔ fl (lv z n os) i = true := by
  rw [lvN_last hg hi h0 hj]
  exact (lvN_last hg hi (by omega) (Nat.le_refl n)).symm
theorem lv_out (hg : gatesOk z n) {i : Nat} (hi : i < n) (h : (i : Int) ∈ os) : fl (lv z n os) i = true :=
  lvN_up hg (Nat.zero_le n) (Nat.le_refl n) ((lvO_at os hi).2 h)
theorem lv_arg (hg : gatesOk z n) {j i : Nat} (hj : j < n) (h : fl (lv z n os) j = true) (ho : opnd z j i) : fl (lv z n os) i = true := by
  have h1 := (lv_last hg hj (Nat.le_refl (n - 1 - j)) (by omega)).2 h
  have h2 : fl (lvN z n os (n - 1 - j + 1)) i = true := by
    rw [lvN, show n - 1 - (n - 1 - j) = j by omega]
    exact (lvS_at hg (lvN_length z n os _) hj i).2 (.inr ⟨h1, ho⟩)
  exact lvN_up hg (show n - 1 - j + 1 ≤ n by omega) (Nat.le_refl n) h2
theorem lv_why (hg : gatesOk z n) {i : Nat} (hi : i < n) : ∀ j, j ≤ n → fl (lvN z n os j) i = true → (i : Int) ∈ os ∨ ∃ t, i < t ∧ t < n ∧ fl (lv z n os) t = true ∧ opnd z t i := by
  intro j
  induction j with
  | zero => exact fun _ h => .inl ((lvO_at os hi).1 h)
  | succ j ih =>
    intro hj h
    rw [lvN] at h
    rcases (lvS_at hg (lvN_length z n os j) (by omega) i).1 h with h1 | ⟨h1, h2⟩
    · exact ih (by omega) h1
    · refine .inr ⟨n - 1 - j, ?_, by omega, (lv_last hg (show n - 1 - j < n by omega) (show n - 1 - (n - 1 - j) ≤ j by omega) (by omega)).1 h1, h2⟩
      obtain ⟨b1, b2⟩ := arg_lt hg (show n - 1 - j < n by omega)
      rcases h2 with ⟨e1, e2⟩ | ⟨e1, e2⟩
      · have := b1 e1; omega
      · have := b2 e1; omega
end
end Go.Proofs.Ytkcknejkldhmaaa

/- Pruning in plain numbers: the pruned circuit is valid, computes the same, and pruning it again changes nothing. No condition. -/
import Derived.Test.YtkcknejkldhmaaaProg
import Derived.Test.YtkcknejkldhmaaaSmP
namespace Go.Proofs.Ytkcknejkldhmaaa
open Go Go.RowKit
/-- How many of the first i flags are set. -/
def rnk (L : List Bool) : Nat → Nat
  | 0 => 0
  | i + 1 => rnk L i + if fl L i = true then 1 else 0
/-- The gates left of the first i, their wires replaced. -/
def newA (L : List Bool) (k a : Int) : Int := if one1 k then (rnk L a.toNat : Nat) else a
def newB (L : List Bool) (k b : Int) : Int := if two k then (rnk L b.toNat : Nat) else b
def prA (z : List Int) (L : List Bool) : Nat → List Int
  | 0 => []
  | i + 1 => if fl L i = true then putG (prA z L i) (gk z i) (newA L (gk z i) (ga z i)) (newB L (gk z i) (gb z i)) else prA z L i
def prO (L : List Bool) (os : List Int) : List Int := os.map fun o => ((rnk L o.toNat : Nat) : Int)
/-- Pruned: gates, their number, and outputs. -/
def pruZ (z : List Int) (n : Nat) (os : List Int) : List Int := if cirOk z n os then prA z (lv z n os) n else z
def pruO (z : List Int) (n : Nat) (os : List Int) : List Int := if cirOk z n os then prO (lv z n os) os else os
def livI (z : List Int) (n : Nat) (os : List Int) : Int := if cirOk z n os then (rnk (lv z n os) n : Nat) else -1
theorem rnk_le (L : List Bool) (i : Nat) : rnk L i ≤ i := by
  induction i with
  | zero => exact Nat.le_refl _
  | succ i ih => simp only [rnk]; split <;> omega
theorem rnk_mono (L : List Bool) {i j : Nat} (h : i ≤ j) : rnk L i ≤ rnk L j := by
  induction j with
  | zero => rw [show i = 0 by omega]; exact Nat.le_refl _
  | succ j ih =>
    rcases Nat.lt_or_ge i (j + 1) with h1 | h1
    · have := ih (by omega)
      simp only [rnk]; omega
    · rw [show i = j + 1 by omega]; exact Nat.le_refl _
theorem rnk_lt (L : List Bool) {i j : Nat} (h : i < j) (hf : fl L i = true) : rnk L i < rnk L j := by
  have := rnk_mono L (show i + 1 ≤ j by omega)
  simp only [rnk, if_pos hf] at this
  omega
/-- Each place below the number of flags is some gate's. -/
theorem rnk_of (L : List Bool) : ∀ n p, p < rnk L n → ∃ i, i < n ∧ fl L i = true ∧ rnk L i = p := by
  intro n
  induction n with
  | zero => intro p h; simp [rnk] at h
  | succ n ih =>
    intro p h
    simp only [rnk] at h
    by_cases hf : fl L n = true
    · rw [if_pos hf] at h
      rcases Nat.lt_or_ge p (rnk L n) with h1 | h1
      · obtain ⟨i, hi, h2, h3⟩ := ih p h1
        exact ⟨i, by omega, h2, h3⟩
      · exact ⟨n, by omega, hf, by omega⟩
    · rw [if_neg hf] at h
      obtain ⟨i, hi, h2, h3⟩ := ih p h
      exact ⟨i, by omega, h2, h3⟩
theorem rnk_all {L : List Bool} {n : Nat} (h : ∀ i, i < n → fl L i = true) : ∀ i, i ≤ n → rnk L i = i := by
  intro i
  induction i with
  | zero => exact fun _ => rfl
  | succ i ih =>
    intro hi
    simp only [rnk]
    rw [ih (by omega), if_pos (h i (by omega))]
/-- The operands of needed gates are needed. -/
def cls (z : List Int) (n : Nat) (L : List Bool) : Prop := ∀ j i, j < n → fl L j = true → opnd z j i → fl L i = true
theorem prA_length (z : List Int) (L : List Bool) (i : Nat) : (prA z L i).length = rnk L i * 3 := by
  induction i with
  | zero => rfl
  | succ i ih =>
    simp only [prA, rnk]
    split
    · exact putG_length _ _ _ ih
    · exact ih
section
variable {z bs os : List Int} {n : Nat} {L : List Bool}
theorem new_ok (hg : gatesOk z n) (hc : cls z n L) {i : Nat} (hi : i < n) (hf : fl L i = true) : gateOk (gk z i) (newA L (gk z i) (ga z i)) (newB L (gk z i) (gb z i)) (rnk L i : Nat) := by
  have ok := hg i hi
  have h1 := hc i (ga z i).toNat hi hf
  have h2 := hc i (gb z i).toNat hi hf
  unfold opnd at h1 h2
  unfold newA newB
  generalize gk z i = k at *
  generalize ga z i = a at *
  generalize gb z i = b at *
  rcases ok with ⟨rfl, ha, rfl⟩ | ⟨rfl, ha, rfl⟩ | ⟨hk, ha, hb⟩ | ⟨rfl, ha, rfl⟩
  · rw [if_neg (by unfold one1; omega), if_neg (by unfold two; omega)]
    exact .inl ⟨rfl, ha, rfl⟩
  · rw [if_neg (by unfold one1; omega), if_neg (by unfold two; omega)]
    exact .inr (.inl ⟨rfl, ha, rfl⟩)
  · have o1 : one1 k := by unfold one1; omega
    rw [if_pos o1, if_pos (show two k from hk)]
    have := rnk_lt L (show a.toNat < i by omega) (h1 (.inl ⟨o1, by omega⟩))
    have := rnk_lt L (show b.toNat < i by omega) (h2 (.inr ⟨hk, by omega⟩))
    exact .inr (.inr (.inl ⟨hk, by omega, by omega⟩))
  · rw [if_pos (by unfold one1; omega), if_neg (by unfold two; omega)]
    have := rnk_lt L (show a.toNat < i by omega) (h1 (.inl ⟨by unfold one1; omega, by omega⟩))
    exact .inr (.inr (.inr ⟨rfl, by omega, rfl⟩))
theorem prA_ok (hg : gatesOk z n) (hc : cls z n L) : ∀ i, i ≤ n → gatesOk (prA z L i) (rnk L i) := by
  intro i
  induction i with
  | zero => exact fun _ j hj => by simp [rnk] at hj
  | succ i ih =>
    intro hi
    simp only [prA, rnk]
    by_cases hf : fl L i = true
    · rw [if_pos hf, if_pos hf]
      exact gatesOk_snoc (prA_length z L i) (ih (by omega)) (new_ok hg hc (by omega) hf)
    · rw [if_neg hf, if_neg hf]
      exact ih (by omega)
theorem prA_val (hg : gatesOk z n) (hc : cls z n L) : ∀ i, i ≤ n → ∀ j, j < i → fl L j = true → Val (prA z L i) bs (rnk L i) (rnk L j : Nat) ((wv z bs i).getD j 0) := by
  intro i
  induction i with
  | zero => intro _ j hj; omega
  | succ i ih =>
    intro hi j hj hfj
    have I := ih (by omega)
    have hl := prA_length z L i
    simp only [prA, rnk]
    rcases Nat.lt_or_ge j i with h1 | h1
    · rw [wv_pre z bs (Nat.le_succ i) h1]
      by_cases hf : fl L i = true
      · rw [if_pos hf, if_pos hf]
        exact (I j h1 hfj).put _ _ _ hl
      · rw [if_neg hf, if_neg hf]
        exact I j h1 hfj
    · have ej : j = i := by omega
      subst ej
      rw [if_pos hfj, if_pos hfj, wv, gD_right (by rw [wv_length]; omega), wv_length, Nat.sub_self]
      have v := Val.new (bs := bs) (gk z j) (newA L (gk z j) (ga z j)) (newB L (gk z j) (gb z j)) hl
      rw [nG_is hl] at v
      refine v.is ?_
      show _ = gval (gk z j) (ga z j) (gb z j) (wv z bs j) bs
      have ok := hg j (by omega)
      have h1 := hc j (ga z j).toNat (by omega) hfj
      have h2 := hc j (gb z j).toNat (by omega) hfj
      unfold opnd at h1 h2
      unfold newA newB
      generalize gk z j = k at *
      generalize ga z j = a at *
      generalize gb z j = b at *
      rcases ok with ⟨rfl, ha, rfl⟩ | ⟨rfl, ha, rfl⟩ | ⟨hk, ha, hb⟩ | ⟨rfl, ha, rfl⟩
      · rw [if_neg (by unfold one1; omega)]
        simp [gval]
      · rw [if_neg (by unfold one1; omega)]
        simp [gval]
      · have o1 : one1 k := by unfold one1; omega
        rw [if_pos o1, if_pos (show two k from hk)]
        have va := (I a.toNat (by omega) (h1 (.inl ⟨o1, by omega⟩))).2.2
        have vb := (I b.toNat (by omega) (h2 (.inr ⟨hk, by omega⟩))).2.2
        rcases hk with rfl | rfl
        · simp [gval]
          simp only [← List.getD_eq_getElem?_getD]
          rw [← va, ← vb]
          simp
        · simp [gval]
          simp only [← List.getD_eq_getElem?_getD]
          rw [← va, ← vb]
          simp
      · rw [if_pos (by unfold one1; omega)]
        have va := (I a.toNat (by omega) (h1 (.inl ⟨by unfold one1; omega, by omega⟩))).2.2
        unfold gval
        rw [va]
        simp
theorem lv_cls (hg : gatesOk z n) : cls z n (lv z n os) := fun _ _ hj h ho => lv_arg hg hj h ho
/-- A gate that is left. -/
theorem prA_at {i0 : Nat} (hL : fl L i0 = true) {i : Nat} (h : i0 < i) : gk (prA z L i) (rnk L i0) = gk z i0 ∧ ga (prA z L i) (rnk L i0) = newA L (gk z i0) (ga z i0) ∧ gb (prA z L i) (rnk L i0) = newB L (gk z i0) (gb z i0) := by
  induction i with
  | zero => omega
  | succ i ih =>
    have hl := prA_length z L i
    simp only [prA]
    rcases Nat.lt_or_ge i0 i with h1 | h1
    · have I := ih h1
      by_cases hf : fl L i = true
      · have hr := rnk_lt L h1 hL
        rw [if_pos hf]
        unfold putG
        rw [gk_left hl hr, ga_left hl hr, gb_left hl hr]
        exact I
      · rw [if_neg hf]
        exact I
    · have ei : i0 = i := by omega
      subst ei
      rw [if_pos hL]
      exact gate_last _ _ _ hl
/-- A pruned circuit. -/
theorem pru_ok (h : cirOk z n os) : (pruZ z n os).length = rnk (lv z n os) n * 3 ∧ rnk (lv z n os) n ≤ n ∧ cirOk (pruZ z n os) (rnk (lv z n os) n) (pruO z n os) ∧ (pruO z n os).length = os.length ∧ ∀ bs, evC (pruZ z n os) (rnk (lv z n os) n) (pruO z n os) bs = evC z n os bs := by
  have e1 : pruZ z n os = prA z (lv z n os) n := if_pos h
  have e2 : pruO z n os = prO (lv z n os) os := if_pos h
  have hc := lv_cls (os := os) h.2.1
  have hle := rnk_le (lv z n os) n
  have hl : ∀ o ∈ os, fl (lv z n os) o.toNat = true := fun o ho => by
    have := h.2.2 o ho
    exact lv_out h.2.1 (by omega) (by rw [Int.toNat_of_nonneg this.1]; exact ho)
  have hw : wiresOk (prO (lv z n os) os) (rnk (lv z n os) n) := fun x hx => by
    obtain ⟨o, ho, rfl⟩ := List.mem_map.1 hx
    have := h.2.2 o ho
    have := rnk_lt (lv z n os) (show o.toNat < n by omega) (hl o ho)
    omega
  have hk : cirOk (prA z (lv z n os) n) (rnk (lv z n os) n) (prO (lv z n os) os) := ⟨by have := h.1; omega, prA_ok h.2.1 hc n (Nat.le_refl n), hw⟩
  rw [e1, e2]
  refine ⟨prA_length _ _ _, hle, hk, by simp [prO], fun bs => ?_⟩
  unfold evC
  by_cases hb : bitsOk bs
  · rw [if_pos (show evOk _ _ _ _ from ⟨hk, hb⟩), if_pos (show evOk _ _ _ _ from ⟨h, hb⟩)]
    unfold outV prO
    rw [List.map_map]
    refine List.map_congr_left fun o ho => ?_
    have := h.2.2 o ho
    have v := (prA_val (bs := bs) h.2.1 hc n (Nat.le_refl n) o.toNat (by omega) (hl o ho)).2.2
    exact v
  · rw [if_neg (fun e : evOk _ _ _ _ => hb e.2), if_neg (fun e : evOk _ _ _ _ => hb e.2)]
theorem pru_no (h : ¬ cirOk z n os) : pruZ z n os = z ∧ pruO z n os = os ∧ livI z n os = -1 := ⟨if_neg h, if_neg h, if_neg h⟩
/-- In a pruned circuit every gate is needed. -/
theorem pru_all (h : cirOk z n os) : ∀ p, p < rnk (lv z n os) n → fl (lv (pruZ z n os) (rnk (lv z n os) n) (pruO z n os)) p = true := by
  have e1 : pruZ z n os = prA z (lv z n os) n := if_pos h
  have e2 : pruO z n os = prO (lv z n os) os := if_pos h
  have hk := (pru_ok h).2.2.1
  rw [e1, e2] at hk
  rw [e1, e2]
  have main : ∀ d i, n - i = d → i < n → fl (lv z n os) i = true → fl (lv (prA z (lv z n os) n) (rnk (lv z n os) n) (prO (lv z n os) os)) (rnk (lv z n os) i) = true := by
    intro d
    induction d using Nat.strongRecOn with
    | _ d ih =>
      intro i hd hi hf
      have hr := rnk_lt (lv z n os) hi hf
      rcases lv_why h.2.1 hi n (Nat.le_refl n) hf with ho | ⟨t, ht1, ht2, hft, hop⟩
      · refine lv_out hk.2.1 hr ?_
        exact List.mem_map.2 ⟨(i : Int), ho, by simp⟩
      · have I := ih (n - t) (by omega) t rfl ht2 hft
        refine lv_arg hk.2.1 (rnk_lt (lv z n os) ht2 hft) I ?_
        obtain ⟨a1, a2, a3⟩ := prA_at (z := z) hft ht2
        unfold opnd at hop ⊢
        rw [a1, a2, a3]
        rcases hop with ⟨o1, o2⟩ | ⟨o1, o2⟩
        · refine .inl ⟨o1, ?_⟩
          unfold newA
          rw [if_pos o1, o2]
          simp
        · refine .inr ⟨o1, ?_⟩
          unfold newB
          rw [if_pos o1, o2]
          simp
  intro p hp
  obtain ⟨i, hi, hf, rfl⟩ := rnk_of (lv z n os) n p hp
  exact main (n - i) i rfl hi hf
end
end Go.Proofs.Ytkcknejkldhmaaa

/- Simplification in plain numbers: gates that are there already, constants, negations; what a simplified circuit computes. No condition. -/
import Derived.Test.YtkcknejkldhmaaaProg
import Derived.Test.YtkcknejkldhmaaaW1
namespace Go.Proofs.Ytkcknejkldhmaaa
open Go Go.RowKit
/-- Whether gate i is this one. -/
def isG (z : List Int) (k a b : Int) (i : Nat) : Prop := gk z i = k ∧ ga z i = a ∧ gb z i = b
instance (z : List Int) (k a b : Int) (i : Nat) : Decidable (isG z k a b i) := by unfold isG; infer_instance
/-- The first of the first n gates that is this one, or n. -/
def findG (z : List Int) (k a b : Int) : Nat → Nat
  | 0 => 0
  | i + 1 => if findG z k a b i < i then findG z k a b i else if isG z k a b i then i else i + 1
theorem findG_le (z : List Int) (k a b : Int) (n : Nat) : findG z k a b n ≤ n := by
  induction n with
  | zero => exact Nat.le_refl _
  | succ n ih =>
    simp only [findG]
    split
    · omega
    · split <;> omega
theorem findG_none {z : List Int} {k a b : Int} {n : Nat} (h : ∀ j, j < n → ¬ isG z k a b j) : findG z k a b n = n := by
  induction n with
  | zero => rfl
  | succ n ih =>
    have e := ih (fun j hj => h j (by omega))
    simp only [findG]
    rw [e, if_neg (Nat.lt_irrefl n), if_neg (h n (by omega))]
theorem findG_is {z : List Int} {k a b : Int} {i n : Nat} (hi : i < n) (h : isG z k a b i) (hn : ∀ j, j < i → ¬ isG z k a b j) : findG z k a b n = i := by
  induction n with
  | zero => omega
  | succ n ih =>
    simp only [findG]
    rcases Nat.lt_or_ge i n with h1 | h1
    · have e := ih h1
      rw [e, if_pos h1]
    · have e1 : i = n := by omega
      subst e1
      rw [findG_none hn, if_neg (Nat.lt_irrefl i), if_pos h]
theorem findG_yes {z : List Int} {k a b : Int} {n : Nat} (h : findG z k a b n < n) : isG z k a b (findG z k a b n) := by
  induction n with
  | zero => omega
  | succ n ih =>
    simp only [findG] at h ⊢
    by_cases h1 : findG z k a b n < n
    · rw [if_pos h1]
      exact ih h1
    · rw [if_neg h1] at h ⊢
      by_cases h2 : isG z k a b n
      · rw [if_pos h2]
        exact h2
      · rw [if_neg h2] at h
        omega
theorem findG_no {z : List Int} {k a b : Int} {n : Nat} (h : ¬ findG z k a b n < n) : ∀ j, j < n → ¬ isG z k a b j := by
  induction n with
  | zero => intro j hj; omega
  | succ n ih =>
    simp only [findG] at h
    by_cases h1 : findG z k a b n < n
    · rw [if_pos h1] at h
      omega
    · rw [if_neg h1] at h
      by_cases h2 : isG z k a b n
      · rw [if_pos h2] at h
        omega
      · intro j hj
        rcases Nat.lt_or_ge j n with h3 | h3
        · exact ih h1 j h3
        · have e : j = n := by omega
          subst e
          exact h2
/-- A gate: the wire of an equal one, or of a new one behind the others. -/
def gateG (z : List Int) (k a b : Int) : List Int × Int :=
  if findG z k a b (z.length / 3) < z.length / 3 then (z, (findG z k a b (z.length / 3) : Nat)) else (putG z k a b, nG z)
/-- The same with the operands in order. -/
def ordG (z : List Int) (k a b : Int) : List Int × Int := if b < a ∧ (k = 3 ∨ k = 4) then gateG z k b a else gateG z k a b
/-- The value of a constant wire, or -1. -/
def valG (z : List Int) (w : Int) : Int := if gk z w.toNat = 2 then ga z w.toNat else -1
def notG (z : List Int) (w : Int) : List Int × Int :=
  if gk z w.toNat = 2 then ordG z 2 (1 - ga z w.toNat) 0 else if gk z w.toNat = 5 then (z, ga z w.toNat) else ordG z 5 w 0
def xorG (z : List Int) (a b : Int) : List Int × Int :=
  if a = b then ordG z 2 0 0 else if valG z a = 0 then (z, b) else if valG z a = 1 then notG z b else if valG z b = 0 then (z, a) else if valG z b = 1 then notG z a else ordG z 3 a b
def andG (z : List Int) (a b : Int) : List Int × Int :=
  if a = b then (z, a) else if valG z a = 0 then ordG z 2 0 0 else if valG z a = 1 then (z, b) else if valG z b = 0 then ordG z 2 0 0 else if valG z b = 1 then (z, a) else ordG z 4 a b
/-- A gate of the old circuit, where ts says the new wires of those before it. -/
def simG (y ts : List Int) (k a b : Int) : List Int × Int :=
  if k = 3 then xorG y (ts.getD a.toNat 0) (ts.getD b.toNat 0) else if k = 4 then andG y (ts.getD a.toNat 0) (ts.getD b.toNat 0) else if k = 5 then notG y (ts.getD a.toNat 0) else ordG y k a b
/-- The first i gates: the new gates, and the new wires of the old ones. -/
def simA (z : List Int) : Nat → List Int × List Int
  | 0 => ([], [])
  | i + 1 => ((simG (simA z i).1 (simA z i).2 (gk z i) (ga z i) (gb z i)).1, (simA z i).2 ++ [(simG (simA z i).1 (simA z i).2 (gk z i) (ga z i) (gb z i)).2])
/-- Simplified: gates, and outputs. -/
def simZ (z : List Int) (n : Nat) (os : List Int) : List Int := if cirOk z n os then (simA z n).1 else z
def simO (z : List Int) (n : Nat) (os : List Int) : List Int := if cirOk z n os then outV (simA z n).2 os else os
/-- No gate is there twice. -/
def once (z : List Int) (n : Nat) : Prop := ∀ i j, i < j → j < n → ¬ isG z (gk z j) (ga z j) (gb z j) i
/-- One gate at most is appended: what it leaves, and its wire's value. -/
structure Put1 (bs z : List Int) (n : Nat) (r : List Int × Int) (x : Int) (c : Nat) : Prop where
  ex : ∃ n', n ≤ n' ∧ n' ≤ n + 1 ∧ Step bs z n r.1 n' ∧ gatesOk r.1 n' ∧ Val r.1 bs n' r.2 x ∧ cnt r.1 4 n' ≤ cnt z 4 n + c ∧ (once z n → once r.1 n')
section
variable {bs z : List Int} {n c : Nat} {k a b w x y : Int} {r : List Int × Int}
theorem Val.at_ (h : Val z bs n w x) (hg : gatesOk z n) : x = gval (gk z w.toNat) (ga z w.toNat) (gb z w.toNat) (wv z bs n) bs := by
  rw [← h.2.2, wv_at hg (by have := h.1; have := h.2.1; omega)]
theorem Val.ok (h : Val z bs n w x) (hg : gatesOk z n) : gateOk (gk z w.toNat) (ga z w.toNat) (gb z w.toNat) w.toNat := hg _ (by have := h.1; have := h.2.1; omega)
theorem Put1.same (hz : z.length = n * 3) (hg : gatesOk z n) (hv : Val z bs n w x) (c : Nat) : Put1 bs z n (z, w) x c :=
  ⟨n, Nat.le_refl _, by omega, Step.refl _ hz, hg, hv, by simp, fun h => h⟩
theorem Put1.is (h : Put1 bs z n r x c) (e : x = y) : Put1 bs z n r y c := e ▸ h
theorem Put1.more {c' : Nat} (h : Put1 bs z n r x c) (e : c ≤ c') : Put1 bs z n r x c' := by
  obtain ⟨n', h1, h2, h3, h4, h5, h6, h7⟩ := h.ex
  exact ⟨n', h1, h2, h3, h4, h5, by omega, h7⟩
theorem gateG_put (hz : z.length = n * 3) (hg : gatesOk z n) (ok : gateOk k a b n) : Put1 bs z n (gateG z k a b) (gval k a b (wv z bs n) bs) (if k = 4 then 1 else 0) := by
  have hn : z.length / 3 = n := by omega
  unfold gateG
  rw [hn]
  by_cases hf : findG z k a b n < n
  · rw [if_pos hf]
    obtain ⟨e1, e2, e3⟩ := findG_yes hf
    refine Put1.same hz hg ⟨by omega, by omega, ?_⟩ _
    rw [Int.toNat_natCast, wv_at hg hf, e1, e2, e3]
  · rw [if_neg hf]
    obtain ⟨e1, e2, e3⟩ := gate_last k a b hz
    refine ⟨n + 1, by omega, Nat.le_refl _, (Step.refl _ hz).put k a b, gatesOk_snoc hz hg ok, Val.new k a b hz, ?_, fun ho i j hij hj => ?_⟩
    · show cnt (z ++ [k, a, b]) 4 (n + 1) ≤ _
      rw [cnt, cnt_left hz n (Nat.le_refl _), e1]
      exact Nat.le_refl _
    · show ¬ isG (z ++ [k, a, b]) (gk (z ++ [k, a, b]) j) (ga (z ++ [k, a, b]) j) (gb (z ++ [k, a, b]) j) i
      rcases Nat.lt_or_ge j n with h1 | h1
      · have := ho i j hij h1
        unfold isG at this ⊢
        rw [gk_left hz h1, ga_left hz h1, gb_left hz h1, gk_left hz (by omega), ga_left hz (by omega), gb_left hz (by omega)]
        exact this
      · have ej : j = n := by omega
        subst ej
        have := findG_no hf i hij
        unfold isG at this ⊢
        rw [e1, e2, e3, gk_left hz hij, ga_left hz hij, gb_left hz hij]
        exact this
theorem gval_swap (h : k = 3 ∨ k = 4) (v : List Int) : gval k b a v bs = gval k a b v bs := by
  unfold gval
  rcases h with rfl | rfl
  · simp only [show ¬ (3 : Int) = 1 by omega, show ¬ (3 : Int) = 2 by omega, if_false, if_true, eq_comm]
  · simp only [show ¬ (4 : Int) = 1 by omega, show ¬ (4 : Int) = 2 by omega, show ¬ (4 : Int) = 3 by omega, if_false, if_true, Int.mul_comm]
theorem ordG_put (hz : z.length = n * 3) (hg : gatesOk z n) (ok : gateOk k a b n) : Put1 bs z n (ordG z k a b) (gval k a b (wv z bs n) bs) (if k = 4 then 1 else 0) := by
  unfold ordG
  by_cases h : b < a ∧ (k = 3 ∨ k = 4)
  · rw [if_pos h]
    refine (gateG_put hz hg ?_).is (gval_swap h.2 _)
    unfold gateOk at ok ⊢
    omega
  · rw [if_neg h]
    exact gateG_put hz hg ok
theorem const_put (hz : z.length = n * 3) (hg : gatesOk z n) (hx : isBit x) : Put1 bs z n (ordG z 2 x 0) x 0 :=
  (ordG_put hz hg (.inr (.inl ⟨rfl, hx, rfl⟩))).is (by simp [gval])
theorem notG_put (hz : z.length = n * 3) (hg : gatesOk z n) (hv : Val z bs n w x) : Put1 bs z n (notG z w) (1 - x) 0 := by
  have ok := hv.ok hg
  have ex := hv.at_ hg
  have h0 := hv.1
  have h1 := hv.2.1
  unfold notG
  by_cases h2 : gk z w.toNat = 2
  · rw [if_pos h2]
    rw [h2] at ok ex
    have e : x = ga z w.toNat := by rw [ex]; simp [gval]
    have hb : isBit (1 - ga z w.toNat) := by unfold gateOk at ok; unfold isBit; omega
    exact (const_put hz hg hb).is (by rw [e])
  · rw [if_neg h2]
    by_cases h5 : gk z w.toNat = 5
    · rw [if_pos h5]
      rw [h5] at ok ex
      have e : x = 1 - (wv z bs n).getD (ga z w.toNat).toNat 0 := by rw [ex]; simp [gval]
      have hr : 0 ≤ ga z w.toNat ∧ ga z w.toNat < w.toNat := by unfold gateOk at ok; omega
      exact Put1.same hz hg ⟨hr.1, by omega, by omega⟩ _
    · rw [if_neg h5]
      exact ((ordG_put hz hg (.inr (.inr (.inr ⟨rfl, ⟨h0, h1⟩, rfl⟩)))).is (by rw [← hv.2.2]; simp [gval])).more (by simp)
theorem valG_is (hg : gatesOk z n) (hv : Val z bs n w x) {v : Int} (h : valG z w = v) (h0 : 0 ≤ v) : x = v := by
  unfold valG at h
  by_cases h2 : gk z w.toNat = 2
  · rw [if_pos h2] at h
    have ex := hv.at_ hg
    rw [h2] at ex
    rw [ex, ← h]
    simp [gval]
  · rw [if_neg h2] at h
    omega
theorem xorG_put (hz : z.length = n * 3) (hg : gatesOk z n) (ha : Val z bs n a x) (hb : Val z bs n b y) (hx : isBit x) (hy : isBit y) : Put1 bs z n (xorG z a b) (if x = y then 0 else 1) 0 := by
  unfold xorG
  by_cases e : a = b
  · rw [if_pos e]
    have exy : x = y := by rw [← ha.2.2, ← hb.2.2, e]
    rw [if_pos exy]
    exact const_put hz hg (by unfold isBit; omega)
  rw [if_neg e]
  by_cases e0 : valG z a = 0
  · rw [if_pos e0]
    have := valG_is hg ha e0 (by omega)
    refine Put1.same hz hg (hb.is ?_) _
    rcases hy.or with h | h <;> rw [this, h] <;> decide
  rw [if_neg e0]
  by_cases e1 : valG z a = 1
  · rw [if_pos e1]
    have := valG_is hg ha e1 (by omega)
    refine (notG_put hz hg hb).is ?_
    rcases hy.or with h | h <;> rw [this, h] <;> decide
  rw [if_neg e1]
  by_cases f0 : valG z b = 0
  · rw [if_pos f0]
    have := valG_is hg hb f0 (by omega)
    refine Put1.same hz hg (ha.is ?_) _
    rcases hx.or with h | h <;> rw [this, h] <;> decide
  rw [if_neg f0]
  by_cases f1 : valG z b = 1
  · rw [if_pos f1]
    have := valG_is hg hb f1 (by omega)
    refine (notG_put hz hg ha).is ?_
    rcases hx.or with h | h <;> rw [this, h] <;> decide
  rw [if_neg f1]
  exact ((ordG_put hz hg (.inr (.inr (.inl ⟨.inl rfl, ⟨ha.1, ha.2.1⟩, hb.1, hb.2.1⟩)))).is (by rw [← ha.2.2, ← hb.2.2]; simp [gval])).more (by simp)
theorem andG_put (hz : z.length = n * 3) (hg : gatesOk z n) (ha : Val z bs n a x) (hb : Val z bs n b y) (hx : isBit x) : Put1 bs z n (andG z a b) (x * y) 1 := by
  unfold andG
  by_cases e : a = b
  · rw [if_pos e]
    have exy : x = y := by rw [← ha.2.2, ← hb.2.2, e]
    refine Put1.same hz hg (ha.is ?_) _
    rcases hx.or with h | h <;> rw [← exy, h] <;> decide
  rw [if_neg e]
  by_cases e0 : valG z a = 0
  · rw [if_pos e0]
    have := valG_is hg ha e0 (by omega)
    exact ((const_put hz hg (by unfold isBit; omega)).is (by rw [this]; simp)).more (by omega)
  rw [if_neg e0]
  by_cases e1 : valG z a = 1
  · rw [if_pos e1]
    have := valG_is hg ha e1 (by omega)
    exact Put1.same hz hg (hb.is (by rw [this]; simp)) _
  rw [if_neg e1]
  by_cases f0 : valG z b = 0
  · rw [if_pos f0]
    have := valG_is hg hb f0 (by omega)
    exact ((const_put hz hg (by unfold isBit; omega)).is (by rw [this]; simp)).more (by omega)
  rw [if_neg f0]
  by_cases f1 : valG z b = 1
  · rw [if_pos f1]
    have := valG_is hg hb f1 (by omega)
    exact Put1.same hz hg (ha.is (by rw [this]; simp)) _
  rw [if_neg f1]
  exact (ordG_put hz hg (.inr (.inr (.inl ⟨.inr rfl, ⟨ha.1, ha.2.1⟩, hb.1, hb.2.1⟩)))).is (by rw [← ha.2.2, ← hb.2.2]; simp [gval])
end
end Go.Proofs.Ytkcknejkldhmaaa

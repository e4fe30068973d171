/- Simplification in plain numbers: gates that are there already, constants, negations; what a simplified circuit computes. No condition. And what goes with it. -/
import Derived.Test.YtegdlegndgdgiaaProg
import Derived.Test.YtegdlegndgdgiaaW1
namespace Go.Proofs.Ytegdlegndgdgiaa
open Go Go.RowKit
/-- Whether gate i is this one. -/
def isG (z : List Int) (k a b : Int) (i : Nat) : Prop := gk z i = k ∧ ga z i = a ∧ gb z i = b
instance (z : List Int) (k a b : Int) (i : Nat) : Decidable (isG z k a b i) := by unfold isG; infer_instance
/-- The first of the first n gates that is this one, or n. -/
def findG (z : List Int) (k a b : Int) : Nat → Nat
  | 0 => 0
  | i + 1 => if findG z k a b i < i then findG z k a b i else if isG z k a b i then i else i + 1
theorem findG_le (z : List Int) (k a b : Int) (n : Nat) : findG z k a b n ≤ n := by
  induction n with
  | zero => exact Nat.le_refl _
  | succ n ih =>
    simp only [findG]
    split
    · omega
    · split <;> omega
theorem findG_none {z : List Int} {k a b : Int} {n : Nat} (h : ∀ j, j < n → ¬ isG z k a b j) : findG z k a b n = n := by
  induction n with
  | zero => rfl
  | succ n ih =>
    have e := ih (fun j hj => h j (by omega))
    simp only [findG]
    rw [e, if_neg (Nat.lt_irrefl n), if_neg (h n (by omega))]
theorem findG_is {z : List Int} {k a b : Int} {i n : Nat} (hi : i < n) (h : isG z k a b i) (hn : ∀ j, j < i → ¬ isG z k a b j) : findG z k a b n = i := by
  induction n with
  | zero => omega
  | succ n ih =>
    simp only [findG]
    rcases Nat.lt_or_ge i n with h1 | h1
    · have e := ih h1
      rw [e, if_pos h1]
    · have e1 : i = n := by omega
      subst e1
      rw [findG_none hn, if_neg (Nat.lt_irrefl i), if_pos h]
theorem findG_yes {z : List Int} {k a b : Int} {n : Nat} (h : findG z k a b n < n) : isG z k a b (findG z k a b n) := by
  induction n with
  | zero => omega
  | succ n ih =>
    simp only [findG] at h ⊢
    by_cases h1 : findG z k a b n < n
    · rw [if_pos h1]
      exact ih h1
    · rw [if_neg h1] at h ⊢
      by_cases h2 : isG z k a b n
      · rw [if_pos h2]
        exact h2
      · rw [if_neg h2] at h
        omega
theorem findG_no {z : List Int} {k a b : Int} {n : Nat} (h : ¬ findG z k a b n < n) : ∀ j, j < n → ¬ isG z k a b j := by
  induction n with
  | zero => intro j hj; omega
  | succ n ih =>
    simp only [findG] at h
    by_cases h1 : findG z k a b n < n
    · rw [if_pos h1] at h
      omega
    · rw [if_neg h1] at h
      by_cases h2 : isG z k a b n
      · rw [if_pos h2] at h
        omega
      · intro j hj
        rcases Nat.lt_or_ge j n with h3 | h3
        · exact ih h1 j h3
        · have e : j = n := by omega
          subst e
          exact h2
/-- A gate: the wire of an equal one, or of a new one behind the others. -/
def gateG (z : List Int) (k a b : Int) : List Int × Int :=
  if findG z k a b (z.length / 3) < z.length / 3 then (z, (findG z k a b (z.length / 3) : Nat)) else (putG z k a b, nG z)
/-- The same with the operands in order. -/
def ordG (z : List Int) (k a b : Int) : List Int × Int := if b < a ∧ (k = 3 ∨ k = 4) then gateG z k b a else gateG z k a b
/-- The value of a constant wire, or -1. -/
def valG (z : List Int) (w : Int) : Int := if gk z w.toNat = 2 then ga z w.toNat else -1
def notG (z : List Int) (w : Int) : List Int × Int :=
  if gk z w.toNat = 2 then ordG z 2 (1 - ga z w.toNat) 0 else if gk z w.toNat = 5 then (z, ga z w.toNat) else ordG z 5 w 0
def xorG (z : List Int) (a b : Int) : List Int × Int :=
  if a = b then ordG z 2 0 0 else if valG z a = 0 then (z, b) else if valG z a = 1 then notG z b else if valG z b = 0 then (z, a) else if valG z b = 1 then notG z a else ordG z 3 a b
def andG (z : List Int) (a b : Int) : List Int × Int :=
  if a = b then (z, a) else if valG z a = 0 then ordG z 2 0 0 else if valG z a = 1 then (z, b) else if valG z b = 0 then ordG z 2 0 0 else if valG z b = 1 then (z, a) else ordG z 4 a b
/-- A gate of the old circuit, where ts says the new wires of those before it. -/
def simG (y ts : List Int) (k a b : Int) : List Int × Int :=
  if k = 3 then xorG y (ts.getD a.toNat 0) (ts.getD b.toNat 0) else if k = 4 then andG y (ts.getD a.toNat 0) (ts.getD b.toNat 0) else if k = 5 then notG y (ts.getD a.toNat 0) else ordG y k a b
/-- The first i gates: the new gates, and the new wires of the old ones. -/
def simA (z : List Int) : Nat → List Int × List Int
  | 0 => ([], [])
  | i + 1 => ((simG (simA z i).1 (simA z i).2 (gk z i) (ga z i) (gb z i)).1, (simA z i).2 ++ [(simG (simA z i).1 (simA z i).2 (gk z i) (ga z i) (gb z i)).2])
/-- Simplified: gates, and outputs. -/
def simZ (z : List Int) (n : Nat) (os : List Int) : List Int := if cirOk z n os then (simA z n).1 else z
def simO (z : List Int) (n : Nat) (os : List Int) : List Int := if cirOk z n os then outV (simA z n).2 os else os
/-- No gate is there twice. -/
def once (z : List Int) (n : Nat) : Prop := ∀ i j, i < j → j < n → ¬ isG z (gk z j) (ga z j) (gb z j) i
/-- One gate at most is appended: what it leaves, and its wire's value. -/
structure Put1 (bs z : List Int) (n : Nat) (r : List Int × Int) (x : Int) (c : Nat) : Prop where
  ex : ∃ n', n ≤ n' ∧ n' ≤ n + 1 ∧ Step bs z n r.1 n' ∧ gatesOk r.1 n' ∧ Val r.1 bs n' r.2 x ∧ cnt r.1 4 n' ≤ cnt z 4 n + c ∧ (once z n → once r.1 n')
section
variable {bs z : List Int} {n c : Nat} {k a b w x y : Int} {r : List Int × Int}
theorem Val.at_ (h : Val z bs n w x) (hg : gatesOk z n) : x = gval (gk z w.toNat) (ga z w.toNat) (gb z w.toNat) (wv z bs n) bs := by
  rw [← h.2.2, wv_at hg (by have := h.1; have := h.2.1; omega)]
theorem Val.ok (h : Val z bs n w x) (hg : gatesOk z n) : gateOk (gk z w.toNat) (ga z w.toNat) (gb z w.toNat) w.toNat := hg _ (by have := h.1; have := h.2.1; omega)
theorem Put1.same (hz : z.length = n * 3) (hg : gatesOk z n) (hv : Val z bs n w x) (c : Nat) : Put1 bs z n (z, w) x c :=
  ⟨n, Nat.le_refl _, by omega, Step.refl _ hz, hg, hv, by simp, fun h => h⟩
theorem Put1.is (h : Put1 bs z n r x c) (e : x = y) : Put1 bs z n r y c := e ▸ h
theorem Put1.more {c' : Nat} (h : Put1 bs z n r x c) (e : c ≤ c') : Put1 bs z n r x c' := by
  obtain ⟨n', h1, h2, h3, h4, h5, h6, h7⟩ := h.ex
  exact ⟨n', h1, h2, h3, h4, h5, by omega, h7⟩
theorem gateG_put (hz : z.length = n * 3) (hg : gatesOk z n) (ok : gateOk k a b n) : Put1 bs z n (gateG z k a b) (gval k a b (wv z bs n) bs) (if k = 4 then 1 else 0) := by
  have hn : z.length / 3 = n := by omega
  unfold gateG
  rw [hn]
  by_cases hf : findG z k a b n < n
  · rw [if_pos hf]
    obtain ⟨e1, e2, e3⟩ := findG_yes hf
    refine Put1.same hz hg ⟨by omega, by omega, ?_⟩ _
    rw [Int.toNat_natCast, wv_at hg hf, e1, e2, e3]
  · rw [if_neg hf]
    obtain ⟨e1, e2, e3⟩ := gate_last k a b hz
    refine ⟨n + 1, by omega, Nat.le_refl _, (Step.refl _ hz).put k a b, gatesOk_snoc hz hg ok, Val.new k a b hz, ?_, fun ho i j hij hj => ?_⟩
    · show cnt (z ++ [k, a, b]) 4 (n + 1) ≤ _
      rw [cnt, cnt_left hz n (Nat.le_refl _), e1]
      exact Nat.le_refl _
    · show ¬ isG (z ++ [k, a, b]) (gk (z ++ [k, a, b]) j) (ga (z ++ [k, a, b]) j) (gb (z ++ [k, a, b]) j) i
      rcases Nat.lt_or_ge j n with h1 | h1
      · have := ho i j hij h1
        unfold isG at this ⊢
        rw [gk_left hz h1, ga_left hz h1, gb_left hz h1, gk_left hz (by omega), ga_left hz (by omega), gb_left hz (by omega)]
        exact this
      · have ej : j = n := by omega
        subst ej
        have := findG_no hf i hij
        unfold isG at this ⊢
        rw [e1, e2, e3, gk_left hz hij, ga_left hz hij, gb_left hz hij]
        exact this
theorem gval_swap (h : k = 3 ∨ k = 4) (v : List Int) : gval k b a v bs = gval k a b v bs := by
  unfold gval
  rcases h with rfl | rfl
  · simp only [show ¬ (3 : Int) = 1 by omega, show ¬ (3 : Int) = 2 by omega, if_false, if_true, eq_comm]
  · simp only [show ¬ (4 : Int) = 1 by omega, show ¬ (4 : Int) = 2 by omega, show ¬ (4 : Int) = 3 by omega, if_false, if_true, Int.mul_comm]
theorem ordG_put (hz : z.length = n * 3) (hg : gatesOk z n) (ok : gateOk k a b n) : Put1 bs z n (ordG z k a b) (gval k a b (wv z bs n) bs) (if k = 4 then 1 else 0) := by
  unfold ordG
  by_cases h : b < a ∧ (k = 3 ∨ k = 4)
  · rw [if_pos h]
    refine (gateG_put hz hg ?_).is (gval_swap h.2 _)
    unfold gateOk at ok ⊢
    omega
  · rw [if_neg h]
    exact gateG_put hz hg ok
theorem const_put (hz : z.length = n * 3) (hg : gatesOk z n) (hx : isBit x) : Put1 bs z n (ordG z 2 x 0) x 0 :=
  (ordG_put hz hg (.inr (.inl ⟨rfl, hx, rfl⟩))).is (by simp [gval])
theorem notG_put (hz : z.length = n * 3) (hg : gatesOk z n) (hv : Val z bs n w x) : Put1 bs z n (notG z w) (1 - x) 0 := by
  have ok := hv.ok hg
  have ex := hv.at_ hg
  have h0 := hv.1
  have h1 := hv.2.1
  unfold notG
  by_cases h2 : gk z w.toNat = 2
  · rw [if_pos h2]
    rw [h2] at ok ex
    have e : x = ga z w.toNat := by rw [ex]; simp [gval]
    have hb : isBit (1 - ga z w.toNat) := by unfold gateOk at ok; unfold isBit; omega
    exact (const_put hz hg hb).is (by rw [e])
  · rw [if_neg h2]
    by_cases h5 : gk z w.toNat = 5
    · rw [if_pos h5]
      rw [h5] at ok ex
      have e : x = 1 - (wv z bs n).getD (ga z w.toNat).toNat 0 := by rw [ex]; simp [gval]
      have hr : 0 ≤ ga z w.toNat ∧ ga z w.toNat < w.toNat := by unfold gateOk at ok; omega
      exact Put1.same hz hg ⟨hr.1, by omega, by omega⟩ _
    · rw [if_neg h5]
      exact ((ordG_put hz hg (.inr (.inr (.inr ⟨rfl, ⟨h0, h1⟩, rfl⟩)))).is (by rw [← hv.2.2]; simp [gval])).more (by simp)
theorem valG_is (hg : gatesOk z n) (hv : Val z bs n w x) {v : Int} (h : valG z w = v) (h0 : 0 ≤ v) : x = v := by
  unfold valG at h
  by_cases h2 : gk z w.toNat = 2
  · rw [if_pos h2] at h
    have ex := hv.at_ hg
    rw [h2] at ex
    rw [ex, ← h]
    simp [gval]
  · rw [if_neg h2] at h
    omega
theorem xorG_put (hz : z.length = n * 3) (hg : gatesOk z n) (ha : Val z bs n a x) (hb : Val z bs n b y) (hx : isBit x) (hy : isBit y) : Put1 bs z n (xorG z a b) (if x = y then 0 else 1) 0 := by
  unfold xorG
  by_cases e : a = b
  · rw [if_pos e]
    have exy : x = y := by rw [← ha.2.2, ← hb.2.2, e]
    rw [if_pos exy]
    exact const_put hz hg (by unfold isBit; omega)
  rw [if_neg e]
  by_cases e0 : valG z a = 0
  · rw [if_pos e0]
    have := valG_is hg ha e0 (by omega)
    refine Put1.same hz hg (hb.is ?_) _
    rcases hy.or with h | h <;> rw [this, h] <;> decide
  rw [if_neg e0]
  by_cases e1 : valG z a = 1
  · rw [if_pos e1]
    have := valG_is hg ha e1 (by omega)
    refine (notG_put hz hg hb).is ?_
    rcases hy.or with h | h <;> rw [this, h] <;> decide
  rw [if_neg e1]
  by_cases f0 : valG z b = 0
  · rw [if_pos f0]
    have := valG_is hg hb f0 (by omega)
    refine Put1.same hz hg (ha.is ?_) _
    rcases hx.or with h | h <;> rw [this, h] <;> decide
  rw [if_neg f0]
  by_cases f1 : valG z b = 1
  · rw [if_pos f1]
    have := valG_is hg hb f1 (by omega)
    refine (notG_put hz hg ha).is ?_
    rcases hx.or with h | h <;> rw [this, h] <;> decide
  rw [if_neg f1]
  exact ((ordG_put hz hg (.inr (.inr (.inl ⟨.inl rfl, ⟨ha.1, ha.2.1⟩, hb.1, hb.2.1⟩)))).is (by rw [← ha.2.2, ← hb.2.2]; simp [gval])).more (by simp)
theorem andG_put (hz : z.length = n * 3) (hg : gatesOk z n) (ha : Val z bs n a x) (hb : Val z bs n b y) (hx : isBit x) : Put1 bs z n (andG z a b) (x * y) 1 := by
  unfold andG
  by_cases e : a = b
  · rw [if_pos e]
    have exy : x = y := by rw [← ha.2.2, ← hb.2.2, e]
    refine Put1.same hz hg (ha.is ?_) _
    rcases hx.or with h | h <;> rw [← exy, h] <;> decide
  rw [if_neg e]
  by_cases e0 : valG z a = 0
  · rw [if_pos e0]
    have := valG_is hg ha e0 (by omega)
    exact ((const_put hz hg (by unfold isBit; omega)).is (by rw [this]; simp)).more (by omega)
  rw [if_neg e0]
  by_cases e1 : valG z a = 1
  · rw [if_pos e1]
    have := valG_is hg ha e1 (by omega)
    exact Put1.same hz hg (hb.is (by rw [this]; simp)) _
  rw [if_neg e1]
  by_cases f0 : valG z b = 0
  · rw [if_pos f0]
    have := valG_is hg hb f0 (by omega)
    exact ((const_put hz hg (by unfold isBit; omega)).is (by rw [this]; simp)).more (by omega)
  rw [if_neg f0]
  by_cases f1 : valG z b = 1
  · rw [if_pos f1]
    have := valG_is hg hb f1 (by omega)
    exact Put1.same hz hg (ha.is (by rw [this]; simp)) _
  rw [if_neg f1]
  exact (ordG_put hz hg (.inr (.inr (.inl ⟨.inr rfl, ⟨ha.1, ha.2.1⟩, hb.1, hb.2.1⟩)))).is (by rw [← ha.2.2, ← hb.2.2]; simp [gval])
end
end Go.Proofs.Ytegdlegndgdgiaa

namespace Go.Proofs.Ytegdlegndgdgiaa
open Go Go.RowKit
/-- Where the walk over the gates stands: i of them are rewritten, into m. -/
structure SimAt (bs z : List Int) (i m : Nat) : Prop where
  le : m ≤ i
  len : (simA z i).1.length = m * 3
  ok : gatesOk (simA z i).1 m
  tl : (simA z i).2.length = i
  val : ∀ j, j < i → Val (simA z i).1 bs m ((simA z i).2.getD j 0) ((wv z bs i).getD j 0)
  ands : cnt (simA z i).1 4 m ≤ cnt z 4 i
  one : once (simA z i).1 m
theorem SimAt.start (bs z : List Int) : SimAt bs z 0 0 := ⟨Nat.le_refl _, rfl, fun i h => by omega, rfl, fun j h => by omega, Nat.le_refl _, fun i j h h2 => by omega⟩
theorem SimAt.step {bs z : List Int} {n i m : Nat} (h : SimAt bs z i m) (hg : gatesOk z n) (hb : allBit bs) (hi : i < n) : ∃ m', m ≤ m' ∧ m' ≤ m + 1 ∧ SimAt bs z (i + 1) m' := by
  have ok := hg i hi
  have hv := wv_bit hg hb i (by omega)
  have P : Put1 bs (simA z i).1 m (simG (simA z i).1 (simA z i).2 (gk z i) (ga z i) (gb z i)) (gval (gk z i) (ga z i) (gb z i) (wv z bs i) bs) (if gk z i = 4 then 1 else 0) := by
    generalize gk z i = k at *
    generalize ga z i = a at *
    generalize gb z i = b at *
    unfold simG
    rcases ok with ⟨rfl, ha, rfl⟩ | ⟨rfl, ha, rfl⟩ | ⟨rfl | rfl, ha, hb2⟩ | ⟨rfl, ha, rfl⟩
    · exact (ordG_put (k := 1) h.len h.ok (.inl ⟨rfl, ha, rfl⟩)).is (by simp [gval])
    · exact (ordG_put (k := 2) h.len h.ok (.inr (.inl ⟨rfl, ha, rfl⟩))).is (by simp [gval])
    · exact (xorG_put h.len h.ok (h.val a.toNat (by omega)) (h.val b.toNat (by omega)) (hv.at_ _) (hv.at_ _)).is (by simp [gval])
    · exact (andG_put h.len h.ok (h.val a.toNat (by omega)) (h.val b.toNat (by omega)) (hv.at_ _)).is (by simp [gval])
    · exact (notG_put h.len h.ok (h.val a.toNat (by omega))).is (by simp [gval])
  obtain ⟨m', h1, h2, h3, h4, h5, h6, h7⟩ := P.ex
  refine ⟨m', h1, h2, by have := h.le; omega, h3.len, h4, ?_, fun j hj => ?_, ?_, h7 h.one⟩
  · simp only [simA, List.length_append, List.length_singleton, h.tl]
  · have hl := h.tl
    rcases Nat.lt_or_ge j i with hj2 | hj2
    · rw [wv_pre z bs (Nat.le_succ i) hj2]
      have e : (simA z (i + 1)).2.getD j 0 = (simA z i).2.getD j 0 := by
        simp only [simA]
        rw [gD_left (by omega)]
      rw [e]
      exact h3.keep _ _ (h.val j hj2)
    · have ej : j = i := by omega
      subst ej
      have e : (simA z (j + 1)).2.getD j 0 = (simG (simA z j).1 (simA z j).2 (gk z j) (ga z j) (gb z j)).2 := by
        simp only [simA]
        rw [gD_right (by omega), hl, Nat.sub_self]
        rfl
      rw [e, wv, gD_right (by rw [wv_length]; omega), wv_length, Nat.sub_self]
      exact h5
  · have := h.ands
    show cnt (simG (simA z i).1 (simA z i).2 (gk z i) (ga z i) (gb z i)).1 4 m' ≤ cnt z 4 (i + 1)
    simp only [cnt]
    omega
theorem sim_at {bs z : List Int} {n : Nat} (hg : gatesOk z n) (hb : allBit bs) : ∀ i, i ≤ n → ∃ m, SimAt bs z i m := by
  intro i
  induction i with
  | zero => exact fun _ => ⟨0, SimAt.start bs z⟩
  | succ i ih =>
    intro hi
    obtain ⟨m, h⟩ := ih (by omega)
    obtain ⟨m', _, _, h'⟩ := h.step hg hb (by omega)
    exact ⟨m', h'⟩
theorem SimAt.outs {bs z os : List Int} {n m : Nat} (h : SimAt bs z n m) (ho : wiresOk os n) : wiresOk (outV (simA z n).2 os) m ∧ outV (wv (simA z n).1 bs m) (outV (simA z n).2 os) = outV (wv z bs n) os := by
  have hv : ∀ o ∈ os, Val (simA z n).1 bs m ((simA z n).2.getD o.toNat 0) ((wv z bs n).getD o.toNat 0) := fun o hm => h.val _ (by have := ho o hm; omega)
  refine ⟨fun x hx => ?_, ?_⟩
  · obtain ⟨o, hm, rfl⟩ := List.mem_map.1 hx
    exact ⟨(hv o hm).1, (hv o hm).2.1⟩
  · unfold outV
    rw [List.map_map]
    exact List.map_congr_left fun o hm => (hv o hm).2.2
/-- A simplified circuit. -/
theorem sim_ok {z os : List Int} {n : Nat} (h : cirOk z n os) : ∃ m, m ≤ n ∧ (simZ z n os).length = m * 3 ∧ cirOk (simZ z n os) m (simO z n os) ∧ (simO z n os).length = os.length ∧ cnt (simZ z n os) 4 m ≤ cnt z 4 n ∧ once (simZ z n os) m ∧ ∀ bs, evC (simZ z n os) m (simO z n os) bs = evC z n os bs := by
  obtain ⟨m, hs⟩ := sim_at (bs := List.replicate 80 0) h.2.1 (fun x hx => by rw [(List.mem_replicate.1 hx).2]; decide) n (Nat.le_refl _)
  have e1 : simZ z n os = (simA z n).1 := if_pos h
  have e2 : simO z n os = outV (simA z n).2 os := if_pos h
  rw [e1, e2]
  have hc : cirOk (simA z n).1 m (outV (simA z n).2 os) := ⟨by have := hs.le; have := h.1; omega, hs.ok, (hs.outs h.2.2).1⟩
  refine ⟨m, hs.le, hs.len, hc, outV_length _ _, hs.ands, hs.one, fun bs => ?_⟩
  unfold evC
  by_cases hb : bitsOk bs
  · obtain ⟨m2, h2⟩ := sim_at (bs := bs) h.2.1 hb.2 n (Nat.le_refl _)
    have em : m2 = m := by have := hs.len; have := h2.len; omega
    subst em
    rw [if_pos (show evOk _ _ _ _ from ⟨hc, hb⟩), if_pos (show evOk _ _ _ _ from ⟨h, hb⟩)]
    exact (h2.outs h.2.2).2
  · rw [if_neg (fun e : evOk _ _ _ _ => hb e.2), if_neg (fun e : evOk _ _ _ _ => hb e.2)]
theorem sim_no {z os : List Int} {n : Nat} (h : ¬ cirOk z n os) : simZ z n os = z ∧ simO z n os = os := ⟨if_neg h, if_neg h⟩
/-- Constants alone. -/
def allC (z : List Int) : Prop := ∀ i, i < z.length / 3 → gk z i = 2
section
variable {z : List Int} {n : Nat} {a b w : Int}
theorem gateG_allC (hz : z.length = n * 3) (h : allC z) : allC (gateG z 2 a b).1 := by
  unfold gateG
  split
  · exact h
  · intro i hi
    have hn : z.length / 3 = n := by omega
    have hl : (putG z 2 a b).length / 3 = n + 1 := by rw [putG_length 2 a b hz]; omega
    rw [hl] at hi
    obtain ⟨e1, _, _⟩ := gate_last 2 a b hz
    rcases Nat.lt_or_ge i n with h1 | h1
    · show gk (z ++ [2, a, b]) i = 2
      rw [gk_left hz h1]
      exact h i (by omega)
    · have ei : i = n := by omega
      subst ei
      exact e1
theorem ordG_allC (hz : z.length = n * 3) (h : allC z) : allC (ordG z 2 a b).1 := by
  unfold ordG
  rw [if_neg (by omega)]
  exact gateG_allC hz h
theorem notG_allC (hz : z.length = n * 3) (h : allC z) (hw : 0 ≤ w ∧ w < n) : allC (notG z w).1 := by
  unfold notG
  rw [if_pos (h w.toNat (by omega))]
  exact ordG_allC hz h
theorem valG_bit (hz : z.length = n * 3) (hg : gatesOk z n) (h : allC z) (hw : 0 ≤ w ∧ w < n) : valG z w = 0 ∨ valG z w = 1 := by
  have e := h w.toNat (by omega)
  have ok := hg w.toNat (by omega)
  unfold valG
  rw [if_pos e]
  rw [e] at ok
  unfold gateOk at ok
  omega
theorem xorG_allC (hz : z.length = n * 3) (hg : gatesOk z n) (h : allC z) (ha : 0 ≤ a ∧ a < n) (hb : 0 ≤ b ∧ b < n) : allC (xorG z a b).1 := by
  unfold xorG
  split
  · exact ordG_allC hz h
  split
  · exact h
  split
  · exact notG_allC hz h hb
  · rcases valG_bit hz hg h ha with e | e <;> contradiction
theorem andG_allC (hz : z.length = n * 3) (hg : gatesOk z n) (h : allC z) (ha : 0 ≤ a ∧ a < n) : allC (andG z a b).1 := by
  unfold andG
  split
  · exact h
  split
  · exact ordG_allC hz h
  split
  · exact h
  · rcases valG_bit hz hg h ha with e | e <;> contradiction
end
/-- A circuit without inputs becomes one of constants. -/
theorem sim_const {z : List Int} {n : Nat} (hg : gatesOk z n) (h1 : ∀ i, i < n → gk z i ≠ 1) : ∀ i, i ≤ n → allC (simA z i).1 := by
  have hb : allBit (List.replicate 80 0) := fun x hx => by rw [(List.mem_replicate.1 hx).2]; decide
  intro i
  induction i with
  | zero => exact fun _ i hi => by simp [simA] at hi
  | succ i ih =>
    intro hi
    obtain ⟨m, hs⟩ := sim_at hg hb i (by omega)
    have hc := ih (by omega)
    have ok := hg i (by omega)
    have k1 := h1 i (by omega)
    show allC (simG (simA z i).1 (simA z i).2 (gk z i) (ga z i) (gb z i)).1
    generalize gk z i = k at *
    generalize ga z i = a at *
    generalize gb z i = b at *
    unfold simG
    rcases ok with ⟨rfl, ha, rfl⟩ | ⟨rfl, ha, rfl⟩ | ⟨rfl | rfl, ha, hb2⟩ | ⟨rfl, ha, rfl⟩
    · omega
    · exact ordG_allC hs.len hc
    · have va := hs.val a.toNat (by omega)
      have vb := hs.val b.toNat (by omega)
      exact xorG_allC hs.len hs.ok hc ⟨va.1, va.2.1⟩ ⟨vb.1, vb.2.1⟩
    · have va := hs.val a.toNat (by omega)
      exact andG_allC hs.len hs.ok hc ⟨va.1, va.2.1⟩
    · have va := hs.val a.toNat (by omega)
      exact notG_allC hs.len hc ⟨va.1, va.2.1⟩
/-- There are two constants. -/
theorem const_two {z : List Int} {m : Nat} (hz : z.length = m * 3) (hg : gatesOk z m) (h : allC z) (ho : once z m) : m ≤ 2 := by
  rcases Nat.lt_or_ge m 3 with h3 | h3
  · omega
  · exfalso
    have g : ∀ i, i < m → gk z i = 2 ∧ (ga z i = 0 ∨ ga z i = 1) ∧ gb z i = 0 := fun i hi => by
      have e := h i (by omega)
      have ok := hg i hi
      rw [e] at ok
      unfold gateOk at ok
      exact ⟨e, by omega, by omega⟩
    have g0 := g 0 (by omega)
    have g1 := g 1 (by omega)
    have g2 := g 2 (by omega)
    have o1 := ho 0 1 (by omega) (by omega)
    have o2 := ho 0 2 (by omega) (by omega)
    have o3 := ho 1 2 (by omega) (by omega)
    unfold isG at o1 o2 o3
    omega
end Go.Proofs.Ytegdlegndgdgiaa

namespace Go.Proofs.Ytegdlegndgdgiaa
open Go Go.RowKit
/-- The flag at i. -/
def fl (L : List Bool) (i : Nat) : Bool := L.getD i false
theorem fl_set (L : List Bool) {a i : Nat} (h : a < L.length) : fl (L.set a true) i = true ↔ i = a ∨ fl L i = true := by
  unfold fl
  rw [List.getD_eq_getElem?_getD, List.getD_eq_getElem?_getD]
  by_cases e : a = i
  · subst e
    rw [List.getElem?_set_self h]
    simp
  · rw [List.getElem?_set_ne e]
    exact ⟨.inr, fun h => h.resolve_left (fun e2 => e e2.symm)⟩
def two (k : Int) : Prop := k = 3 ∨ k = 4
def one1 (k : Int) : Prop := k = 3 ∨ k = 4 ∨ k = 5
instance (k : Int) : Decidable (two k) := by unfold two; infer_instance
instance (k : Int) : Decidable (one1 k) := by unfold one1; infer_instance
/-- Gate j uses wire i. -/
def opnd (z : List Int) (j i : Nat) : Prop := (one1 (gk z j) ∧ ga z j = (i : Int)) ∨ (two (gk z j) ∧ gb z j = (i : Int))
/-- The outputs' flags. -/
def lvO (os : List Int) (n : Nat) : List Bool := (List.range n).map fun i : Nat => decide ((i : Int) ∈ os)
theorem lvO_at (os : List Int) {n i : Nat} (h : i < n) : fl (lvO os n) i = true ↔ (i : Int) ∈ os := by
  unfold fl lvO
  rw [List.getD_eq_getElem?_getD, List.getElem?_map, List.getElem?_range h]
  simp
theorem lvO_length (os : List Int) (n : Nat) : (lvO os n).length = n := by simp [lvO]
/-- One gate's operands are needed where the gate is. -/
def lvA (z : List Int) (L : List Bool) (i : Nat) : List Bool := if fl L i = true ∧ one1 (gk z i) then L.set (ga z i).toNat true else L
def lvS (z : List Int) (L : List Bool) (i : Nat) : List Bool := if fl (lvA z L i) i = true ∧ two (gk z i) then (lvA z L i).set (gb z i).toNat true else lvA z L i
/-- The flags when the last j gates are looked at. -/
def lvN (z : List Int) (n : Nat) (os : List Int) : Nat → List Bool
  | 0 => lvO os n
  | j + 1 => lvS z (lvN z n os j) (n - 1 - j)
def lv (z : List Int) (n : Nat) (os : List Int) : List Bool := lvN z n os n
theorem lvA_length (z : List Int) (L : List Bool) (i : Nat) : (lvA z L i).length = L.length := by unfold lvA; split <;> simp
theorem lvS_length (z : List Int) (L : List Bool) (i : Nat) : (lvS z L i).length = L.length := by unfold lvS; split <;> simp [lvA_length]
theorem lvN_length (z : List Int) (n : Nat) (os : List Int) (j : Nat) : (lvN z n os j).length = n := by
  induction j with
  | zero => exact lvO_length os n
  | succ j ih => rw [lvN, lvS_length, ih]
section
variable {z os : List Int} {n : Nat}
theorem arg_lt (hg : gatesOk z n) {j : Nat} (hj : j < n) : (one1 (gk z j) → 0 ≤ ga z j ∧ (ga z j).toNat < j) ∧ (two (gk z j) → 0 ≤ gb z j ∧ (gb z j).toNat < j) := by
  have ok := hg j hj
  unfold gateOk at ok
  unfold one1 two
  omega
/-- What one step does to the flags. -/
theorem lvS_at (hg : gatesOk z n) {L : List Bool} (hl : L.length = n) {t : Nat} (ht : t < n) (i : Nat) : fl (lvS z L t) i = true ↔ fl L i = true ∨ (fl L t = true ∧ opnd z t i) := by
  obtain ⟨b1, b2⟩ := arg_lt hg ht
  have keep : fl (lvA z L t) t = fl L t := by
    rw [Bool.eq_iff_iff]
    unfold lvA
    split
    · rename_i h
      rw [fl_set _ (by have := b1 h.2; omega)]
      exact ⟨fun h2 => h2.elim (fun e => by have := b1 h.2; omega) (fun e => e), .inr⟩
    · exact Iff.rfl
  have A : fl (lvA z L t) i = true ↔ fl L i = true ∨ (fl L t = true ∧ one1 (gk z t) ∧ ga z t = (i : Int)) := by
    unfold lvA
    split
    · rename_i h
      have := b1 h.2
      rw [fl_set _ (by omega)]
      exact ⟨fun h2 => h2.elim (fun e => .inr ⟨h.1, h.2, by omega⟩) .inl, fun h2 => h2.elim .inr (fun e => .inl (by omega))⟩
    · rename_i h
      exact ⟨.inl, fun h2 => h2.elim (fun e => e) (fun e => (h ⟨e.1, e.2.1⟩).elim)⟩
  unfold lvS
  rw [keep]
  unfold opnd
  split
  · rename_i h
    have := b2 h.2
    rw [fl_set _ (by rw [lvA_length]; omega), A]
    constructor
    · rintro (e | e | e)
      · exact .inr ⟨h.1, .inr ⟨h.2, by omega⟩⟩
      · exact .inl e
      · exact .inr ⟨e.1, .inl e.2⟩
    · rintro (e | ⟨e1, e | e⟩)
      · exact .inr (.inl e)
      · exact .inr (.inr ⟨e1, e⟩)
      · exact .inl (by omega)
  · rename_i h
    rw [A]
    constructor
    · rintro (e | e)
      · exact .inl e
      · exact .inr ⟨e.1, .inl e.2⟩
    · rintro (e | ⟨e1, e | e⟩)
      · exact .inl e
      · exact .inr ⟨e1, e⟩
      · exact (h ⟨e1, e.1⟩).elim
theorem lvN_up (hg : gatesOk z n) {j k i : Nat} (hjk : j ≤ k) (hk : k ≤ n) (h : fl (lvN z n os j) i = true) : fl (lvN z n os k) i = true := by
  induction k with
  | zero => rw [show j = 0 by omega] at h; exact h
  | succ k ih =>
    rcases Nat.lt_or_ge j (k + 1) with h1 | h1
    · rw [lvN]
      exact (lvS_at hg (lvN_length z n os k) (by omega) i).2 (.inl (ih (by omega) (by omega)))
    · rw [show k + 1 = j by omega]
      exact h
/-- A gate's flag turns no more when the gates behind it are looked at. -/
theorem lvN_last (hg : gatesOk z n) {i : Nat} (hi : i < n) {j : Nat} (h0 : n - 1 - i ≤ j) (hj : j ≤ n) : fl (lvN z n os j) i = true ↔ fl (lvN z n os (n - 1 - i)) i = true := by
  induction j with
  | zero => rw [show n - 1 - i = 0 by omega]
  | succ j ih =>
    rcases Nat.lt_or_ge (n - 1 - i) (j + 1) with h1 | h1
    · rw [lvN, lvS_at hg (lvN_length z n os j) (by omega) i, ih (by omega) (by omega)]
      constructor
      · rintro (e | ⟨_, e⟩)
        · exact e
        · exfalso
          obtain ⟨b1, b2⟩ := arg_lt hg (show n - 1 - j < n by omega)
          rcases e with ⟨e1, e2⟩ | ⟨e1, e2⟩
          · have := b1 e1; omega
          · have := b2 e1; omega
      · exact .inl
    · rw [show n - 1 - i = j + 1 by omega]
theorem lv_last (hg : gatesOk z n) {i : Nat} (hi : i < n) {j : Nat} (h0 : n - 1 - i ≤ j) (hj : j ≤ n) : fl (lvN z n os j) i = true ↔ fl (lv z n os) i = true := by
  rw [lvN_last hg hi h0 hj]
  exact (lvN_last hg hi (by omega) (Nat.le_refl n)).symm
theorem lv_out (hg : gatesOk z n) {i : Nat} (hi : i < n) (h : (i : Int) ∈ os) : fl (lv z n os) i = true :=
  lvN_up hg (Nat.zero_le n) (Nat.le_refl n) ((lvO_at os hi).2 h)
theorem lv_arg (hg : gatesOk z n) {j i : Nat} (hj : j < n) (h : fl (lv z n os) j = true) (ho : opnd z j i) : fl (lv z n os) i = true := by
  have h1 := (lv_last hg hj (Nat.le_refl (n - 1 - j)) (by omega)).2 h
  have h2 : fl (lvN z n os (n - 1 - j + 1)) i = true := by
    rw [lvN, show n - 1 - (n - 1 - j) = j by omega]
    exact (lvS_at hg (lvN_length z n os _) hj i).2 (.inr ⟨h1, ho⟩)
  exact lvN_up hg (show n - 1 - j + 1 ≤ n by omega) (Nat.le_refl n) h2
theorem lv_why (hg : gatesOk z n) {i : Nat} (hi : i < n) : ∀ j, j ≤ n → fl (lvN z n os j) i = true → (i : Int) ∈ os ∨ ∃ t, i < t ∧ t < n ∧ fl (lv z n os) t = true ∧ opnd z t i := by
  intro j
  induction j with
  | zero => exact fun _ h => .inl ((lvO_at os hi).1 h)
  | succ j ih =>
    intro hj h
    rw [lvN] at h
    rcases (lvS_at hg (lvN_length z n os j) (by omega) i).1 h with h1 | ⟨h1, h2⟩
    · exact ih (by omega) h1
    · refine .inr ⟨n - 1 - j, ?_, by omega, (lv_last hg (show n - 1 - j < n by omega) (show n - 1 - (n - 1 - j) ≤ j by omega) (by omega)).1 h1, h2⟩
      obtain ⟨b1, b2⟩ := arg_lt hg (show n - 1 - j < n by omega)
      rcases h2 with ⟨e1, e2⟩ | ⟨e1, e2⟩
      · have := b1 e1; omega
      · have := b2 e1; omega
end
end Go.Proofs.Ytegdlegndgdgiaa

namespace Go.Proofs.Ytegdlegndgdgiaa
open Go Go.RowKit
/-- How many of the first i flags are set. -/
def rnk (L : List Bool) : Nat → Nat
  | 0 => 0
  | i + 1 => rnk L i + if fl L i = true then 1 else 0
/-- The gates left of the first i, their wires replaced. -/
def newA (L : List Bool) (k a : Int) : Int := if one1 k then (rnk L a.toNat : Nat) else a
def newB (L : List Bool) (k b : Int) : Int := if two k then (rnk L b.toNat : Nat) else b
def prA (z : List Int) (L : List Bool) : Nat → List Int
  | 0 => []
  | i + 1 => if fl L i = true then putG (prA z L i) (gk z i) (newA L (gk z i) (ga z i)) (newB L (gk z i) (gb z i)) else prA z L i
def prO (L : List Bool) (os : List Int) : List Int := os.map fun o => ((rnk L o.toNat : Nat) : Int)
/-- Pruned: gates, their number, and outputs. -/
def pruZ (z : List Int) (n : Nat) (os : List Int) : List Int := if cirOk z n os then prA z (lv z n os) n else z
def pruO (z : List Int) (n : Nat) (os : List Int) : List Int := if cirOk z n os then prO (lv z n os) os else os
def livI (z : List Int) (n : Nat) (os : List Int) : Int := if cirOk z n os then (rnk (lv z n os) n : Nat) else -1
theorem rnk_le (L : List Bool) (i : Nat) : rnk L i ≤ i := by
  induction i with
  | zero => exact Nat.le_refl _
  | succ i ih => simp only [rnk]; split <;> omega
theorem rnk_mono (L : List Bool) {i j : Nat} (h : i ≤ j) : rnk L i ≤ rnk L j := by
  induction j with
  | zero => rw [show i = 0 by omega]; exact Nat.le_refl _
  | succ j ih =>
    rcases Nat.lt_or_ge i (j + 1) with h1 | h1
    · have := ih (by omega)
      simp only [rnk]; omega
    · rw [show i = j + 1 by omega]; exact Nat.le_refl _
theorem rnk_lt (L : List Bool) {i j : Nat} (h : i < j) (hf : fl L i = true) : rnk L i < rnk L j := by
  have := rnk_mono L (show i + 1 ≤ j by omega)
  simp only [rnk, if_pos hf] at this
  omega
/-- Each place below the number of flags is some gate's. -/
theorem rnk_of (L : List Bool) : ∀ n p, p < rnk L n → ∃ i, i < n ∧ fl L i = true ∧ rnk L i = p := by
  intro n
  induction n with
  | zero => intro p h; simp [rnk] at h
  | succ n ih =>
    intro p h
    simp only [rnk] at h
    by_cases hf : fl L n = true
    · rw [if_pos hf] at h
      rcases Nat.lt_or_ge p (rnk L n) with h1 | h1
      · obtain ⟨i, hi, h2, h3⟩ := ih p h1
        exact ⟨i, by omega, h2, h3⟩
      · exact ⟨n, by omega, hf, by omega⟩
    · rw [if_neg hf] at h
      obtain ⟨i, hi, h2, h3⟩ := ih p h
      exact ⟨i, by omega, h2, h3⟩
theorem rnk_all {L : List Bool} {n : Nat} (h : ∀ i, i < n → fl L i = true) : ∀ i, i ≤ n → rnk L i = i := by
  intro i
  induction i with
  | zero => exact fun _ => rfl
  | succ i ih =>
    intro hi
    simp only [rnk]
    rw [ih (by omega), if_pos (h i (by omega))]
/-- The operands of needed gates are needed. -/
def cls (z : List Int) (n : Nat) (L : List Bool) : Prop := ∀ j i, j < n → fl L j = true → opnd z j i → fl L i = true
theorem prA_length (z : List Int) (L : List Bool) (i : Nat) : (prA z L i).length = rnk L i * 3 := by
  induction i with
  | zero => rfl
  | succ i ih =>
    simp only [prA, rnk]
    split
    · exact putG_length _ _ _ ih
    · exact ih
section
variable {z bs os : List Int} {n : Nat} {L : List Bool}
theorem new_ok (hg : gatesOk z n) (hc : cls z n L) {i : Nat} (hi : i < n) (hf : fl L i = true) : gateOk (gk z i) (newA L (gk z i) (ga z i)) (newB L (gk z i) (gb z i)) (rnk L i : Nat) := by
  have ok := hg i hi
  have h1 := hc i (ga z i).toNat hi hf
  have h2 := hc i (gb z i).toNat hi hf
  unfold opnd at h1 h2
  unfold newA newB
  generalize gk z i = k at *
  generalize ga z i = a at *
  generalize gb z i = b at *
  rcases ok with ⟨rfl, ha, rfl⟩ | ⟨rfl, ha, rfl⟩ | ⟨hk, ha, hb⟩ | ⟨rfl, ha, rfl⟩
  · rw [if_neg (by unfold one1; omega), if_neg (by unfold two; omega)]
    exact .inl ⟨rfl, ha, rfl⟩
  · rw [if_neg (by unfold one1; omega), if_neg (by unfold two; omega)]
    exact .inr (.inl ⟨rfl, ha, rfl⟩)
  · have o1 : one1 k := by unfold one1; omega
    rw [if_pos o1, if_pos (show two k from hk)]
    have := rnk_lt L (show a.toNat < i by omega) (h1 (.inl ⟨o1, by omega⟩))
    have := rnk_lt L (show b.toNat < i by omega) (h2 (.inr ⟨hk, by omega⟩))
    exact .inr (.inr (.inl ⟨hk, by omega, by omega⟩))
  · rw [if_pos (by unfold one1; omega), if_neg (by unfold two; omega)]
    have := rnk_lt L (show a.toNat < i by omega) (h1 (.inl ⟨by unfold one1; omega, by omega⟩))
    exact .inr (.inr (.inr ⟨rfl, by omega, rfl⟩))
theorem prA_ok (hg : gatesOk z n) (hc : cls z n L) : ∀ i, i ≤ n → gatesOk (prA z L i) (rnk L i) := by
  intro i
  induction i with
  | zero => exact fun _ j hj => by simp [rnk] at hj
  | succ i ih =>
    intro hi
    simp only [prA, rnk]
    by_cases hf : fl L i = true
    · rw [if_pos hf, if_pos hf]
      exact gatesOk_snoc (prA_length z L i) (ih (by omega)) (new_ok hg hc (by omega) hf)
    · rw [if_neg hf, if_neg hf]
      exact ih (by omega)
theorem prA_val (hg : gatesOk z n) (hc : cls z n L) : ∀ i, i ≤ n → ∀ j, j < i → fl L j = true → Val (prA z L i) bs (rnk L i) (rnk L j : Nat) ((wv z bs i).getD j 0) := by
  intro i
  induction i with
  | zero => intro _ j hj; omega
  | succ i ih =>
    intro hi j hj hfj
    have I := ih (by omega)
    have hl := prA_length z L i
    simp only [prA, rnk]
    rcases Nat.lt_or_ge j i with h1 | h1
    · rw [wv_pre z bs (Nat.le_succ i) h1]
      by_cases hf : fl L i = true
      · rw [if_pos hf, if_pos hf]
        exact (I j h1 hfj).put _ _ _ hl
      · rw [if_neg hf, if_neg hf]
        exact I j h1 hfj
    · have ej : j = i := by omega
      subst ej
      rw [if_pos hfj, if_pos hfj, wv, gD_right (by rw [wv_length]; omega), wv_length, Nat.sub_self]
      have v := Val.new (bs := bs) (gk z j) (newA L (gk z j) (ga z j)) (newB L (gk z j) (gb z j)) hl
      rw [nG_is hl] at v
      refine v.is ?_
      show _ = gval (gk z j) (ga z j) (gb z j) (wv z bs j) bs
      have ok := hg j (by omega)
      have h1 := hc j (ga z j).toNat (by omega) hfj
      have h2 := hc j (gb z j).toNat (by omega) hfj
      unfold opnd at h1 h2
      unfold newA newB
      generalize gk z j = k at *
      generalize ga z j = a at *
      generalize gb z j = b at *
      rcases ok with ⟨rfl, ha, rfl⟩ | ⟨rfl, ha, rfl⟩ | ⟨hk, ha, hb⟩ | ⟨rfl, ha, rfl⟩
      · rw [if_neg (by unfold one1; omega)]
        simp [gval]
      · rw [if_neg (by unfold one1; omega)]
        simp [gval]
      · have o1 : one1 k := by unfold one1; omega
        rw [if_pos o1, if_pos (show two k from hk)]
        have va := (I a.toNat (by omega) (h1 (.inl ⟨o1, by omega⟩))).2.2
        have vb := (I b.toNat (by omega) (h2 (.inr ⟨hk, by omega⟩))).2.2
        rcases hk with rfl | rfl
        · simp [gval]
          simp only [← List.getD_eq_getElem?_getD]
          rw [← va, ← vb]
          simp
        · simp [gval]
          simp only [← List.getD_eq_getElem?_getD]
          rw [← va, ← vb]
          simp
      · rw [if_pos (by unfold one1; omega)]
        have va := (I a.toNat (by omega) (h1 (.inl ⟨by unfold one1; omega, by omega⟩))).2.2
        unfold gval
        rw [va]
        simp
theorem lv_cls (hg : gatesOk z n) : cls z n (lv z n os) := fun _ _ hj h ho => lv_arg hg hj h ho
/-- A gate that is left. -/
theorem prA_at {i0 : Nat} (hL : fl L i0 = true) {i : Nat} (h : i0 < i) : gk (prA z L i) (rnk L i0) = gk z i0 ∧ ga (prA z L i) (rnk L i0) = newA L (gk z i0) (ga z i0) ∧ gb (prA z L i) (rnk L i0) = newB L (gk z i0) (gb z i0) := by
  induction i with
  | zero => omega
  | succ i ih =>
    have hl := prA_length z L i
    simp only [prA]
    rcases Nat.lt_or_ge i0 i with h1 | h1
    · have I := ih h1
      by_cases hf : fl L i = true
      · have hr := rnk_lt L h1 hL
        rw [if_pos hf]
        unfold putG
        rw [gk_left hl hr, ga_left hl hr, gb_left hl hr]
        exact I
      · rw [if_neg hf]
        exact I
    · have ei : i0 = i := by omega
      subst ei
      rw [if_pos hL]
      exact gate_last _ _ _ hl
/-- A pruned circuit. -/
theorem pru_ok (h : cirOk z n os) : (pruZ z n os).length = rnk (lv z n os) n * 3 ∧ rnk (lv z n os) n ≤ n ∧ cirOk (pruZ z n os) (rnk (lv z n os) n) (pruO z n os) ∧ (pruO z n os).length = os.length ∧ ∀ bs, evC (pruZ z n os) (rnk (lv z n os) n) (pruO z n os) bs = evC z n os bs := by
  have e1 : pruZ z n os = prA z (lv z n os) n := if_pos h
  have e2 : pruO z n os = prO (lv z n os) os := if_pos h
  have hc := lv_cls (os := os) h.2.1
  have hle := rnk_le (lv z n os) n
  have hl : ∀ o ∈ os, fl (lv z n os) o.toNat = true := fun o ho => by
    have := h.2.2 o ho
    exact lv_out h.2.1 (by omega) (by rw [Int.toNat_of_nonneg this.1]; exact ho)
  have hw : wiresOk (prO (lv z n os) os) (rnk (lv z n os) n) := fun x hx => by
    obtain ⟨o, ho, rfl⟩ := List.mem_map.1 hx
    have := h.2.2 o ho
    have := rnk_lt (lv z n os) (show o.toNat < n by omega) (hl o ho)
    omega
  have hk : cirOk (prA z (lv z n os) n) (rnk (lv z n os) n) (prO (lv z n os) os) := ⟨by have := h.1; omega, prA_ok h.2.1 hc n (Nat.le_refl n), hw⟩
  rw [e1, e2]
  refine ⟨prA_length _ _ _, hle, hk, by simp [prO], fun bs => ?_⟩
  unfold evC
  by_cases hb : bitsOk bs
  · rw [if_pos (show evOk _ _ _ _ from ⟨hk, hb⟩), if_pos (show evOk _ _ _ _ from ⟨h, hb⟩)]
    unfold outV prO
    rw [List.map_map]
    refine List.map_congr_left fun o ho => ?_
    have := h.2.2 o ho
    have v := (prA_val (bs := bs) h.2.1 hc n (Nat.le_refl n) o.toNat (by omega) (hl o ho)).2.2
    exact v
  · rw [if_neg (fun e : evOk _ _ _ _ => hb e.2), if_neg (fun e : evOk _ _ _ _ => hb e.2)]
theorem pru_no (h : ¬ cirOk z n os) : pruZ z n os = z ∧ pruO z n os = os ∧ livI z n os = -1 := ⟨if_neg h, if_neg h, if_neg h⟩
/-- In a pruned circuit every gate is needed. -/
theorem pru_all (h : cirOk z n os) : ∀ p, p < rnk (lv z n os) n → fl (lv (pruZ z n os) (rnk (lv z n os) n) (pruO z n os)) p = true := by
  have e1 : pruZ z n os = prA z (lv z n os) n := if_pos h
  have e2 : pruO z n os = prO (lv z n os) os := if_pos h
  have hk := (pru_ok h).2.2.1
  rw [e1, e2] at hk
  rw [e1, e2]
  have main : ∀ d i, n - i = d → i < n → fl (lv z n os) i = true → fl (lv (prA z (lv z n os) n) (rnk (lv z n os) n) (prO (lv z n os) os)) (rnk (lv z n os) i) = true := by
    intro d
    induction d using Nat.strongRecOn with
    | _ d ih =>
      intro i hd hi hf
      have hr := rnk_lt (lv z n os) hi hf
      rcases lv_why h.2.1 hi n (Nat.le_refl n) hf with ho | ⟨t, ht1, ht2, hft, hop⟩
      · refine lv_out hk.2.1 hr ?_
        exact List.mem_map.2 ⟨(i : Int), ho, by simp⟩
      · have I := ih (n - t) (by omega) t rfl ht2 hft
        refine lv_arg hk.2.1 (rnk_lt (lv z n os) ht2 hft) I ?_
        obtain ⟨a1, a2, a3⟩ := prA_at (z := z) hft ht2
        unfold opnd at hop ⊢
        rw [a1, a2, a3]
        rcases hop with ⟨o1, o2⟩ | ⟨o1, o2⟩
        · refine .inl ⟨o1, ?_⟩
          unfold newA
          rw [if_pos o1, o2]
          simp
        · refine .inr ⟨o1, ?_⟩
          unfold newB
          rw [if_pos o1, o2]
          simp
  intro p hp
  obtain ⟨i, hi, hf, rfl⟩ := rnk_of (lv z n os) n p hp
  exact main (n - i) i rfl hi hf
end
end Go.Proofs.Ytegdlegndgdgiaa

namespace Go.Proofs.Ytegdlegndgdgiaa
open Go Go.RowKit
theorem three_take {y : List Int} {m i : Nat} (hl : y.length = m * 3) (hi : i < m) : y.take ((i + 1) * 3) = y.take (i * 3) ++ [gk y i, ga y i, gb y i] := by
  unfold gk ga gb
  rw [show (i + 1) * 3 = i * 3 + 1 + 1 + 1 by omega, take_snoc (by omega), take_snoc (by omega), take_snoc (by omega)]
  simp
/-- Where every gate is needed nothing is left out. -/
theorem prA_id {y : List Int} {m : Nat} {L : List Bool} (hl : y.length = m * 3) (hg : gatesOk y m) (h : ∀ i, i < m → fl L i = true) : ∀ i, i ≤ m → prA y L i = y.take (i * 3) := by
  intro i
  induction i with
  | zero => exact fun _ => rfl
  | succ i ih =>
    intro hi
    have hr := rnk_all h
    obtain ⟨b1, b2⟩ := arg_lt hg (show i < m by omega)
    simp only [prA]
    rw [if_pos (h i (by omega)), ih (by omega), three_take hl (by omega)]
    have e1 : newA L (gk y i) (ga y i) = ga y i := by
      unfold newA
      split
      · rename_i ho
        have := b1 ho
        rw [hr _ (by omega)]
        omega
      · rfl
    have e2 : newB L (gk y i) (gb y i) = gb y i := by
      unfold newB
      split
      · rename_i ho
        have := b2 ho
        rw [hr _ (by omega)]
        omega
      · rfl
    rw [e1, e2]
    rfl
theorem prO_id {os : List Int} {m : Nat} {L : List Bool} (hw : wiresOk os m) (h : ∀ i, i < m → fl L i = true) : prO L os = os := by
  unfold prO
  have hr := rnk_all h
  conv => rhs; rw [← List.map_id os]
  refine List.map_congr_left fun o ho => ?_
  have := hw o ho
  rw [hr _ (by omega)]
  show ((o.toNat : Nat) : Int) = o
  omega
/-- Pruning a circuit all of whose gates are needed. -/
theorem pru_id {y os : List Int} {m : Nat} (hl : y.length = m * 3) (hk : cirOk y m os) (h : ∀ i, i < m → fl (lv y m os) i = true) : pruZ y m os = y ∧ pruO y m os = os ∧ rnk (lv y m os) m = m := by
  refine ⟨?_, ?_, rnk_all h m (Nat.le_refl m)⟩
  · rw [show pruZ y m os = prA y (lv y m os) m from if_pos hk, prA_id hl hk.2.1 h m (Nat.le_refl m)]
    exact List.take_of_length_le (by omega)
  · rw [show pruO y m os = prO (lv y m os) os from if_pos hk]
    exact prO_id hk.2.2 h
theorem pru_twice {z os : List Int} {n : Nat} (h : cirOk z n os) :
    pruZ (pruZ z n os) (rnk (lv z n os) n) (pruO z n os) = pruZ z n os ∧ pruO (pruZ z n os) (rnk (lv z n os) n) (pruO z n os) = pruO z n os := by
  obtain ⟨h1, _, h3, _, _⟩ := pru_ok h
  obtain ⟨e1, e2, _⟩ := pru_id h1 h3 (pru_all h)
  exact ⟨e1, e2⟩
/-- The number of gates left. -/
def pruN (z : List Int) (n : Nat) (os : List Int) : Nat := if cirOk z n os then rnk (lv z n os) n else n
theorem pruZ_len {z os : List Int} {n : Nat} (hz : z.length = n * 3) : (pruZ z n os).length = pruN z n os * 3 := by
  unfold pruN
  by_cases h : cirOk z n os
  · rw [if_pos h]
    exact (pru_ok h).1
  · rw [if_neg h, (pru_no h).1]
    exact hz
theorem pruN_le (z os : List Int) (n : Nat) : pruN z n os ≤ n := by
  unfold pruN
  split
  · exact rnk_le _ _
  · exact Nat.le_refl n
theorem pruO_len (z os : List Int) (n : Nat) : (pruO z n os).length = os.length := by
  unfold pruO
  split
  · simp [prO]
  · rfl
/-- The number of gates of a simplified circuit. -/
def simN (z : List Int) (n : Nat) (os : List Int) : Nat := (simZ z n os).length / 3
theorem simZ_len {z os : List Int} {n : Nat} (hz : z.length = n * 3) : (simZ z n os).length = simN z n os * 3 ∧ simN z n os ≤ n := by
  unfold simN
  by_cases h : cirOk z n os
  · obtain ⟨m, h1, h2, _⟩ := sim_ok h
    omega
  · rw [(sim_no h).1]
    omega
theorem simO_len (z os : List Int) (n : Nat) : (simO z n os).length = os.length := by
  unfold simO
  split
  · rw [outV_length]
  · rfl
/-- What simplifying leaves of a valid circuit. -/
theorem sim_all {z os : List Int} {n : Nat} (h : cirOk z n os) : cirOk (simZ z n os) (simN z n os) (simO z n os) ∧ cnt (simZ z n os) 4 (simN z n os) ≤ cnt z 4 n ∧ once (simZ z n os) (simN z n os) ∧ ∀ bs, evC (simZ z n os) (simN z n os) (simO z n os) bs = evC z n os bs := by
  obtain ⟨m, h1, h2, h3, h4, h5, h6, h7⟩ := sim_ok h
  have e : simN z n os = m := by unfold simN; omega
  rw [e]
  exact ⟨h3, h5, h6, h7⟩
/-- An optimized circuit: gates, their number, outputs. -/
def optZ (z : List Int) (n : Nat) (os : List Int) : List Int := pruZ (simZ z n os) (simN z n os) (simO z n os)
def optN (z : List Int) (n : Nat) (os : List Int) : Nat := pruN (simZ z n os) (simN z n os) (simO z n os)
def optO (z : List Int) (n : Nat) (os : List Int) : List Int := pruO (simZ z n os) (simN z n os) (simO z n os)
theorem optZ_len {z os : List Int} {n : Nat} (hz : z.length = n * 3) : (optZ z n os).length = optN z n os * 3 ∧ optN z n os ≤ simN z n os := ⟨pruZ_len (simZ_len hz).1, pruN_le _ _ _⟩
theorem optO_len (z os : List Int) (n : Nat) : (optO z n os).length = os.length := by rw [optO, pruO_len, simO_len]
theorem opt_all {z os : List Int} {n : Nat} (h : cirOk z n os) : cirOk (optZ z n os) (optN z n os) (optO z n os) ∧ (∀ bs, evC (optZ z n os) (optN z n os) (optO z n os) bs = evC z n os bs) ∧ pruZ (optZ z n os) (optN z n os) (optO z n os) = optZ z n os ∧ pruO (optZ z n os) (optN z n os) (optO z n os) = optO z n os ∧ ∀ p, p < optN z n os → fl (lv (optZ z n os) (optN z n os) (optO z n os)) p = true := by
  obtain ⟨s1, s2, s3, s4⟩ := sim_all h
  obtain ⟨p1, p2, p3, p4, p5⟩ := pru_ok s1
  obtain ⟨t1, t2⟩ := pru_twice s1
  have e : optN z n os = rnk (lv (simZ z n os) (simN z n os) (simO z n os)) (simN z n os) := if_pos s1
  unfold optZ optO
  rw [e]
  exact ⟨p3, fun bs => by rw [p5, s4], t1, t2, pru_all s1⟩
/-- A circuit without inputs becomes one of two constants at most. -/
theorem opt_const {z os : List Int} {n : Nat} (h : cirOk z n os) (h1 : ∀ i, i < n → gk z i ≠ 1) : optN z n os ≤ 2 ∧ ∀ p, p < optN z n os → gk (optZ z n os) p = 2 := by
  obtain ⟨m, hm, hl, hk, _, _, ho, _⟩ := sim_ok h
  have em : simN z n os = m := by unfold simN; omega
  have hc : allC (simZ z n os) := by
    rw [show simZ z n os = (simA z n).1 from if_pos h]
    exact sim_const h.2.1 h1 n (Nat.le_refl n)
  have h2 := const_two hl hk.2.1 hc ho
  have hle := pruN_le (simZ z n os) (simO z n os) (simN z n os)
  refine ⟨by unfold optN; omega, fun p hp => ?_⟩
  have e : optN z n os = rnk (lv (simZ z n os) m (simO z n os)) m := by
    unfold optN
    rw [em]
    exact if_pos hk
  rw [e] at hp
  obtain ⟨i, hi, hf, rfl⟩ := rnk_of _ m p hp
  unfold optZ
  rw [em, show pruZ (simZ z n os) m (simO z n os) = prA (simZ z n os) (lv (simZ z n os) m (simO z n os)) m from if_pos hk, (prA_at hf hi).1]
  exact hc i (by omega)
end Go.Proofs.Ytegdlegndgdgiaa

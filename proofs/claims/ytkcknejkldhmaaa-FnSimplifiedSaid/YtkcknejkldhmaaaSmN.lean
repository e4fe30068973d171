/- Simplification in plain numbers: a simplified circuit is valid, computes the same, has no more and gates and no gate twice; without inputs it is constant. No condition. -/
import Derived.Test.YtkcknejkldhmaaaProg
import Derived.Test.YtkcknejkldhmaaaSmM
namespace Go.Proofs.Ytkcknejkldhmaaa
open Go Go.RowKit
/-- Where the walk over the gates stands: i of them are rewritten, into m. -/
structure SimAt (bs z : List Int) (i m : Nat) : Prop where
  le : m ≤ i
  len : (simA z i).1.length = m * 3
  ok : gatesOk (simA z i).1 m
  tl : (simA z i).2.length = i
  val : ∀ j, j < i → Val (simA z i).1 bs m ((simA z i).2.getD j 0) ((wv z bs i).getD j 0)
  ands : cnt (simA z i).1 4 m ≤ cnt z 4 i
  one : once (simA z i).1 m
theorem SimAt.start (bs z : List Int) : SimAt bs z 0 0 := ⟨Nat.le_refl _, rfl, fun i h => by omega, rfl, fun j h => by omega, Nat.le_refl _, fun i j h h2 => by omega⟩
theorem SimAt.step {bs z : List Int} {n i m : Nat} (h : SimAt bs z i m) (hg : gatesOk z n) (hb : allBit bs) (hi : i < n) : ∃ m', m ≤ m' ∧ m' ≤ m + 1 ∧ SimAt bs z (i + 1) m' := by
  have ok := hg i hi
  have hv := wv_bit hg hb i (by omega)
  have P : Put1 bs (simA z i).1 m (simG (simA z i).1 (simA z i).2 (gk z i) (ga z i) (gb z i)) (gval (gk z i) (ga z i) (gb z i) (wv z bs i) bs) (if gk z i = 4 then 1 else 0) := by
    generalize gk z i = k at *
    generalize ga z i = a at *
    generalize gb z i = b at *
    unfold simG
    rcases ok with ⟨rfl, ha, rfl⟩ | ⟨rfl, ha, rfl⟩ | ⟨rfl | rfl, ha, hb2⟩ | ⟨rfl, ha, rfl⟩
    · exact (ordG_put (k := 1) h.len h.ok (.inl ⟨rfl, ha, rfl⟩)).is (by simp [gval])
    · exact (ordG_put (k := 2) h.len h.ok (.inr (.inl ⟨rfl, ha, rfl⟩))).is (by simp [gval])
    · exact (xorG_put h.len h.ok (h.val a.toNat (by omega)) (h.val b.toNat (by omega)) (hv.at_ _) (hv.at_ _)).is (by simp [gval])
    · exact (andG_put h.len h.ok (h.val a.toNat (by omega)) (h.val b.toNat (by omega)) (hv.at_ _)).is (by simp [gval])
    · exact (notG_put h.len h.ok (h.val a.toNat (by omega))).is (by simp [gval])
  obtain ⟨m', h1, h2, h3, h4, h5, h6, h7⟩ := P.ex
  refine ⟨m', h1, h2, by have := h.le; omega, h3.len, h4, ?_, fun j hj => ?_, ?_, h7 h.one⟩
  · simp only [simA, List.length_append, List.length_singleton, h.tl]
  · have hl := h.tl
    rcases Nat.lt_or_ge j i with hj2 | hj2
    · rw [wv_pre z bs (Nat.le_succ i) hj2]
      have e : (simA z (i + 1)).2.getD j 0 = (simA z i).2.getD j 0 := by
        simp only [simA]
        rw [gD_left (by omega)]
      rw [e]
      exact h3.keep _ _ (h.val j hj2)
    · have ej : j = i := by omega
      subst ej
      have e : (simA z (j + 1)).2.getD j 0 = (simG (simA z j).1 (simA z j).2 (gk z j) (ga z j) (gb z j)).2 := by
        simp only [simA]
        rw [gD_right (by omega), hl, Nat.sub_self]
        rfl
      rw [e, wv, gD_right (by rw [wv_length]; omega), wv_length, Nat.sub_self]
      exact h5
  · have := h.ands
    show cnt (simG (simA z i).1 (simA z i).2 (gk z i) (ga z i) (gb z i)).1 4 m' ≤ cnt z 4 (i + 1)
    simp only [cnt]
    omega
theorem sim_at {bs z : List Int} {n : Nat} (hg : gatesOk z n) (hb : allBit bs) : ∀ i, i ≤ n → ∃ m, SimAt bs z i m := by
  intro i
  induction i with
  | zero => exact fun _ => ⟨0, SimAt.start bs z⟩
  | succ i ih =>
    intro hi
    obtain ⟨m, h⟩ := ih (by omega)
    obtain ⟨m', _, _, h'⟩ := h.step hg hb (by omega)
    exact ⟨m', h'⟩
theorem SimAt.outs {bs z os : List Int} {n m : Nat} (h : SimAt bs z n m) (ho : wiresOk os n) : wiresOk (outV (simA z n).2 os) m ∧ outV (wv (simA z n).1 bs m) (outV (simA z n).2 os) = outV (wv z bs n) os := by
  have hv : ∀ o ∈ os, Val (simA z n).1 bs m ((simA z n).2.getD o.toNat 0) ((wv z bs n).getD o.toNat 0) := fun o hm => h.val _ (by have := ho o hm; omega)
  refine ⟨fun x hx => ?_, ?_⟩
  · obtain ⟨o, hm, rfl⟩ := List.mem_map.1 hx
    exact ⟨(hv o hm).1, (hv o hm).2.1⟩
  · unfold outV
    rw [List.map_map]
    exact List.map_congr_left fun o hm => (hv o hm).2.2
/-- A simplified circuit. -/
theorem sim_ok {z os : List Int} {n : Nat} (h : cirOk z n os) : ∃ m, m ≤ n ∧ (simZ z n os).length = m * 3 ∧ cirOk (simZ z n os) m (simO z n os) ∧ (simO z n os).length = os.length ∧ cnt (simZ z n os) 4 m ≤ cnt z 4 n ∧ once (simZ z n os) m ∧ ∀ bs, evC (simZ z n os) m (simO z n os) bs = evC z n os bs := by
  obtain ⟨m, hs⟩ := sim_at (bs := List.replicate 80 0) h.2.1 (fun x hx => by rw [(List.mem_replicate.1 hx).2]; decide) n (Nat.le_refl _)
  have e1 : simZ z n os = (simA z n).1 := if_pos h
  have e2 : simO z n os = outV (simA z n).2 os := if_pos h
  rw [e1, e2]
  have hc : cirOk (simA z n).1 m (outV (simA z n).2 os) := ⟨by have := hs.le; have := h.1; omega, hs.ok, (hs.outs h.2.2).1⟩
  refine ⟨m, hs.le, hs.len, hc, outV_length _ _, hs.ands, hs.one, fun bs => ?_⟩
  unfold evC
  by_cases hb : bitsOk bs
  · obtain ⟨m2, h2⟩ := sim_at (bs := bs) h.2.1 hb.2 n (Nat.le_refl _)
    have em : m2 = m := by have := hs.len; have := h2.len; omega
    subst em
    rw [if_pos (show evOk _ _ _ _ from ⟨hc, hb⟩), if_pos (show evOk _ _ _ _ from ⟨h, hb⟩)]
    exact (h2.outs h.2.2).2
  · rw [if_neg (fun e : evOk _ _ _ _ => hb e.2), if_neg (fun e : evOk _ _ _ _ => hb e.2)]
theorem sim_no {z os : List Int} {n : Nat} (h : ¬ cirOk z n os) : simZ z n os = z ∧ simO z n os = os := ⟨if_neg h, if_neg h⟩
/-- Constants alone. -/
def allC (z : List Int) : Prop := ∀ i, i < z.length / 3 → gk z i = 2
section
variable {z : List Int} {n : Nat} {a b w : Int}
theorem gateG_allC (hz : z.length = n * 3) (h : allC z) : allC (gateG z 2 a b).1 := by
  unfold gateG
  split
  · exact h
  · intro i hi
    have hn : z.length / 3 = n := by omega
    have hl : (putG z 2 a b).length / 3 = n + 1 := by rw [putG_length 2 a b hz]; omega
    rw [hl] at hi
    obtain ⟨e1, _, _⟩ := gate_last 2 a b hz
    rcases Nat.lt_or_ge i n with h1 | h1
    · show gk (z ++ [2, a, b]) i = 2
      rw [gk_left hz h1]
      exact h i (by omega)
    · have ei : i = n := by omega
      subst ei
      exact e1
theorem ordG_allC (hz : z.length = n * 3) (h : allC z) : allC (ordG z 2 a b).1 := by
  unfold ordG
  rw [if_neg (by omega)]
  exact gateG_allC hz h
theorem notG_allC (hz : z.length = n * 3) (h : allC z) (hw : 0 ≤ w ∧ w < n) : allC (notG z w).1 := by
  unfold notG
  rw [if_pos (h w.toNat (by omega))]
  exact ordG_allC hz h
theorem valG_bit (hz : z.length = n * 3) (hg : gatesOk z n) (h : allC z) (hw : 0 ≤ w ∧ w < n) : valG z w = 0 ∨ valG z w = 1 := by
  have e := h w.toNat (by omega)
  have ok := hg w.toNat (by omega)
  unfold valG
  rw [if_pos e]
  rw [e] at ok
  unfold gateOk at ok
  omega
theorem xorG_allC (hz : z.length = n * 3) (hg : gatesOk z n) (h : allC z) (ha : 0 ≤ a ∧ a < n) (hb : 0 ≤ b ∧ b < n) : allC (xorG z a b).1 := by
  unfold xorG
  split
  · exact ordG_allC hz h
  split
  · exact h
  split
  · exact notG_allC hz h hb
  · rcases valG_bit hz hg h ha with e | e <;> contradiction
theorem andG_allC (hz : z.length = n * 3) (hg : gatesOk z n) (h : allC z) (ha : 0 ≤ a ∧ a < n) : allC (andG z a b).1 := by
  unfold andG
  split
  · exact h
  split
  · exact ordG_allC hz h
  split
  · exact h
  · rcases valG_bit hz hg h ha with e | e <;> contradiction
end
/-- A circuit without inputs becomes one of constants. -/
theorem sim_const {z : List Int} {n : Nat} (hg : gatesOk z n) (h1 : ∀ i, i < n → gk z i ≠ 1) : ∀ i, i ≤ n → allC (simA z i).1 := by
  have hb : allBit (List.replicate 80 0) := fun x hx => by rw [(List.mem_replicate.1 hx).2]; decide
  intro i
  induction i with
  | zero => exact fun _ i hi => by simp [simA] at hi
  | succ i ih =>
    intro hi
    obtain ⟨m, hs⟩ := sim_at hg hb i (by omega)
    have hc := ih (by omega)
    have ok := hg i (by omega)
    have k1 := h1 i (by omega)
    show allC (simG (simA z i).1 (simA z i).2 (gk z i) (ga z i) (gb z i)).1
    generalize gk z i = k at *
    generalize ga z i = a at *
    generalize gb z i = b at *
    unfold simG
    rcases ok with ⟨rfl, ha, rfl⟩ | ⟨rfl, ha, rfl⟩ | ⟨rfl | rfl, ha, hb2⟩ | ⟨rfl, ha, rfl⟩
    · omega
    · exact ordG_allC hs.len hc
    · have va := hs.val a.toNat (by omega)
      have vb := hs.val b.toNat (by omega)
      exact xorG_allC hs.len hs.ok hc ⟨va.1, va.2.1⟩ ⟨vb.1, vb.2.1⟩
    · have va := hs.val a.toNat (by omega)
      exact andG_allC hs.len hs.ok hc ⟨va.1, va.2.1⟩
    · have va := hs.val a.toNat (by omega)
      exact notG_allC hs.len hc ⟨va.1, va.2.1⟩
/-- There are two constants. -/
theorem const_two {z : List Int} {m : Nat} (hz : z.length = m * 3) (hg : gatesOk z m) (h : allC z) (ho : once z m) : m ≤ 2 := by
  rcases Nat.lt_or_ge m 3 with h3 | h3
  · omega
  · exfalso
    have g : ∀ i, i < m → gk z i = 2 ∧ (ga z i = 0 ∨ ga z i = 1) ∧ gb z i = 0 := fun i hi => by
      have e := h i (by omega)
      have ok := hg i hi
      rw [e] at ok
      unfold gateOk at ok
      exact ⟨e, by omega, by omega⟩
    have g0 := g 0 (by omega)
    have g1 := g 1 (by omega)
    have g2 := g 2 (by omega)
    have o1 := ho 0 1 (by omega) (by omega)
    have o2 := ho 0 2 (by omega) (by omega)
    have o3 := ho 1 2 (by omega) (by omega)
    unfold isG at o1 o2 o3
    omega
end Go.Proofs.Ytkcknejkldhmaaa

/- Simplified, then pruned, in plain numbers; pruning twice; circuits without inputs. No condition. -/
import Derived.Test.YtkcknejkldhmaaaProg
import Derived.Test.YtkcknejkldhmaaaSmQ
namespace Go.Proofs.Ytkcknejkldhmaaa
open Go Go.RowKit
theorem three_take {y : List Int} {m i : Nat} (hl : y.length = m * 3) (hi : i < m) : y.take ((i + 1) * 3) = y.take (i * 3) ++ [gk y i, ga y i, gb y i] := by
  unfold gk ga gb
  rw [show (i + 1) * 3 = i * 3 + 1 + 1 + 1 by omega, take_snoc (by omega), take_snoc (by omega), take_snoc (by omega)]
  simp
/-- Where every gate is needed nothing is left out. -/
theorem prA_id {y : List Int} {m : Nat} {L : List Bool} (hl : y.length = m * 3) (hg : gatesOk y m) (h : ∀ i, i < m → fl L i = true) : ∀ i, i ≤ m → prA y L i = y.take (i * 3) := by
  intro i
  induction i with
  | zero => exact fun _ => rfl
  | succ i ih =>
    intro hi
    have hr := rnk_all h
    obtain ⟨b1, b2⟩ := arg_lt hg (show i < m by omega)
    simp only [prA]
    rw [if_pos (h i (by omega)), ih (by omega), three_take hl (by omega)]
    have e1 : newA L (gk y i) (ga y i) = ga y i := by
      unfold newA
      split
      · rename_i ho
        have := b1 ho
        rw [hr _ (by omega)]
        omega
      · rfl
    have e2 : newB L (gk y i) (gb y i) = gb y i := by
      unfold newB
      split
      · rename_i ho
        have := b2 ho
        rw [hr _ (by omega)]
        omega
      · rfl
    rw [e1, e2]
    rfl
theorem prO_id {os : List Int} {m : Nat} {L : List Bool} (hw : wiresOk os m) (h : ∀ i, i < m → fl L i = true) : prO L os = os := by
  unfold prO
  have hr := rnk_all h
  conv => rhs; rw [← List.map_id os]
  refine List.map_congr_left fun o ho => ?_
  have := hw o ho
  rw [hr _ (by omega)]
  show ((o.toNat : Nat) : Int) = o
  omega
/-- Pruning a circuit all of whose gates are needed. -/
theorem pru_id {y os : List Int} {m : Nat} (hl : y.length = m * 3) (hk : cirOk y m os) (h : ∀ i, i < m → fl (lv y m os) i = true) : pruZ y m os = y ∧ pruO y m os = os ∧ rnk (lv y m os) m = m := by
  refine ⟨?_, ?_, rnk_all h m (Nat.le_refl m)⟩
  · rw [show pruZ y m os = prA y (lv y m os) m from if_pos hk, prA_id hl hk.2.1 h m (Nat.le_refl m)]
    exact List.take_of_length_le (by omega)
  · rw [show pruO y m os = prO (lv y m os) os from if_pos hk]
    exact prO_id hk.2.2 h
theorem pru_twice {z os : List Int} {n : Nat} (h : cirOk z n os) :
    pruZ (pruZ z n os) (rnk (lv z n os) n) (pruO z n os) = pruZ z n os ∧ pruO (pruZ z n os) (rnk (lv z n os) n) (pruO z n os) = pruO z n os := by
  obtain ⟨h1, _, h3, _, _⟩ := pru_ok h
  obtain ⟨e1, e2, _⟩ := pru_id h1 h3 (pru_all h)
  exact ⟨e1, e2⟩
/-- The number of gates left. -/
def pruN (z : List Int) (n : Nat) (os : List Int) : Nat := if cirOk z n os then rnk (lv z n os) n else n
theorem pruZ_len {z os : List Int} {n : Nat} (hz : z.length = n * 3) : (pruZ z n os).length = pruN z n os * 3 := by
  unfold pruN
  by_cases h : cirOk z n os
  · rw [if_pos h]
    exact (pru_ok h).1
  · rw [if_neg h, (pru_no h).1]
    exact hz
theorem pruN_le (z os : List Int) (n : Nat) : pruN z n os ≤ n := by
  unfold pruN
  split
  · exact rnk_le _ _
  · exact Nat.le_refl n
theorem pruO_len (z os : List Int) (n : Nat) : (pruO z n os).length = os.length := by
  unfold pruO
  split
  · simp [prO]
  · rfl
/-- The number of gates of a simplified circuit. -/
def simN (z : List Int) (n : Nat) (os : List Int) : Nat := (simZ z n os).length / 3
theorem simZ_len {z os : List Int} {n : Nat} (hz : z.length = n * 3) : (simZ z n os).length = simN z n os * 3 ∧ simN z n os ≤ n := by
  unfold simN
  by_cases h : cirOk z n os
  · obtain ⟨m, h1, h2, _⟩ := sim_ok h
    omega
  · rw [(sim_no h).1]
    omega
theorem simO_len (z os : List Int) (n : Nat) : (simO z n os).length = os.length := by
  unfold simO
  split
  · rw [outV_length]
  · rfl
/-- What simplifying leaves of a valid circuit. -/
theorem sim_all {z os : List Int} {n : Nat} (h : cirOk z n os) : cirOk (simZ z n os) (simN z n os) (simO z n os) ∧ cnt (simZ z n os) 4 (simN z n os) ≤ cnt z 4 n ∧ once (simZ z n os) (simN z n os) ∧ ∀ bs, evC (simZ z n os) (simN z n os) (simO z n os) bs = evC z n os bs := by
  obtain ⟨m, h1, h2, h3, h4, h5, h6, h7⟩ := sim_ok h
  have e : simN z n os = m := by unfold simN; omega
  rw [e]
  exact ⟨h3, h5, h6, h7⟩
/-- An optimized circuit: gates, their number, outputs. -/
def optZ (z : List Int) (n : Nat) (os : List Int) : List Int := pruZ (simZ z n os) (simN z n os) (simO z n os)
def optN (z : List Int) (n : Nat) (os : List Int) : Nat := pruN (simZ z n os) (simN z n os) (simO z n os)
def optO (z : List Int) (n : Nat) (os : List Int) : List Int := pruO (simZ z n os) (simN z n os) (simO z n os)
theorem optZ_len {z os : List Int} {n : Nat} (hz : z.length = n * 3) : (optZ z n os).length = optN z n os * 3 ∧ optN z n os ≤ simN z n os := ⟨pruZ_len (simZ_len hz).1, pruN_le _ _ _⟩
theorem optO_len (z os : List Int) (n : Nat) : (optO z n os).length = os.length := by rw [optO, pruO_len, simO_len]
theorem opt_all {z os : List Int} {n : Nat} (h : cirOk z n os) : cirOk (optZ z n os) (optN z n os) (optO z n os) ∧ (∀ bs, evC (optZ z n os) (optN z n os) (optO z n os) bs = evC z n os bs) ∧ pruZ (optZ z n os) (optN z n os) (optO z n os) = optZ z n os ∧ pruO (optZ z n os) (optN z n os) (optO z n os) = optO z n os ∧ ∀ p, p < optN z n os → fl (lv (optZ z n os) (optN z n os) (optO z n os)) p = true := by
  obtain ⟨s1, s2, s3, s4⟩ := sim_all h
  obtain ⟨p1, p2, p3, p4, p5⟩ := pru_ok s1
  obtain ⟨t1, t2⟩ := pru_twice s1
  have e : optN z n os = rnk (lv (simZ z n os) (simN z n os) (simO z n os)) (simN z n os) := if_pos s1
  unfold optZ optO
  rw [e]
  exact ⟨p3, fun bs => by rw [p5, s4], t1, t2, pru_all s1⟩
/-- A circuit without inputs becomes one of two constants at most. -/
theorem opt_const {z os : List Int} {n : Nat} (h : cirOk z n os) (h1 : ∀ i, i < n → gk z i ≠ 1) : optN z n os ≤ 2 ∧ ∀ p, p < optN z n os → gk (optZ z n os) p = 2 := by
  obtain ⟨m, hm, hl, hk, _, _, ho, _⟩ := sim_ok h
  have em : simN z n os = m := by unfold simN; omega
  have hc : allC (simZ z n os) := by
    rw [show simZ z n os = (simA z n).1 from if_pos h]
    exact sim_const h.2.1 h1 n (Nat.le_refl n)
  have h2 := const_two hl hk.2.1 hc ho
  have hle := pruN_le (simZ z n os) (simO z n os) (simN z n os)
  refine ⟨by unfold optN; omega, fun p hp => ?_⟩
  have e : optN z n os = rnk (lv (simZ z n os) m (simO z n os)) m := by
    unfold optN
    rw [em]
    exact if_pos hk
  rw [e] at hp
  obtain ⟨i, hi, hf, rfl⟩ := rnk_of _ m p hp
  unfold optZ
  rw [em, show pruZ (simZ z n os) m (simO z n os) = prA (simZ z n os) (lv (simZ z n os) m (simO z n os)) m from if_pos hk, (prA_at hf hi).1]
  exact hc i (by omega)
end Go.Proofs.Ytkcknejkldhmaaa

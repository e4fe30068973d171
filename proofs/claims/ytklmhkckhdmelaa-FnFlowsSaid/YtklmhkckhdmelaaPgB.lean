/- Programs whose loops are closed. No condition. -/
import Derived.Test.YtklmhkckhdmelaaPgM
namespace Go.Proofs.Ytklmhkckhdmelaa
open Go Go.RowKit
/-- A list of statements that ends at the depth at which it began, and never goes more than h deeper. -/
def Bal (h : Nat) (ss : List St) : Prop := ∀ D : Int, 0 ≤ D → D + h ≤ 3 → runD ss D = some D
theorem Bal.nil (h : Nat) : Bal h [] := fun _ _ _ => rfl
theorem Bal.app {h : Nat} {a b : List St} (ha : Bal h a) (hb : Bal h b) : Bal h (a ++ b) := fun D h0 h1 => by
  rw [runD_append, ha D h0 h1]
  exact hb D h0 h1
theorem Bal.mono {h k : Nat} {a : List St} (ha : Bal h a) (hk : h ≤ k) : Bal k a := fun D h0 h1 => ha D h0 (by omega)
theorem Bal.one {h : Nat} {s : St} (hs : s.ok) (ho : s.op ≤ 11) : Bal h [s] := fun D h0 h1 => by
  have e : dl s.op = 0 := by unfold dl; rw [if_neg (by omega), if_neg (by omega)]
  simp only [runD, e, Int.add_zero]
  rw [if_pos ⟨hs, by omega, by omega⟩]
def loopSt (n : Int) : St := ⟨12, 0, 0, 0, 0, n⟩
def endSt : St := ⟨13, 0, 0, 0, 0, 0⟩
theorem Bal.loop {h : Nat} {ss : List St} {n : Int} (hs : Bal h ss) (hn : 1 ≤ n ∧ n ≤ 8) : Bal (h + 1) (([loopSt n] ++ ss) ++ [endSt]) := fun D h0 h1 => by
  have ok1 : (loopSt n).ok := by simp [loopSt, St.ok, okI]; omega
  have ok2 : endSt.ok := by simp [endSt, St.ok, okI]
  have e1 : dl (loopSt n).op = 1 := rfl
  have e2 : dl endSt.op = -1 := rfl
  have h1' : D + (h : Int) + 1 ≤ 3 := by have : ((h + 1 : Nat) : Int) = (h : Int) + 1 := by omega
                                         omega
  rw [runD_append, runD_append]
  simp only [runD, e1, e2]
  rw [if_pos ⟨ok1, by omega, by omega⟩, Option.bind_some, hs (D + 1) (by omega) (by omega), Option.bind_some, if_pos ⟨ok2, by omega, by omega⟩, show D + 1 + -1 = D by omega]
/-- A drawn statement: its registers are below 4, its number of times below 4. -/
def smallSt (s : St) : Prop := s.ok ∧ (0 ≤ s.d ∧ s.d ≤ 3) ∧ (0 ≤ s.a ∧ s.a ≤ 3) ∧ (0 ≤ s.b ∧ s.b ≤ 3) ∧ (0 ≤ s.c ∧ s.c ≤ 3) ∧ (s.op = 12 → s.n ≤ 3)
def smallAll (ss : List St) : Prop := ∀ s ∈ ss, smallSt s
theorem smallAll.nil : smallAll [] := fun s h => by simp at h
theorem smallAll.app {a b : List St} (ha : smallAll a) (hb : smallAll b) : smallAll (a ++ b) := fun s h => (List.mem_append.1 h).elim (ha s) (hb s)
theorem smallAll.one {s : St} (h : smallSt s) : smallAll [s] := fun t ht => by simp at ht; subst ht; exact h
theorem small_loop {n : Int} (hn : 1 ≤ n ∧ n ≤ 3) : smallSt (loopSt n) := ⟨by simp [loopSt, St.ok, okI]; omega, by simp [loopSt], by simp [loopSt], by simp [loopSt], by simp [loopSt], fun _ => hn.2⟩
theorem small_end : smallSt endSt := ⟨by simp [endSt, St.ok, okI], by simp [endSt], by simp [endSt], by simp [endSt], by simp [endSt], fun h => by simp [endSt] at h⟩
/-- What a drawn block is. -/
structure Blk8 (h : Nat) (ss : List St) : Prop where
  bal : Bal h ss
  small : smallAll ss
theorem Blk8.nil (h : Nat) : Blk8 h [] := ⟨Bal.nil h, smallAll.nil⟩
theorem Blk8.app {h : Nat} {a b : List St} (ha : Blk8 h a) (hb : Blk8 h b) : Blk8 h (a ++ b) := ⟨ha.bal.app hb.bal, ha.small.app hb.small⟩
theorem Blk8.loop {h : Nat} {a ss : List St} {n : Int} (ha : Blk8 (h + 1) a) (hs : Blk8 h ss) (hn : 0 ≤ n ∧ n < 3) : Blk8 (h + 1) (((a ++ [loopSt (1 + n)]) ++ ss) ++ [endSt]) := by
  rw [List.append_assoc, List.append_assoc, ← List.append_assoc [loopSt (1 + n)]]
  exact ha.app ⟨hs.bal.loop (by omega), ((smallAll.one (small_loop (by omega))).app hs.small).app (smallAll.one small_end)⟩
/-- A drawn program. -/
structure DrawnP (ss : List St) : Prop where
  bal : Bal 2 ss
  small : smallAll ss
  lo : 3 ≤ ss.length
  len : ss.length ≤ 30
  two : ∃ ts, ss = ⟨2, 0, 0, 0, 0, 0⟩ :: ⟨2, 1, 1, 0, 0, 0⟩ :: ts
  last : ∃ us x, ss = us ++ [⟨11, 0, x, 0, 0, 0⟩]
theorem DrawnP.prog {ss : List St} (h : DrawnP ss) : progI ss := ⟨by have := h.len; omega, h.bal 0 (by omega) (by omega)⟩
theorem partN_le (ss : List St) (m : Int) : m ≤ partN ss m := by
  induction ss generalizing m with
  | nil => exact Int.le_refl _
  | cons s ss ih =>
    refine Int.le_trans ?_ (ih _)
    split <;> omega
theorem DrawnP.parts {ss : List St} (h : DrawnP ss) : 2 ≤ partsI ss := by
  unfold partsI
  rw [if_pos h.prog]
  obtain ⟨ts, rfl⟩ := h.two
  exact partN_le ts 2
theorem DrawnP.at_ {ss : List St} (h : DrawnP ss) {k : Nat} (hk : k < ss.length) : smallSt (ss.getD k s0) := by
  rw [List.getD_eq_getElem?_getD, List.getElem?_eq_getElem hk, Option.getD_some]
  exact h.small _ (List.getElem_mem _)
/-- What is asked of a valid statement's registers. -/
theorem reads_range {op d a b c n : Int} (h : okI op d a b c n) : ∀ x ∈ readsI op a b c, 0 ≤ x ∧ x ≤ 7 := by
  unfold okI isReg at h
  unfold readsI
  intro x hx
  split at hx
  · simp at hx; omega
  · split at hx
    · simp at hx; omega
    · split at hx
      · simp at hx; omega
      · simp at hx
theorem writes_range {op d a b c n : Int} (h : okI op d a b c n) : -1 ≤ writesOf op d a b c n ∧ writesOf op d a b c n ≤ 7 := by
  unfold writesOf
  unfold okI isReg at h
  split <;> omega
theorem out_only {op d a b c n : Int} (h : okI op d a b c n) : (op = 11) ↔ (writesOf op d a b c n = -1 ∧ (readsI op a b c).length = 1) := by
  unfold writesOf readsI
  by_cases hp : op ≤ 10
  · rw [if_pos ⟨h, hp⟩]
    unfold okI isReg at h
    refine ⟨fun e => by omega, fun e => ?_⟩
    exfalso
    have := e.1
    omega
  · rw [if_neg (fun x => hp x.2), if_neg (by omega)]
    unfold okI isReg at h
    by_cases h11 : op = 11
    · rw [if_pos h11]; simp [h11]
    · rw [if_neg h11, if_neg (by omega)]; simp [h11]
end Go.Proofs.Ytklmhkckhdmelaa

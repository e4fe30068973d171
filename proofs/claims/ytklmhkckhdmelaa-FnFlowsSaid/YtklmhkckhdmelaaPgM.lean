/- Programs as lists of statements: which are valid, how many parties. No condition. -/
import Derived.Test.YtklmhkckhdmelaaStmtA
namespace Go.Proofs.Ytklmhkckhdmelaa
open Go Go.RowKit
/-- What a statement adds to the depth. -/
def dl (op : Int) : Int := if op = 12 then 1 else if op = 13 then -1 else 0
/-- The depth behind a list that begins at depth D; none where a statement or a depth is not valid. -/
def runD (ss : List St) (D : Int) : Option Int := match ss with
  | [] => some D
  | s :: ss => if s.ok ∧ 0 ≤ D + dl s.op ∧ D + dl s.op ≤ 3 then runD ss (D + dl s.op) else none
def progI (ss : List St) : Prop := ss.length ≤ 40 ∧ runD ss 0 = some 0
instance (ss : List St) : Decidable (progI ss) := by unfold progI; infer_instance
theorem runD_step {ss : List St} {k : Nat} {D : Int} (hk : k < ss.length) {op d a b c n : Int} (e : ss.getD k s0 = ⟨op, d, a, b, c, n⟩) :
    runD (ss.drop k) D = if okI op d a b c n ∧ 0 ≤ D + dl op ∧ D + dl op ≤ 3 then runD (ss.drop (k + 1)) (D + dl op) else none := by
  rw [List.getD_eq_getElem?_getD, List.getElem?_eq_getElem hk, Option.getD_some] at e
  rw [List.drop_eq_getElem_cons hk, e]
  rfl
theorem runD_end (ss : List St) (D : Int) : runD (ss.drop ss.length) D = some D := by rw [List.drop_length]; rfl
theorem runD_append (ss ts : List St) (D : Int) : runD (ss ++ ts) D = (runD ss D).bind (runD ts) := by
  induction ss generalizing D with
  | nil => rfl
  | cons s ss ih =>
    simp only [List.cons_append, runD]
    split
    · exact ih _
    · rfl
/-- The parties that have an input among the statements, one more than the greatest. -/
def partN (ss : List St) (m : Int) : Int := match ss with
  | [] => m
  | s :: ss => partN ss (if s.op = 2 then max m (s.a + 1) else m)
def partsI (ss : List St) : Int := if progI ss then partN ss 0 else 0
theorem partN_step {ss : List St} {k : Nat} {m : Int} (hk : k < ss.length) {op d a b c n : Int} (e : ss.getD k s0 = ⟨op, d, a, b, c, n⟩) :
    partN (ss.drop k) m = partN (ss.drop (k + 1)) (if op = 2 then max m (a + 1) else m) := by
  rw [List.getD_eq_getElem?_getD, List.getElem?_eq_getElem hk, Option.getD_some] at e
  rw [List.drop_eq_getElem_cons hk, e]
  rfl
theorem partN_end (ss : List St) (m : Int) : partN (ss.drop ss.length) m = m := by rw [List.drop_length]; rfl
/-- Each statement of a valid program is valid. -/
theorem runD_ok {ss : List St} {D E : Int} (h : runD ss D = some E) : ∀ k, k < ss.length → (ss.getD k s0).ok := by
  induction ss generalizing D with
  | nil => intro k hk; simp at hk
  | cons s ss ih =>
    intro k hk
    simp only [runD] at h
    split at h
    · rename_i hs
      cases k with
      | zero => exact hs.1
      | succ k => simpa using ih h k (by simpa using hk)
    · cases h
theorem partN_range {ss : List St} (h : ∀ k, k < ss.length → (ss.getD k s0).ok) {m : Int} (hm : 0 ≤ m ∧ m ≤ 5) : 0 ≤ partN ss m ∧ partN ss m ≤ 5 := by
  induction ss generalizing m with
  | nil => exact hm
  | cons s ss ih =>
    have h0 : s.ok := by simpa using h 0 (by simp)
    refine ih (fun k hk => by simpa using h (k + 1) (by simpa using hk)) ?_
    unfold St.ok okI isReg at h0
    split <;> omega
theorem ok_op {op d a b c n : Int} (h : okI op d a b c n) : 1 ≤ op ∧ op ≤ 13 ∧ (op = 2 → 0 ≤ a ∧ a ≤ 4) := by unfold okI at h; omega
end Go.Proofs.Ytklmhkckhdmelaa

/- The lines of a text, and what the lines make: plain lists of bytes. No condition. -/
import Derived.Test.YtjclhlicginekaaGreatDoorSrcM
import Derived.Test.YtjclhlicginekaaGreatDoorPgM
import Derived.Lib.SplitLaws
namespace Go.Proofs.YtjclhlicginekaaGreatDoor
open Go Go.RowKit
/-- The lines of a text; the first of them has begun already. -/
def linesA (cur : List UInt8) : List UInt8 → List (List UInt8)
  | [] => [cur]
  | c :: r => if c = 10 then cur :: linesA [] r else linesA (cur ++ [c]) r
def linesL (t : List UInt8) : List (List UInt8) := linesA [] t
def onHead (c : List UInt8) (L : List (List UInt8)) : List (List UInt8) := match L with
  | x :: xs => (c ++ x) :: xs
  | [] => [c]
theorem linesA_head (t : List UInt8) : ∀ cur, linesA cur t = onHead cur (linesA [] t) := by
  induction t with
  | nil => intro cur; simp [linesA, onHead]
  | cons c r ih =>
    intro cur
    unfold linesA
    split
    · simp [onHead]
    · rw [ih (cur ++ [c]), ih ([] ++ [c])]
      cases linesA [] r with
      | nil => simp [onHead]
      | cons x xs => simp [onHead]
theorem linesA_ne (cur t : List UInt8) : linesA cur t ≠ [] := by
  induction t generalizing cur with
  | nil => simp [linesA]
  | cons c r ih =>
    unfold linesA
    split
    · simp
    · exact ih _
theorem splitK_lines : ∀ t : List UInt8, Lib.splitK [10] 0 (Lib.count t [10]) t = linesL t := by
  intro t
  induction t with
  | nil =>
    have : Lib.count [] [10] = 0 := by rw [Lib.count_one]; rfl
    rw [this]; rfl
  | cons c r ih =>
    by_cases hc : c = 10
    · subst hc
      rw [Lib.count_cons_eq, Nat.add_comm]
      have hix : Lib.index (10 :: r) [10] = ((0 : Nat) : Int) := by rw [Lib.index]; simp [List.isPrefixOf]
      rw [Lib.splitK, hix]
      have e : linesL (10 :: r) = [] :: linesL r := by unfold linesL; rw [linesA, if_pos rfl]
      rw [e, ← ih]
      rfl
    · rw [Lib.count_cons_ne c 10 r hc]
      have e : linesL (c :: r) = onHead [c] (linesL r) := by
        unfold linesL
        rw [linesA, if_neg hc, linesA_head]; rfl
      rw [e, ← ih]
      have hp : ([10] : List UInt8).isPrefixOf (c :: r) = false := by simp [List.isPrefixOf, Ne.symm hc]
      have hix : Lib.index (c :: r) [10] = if Lib.index r [10] == -1 then -1 else Lib.index r [10] + 1 := by rw [Lib.index, hp]; simp
      cases hk : Lib.count r [10] with
      | zero => rfl
      | succ k =>
        by_cases hm : Lib.index r [10] = -1
        · rw [Lib.count_miss hm] at hk; cases hk
        · have hge := Lib.index_ge r [10]
          obtain ⟨j, hj⟩ : ∃ j : Nat, Lib.index r [10] = j := ⟨(Lib.index r [10]).toNat, by omega⟩
          have hix' : Lib.index (c :: r) [10] = ((j + 1 : Nat) : Int) := by rw [hix, if_neg (fun e => hm (beq_iff_eq.1 e)), hj]; omega
          rw [Lib.splitK, Lib.splitK, hix', hj]
          have h1 : (((j + 1 : Nat) : Int) == -1) = false := beq_eq_false_iff_ne.2 (by omega)
          have h2 : (((j : Nat) : Int) == -1) = false := beq_eq_false_iff_ne.2 (by omega)
          rw [h1, h2]
          simp [onHead]
/-- What the lines make: the statements and 0; or none and the number of the first wrong line, or -1. -/
noncomputable def goP : List (List UInt8) → Nat → List St → List St × Int
  | [], _, acc => if progI acc then (acc, 0) else ([], -1)
  | l :: ls, i, acc => if l = [] then goP ls (i + 1) acc else
    match parseL l with
    | none => ([], (i : Int) + 1)
    | some s => goP ls (i + 1) (acc ++ [s])
noncomputable def parseP (t : List UInt8) : List St × Int := if 20000 < t.length then ([], -1) else goP (linesL t) 0 []
theorem linesA_line (f r : List UInt8) (h : ∀ c, c ∈ f → c ≠ 10) : ∀ cur, linesA cur (f ++ 10 :: r) = (cur ++ f) :: linesL r := by
  induction f with
  | nil => intro cur; rw [List.nil_append, linesA, if_pos rfl, List.append_nil]; rfl
  | cons c f ih =>
    intro cur
    rw [List.cons_append, linesA, if_neg (h c (List.mem_cons_self ..)), ih (fun x hx => h x (List.mem_cons_of_mem _ hx)), List.append_assoc]
    rfl
theorem linesA_last (f : List UInt8) (h : ∀ c, c ∈ f → c ≠ 10) : ∀ cur, linesA cur f = [cur ++ f] := by
  induction f with
  | nil => intro cur; simp [linesA]
  | cons c f ih =>
    intro cur
    rw [linesA, if_neg (h c (List.mem_cons_self ..)), ih (fun x hx => h x (List.mem_cons_of_mem _ hx)), List.append_assoc]
    rfl
theorem fmt_no10 {s : St} (h : s.ok) : ∀ c, c ∈ fmtL s → c ≠ 10 := fun c hc e => by
  have := fmt_bytes h c hc
  unfold okB at this
  rw [e] at this
  exact absurd this.1 (by decide)
/-- The text of a program and what follows it: the lines are the statements' texts. -/
theorem goP_prog (ss : List St) (h : ∀ s, s ∈ ss → s.ok) (r : List UInt8) : ∀ (i : Nat) (acc : List St),
    goP (linesL (ss.flatMap (fun s => fmtL s ++ [10]) ++ r)) i acc = goP (linesL r) (i + ss.length) (acc ++ ss) := by
  induction ss with
  | nil => intro i acc; simp
  | cons s ss ih =>
    intro i acc
    have hs := h s (List.mem_cons_self ..)
    have e : (s :: ss).flatMap (fun s => fmtL s ++ [10]) ++ r = fmtL s ++ 10 :: (ss.flatMap (fun s => fmtL s ++ [10]) ++ r) := by simp
    rw [e]
    have e2 : linesL (fmtL s ++ 10 :: (ss.flatMap (fun s => fmtL s ++ [10]) ++ r)) = fmtL s :: linesL (ss.flatMap (fun s => fmtL s ++ [10]) ++ r) := by
      unfold linesL
      rw [linesA_line _ _ (fmt_no10 hs) []]; rfl
    rw [e2, goP, if_neg (fun e => by have := (fmt_len hs).2; rw [e] at this; simp at this), parse_fmt hs]
    simp only
    rw [ih (fun x hx => h x (List.mem_cons_of_mem _ hx)), List.append_assoc, List.length_cons]
    congr 1
    omega
theorem parse_none_of {line : List UInt8} (h : opOf ((splitF line).getD 0 []) = none) : parseL line = none := by
  rw [← cand_line]
  unfold candI
  split
  · rfl
  · rw [h]; rfl
end Go.Proofs.YtjclhlicginekaaGreatDoor

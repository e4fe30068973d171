/- Statements as plain numbers: which are valid, what they read and set. No condition. -/
import Derived.Test.YtklmhkckhdmelaaKit
namespace Go.Proofs.Ytklmhkckhdmelaa
open Go Go.RowKit
/-- A statement: its Op, Dst, A, B, C and N. -/
structure St where
  op : Int
  d : Int
  a : Int
  b : Int
  c : Int
  n : Int
deriving DecidableEq
def isReg (x : Int) : Prop := 0 ≤ x ∧ x ≤ 7
instance (x : Int) : Decidable (isReg x) := by unfold isReg; infer_instance
/-- The statement is valid. -/
def okI (op d a b c n : Int) : Prop :=
  (op = 1 ∧ isReg d ∧ a = 0 ∧ b = 0 ∧ c = 0 ∧ 0 ≤ n ∧ n ≤ 15) ∨
  (op = 2 ∧ isReg d ∧ 0 ≤ a ∧ a ≤ 4 ∧ b = 0 ∧ c = 0 ∧ 0 ≤ n ∧ n ≤ 3) ∨
  (3 ≤ op ∧ op ≤ 9 ∧ isReg d ∧ isReg a ∧ isReg b ∧ c = 0 ∧ n = 0) ∨
  (op = 10 ∧ isReg d ∧ isReg a ∧ isReg b ∧ isReg c ∧ n = 0) ∨
  (op = 11 ∧ d = 0 ∧ isReg a ∧ b = 0 ∧ c = 0 ∧ n = 0) ∨
  (op = 12 ∧ d = 0 ∧ a = 0 ∧ b = 0 ∧ c = 0 ∧ 1 ≤ n ∧ n ≤ 8) ∨
  (op = 13 ∧ d = 0 ∧ a = 0 ∧ b = 0 ∧ c = 0 ∧ n = 0)
instance (op d a b c n : Int) : Decidable (okI op d a b c n) := by unfold okI; infer_instance
def St.ok (s : St) : Prop := okI s.op s.d s.a s.b s.c s.n
instance (s : St) : Decidable s.ok := by unfold St.ok; infer_instance
/-- The registers that a valid statement reads. -/
def readsI (op a b c : Int) : List Int :=
  if op = 10 then [a, b, c] else if op = 11 then [a] else if 3 ≤ op ∧ op ≤ 9 then [a, b] else []
def readsOf (op d a b c n : Int) : List Int := if okI op d a b c n then readsI op a b c else []
/-- The register that a valid statement sets, or -1. -/
def writesOf (op d a b c n : Int) : Int := if okI op d a b c n ∧ op ≤ 10 then d else -1
end Go.Proofs.Ytklmhkckhdmelaa

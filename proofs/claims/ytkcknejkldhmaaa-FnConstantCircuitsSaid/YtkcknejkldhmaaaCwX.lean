/- Circuit builders: whether gates can be appended for these words, the program's test. No condition. -/
import Derived.Test.YtkcknejkldhmaaaProg
import Derived.Test.YtkcknejkldhmaaaCirB
import Derived.Test.YtkcknejkldhmaaaW2
namespace Go.Proofs.Ytkcknejkldhmaaa
open Go Go.RowKit
/-- A word: four wires. -/
def wordOk (us : List Int) (n : Nat) : Prop := us.length = 4 ∧ wiresOk us n
instance (us : List Int) (n : Nat) : Decidable (wordOk us n) := by unfold wordOk; infer_instance
/-- Gates can be appended. -/
def canC14 (z : List Int) (n : Nat) (os : List Int) : Prop := cirOk z n os ∧ n ≤ 5900
instance (z : List Int) (n : Nat) (os : List Int) : Decidable (canC14 z n os) := by unfold canC14; infer_instance
/-- Two words, and a circuit with room. -/
def canB14 (z : List Int) (n : Nat) (os us ws : List Int) : Prop := canC14 z n os ∧ wordOk us n ∧ wordOk ws n
instance (z : List Int) (n : Nat) (os us ws : List Int) : Decidable (canB14 z n os us ws) := by unfold canB14; infer_instance
end Go.Proofs.Ytkcknejkldhmaaa

/- StepState: the program's. No condition. -/
import Derived.Test.YtkcknejkldhmaaaProg
import Derived.Test.YtkcknejkldhmaaaR2
import Derived.WalkSpells
import Derived.Deep.CutBlock
namespace Go.Proofs.Ytkcknejkldhmaaa
open Go Go.RowKit

end Go.Proofs.Ytkcknejkldhmaaa

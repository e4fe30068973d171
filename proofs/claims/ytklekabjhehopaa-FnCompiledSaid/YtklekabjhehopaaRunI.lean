/- StepState: the program's. No condition. -/
import Derived.Test.YtklekabjhehopaaProg
import Derived.Test.YtklekabjhehopaaR2
import Derived.WalkSpells
import Derived.Deep.CutBlock
namespace Go.Proofs.Ytklekabjhehopaa
open Go Go.RowKit

end Go.Proofs.Ytklekabjhehopaa

/- StepState: the program's. No condition. -/
import Derived.Test.YtjfmcdfgccdmpaaGreatProg
import Derived.Test.YtjfmcdfgccdmpaaGreatR2
import Derived.WalkSpells
import Derived.Deep.CutBlock
namespace Go.Proofs.YtjfmcdfgccdmpaaGreat
open Go Go.RowKit

end Go.Proofs.YtjfmcdfgccdmpaaGreat

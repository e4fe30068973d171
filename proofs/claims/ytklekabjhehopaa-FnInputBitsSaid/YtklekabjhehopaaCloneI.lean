/- slices.Clone of a slice of ints: a new list, or nil of nil. No condition. -/
import Derived.Test.YtklekabjhehopaaProg
import Derived.Test.YtklekabjhehopaaB1
import Derived.WalkSpells
namespace Go.Proofs.Ytklekabjhehopaa
open Go Go.RowKit
end Go.Proofs.Ytklekabjhehopaa

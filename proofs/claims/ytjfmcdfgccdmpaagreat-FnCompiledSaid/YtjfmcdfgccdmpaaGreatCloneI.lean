/- slices.Clone of a slice of ints: a new list, or nil of nil. No condition. -/
import Derived.Test.YtjfmcdfgccdmpaaGreatProg
import Derived.Test.YtjfmcdfgccdmpaaGreatB1
import Derived.WalkSpells
namespace Go.Proofs.YtjfmcdfgccdmpaaGreat
open Go Go.RowKit
end Go.Proofs.YtjfmcdfgccdmpaaGreat

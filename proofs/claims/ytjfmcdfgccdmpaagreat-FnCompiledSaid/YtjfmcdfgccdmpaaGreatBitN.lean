/- Tests of any number of bits: the model. No condition. -/
import Derived.Test.YtjfmcdfgccdmpaaGreatProg
import Derived.Test.YtjfmcdfgccdmpaaGreatCirB
namespace Go.Proofs.YtjfmcdfgccdmpaaGreat
open Go Go.RowKit
end Go.Proofs.YtjfmcdfgccdmpaaGreat

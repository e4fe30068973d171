/- Boolean circuits: the model's values of wires. No condition. -/
import Derived.Test.YtjfmcdfgccdmpaaGreatProg
import Derived.Test.YtjfmcdfgccdmpaaGreatCirB
import Derived.Test.YtjfmcdfgccdmpaaGreatB1
namespace Go.Proofs.YtjfmcdfgccdmpaaGreat
open Go Go.RowKit
end Go.Proofs.YtjfmcdfgccdmpaaGreat

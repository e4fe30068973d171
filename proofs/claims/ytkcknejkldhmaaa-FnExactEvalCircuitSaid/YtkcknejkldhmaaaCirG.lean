/- Boolean circuits: the model's AndDepth. No condition. -/
import Derived.Test.YtkcknejkldhmaaaProg
import Derived.Test.YtkcknejkldhmaaaCirB
import Derived.Test.YtkcknejkldhmaaaB1
import Derived.BigRegion
namespace Go.Proofs.Ytkcknejkldhmaaa
open Go Go.RowKit
end Go.Proofs.Ytkcknejkldhmaaa

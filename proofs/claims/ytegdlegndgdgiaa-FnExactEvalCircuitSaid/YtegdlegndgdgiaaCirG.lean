/- Boolean circuits: the model's AndDepth. No condition. -/
import Derived.Test.YtegdlegndgdgiaaProg
import Derived.Test.YtegdlegndgdgiaaCirB
import Derived.Test.YtegdlegndgdgiaaB1
import Derived.BigRegion
namespace Go.Proofs.Ytegdlegndgdgiaa
open Go Go.RowKit
end Go.Proofs.Ytegdlegndgdgiaa

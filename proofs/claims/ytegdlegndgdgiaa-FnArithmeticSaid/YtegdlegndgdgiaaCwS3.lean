/- Circuit builders: WordLess, WordEqual, the model's. No condition. -/
import Derived.Test.YtegdlegndgdgiaaProg
import Derived.Test.YtegdlegndgdgiaaCwF
import Derived.Test.YtegdlegndgdgiaaCwK
import Derived.Test.YtegdlegndgdgiaaW3
namespace Go.Proofs.Ytegdlegndgdgiaa
open Go Go.RowKit
end Go.Proofs.Ytegdlegndgdgiaa

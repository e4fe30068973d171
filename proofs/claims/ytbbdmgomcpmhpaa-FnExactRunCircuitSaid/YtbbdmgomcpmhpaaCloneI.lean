/- slices.Clone of a slice of ints: a new list, or nil of nil. No condition. -/
import Derived.Test.YtbbdmgomcpmhpaaProg
import Derived.Test.YtbbdmgomcpmhpaaB1
import Derived.WalkSpells
namespace Go.Proofs.Ytbbdmgomcpmhpaa
open Go Go.RowKit
end Go.Proofs.Ytbbdmgomcpmhpaa

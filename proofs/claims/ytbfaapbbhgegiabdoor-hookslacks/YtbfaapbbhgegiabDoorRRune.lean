/- The walk of the document's Rune. -/
import Derived.Test.YtbfaapbbhgegiabDoorRunes
namespace Go.Proofs.YtbfaapbbhgegiabDoor
open Go.RowKit

end Go.Proofs.YtbfaapbbhgegiabDoor

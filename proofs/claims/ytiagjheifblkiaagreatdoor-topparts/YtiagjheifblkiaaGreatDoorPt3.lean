/- RawW, Cut: these texts in one. -/
import Derived.Test.YtiagjheifblkiaaGreatDoorPt2
import Derived.Test.YtiagjheifblkiaaGreatDoorPt1
namespace Go.Proofs.YtiagjheifblkiaaGreatDoor
open Go.RowKit
set_option linter.unusedVariables false
end Go.Proofs.YtiagjheifblkiaaGreatDoor
namespace Go.Proofs.YtiagjheifblkiaaGreatDoor
open Go.RowKit
set_option linter.unusedVariables false
end Go.Proofs.YtiagjheifblkiaaGreatDoor

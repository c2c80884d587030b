/- The walks of package ints: numbers by a verb. -/
import Derived.Test.YtiagjheifblkiaaGreatDoorPt2
namespace Go.Proofs.YtiagjheifblkiaaGreatDoor
open Go.RowKit
set_option linter.unusedVariables false
end Go.Proofs.YtiagjheifblkiaaGreatDoor

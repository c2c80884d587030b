/- The walks of number, Signed and Unsigned of package ints. -/
import Derived.Test.YtiagjheifblkiaaGreatDoorINumB
namespace Go.Proofs.YtiagjheifblkiaaGreatDoor
open Go.RowKit
set_option linter.unusedVariables false
end Go.Proofs.YtiagjheifblkiaaGreatDoor

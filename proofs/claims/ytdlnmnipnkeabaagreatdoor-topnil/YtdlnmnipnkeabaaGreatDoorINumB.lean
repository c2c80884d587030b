/- The walks of package ints: numbers by a verb. -/
import Derived.Test.YtdlnmnipnkeabaaGreatDoorPt5
namespace Go.Proofs.YtdlnmnipnkeabaaGreatDoor
open Go.RowKit
set_option linter.unusedVariables false
end Go.Proofs.YtdlnmnipnkeabaaGreatDoor

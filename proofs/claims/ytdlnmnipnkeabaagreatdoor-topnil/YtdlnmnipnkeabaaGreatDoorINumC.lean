/- The walks of number, Signed and Unsigned of package ints. -/
import Derived.Test.YtdlnmnipnkeabaaGreatDoorINumB
namespace Go.Proofs.YtdlnmnipnkeabaaGreatDoor
open Go.RowKit
set_option linter.unusedVariables false
end Go.Proofs.YtdlnmnipnkeabaaGreatDoor

/- The walks of number, Signed and Unsigned of package ints. -/
import Derived.Test.YtjalgdfnehgocaaGreatDoorINumB
namespace Go.Proofs.YtjalgdfnehgocaaGreatDoor
open Go.RowKit
set_option linter.unusedVariables false
end Go.Proofs.YtjalgdfnehgocaaGreatDoor

/- The walks of package ints: numbers by a verb. -/
import Derived.Test.YtjalgdfnehgocaaGreatDoorPt4
namespace Go.Proofs.YtjalgdfnehgocaaGreatDoor
open Go.RowKit
set_option linter.unusedVariables false
end Go.Proofs.YtjalgdfnehgocaaGreatDoor

/- RawW, Cut: these texts in one. -/
import Derived.Test.YtjalgdfnehgocaaGreatDoorPt3
import Derived.Test.YtjalgdfnehgocaaGreatDoorPt2
import Derived.Test.YtjalgdfnehgocaaGreatDoorPt1
namespace Go.Proofs.YtjalgdfnehgocaaGreatDoor
open Go.RowKit
set_option linter.unusedVariables false
end Go.Proofs.YtjalgdfnehgocaaGreatDoor
namespace Go.Proofs.YtjalgdfnehgocaaGreatDoor
open Go.RowKit
set_option linter.unusedVariables false
end Go.Proofs.YtjalgdfnehgocaaGreatDoor

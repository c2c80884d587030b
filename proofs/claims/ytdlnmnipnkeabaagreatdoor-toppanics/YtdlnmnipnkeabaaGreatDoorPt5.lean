/- RawW, Cut: these texts in one. -/
import Derived.Test.YtdlnmnipnkeabaaGreatDoorPt4
import Derived.Test.YtdlnmnipnkeabaaGreatDoorPt3
import Derived.Test.YtdlnmnipnkeabaaGreatDoorPt1
namespace Go.Proofs.YtdlnmnipnkeabaaGreatDoor
open Go.RowKit
set_option linter.unusedVariables false
end Go.Proofs.YtdlnmnipnkeabaaGreatDoor
namespace Go.Proofs.YtdlnmnipnkeabaaGreatDoor
open Go.RowKit
set_option linter.unusedVariables false
end Go.Proofs.YtdlnmnipnkeabaaGreatDoor

/- The walk of the document's Fill. -/
import Derived.Test.YtbfaapbbhgegiabDoorRunes
import Derived.Test.YtbfaapbbhgegiabDoorPlain2
namespace Go.Proofs.YtbfaapbbhgegiabDoor
open Go.RowKit

theorem val_str {a b : ByteArray} (h : a = b) : Value.string a = .string b := by rw [h]

end Go.Proofs.YtbfaapbbhgegiabDoor

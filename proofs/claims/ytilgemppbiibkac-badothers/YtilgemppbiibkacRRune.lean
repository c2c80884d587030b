/- The walk of the document's Rune. -/
import Derived.Test.YtilgemppbiibkacRunes
namespace Go.Proofs.Ytilgemppbiibkac
open Go.RowKit

end Go.Proofs.Ytilgemppbiibkac

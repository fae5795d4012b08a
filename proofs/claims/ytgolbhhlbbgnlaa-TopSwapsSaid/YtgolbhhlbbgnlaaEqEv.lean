/- The reference's Eq over events. -/
import Derived.Test.YtgolbhhlbbgnlaaMid
set_option linter.all false
set_option maxRecDepth 100000
namespace Go.Proofs.Ytgolbhhlbbgnlaa
open Go Go.RowKit

end Go.Proofs.Ytgolbhhlbbgnlaa

import Derived.Test.YtecdilijcjgjmaaZAppend
import Derived.Test.YtecdilijcjgjmaaZCi
import Derived.Laws.MakeOwn
set_option linter.all false
set_option maxRecDepth 100000
namespace Go.Proofs.Ytecdilijcjgjmaa
open Go Go.RowKit

end Go.Proofs.Ytecdilijcjgjmaa

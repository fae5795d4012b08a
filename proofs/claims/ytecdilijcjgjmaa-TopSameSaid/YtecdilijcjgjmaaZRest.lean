import Derived.Test.YtecdilijcjgjmaaRows
import Derived.Test.YtecdilijcjgjmaaZBase
import Derived.WalkKit
import Derived.WalkSpells
import Derived.WalkLawsBesides
import Derived.Lib.Hide
import Derived.IntWalk
set_option linter.all false
set_option maxRecDepth 100000
namespace Go.Proofs.Ytecdilijcjgjmaa
open Go Go.RowKit

end Go.Proofs.Ytecdilijcjgjmaa

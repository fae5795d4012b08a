/- The reference's Rest. -/
import Derived.Test.YtmdpegljpdjfoaaRows
import Derived.Test.YtmdpegljpdjfoaaBase
import Derived.WalkKit
import Derived.WalkSpells
import Derived.WalkLawsBesides
import Derived.Lib.Hide
import Derived.IntWalk
set_option linter.all false
set_option maxRecDepth 100000
namespace Go.Proofs.Ytmdpegljpdjfoaa
open Go Go.RowKit

end Go.Proofs.Ytmdpegljpdjfoaa

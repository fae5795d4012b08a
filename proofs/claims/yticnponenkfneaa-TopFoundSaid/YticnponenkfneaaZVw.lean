import Derived.Shelf.Abstract
import Derived.Test.YticnponenkfneaaZOrder
import Derived.Test.YticnponenkfneaaZEc
set_option linter.all false
set_option maxRecDepth 100000
namespace Go.Proofs.Yticnponenkfneaa
open Go Go.RowKit Go.Shelf

end Go.Proofs.Yticnponenkfneaa

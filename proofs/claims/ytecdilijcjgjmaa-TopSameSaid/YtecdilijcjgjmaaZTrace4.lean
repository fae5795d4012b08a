import Derived.Test.YtecdilijcjgjmaaZTrace
import Derived.Test.YtecdilijcjgjmaaZRefTr
import Derived.Test.YtecdilijcjgjmaaZTr
import Derived.Maps.AppendAt
set_option linter.all false
set_option maxRecDepth 100000
namespace Go.Proofs.Ytecdilijcjgjmaa
open Go.RowKit

theorem int_info : (Try.prog.info? 3).map (fun i => (i.zero, i.size, i.bytes)) = some (some (.int .i64 0), 1, 8) := by kernel_rfl
end Go.Proofs.Ytecdilijcjgjmaa

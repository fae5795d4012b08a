/- The contracts of the package prog, as it landed. -/
import Derived.Test.YtecdilijcjgjmaaMr
import Derived.Test.YtecdilijcjgjmaaCk3
set_option linter.all false
set_option maxRecDepth 100000
namespace Go.Proofs.Ytecdilijcjgjmaa

theorem pgrun_c : RunC := prgrun_any pgcheck_any
end Go.Proofs.Ytecdilijcjgjmaa

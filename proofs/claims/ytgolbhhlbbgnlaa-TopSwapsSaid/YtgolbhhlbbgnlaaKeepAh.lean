/- Maps whose keys are pairs of numbers and whose values are all true: made, filled, looked into, gone through. | The map of all pairs of which one is ahead: ahead, look-ups. -/
import Derived.Test.YtgolbhhlbbgnlaaPr
import Derived.Test.YtgolbhhlbbgnlaaMapInt
import Derived.Test.YtgolbhhlbbgnlaaOrder2
import Derived.Test.YtgolbhhlbbgnlaaBase
set_option linter.all false
set_option maxRecDepth 100000
namespace Go.Proofs.Ytgolbhhlbbgnlaa
open Go Go.RowKit

end Go.Proofs.Ytgolbhhlbbgnlaa
namespace Go.Proofs.Ytgolbhhlbbgnlaa
open Go Go.RowKit

theorem may_two : may twoL = 0 := by decide +kernel
theorem prOf_two : prOf bef twoL = [(0, 1), (0, 2)] := by rw [prOf_ok may_two (n := 3) rfl]; exact prsA_two
theorem mem_bef (l : List Ev) (a b : Nat) : decide ((a, b) ∈ prsA (bef l) l.length) = bef l a b := by
  rw [Bool.eq_iff_iff, decide_eq_true_iff, mem_prsA]
  exact ⟨fun h => h.2.2, fun h => ⟨by have := bef_lt h; omega, (bef_lt h).2, h⟩⟩
end Go.Proofs.Ytgolbhhlbbgnlaa

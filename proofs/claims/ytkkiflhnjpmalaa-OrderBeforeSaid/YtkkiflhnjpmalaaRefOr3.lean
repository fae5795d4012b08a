/- Contracts of the laws' helpers for stage 5: OrderBefore's function value. -/
import Derived.Test.YtkkiflhnjpmalaaRefOr2
import Derived.Test.YtkkiflhnjpmalaaAhead2
set_option linter.all false
set_option maxRecDepth 100000
namespace Go.Proofs.Ytkkiflhnjpmalaa
open Go Go.RowKit

set_option maxHeartbeats 2000000 in
theorem obefore1_any (w0 : World) (B O n : Nat) (r : Nat → Nat) (f : Nat → Nat → Bool) (t : TypeId) (w : World) (hb : Box w B #[.slice (some ⟨O, 0, none⟩) n n] t) (hm : Mat w0 O n n r f w) (i j : Nat) (hi : i < n) (hj : j < n) :
    Calls Try.prog 19 #[.int .i64 i, .int .i64 j, .pointer (some ⟨B, 0, none⟩)] w fun e w' => e = .returned (.bool (f i j)) ∧ Below w.heap.size w w' := by
  have c0 := hb.cell 0 (v := .slice (some ⟨O, 0, none⟩) n n) rfl
  have c1 := hm.rowc hi (Nat.le_refl _)
  have c2 := hm.cell hi hj
  have hi' : (i : Int) < n := by omega
  have hj' : (j : Int) < n := by omega
  have hw0 := Lib.hid (Bel.refl w)
  clear hb hm
  go_enter Try.func19, Try.ntmps19
  go_wp2
  go_ret
  exact ⟨rfl, hw0.out⟩
end Go.Proofs.Ytkkiflhnjpmalaa

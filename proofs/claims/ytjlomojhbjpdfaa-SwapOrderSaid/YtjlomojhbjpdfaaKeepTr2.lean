/- The law's closure: where an event stands behind a swap. -/
import Derived.Test.YtjlomojhbjpdfaaSb
import Derived.Test.YtjlomojhbjpdfaaTrace
import Derived.IntWalk
set_option linter.all false
set_option maxRecDepth 100000
namespace Go.Proofs.Ytjlomojhbjpdfaa
open Go Go.RowKit

theorem tr_any (I i k : Nat) (w : World) (hc : w.cell? ⟨I, 0, none⟩ = some (.int .i64 (i : Nat))) (hi : i ≤ 1000) : Calls Try.prog 30 #[.int .i64 (k : Nat), .pointer (some ⟨I, 0, none⟩)] w fun e w' => e = .returned (.int .i64 (tr i k : Nat)) ∧ w = w' := by
  have hw : IntKind.i64.wrap ((i : Int) + 1) = (i : Int) + 1 := IntWalk.i64_in _ (by omega)
  go_enter Try.func30, Try.ntmps30
  by_cases h1 : k = i
  · have h1' : ((k : Int) == (i : Int)) = true := by simp; omega
    have HT := Lib.hid (show tr i k = i + 1 by unfold tr; rw [if_pos h1])
    clear h1
    go_wp2
    go_ret
    exact ⟨by rw [HT.out]; rfl, rfl⟩
  · have h1' : ((k : Int) == (i : Int)) = false := by simp; omega
    by_cases h2 : k = i + 1
    · have h2' : ((k : Int) == (i : Int) + 1) = true := by simp; omega
      have HT := Lib.hid (show tr i k = i by unfold tr; rw [if_neg h1, if_pos h2])
      clear h1 h2
      go_wp2
      go_ret
      exact ⟨by rw [HT.out]; rfl, rfl⟩
    · have h2' : ((k : Int) == (i : Int) + 1) = false := by simp; omega
      have HT := Lib.hid (show tr i k = k by unfold tr; rw [if_neg h1, if_neg h2])
      clear h1 h2
      go_wp2
      go_ret
      exact ⟨by rw [HT.out]; rfl, rfl⟩
end Go.Proofs.Ytjlomojhbjpdfaa

/- The reference's Rest. -/
import Derived.Test.YtjddahidkodieaaRows
import Derived.Test.YtjddahidkodieaaBase
import Derived.WalkKit
import Derived.WalkSpells
import Derived.WalkLawsBesides
import Derived.Lib.Hide
import Derived.IntWalk
set_option linter.all false
set_option maxRecDepth 100000
namespace Go.Proofs.Ytjddahidkodieaa
open Go Go.RowKit

/-- What is left of n, from 0 to m - 1. -/
theorem rest_any (n m : Int) (hn : In64 n) (hm : 0 < m) (hm2 : m ≤ 9223372036854775807) (w : World) :
    Calls Try.prog 13 #[.int .i64 n, .int .i64 m] w fun e w' => e = .returned (.int .i64 (n % m)) ∧ w = w' := by
  obtain ⟨h1, h2⟩ := hn
  have hne : (m == 0) = false := by simp; omega
  have h3 := Int.tmod_eq_emod (a := n) (b := m)
  have h4 := Int.emod_nonneg n (show m ≠ 0 by omega)
  have h5 := Int.emod_lt_of_pos n hm
  by_cases h : n.tmod m < 0
  · have HV := Lib.hid (show wrap64 (n.tmod m + m) = n % m by
      rw [IntWalk.wrap64_in _ (by split at h3 <;> omega)]
      split at h3 <;> omega)
    clear h3 h4 h5
    go_enter Try.func13, Try.ntmps13
    go_wp2
    go_ret
    exact ⟨by rw [← HV.out]; rfl, rfl⟩
  · have HV := Lib.hid (show n.tmod m = n % m by split at h3 <;> omega)
    clear h3 h4 h5
    go_enter Try.func13, Try.ntmps13
    go_wp2
    go_ret
    exact ⟨by rw [← HV.out]; rfl, rfl⟩
end Go.Proofs.Ytjddahidkodieaa

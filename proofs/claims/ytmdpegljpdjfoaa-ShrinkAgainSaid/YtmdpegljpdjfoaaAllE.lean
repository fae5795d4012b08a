/- race.All of whatever trace. -/
import Derived.Test.YtmdpegljpdjfoaaAll
set_option linter.all false
set_option maxRecDepth 100000
namespace Go.Proofs.Ytmdpegljpdjfoaa
open Go Go.RowKit

theorem alle_any (A : Option Addr) (n c : Nat) (l : List Ev) (w : World) (hl : Sl w A n l) : Calls Try.prog 19 #[.slice A n c] w (AllPost w l) := by
  by_cases hm : may l = 0
  · exact all_ok A n c l w hl hm
  · refine (all_bad A n c l w hl hm).mono ?_
    rintro e w' ⟨rfl, hb⟩
    refine ⟨_, rfl, ?_, hb⟩
    rw [rcs_no hm]
    exact World.ownsRow_nil _ _ _ _
theorem rcs_small {l : List Ev} : (rcs l).length ≤ 6480 := by
  unfold rcs
  split
  · rename_i hm
    unfold rcsA; rw [List.length_map]; exact prs_small ((may_iff l).1 hm).1 (Nat.le_refl _) (Nat.zero_le _)
  · exact Nat.zero_le _
end Go.Proofs.Ytmdpegljpdjfoaa

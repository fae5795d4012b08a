/- Contract of the reference: chr. -/
import Derived.Test.YtbkmkeaabcgifaaGreatDoorRows
import Derived.Test.YtbkmkeaabcgifaaGreatDoorBase
import Derived.Test.YtbkmkeaabcgifaaGreatDoorTx
import Derived.WalkKit
import Derived.WalkSpells
import Derived.WalkLawsBesides
import Derived.BigQuiet
import Derived.Laws.BytesString
import Derived.Test.YtbkmkeaabcgifaaGreatDoorGrow
import Derived.IntWalk
import Derived.Lib.Hide
set_option linter.all false
set_option maxRecDepth 100000
namespace Go.Proofs.YtbkmkeaabcgifaaGreatDoor
open Go Go.RowKit

theorem run_chr (n : Int) (w : World) (B : Nat) (t : TypeId) (hb : Box w B #[.int .u8 n] t) :
    (convert 52 9 (.slice (some ⟨B, 0, none⟩) 1 1)).run Tryz.prog w = .ok (.string (str [UInt8.ofNat n.toNat])) w := by
  rw [run_convert_bytes_string w _ _ 5 _ _ _ Tryz.underlying52 Tryz.underlying5 Tryz.underlying9]
  have hl : (loadCells ⟨B, 0, none⟩ 1).run Tryz.prog w = .ok #[.int .u8 n] w := by simpa [loadCells] using hb.load (P := Tryz.prog) 1 rfl
  rw [run_bytesToString w ⟨B, 0, none⟩ 1 1 [n] hl]
  rfl
end Go.Proofs.YtbkmkeaabcgifaaGreatDoor

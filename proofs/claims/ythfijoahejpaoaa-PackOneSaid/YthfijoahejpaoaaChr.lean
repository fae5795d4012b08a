/- Contract of the reference: chr. -/
import Derived.Test.YthfijoahejpaoaaRows
import Derived.Test.YthfijoahejpaoaaBase
import Derived.Test.YthfijoahejpaoaaTx
import Derived.WalkKit
import Derived.WalkSpells
import Derived.WalkLawsBesides
import Derived.BigQuiet
import Derived.Laws.BytesString
import Derived.Test.YthfijoahejpaoaaGrow
import Derived.IntWalk
import Derived.Lib.Hide
set_option linter.all false
set_option maxRecDepth 100000
namespace Go.Proofs.Ythfijoahejpaoaa
open Go Go.RowKit

theorem run_chr (n : Int) (w : World) (B : Nat) (t : TypeId) (hb : Box w B #[.int .u8 n] t) :
    (convert 36 9 (.slice (some ⟨B, 0, none⟩) 1 1)).run Try.prog w = .ok (.string (str [UInt8.ofNat n.toNat])) w := by
  rw [run_convert_bytes_string w _ _ 5 _ _ _ Try.underlying36 Try.underlying5 Try.underlying9]
  have hl : (loadCells ⟨B, 0, none⟩ 1).run Try.prog w = .ok #[.int .u8 n] w := by simpa [loadCells] using hb.load (P := Try.prog) 1 rfl
  rw [run_bytesToString w ⟨B, 0, none⟩ 1 1 [n] hl]
  rfl
set_option maxHeartbeats 1000000 in
theorem chr_any (n : Int) (h : 0 ≤ n ∧ n < 256) (w : World) : Calls Try.prog 19 #[.int .i64 n] w fun e w' => e = .returned (.string (str [UInt8.ofNat n.toNat])) ∧ Below w.heap.size w w' := by
  obtain ⟨h0, h1⟩ := h
  have H := run_chr n _ _ _ (Box.new w #[.int .u8 n] 5)
  have H2 := Lib.hid (Below.alloc (Below.refl w.heap.size w) (Nat.le_refl _) (.cells #[.int .u8 n] 5))
  go_enter Try.func19, Try.ntmps19
  go_wp2
  go_ret
  exact ⟨rfl, H2.out⟩

end Go.Proofs.Ythfijoahejpaoaa

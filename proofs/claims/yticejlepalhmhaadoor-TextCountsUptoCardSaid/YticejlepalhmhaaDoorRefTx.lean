/- Contracts of the reference: chr, Digits of one digit, words, Line. -/
import Derived.Test.YticejlepalhmhaaDoorRows
import Derived.Test.YticejlepalhmhaaDoorBase
import Derived.Test.YticejlepalhmhaaDoorTx
import Derived.WalkKit
import Derived.WalkSpells
import Derived.WalkLawsBesides
import Derived.BigQuiet
import Derived.Laws.BytesString
import Derived.Test.YticejlepalhmhaaDoorGrow
import Derived.IntWalk
import Derived.Lib.Hide
set_option linter.all false
set_option maxRecDepth 100000
namespace Go.Proofs.YticejlepalhmhaaDoor
open Go Go.RowKit

theorem run_chr (n : Int) (w : World) (B : Nat) (t : TypeId) (hb : Box w B #[.int .u8 n] t) :
    (convert 72 9 (.slice (some ⟨B, 0, none⟩) 1 1)).run Tryd.prog w = .ok (.string (str [UInt8.ofNat n.toNat])) w := by
  rw [run_convert_bytes_string w _ _ 5 _ _ _ Tryd.underlying72 Tryd.underlying5 Tryd.underlying9]
  have hl : (loadCells ⟨B, 0, none⟩ 1).run Tryd.prog w = .ok #[.int .u8 n] w := by simpa [loadCells] using hb.load (P := Tryd.prog) 1 rfl
  rw [run_bytesToString w ⟨B, 0, none⟩ 1 1 [n] hl]
  rfl
set_option maxHeartbeats 1000000 in
theorem chr_any (n : Int) (h : 0 ≤ n ∧ n < 256) (w : World) : Calls Tryd.prog 43 #[.int .i64 n] w fun e w' => e = .returned (.string (str [UInt8.ofNat n.toNat])) ∧ Below w.heap.size w w' := by
  obtain ⟨h0, h1⟩ := h
  have H := run_chr n _ _ _ (Box.new w #[.int .u8 n] 5)
  have H2 := Lib.hid (Below.alloc (Below.refl w.heap.size w) (Nat.le_refl _) (.cells #[.int .u8 n] 5))
  go_enter Tryd.func43, Tryd.ntmps43
  go_wp2
  go_ret
  exact ⟨rfl, H2.out⟩

theorem digit_chr {n : Int} (h : 0 ≤ n ∧ n < 10) : UInt8.ofNat (48 + n).toNat = digit n := by
  unfold digit; congr 1; omega
set_option maxHeartbeats 1000000 in
theorem digits_any (n : Int) (h : 0 ≤ n ∧ n < 10) (w : World) : Calls Tryd.prog 27 #[.int .i64 n] w fun e w' => e = .returned (.string (str [digit n])) ∧ Below w.heap.size w w' := by
  have HD := Lib.hid (digit_chr h)
  obtain ⟨h0, h1⟩ := h
  go_enter Tryd.func27, Tryd.ntmps27
  go_wp2_with fail
  refine (chr_any (48 + n) (by omega) _).mono ?_
  rintro e w1 ⟨rfl, hb⟩
  rw [HD.out]
  go_wp2
  go_ret
  exact ⟨rfl, hb⟩

def wordsV : Array Value := #[.string (str (word 1)), .string (str (word 2)), .string (str (word 3)), .string (str (word 4)), .string (str (word 5)), .string (str (word 6)), .string (str (word 7)), .string (str (word 8))]
def WordsPost (w : World) (e : Ending) (w' : World) : Prop := ∃ B, e = .returned (.slice (some ⟨B, 0, none⟩) 8 8) ∧ Box w' B wordsV 9 ∧ w.heap.size ≤ B ∧ Below w.heap.size w w'
theorem words_any (w : World) : Calls Tryd.prog 28 #[] w (WordsPost w) := by
  go_enter Tryd.func28, Tryd.ntmps28
  go_wp2
  go_ret
  exact ⟨w.heap.size, rfl, Box.new w wordsV _, Nat.le_refl _, (Below.refl _ _).alloc (Nat.le_refl _) _⟩
theorem str_app (a b : List UInt8) : str a ++ str b = str (a ++ b) := by
  apply ByteArray.ext
  simp [str]
end Go.Proofs.YticejlepalhmhaaDoor

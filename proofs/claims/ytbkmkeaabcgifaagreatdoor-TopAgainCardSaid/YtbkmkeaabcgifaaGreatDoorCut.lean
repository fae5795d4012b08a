/- Contracts of strings.Cut at a separator of one byte, however long the text. -/
import Derived.Test.YtbkmkeaabcgifaaGreatDoorRows
import Derived.Test.YtbkmkeaabcgifaaGreatDoorShelf
import Derived.Test.YtbkmkeaabcgifaaGreatDoorBase
import Derived.Test.YtbkmkeaabcgifaaGreatDoorTx
import Derived.WalkKit
import Derived.WalkSpells
import Derived.WalkLawsBesides
import Derived.Lib.Hide
import Derived.Laws.Strings3
import Derived.RegionTactic
set_option linter.all false
set_option maxRecDepth 100000
namespace Go.Proofs.YtbkmkeaabcgifaaGreatDoor
open Go Go.RowKit

set_option maxHeartbeats 2000000 in
theorem scut_any (l : List UInt8) (c : UInt8) (w : World) (hs : l.length ≤ maxLen) :
    Calls Tryz.prog 73 #[.string (str l), .string ⟨#[c]⟩] w fun e w' => e = .returned (.tuple #[.string (str (cutA c l)), .string (str (cutR c l)), .bool (cutF c l)]) ∧ Below w.heap.size w w' := by
  unfold maxLen at hs
  have hz := str_sz l
  have hx := Tryz.stringslite_Index_one (str l) c w
  rw [str_all] at hx
  have HX := Lib.hid hx
  clear hx
  rcases cut_of_index l c with ⟨h0, h1, h2, h3⟩ | ⟨i, h0, h1, h2, h3, h4⟩
  · rw [h1, h2, h3]
    have HZ := Lib.hid hz
    have HW := Lib.hid (Below.refl w.heap.size w)
    clear h1 h2 h3 hz
    go_enter Tryz.func73, Tryz.ntmps73
    go_wp2_with (go_at_call 87; (with_reducible refine HX.out.mono ?_); rintro e w' ⟨rfl, rfl⟩)
    go_ret3
    exact ⟨rfl, HW.out⟩
  · have e1 : (str l).extract 0 i = str (l.take i) := by rw [str_extract]; rfl
    have e2 : (str l).extract (i + 1) (str l).size = str (l.drop (i + 1)) := by rw [str_extract, hz, List.take_of_length_le (Nat.le_refl _)]
    rw [h1, h2, h3]
    have c1 : (0 : Int) ≤ ↑i := by omega
    have c2 : (↑i : Int) ≤ ↑(str l).size := by omega
    have c3 : (0 : Int) ≤ ↑i + 1 := by omega
    have c4 : (↑i + 1 : Int) ≤ ↑(str l).size := by omega
    have HE := Lib.hid (And.intro e1 e2)
    have HZ := Lib.hid hz
    have HI := Lib.hid h0
    have HW := Lib.hid (Below.refl w.heap.size w)
    clear h0 h1 h2 h3 e1 e2 hz
    go_enter Tryz.func73, Tryz.ntmps73
    go_wp2_with (go_at_call 87; (with_reducible refine HX.out.mono ?_); rintro e w' ⟨rfl, rfl⟩; rw [HI.out])
    go_region
    go_wp2
    go_ret3
    have h := HE.out
    exact ⟨by rw [← h.1, ← h.2]; rfl, by (repeat (first | exact HW.out | with_reducible exact Below.refl _ _ | with_reducible refine Below.alloc ?_ (by first | omega | (simp; omega) | (simp; done)) _ | with_reducible refine below_setRow' ?_ _ _ (by omega) | with_reducible refine Below.setCell ?_ (by first | omega | (dsimp only; omega) | (simp; omega) | (simp; done)) _ | with_reducible refine Below.drew ?_ | with_reducible refine bdrewN ?_ _))⟩
set_option maxHeartbeats 1000000 in
theorem cut_any (l : List UInt8) (c : UInt8) (w : World) (hs : l.length ≤ maxLen) :
    Calls Tryz.prog 53 #[.string (str l), .string ⟨#[c]⟩] w fun e w' => e = .returned (.tuple #[.string (str (cutA c l)), .string (str (cutR c l)), .bool (cutF c l)]) ∧ Below w.heap.size w w' := by
  have HX := Lib.hid (scut_any l c w hs)
  go_enter Tryz.func53, Tryz.ntmps53
  go_wp2_with fail
  refine HX.out.mono ?_
  rintro e w1 ⟨rfl, hb⟩
  go_wp2
  go_ret3
  exact ⟨rfl, hb⟩
end Go.Proofs.YtbkmkeaabcgifaaGreatDoor

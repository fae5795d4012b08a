/- A closed fact on the encoding of a trace: packed. -/
import Derived.Test.YthfijoahejpaoaaPack3
import Derived.Test.YthfijoahejpaoaaKeepTw
set_option linter.all false
set_option maxRecDepth 100000
namespace Go.Proofs.Ythfijoahejpaoaa
open Go Go.RowKit

theorem two_pack : packOf twoL = [68, 3, 4, 1, 1, 0, 9, 0, 0, 86] ∧ may twoL = 0 := by decide +kernel
set_option maxHeartbeats 2000000 in
theorem packed_any (W : World) : Calls Try.prog 13 #[] W fun e w' => e = .returned (.bool true) ∧ Below W.heap.size W w' := by
  have hw0 : Bel W W := Bel.refl _
  have HT := Lib.hid two_pack
  go_enter Try.func13, Try.ntmps13
  go_wp2_with fail
  refine (two_any _).mono ?_
  rintro e1 w1 ⟨v1, rfl, hown1, hb1⟩
  have hw1 := hw0.call hb1
  clear hb1
  obtain ⟨A, c, rfl, hs, hc, hm⟩ := Sl.own hown1
  have HS := Lib.hid hs
  unfold maxLen at hm
  clear hown1 hs
  go_wp2_with fail
  refine (ppack_any A 3 c twoL _ HS.out hc (by omega)).mono ?_
  rintro e2 w2 ⟨rfl, hb2⟩
  have hw2 := hw1.call hb2
  clear hb2
  rw [HT.out.1, HT.out.2]
  have hz : (str [68, 3, 4, 1, 1, 0, 9, 0, 0, 86]).size = 10 := rfl
  have g0 : ∀ h, (str [68, 3, 4, 1, 1, 0, 9, 0, 0, 86])[0]'h = 68 := fun h => rfl
  have g1 : ∀ h, (str [68, 3, 4, 1, 1, 0, 9, 0, 0, 86])[1]'h = 3 := fun h => rfl
  generalize str [68, 3, 4, 1, 1, 0, 9, 0, 0, 86] = S at *
  go_wp2
  go_ret
  exact ⟨rfl, hw2⟩
end Go.Proofs.Ythfijoahejpaoaa

/- A closed fact on the text of a trace: texted. -/
import Derived.Test.YticejlepalhmhaaDoorText3
import Derived.Test.YticejlepalhmhaaDoorKeepTw
set_option linter.all false
set_option maxRecDepth 100000
namespace Go.Proofs.YticejlepalhmhaaDoor
open Go.RowKit

def twoT : List UInt8 := [116, 48, 32, 102, 111, 114, 107, 32, 116, 49, 10, 116, 48, 32, 119, 114, 105, 116, 101, 32, 120, 48, 10, 116, 49, 32, 119, 114, 105, 116, 101, 32, 120, 48]
theorem two_text : textOf twoL = twoT ∧ may twoL = 0 := by decide +kernel
set_option maxHeartbeats 2000000 in
theorem texted_any (W : World) : Calls Tryd.prog 20 #[] W fun e w' => e = .returned (.bool true) ∧ Below W.heap.size W w' := by
  have hw0 : Bel W W := Bel.refl _
  have HT := Lib.hid two_text
  go_enter Tryd.func20, Tryd.ntmps20
  go_wp2_with fail
  refine (two_any _).mono ?_
  rintro e1 w1 ⟨v1, rfl, hown1, hb1⟩
  have hw1 := hw0.call hb1
  clear hb1
  obtain ⟨A, c, rfl, hs, hc, hm⟩ := Sl.own hown1
  have HS := Lib.hid hs
  unfold maxLen at hm
  clear hown1 hs
  go_wp2_with fail
  refine (ptext_any A 3 c twoL _ HS.out hc (by omega)).mono ?_
  rintro e2 w2 ⟨rfl, hb2⟩
  have hw2 := hw1.call hb2
  clear hb2
  rw [HT.out.1, HT.out.2]
  have hq : ((str twoT).toList == [116, 48, 32, 102, 111, 114, 107, 32, 116, 49, 10, 116, 48, 32, 119, 114, 105, 116, 101, 32, 120, 48, 10, 116, 49, 32, 119, 114, 105, 116, 101, 32, 120, 48]) = true := by
    rw [ByteArray.toList_eq]; exact beq_self_eq_true twoT
  go_wp2
  go_ret
  exact ⟨rfl, hw2⟩
end Go.Proofs.YticejlepalhmhaaDoor

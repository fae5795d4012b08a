/- Contracts of small functions beside the laws of stage 10: guarded. -/
import Derived.Test.YtlifmedkadjdcaaGuE
import Derived.Test.YtlifmedkadjdcaaEqFl
import Derived.Test.YtlifmedkadjdcaaKeepTw
set_option linter.all false
set_option maxRecDepth 100000
namespace Go.Proofs.Ytlifmedkadjdcaa
open Go Go.RowKit

theorem warns_two : warns twoL = [⟨2, 0, 0⟩] := by decide +kernel
theorem may_twoG : may twoL = 0 := by decide +kernel
theorem com_nil : comR [] 0 = 31 ∧ comE [] 0 = 0 := by decide +kernel
set_option maxHeartbeats 4000000 in
theorem guarded_any (w : World) : Calls Try.prog 18 #[] w fun e w' => e = .returned (.bool true) ∧ Below w.heap.size w w' := by
  have hw0 := Bel.refl w
  have HM := Lib.hid may_twoG
  have HP := Lib.hid warns_two
  have HC := Lib.hid com_nil
  go_enter Try.func18, Try.ntmps18
  go_wp2_with fail
  refine (two_any _).mono ?_
  rintro e1 w1 ⟨v1, rfl, hown1, hb1⟩
  have hw1 := hw0.call hb1
  clear hb1
  obtain ⟨A1, c1, rfl, hs1, hn1, hm1⟩ := Sl.own hown1
  have HS1 := Lib.hid hs1
  clear hs1 hown1 hm1
  go_wp2_with fail
  refine (warns_any A1 3 c1 _ _ HS1.out hn1).mono ?_
  rintro e2 w2 ⟨v2, rfl, hown2, hb2⟩
  have hw2 := hw1.call hb2
  clear hb2
  rw [HM.out]
  rw [HP.out] at hown2
  obtain ⟨A2, c2, rfl, hs2, hn2, hm2⟩ := Sl.own hown2
  have HN2 := Lib.hid (And.intro hn2 hm2)
  have HS2 := Lib.hid hs2
  clear hown2 hn2 hm2 hs2 hn1
  go_wp2_with fail
  refine (common_any none 0 0 [] 0 _ ⟨rfl, fun h => absurd h (by omega)⟩ (Nat.le_refl _)).mono ?_
  rintro e3 w3 ⟨rfl, hb3⟩
  have hw3 := hw2.call hb3
  replace HS2 := Lib.hid (HS2.out.bel (Bel.of hb3))
  clear hb3
  rw [HC.out.1, HC.out.2]
  have HX := Lib.hid (show Sl (w3.alloc (.cells #[.int .i64 2, .int .i64 0, .int .i64 0] 40)) (some ⟨w3.heap.size, 0, none⟩) 1 [⟨2, 0, 0⟩] from Sl.box (Box.new w3 (evc [⟨2, 0, 0⟩]).toArray 40) 1 rfl)
  have HW := Lib.hid (hw3.alloc (.cells #[.int .i64 2, .int .i64 0, .int .i64 0] 40))
  have HS2' := Lib.hid (HS2.out.bel ((Bel.refl _).alloc (.cells #[.int .i64 2, .int .i64 0, .int .i64 0] 40)))
  clear hw3 hw2 hw1 hw0
  go_wp2_with fail
  refine (eqfl_any A2 (some ⟨w3.heap.size, 0, none⟩) 1 c2 1 1 _ _ _ HS2'.out HX.out HN2.out.1 (by omega) HN2.out.2 (by unfold maxLen; omega)).mono ?_
  rintro e4 w4 ⟨rfl, hb4⟩
  have hw4 := HW.out.call hb4
  clear hb4
  go_wp2
  go_ret
  exact ⟨ret_val (by simp), hw4⟩
end Go.Proofs.Ytlifmedkadjdcaa

/- Contracts of small functions beside the laws of stage 9: fasted. -/
import Derived.Test.YtbkciglapambgaaFastC
import Derived.Test.YtbkciglapambgaaEqFl
import Derived.Test.YtbkciglapambgaaKeepTw
set_option linter.all false
set_option maxRecDepth 100000
namespace Go.Proofs.Ytbkciglapambgaa
open Go Go.RowKit

theorem fflags_two : fflags twoL = [⟨2, 0, 1⟩] := by decide +kernel
theorem may_twoA : may twoL = 0 := by decide +kernel
set_option maxHeartbeats 4000000 in
theorem fasted_any (w : World) : Calls Try.prog 18 #[] w fun e w' => e = .returned (.bool true) ∧ Below w.heap.size w w' := by
  have hw0 := Bel.refl w
  have HM := Lib.hid may_twoA
  have HP := Lib.hid fflags_two
  go_enter Try.func18, Try.ntmps18
  go_wp2_with fail
  refine (two_any _).mono ?_
  rintro e1 w1 ⟨v1, rfl, hown1, hb1⟩
  have hw1 := hw0.call hb1
  clear hb1
  obtain ⟨A1, c1, rfl, hs1, hn1, hm1⟩ := Sl.own hown1
  have HS1 := Lib.hid hs1
  clear hs1 hown1 hn1 hm1
  go_wp2_with fail
  refine (frun_any A1 3 c1 _ _ HS1.out).mono ?_
  rintro e2 w2 ⟨v2, rfl, hown2, hb2⟩
  have hw2 := hw1.call hb2
  clear hb2
  rw [HM.out]
  rw [HP.out] at hown2
  obtain ⟨A2, c2, rfl, hs2, hn2, hm2⟩ := Sl.own hown2
  have HN2 := Lib.hid (And.intro hn2 hm2)
  have HX := Lib.hid (show Sl (w2.alloc (.cells #[.int .i64 2, .int .i64 0, .int .i64 1] 33)) (some ⟨w2.heap.size, 0, none⟩) 1 [⟨2, 0, 1⟩] from Sl.box (Box.new w2 (evc [⟨2, 0, 1⟩]).toArray 33) 1 rfl)
  have HW := Lib.hid (hw2.alloc (.cells #[.int .i64 2, .int .i64 0, .int .i64 1] 33))
  have HS2' := Lib.hid (hs2.bel ((Bel.refl _).alloc (.cells #[.int .i64 2, .int .i64 0, .int .i64 1] 33)))
  clear hs2 hown2 hn2 hm2 hw2
  go_wp2_with fail
  refine (eqfl_any A2 (some ⟨w2.heap.size, 0, none⟩) 1 c2 1 1 _ _ _ HS2'.out HX.out HN2.out.1 (by omega) HN2.out.2 (by unfold maxLen; omega)).mono ?_
  rintro e3 w3 ⟨rfl, hb3⟩
  have hw3 := HW.out.call hb3
  clear hb3
  go_wp2
  go_ret
  exact ⟨ret_val (by simp), hw3⟩
end Go.Proofs.Ytbkciglapambgaa

/- Contracts of small functions beside the laws of the whole: works. -/
import Derived.Test.YtbkmkeaabcgifaaGreatDoorFastC
import Derived.Test.YtbkmkeaabcgifaaGreatDoorFull10
import Derived.Test.YtbkmkeaabcgifaaGreatDoorEqFl
import Derived.Test.YtbkmkeaabcgifaaGreatDoorKeepTw
set_option linter.all false
set_option maxRecDepth 100000
namespace Go.Proofs.YtbkmkeaabcgifaaGreatDoor
open Go Go.RowKit

theorem top_two1 : fflags twoL = [⟨2, 0, 1⟩] := by decide +kernel
theorem top_two2 : flags twoL = [⟨2, 0, 1⟩] := by decide +kernel
theorem top_may : may twoL = 0 := by decide +kernel
set_option maxHeartbeats 4000000 in
theorem works_any (w : World) : Calls Tryz.prog 4 #[] w fun e w' => e = .returned (.bool true) ∧ Below w.heap.size w w' := by
  have HM := Lib.hid top_may
  have HP := Lib.hid top_two1
  have HQ := Lib.hid top_two2
  have HS := Lib.hid (show Sl (w.alloc (.cells (evc twoL).toArray 33)) (some ⟨w.heap.size, 0, none⟩) 3 twoL from Sl.box (Box.new w (evc twoL).toArray 33) 3 rfl)
  have HW0 := Lib.hid ((Bel.refl w).alloc (.cells (evc twoL).toArray 33))
  go_enter Tryz.func4, Tryz.ntmps4
  go_wp2_with fail
  change Calls _ _ _ (w.alloc (.cells (evc twoL).toArray 33)) _
  generalize (w.alloc (.cells (evc twoL).toArray 33)) = w0 at *
  refine (frun_any (some ⟨w.heap.size, 0, none⟩) 3 3 twoL _ HS.out).mono ?_
  rintro e1 w1 ⟨v1, rfl, hown1, hb1⟩
  rw [HM.out]
  rw [HP.out] at hown1
  obtain ⟨A1, c1, rfl, hs1, hn1, hm1⟩ := Sl.own hown1
  have HB1 := Lib.hid (Bel.of hb1)
  have HS1 := Lib.hid hs1
  have HN1 := Lib.hid (And.intro hn1 hm1)
  clear hown1 hs1 hn1 hm1 hb1
  go_wp2_with fail
  refine (run_any (some ⟨w.heap.size, 0, none⟩) 3 3 twoL _ (HS.out.bel HB1.out)).mono ?_
  rintro e2 w2 ⟨v2, rfl, hown2, hb2⟩
  rw [HM.out]
  rw [HQ.out] at hown2
  obtain ⟨A2, c2, rfl, hs2, hn2, hm2⟩ := Sl.own hown2
  have HB2 := Lib.hid (HB1.out.trans (Bel.of hb2))
  have HS12 := Lib.hid (HS1.out.bel (Bel.of hb2))
  have HS2 := Lib.hid hs2
  have HN2 := Lib.hid (And.intro hn2 hm2)
  clear hown2 hs2 hn2 hm2 hb2
  obtain ⟨b, off, e, rfl, hb, he, hr⟩ := HS12.out.at_ (i := 0) (by simp)
  have hev : e = ⟨2, 0, 1⟩ := by simpa using he.symm
  subst hev
  go_wp2_with fail
  refine (eqfl_any _ A2 1 c1 1 c2 _ _ _ HS12.out HS2.out HN1.out.1 HN2.out.1 HN1.out.2 HN2.out.2).mono ?_
  rintro e3 w3 ⟨rfl, hb3⟩
  rw [decide_eq_true rfl]
  have HB3 := Lib.hid (HB2.out.call hb3)
  have hc : w3.cell? ⟨b, off, none⟩ = some (.int .i64 2) := (Bel.of hb3).cell (by have := hr 0 (.int .i64 2) rfl; simpa using this)
  clear hb3 he hr hb
  go_wp2
  go_ret
  exact ⟨rfl, (HW0.out.trans HB3.out).out⟩
end Go.Proofs.YtbkmkeaabcgifaaGreatDoor

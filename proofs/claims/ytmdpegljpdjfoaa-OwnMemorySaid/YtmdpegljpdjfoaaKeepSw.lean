/- The laws' own: swapped, swaps: over a contract of the package swap. -/
import Derived.Test.YtmdpegljpdjfoaaSwC
import Derived.Test.YtmdpegljpdjfoaaEqEv
import Derived.Test.YtmdpegljpdjfoaaKeepTw
import Derived.Test.YtmdpegljpdjfoaaEqInt
set_option linter.all false
set_option maxRecDepth 100000
namespace Go.Proofs.Ytmdpegljpdjfoaa
open Go Go.RowKit

def swpL : List Ev := [⟨5, 0, 1⟩, ⟨1, 0, 1⟩, ⟨1, 1, 0⟩]
def swpM : List Ev := [⟨5, 0, 1⟩, ⟨1, 1, 0⟩, ⟨1, 0, 1⟩]
theorem swp_at : SwAt 1 swpL swpM := ⟨[⟨5, 0, 1⟩], ⟨1, 0, 1⟩, ⟨1, 1, 0⟩, [], rfl, rfl, rfl, by decide⟩
theorem swp_uniq {r : List Ev} {c : Int} (h : SwB swpL 1 r c) : r = swpM ∧ c = 0 :=
  swB_uniq h (.inr (.inr (.inr ⟨by decide +kernel, ⟨1, rfl, swp_at⟩, rfl⟩)))
set_option maxHeartbeats 8000000 in
theorem swapped_any (HS : SwapC) (HA : ApartC) (w : World) : Calls Try.prog 21 #[] w fun e w' => e = .returned (.bool true) ∧ Below w.heap.size w w' := by
  have HSC := Lib.hid HS
  unfold ApartC at HA
  have HAC := Lib.hid HA
  have HX := Lib.hid (Box.new w (evc swpL).toArray 29)
  have HW := Lib.hid ((Bel.refl w).alloc (.cells (evc swpL).toArray 29))
  clear HS HA
  go_enter Try.func21, Try.ntmps21
  go_wp2_with fail
  refine (HSC.out (some ⟨w.heap.size, 0, none⟩) 3 3 swpL 1 _ (Sl.box HX.out 3 rfl) (by omega) (by simp [maxLen]) (by unfold In64; decide)).mono ?_
  rintro e w1 ⟨r, c, hB, A1, n1, d1, rfl, hs1, hn1, hd1, hb1⟩
  obtain ⟨rfl, rfl⟩ := swp_uniq hB
  obtain rfl : 3 = n1 := hs1.1
  have HW1 := Lib.hid (HW.out.call hb1)
  have HL := Lib.hid ((Sl.box HX.out 3 rfl).bel (Bel.of hb1))
  obtain ⟨b1, o1, x1, rfl, g1, e1, r1⟩ := hs1.at_ (show 1 < 3 by omega)
  obtain rfl : ⟨1, 1, 0⟩ = x1 := by simpa [swpM] using e1
  obtain ⟨b2, o2, x2, e9, g2, e2, r2⟩ := HL.out.at_ (show 2 < 3 by omega)
  obtain rfl : ⟨1, 1, 0⟩ = x2 := by simpa [swpL] using e2
  cases e9
  obtain ⟨b3, o3, x3, e9, g3, e3, r3⟩ := HL.out.at_ (show 1 < 3 by omega)
  obtain rfl : ⟨1, 0, 1⟩ = x3 := by simpa [swpL] using e3
  cases e9
  have R1 := Lib.hid (fun (w' : World) (h : Bel w1 w') => rangeAt_below h.out g1 r1)
  have R2 := Lib.hid (fun (w' : World) (h : Bel w1 w') => rangeAt_below h.out g2 r2)
  have R3 := Lib.hid (fun (w' : World) (h : Bel w1 w') => rangeAt_below h.out g3 r3)
  have EQ := eql_ev ⟨1, 1, 0⟩ ⟨1, 1, 0⟩
  rw [decide_eq_true rfl] at EQ
  have GR := grd_ev
  have HD := Lib.hid (show (!dep ⟨1, 0, 1⟩ ⟨1, 1, 0⟩) = true by decide)
  clear hB hs1 hn1 hb1 e1 e2 e3 r1 r2 r3
  go_wp2
  (refine region_bel (by kernel_rfl) (by kernel_rfl) ?_; (repeat (first | ((with_reducible refine BigFrame.wpQuiet_skip ?_ ?_); exact rfl; simp only [Act.put, Act.eval, List.setIfInBounds_toArray, List.set_cons_zero, List.set_cons_succ, Array.getD_eq_getD_getElem?, List.getElem?_toArray, List.getElem?_cons_zero, List.getElem?_cons_succ, Option.getD_some]) | (refine q_move _ rfl rfl ?_; simp only [Act.put, Act.eval, List.setIfInBounds_toArray, List.set_cons_zero, List.set_cons_succ, Array.getD_eq_getD_getElem?, List.getElem?_toArray, List.getElem?_cons_zero, List.getElem?_cons_succ, Option.getD_some]) | (refine q_assign _ rfl rfl ?_; simp only [Act.put, Act.eval, List.setIfInBounds_toArray, List.set_cons_zero, List.set_cons_succ, Array.getD_eq_getD_getElem?, List.getElem?_toArray, List.getElem?_cons_zero, List.getElem?_cons_succ, Option.getD_some]) | (refine q_load_mid _ _ rfl rfl rfl R1.out T36 (evv ⟨1, 1, 0⟩) rfl ?_; simp only [Act.put, Act.eval, List.setIfInBounds_toArray, List.set_cons_zero, List.set_cons_succ, Array.getD_eq_getD_getElem?, List.getElem?_toArray, List.getElem?_cons_zero, List.getElem?_cons_succ, Option.getD_some]) | (refine q_load_mid _ _ rfl rfl rfl R2.out T36 (evv ⟨1, 1, 0⟩) rfl ?_; simp only [Act.put, Act.eval, List.setIfInBounds_toArray, List.set_cons_zero, List.set_cons_succ, Array.getD_eq_getD_getElem?, List.getElem?_toArray, List.getElem?_cons_zero, List.getElem?_cons_succ, Option.getD_some]) | (refine q_load_mid _ _ rfl rfl rfl R3.out T36 (evv ⟨1, 0, 1⟩) rfl ?_; simp only [Act.put, Act.eval, List.setIfInBounds_toArray, List.set_cons_zero, List.set_cons_succ, Array.getD_eq_getD_getElem?, List.getElem?_toArray, List.getElem?_cons_zero, List.getElem?_cons_succ, Option.getD_some]) | (refine q_any rfl ?_; apply Exists.intro; refine ⟨fun w hw => ?_, ?_⟩; (go_simp; first | exact ⟨rfl, rfl⟩ | rfl | (go_at_call 35; (with_reducible refine (HAC.out ⟨1, 0, 1⟩ ⟨1, 1, 0⟩ _).mono ?_); rintro e w' ⟨rfl, hb⟩; exact ⟨rfl, hw.call hb⟩)); simp only [Act.put, Act.eval, List.setIfInBounds_toArray, List.set_cons_zero, List.set_cons_succ, Array.getD_eq_getD_getElem?, List.getElem?_toArray, List.getElem?_cons_zero, List.getElem?_cons_succ, Option.getD_some]))); refine wpQuiet_nil ?_; intro w2 hw2)
  have HW2 := Lib.hid (HW1.out.trans hw2)
  clear hw2
  go_wp2
  go_ret
  exact ⟨by rw [HD.out]; rfl, HW2.out⟩
def SwsPost (w : World) (l : List Ev) (n : Nat) (e : Ending) (w' : World) : Prop :=
  ∃ m A d, e = .returned (.slice A n d) ∧ Eqv l m ∧ Sl w' A n m ∧ n ≤ d ∧ d ≤ maxLen ∧ Below w.heap.size w w'
def SwsR (w : World) (l : List Ev) (n : Nat) (v : Value) (wr : World) : Prop := ∃ m A d, v = .slice A n d ∧ Eqv l m ∧ Sl wr A n m ∧ n ≤ d ∧ d ≤ maxLen ∧ Bel w wr
end Go.Proofs.Ytmdpegljpdjfoaa

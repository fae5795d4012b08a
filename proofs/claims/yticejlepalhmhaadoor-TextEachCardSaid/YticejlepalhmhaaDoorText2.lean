/- Contracts of the package text: Line, Event. -/
import Derived.Test.YticejlepalhmhaaDoorText
set_option linter.all false
set_option maxRecDepth 100000
namespace Go.Proofs.YticejlepalhmhaaDoor
open Go Go.RowKit

set_option maxHeartbeats 2000000 in
theorem pline_any (e : Ev) (w : World) : Calls Tryd.prog 10 #[.agg (evv e)] w fun e' w' => e' = .returned (.tuple #[.string (str (lineOf e)), .int .i64 (lineErr e)]) ∧ Below w.heap.size w w' := by
  obtain ⟨b1, hB, hs⟩ := boxes1 w (evv e) 23
  generalize hW : w.alloc (.cells (evv e) 23) = W at *
  have HX := Lib.hid b1
  have HT := Lib.hid (fun (w1 : World) (h : Bel W w1) => hB.trans (h.out.mono (by omega)))
  have hw0 := Bel.refl W
  clear hB hs b1
  cases h1 : isEv e
  · have HV := Lib.hid (show lineOf e = [] ∧ lineErr e = 1 by simp [lineOf, lineErr, h1])
    go_enter Tryd.func10, Tryd.ntmps10
    go_wp2_with (refine loadB _ _ rfl rfl rfl HX.out T36 ?_)
    refine (isInRange_any _ _).mono ?_
    rintro e' w1 ⟨rfl, hb⟩
    go_wp2
    go_ret2
    exact ⟨by rw [HV.out.1, HV.out.2]; rfl, HT.out _ hb⟩
  · have HV := Lib.hid (show lineOf e = lineL e ∧ lineErr e = 0 by simp [lineOf, lineErr, h1])
    have HI := Lib.hid h1
    go_enter Tryd.func10, Tryd.ntmps10
    go_wp2_with (refine loadB _ _ rfl rfl rfl HX.out T36 ?_)
    refine (isInRange_any _ _).mono ?_
    rintro e' w1 ⟨rfl, hb⟩
    have hw1 : Bel W w1 := hb
    have HX1 := Lib.hid (hw1.box HX.out)
    clear hb
    go_wp2_with (refine loadB _ _ rfl rfl rfl HX1.out T36 ?_)
    refine (written_any _ HI.out _).mono ?_
    rintro e' w2 ⟨rfl, hb⟩
    have hw2 := hw1.call hb
    clear hb
    go_wp2
    go_ret2
    exact ⟨by rw [HV.out.1, HV.out.2]; rfl, HT.out _ hw2⟩

theorem evErr_ne (s : List UInt8) (h : goodL s = false) : (lineErr (guessL s) != 0) = true ∨ ((lineErr (guessL s) != 0) = false ∧ lineOf (guessL s) ≠ s) := by
  cases hg : isEv (guessL s)
  · left; simp [lineErr, hg]
  · right
    refine ⟨by simp [lineErr, hg], fun hh => ?_⟩
    rw [lineOf, if_pos hg] at hh
    simp only [goodL, hg, hh, Bool.true_and, decide_true] at h
    cases h
theorem str_bne (a b : List UInt8) : ((str a).toList != (str b).toList) = !decide (a = b) := by rw [bne, str_beq]
set_option maxHeartbeats 4000000 in
theorem pevent_any (s : List UInt8) (hs : s.length ≤ maxLen) (w : World) : Calls Tryd.prog 12 #[.string (str s)] w fun e' w' => e' = .returned (.tuple #[.agg (evv (evOf s).1), .int .i64 (evOf s).2]) ∧ Below w.heap.size w w' := by
  obtain ⟨b1, hB, hz⟩ := boxes1 w #[.int .i64 0, .int .i64 0, .int .i64 0] 23
  generalize hW : w.alloc (.cells #[.int .i64 0, .int .i64 0, .int .i64 0] 23) = W at *
  have HX := Lib.hid b1
  have HT := Lib.hid (fun (w1 : World) (h : Bel W w1) => hB.trans (h.out.mono (by omega)))
  have hw0 := Bel.refl W
  have HS := Lib.hid hs
  clear hB hz b1 hs
  have hcase : (goodL s = false ∧ (lineErr (guessL s) != 0) = true) ∨ (goodL s = false ∧ (lineErr (guessL s) != 0) = false ∧ lineOf (guessL s) ≠ s) ∨ goodL s = true := by
    cases hg : goodL s
    · rcases evErr_ne s hg with h | h
      · exact .inl ⟨rfl, h⟩
      · exact .inr (.inl ⟨rfl, h⟩)
    · exact .inr (.inr rfl)
  rcases hcase with ⟨hg, he⟩ | ⟨hg, he, hne⟩ | hg
  · have HV := Lib.hid (evOf_bad hg)
    have HC := Lib.hid he
    clear hg he
    go_enter Tryd.func12, Tryd.ntmps12
    go_wp2_with fail
    refine (guess_any s HS.out _).mono ?_
    rintro e1 w1 ⟨rfl, hb1⟩
    have hw1 := hw0.call hb1
    clear hb1
    have HEB := Lib.hid (show Bel w1 _ from ewld_below w1 (guessL s) 23)
    have HEX := Lib.hid (ewld_box w1 (guessL s) 23)
    have HW1 := Lib.hid hw1
    clear hw1 hw0
    go_wp2_with (first | (refine ewld_store T36 _ _ rfl rfl (e := guessL s) _ rfl rfl rfl ?_) | (refine loadB _ _ rfl rfl rfl HEX.out T36 ?_))
    refine (pline_any (guessL s) _).mono ?_
    rintro e5 w5 ⟨rfl, hb5⟩
    have HB5 := Lib.hid ((HW1.out.trans HEB.out).call hb5)
    have HX5 := Lib.hid ((Bel.of hb5).box HEX.out)
    have HXR := Lib.hid (HB5.out.box HX.out)
    clear hb5
    have he := HC.out
    go_wp2_with (first | (refine storeB _ _ _ rfl rfl rfl rfl HXR.out rfl T36 (evv_all ⟨0, 0, 0⟩) ?_))
    refine bodyPost_ret (res_ct Tryd.results12 rfl (HXR.out.setRow (evv ⟨0, 0, 0⟩)) T36) rfl ⟨?_, ?_⟩
    · rw [HV.out]; rfl
    · exact below_setRow' (HT.out _ HB5.out) _ _ (Nat.le_refl _)
  · have HV := Lib.hid (evOf_bad hg)
    have HC := Lib.hid he
    have HD := Lib.hid (show ((str (lineOf (guessL s))).toList == (str s).toList) = false by rw [str_beq]; simpa using hne)
    clear hg he hne
    go_enter Tryd.func12, Tryd.ntmps12
    go_wp2_with fail
    refine (guess_any s HS.out _).mono ?_
    rintro e1 w1 ⟨rfl, hb1⟩
    have hw1 := hw0.call hb1
    clear hb1
    have HEB := Lib.hid (show Bel w1 _ from ewld_below w1 (guessL s) 23)
    have HEX := Lib.hid (ewld_box w1 (guessL s) 23)
    have HW1 := Lib.hid hw1
    clear hw1 hw0
    go_wp2_with (first | (refine ewld_store T36 _ _ rfl rfl (e := guessL s) _ rfl rfl rfl ?_) | (refine loadB _ _ rfl rfl rfl HEX.out T36 ?_))
    refine (pline_any (guessL s) _).mono ?_
    rintro e5 w5 ⟨rfl, hb5⟩
    have HB5 := Lib.hid ((HW1.out.trans HEB.out).call hb5)
    have HX5 := Lib.hid ((Bel.of hb5).box HEX.out)
    have HXR := Lib.hid (HB5.out.box HX.out)
    clear hb5
    have he := HC.out
    have hd := HD.out
    go_wp2_with (first | (refine storeB _ _ _ rfl rfl rfl rfl HXR.out rfl T36 (evv_all ⟨0, 0, 0⟩) ?_))
    refine bodyPost_ret (res_ct Tryd.results12 rfl (HXR.out.setRow (evv ⟨0, 0, 0⟩)) T36) rfl ⟨?_, ?_⟩
    · rw [HV.out]; rfl
    · exact below_setRow' (HT.out _ HB5.out) _ _ (Nat.le_refl _)
  · have HV := Lib.hid (evOf_good hg)
    have hg' : isEv (guessL s) = true ∧ lineL (guessL s) = s := by simpa only [goodL, Bool.and_eq_true, decide_eq_true_eq] using hg
    have HC := Lib.hid (show (lineErr (guessL s) != 0) = false by simp [lineErr, hg'.1])
    have HD := Lib.hid (show ((str (lineOf (guessL s))).toList == (str s).toList) = true by rw [str_beq, lineOf, if_pos hg'.1, hg'.2]; simp)
    clear hg hg'
    go_enter Tryd.func12, Tryd.ntmps12
    go_wp2_with fail
    refine (guess_any s HS.out _).mono ?_
    rintro e1 w1 ⟨rfl, hb1⟩
    have hw1 := hw0.call hb1
    clear hb1
    have HEB := Lib.hid (show Bel w1 _ from ewld_below w1 (guessL s) 23)
    have HEX := Lib.hid (ewld_box w1 (guessL s) 23)
    have HW1 := Lib.hid hw1
    clear hw1 hw0
    go_wp2_with (first | (refine ewld_store T36 _ _ rfl rfl (e := guessL s) _ rfl rfl rfl ?_) | (refine loadB _ _ rfl rfl rfl HEX.out T36 ?_))
    refine (pline_any (guessL s) _).mono ?_
    rintro e5 w5 ⟨rfl, hb5⟩
    have HB5 := Lib.hid ((HW1.out.trans HEB.out).call hb5)
    have HX5 := Lib.hid ((Bel.of hb5).box HEX.out)
    have HXR := Lib.hid (HB5.out.box HX.out)
    clear hb5
    have he := HC.out
    have hd := HD.out
    go_wp2_with (first | (refine loadB _ _ rfl rfl rfl HX5.out T36 ?_) | (refine storeB _ _ _ rfl rfl rfl rfl HXR.out rfl T36 (evv_all (guessL s)) ?_))
    refine bodyPost_ret (res_ct Tryd.results12 rfl (HXR.out.setRow (evv (guessL s))) T36) rfl ⟨?_, ?_⟩
    · rw [HV.out]; rfl
    · exact below_setRow' (HT.out _ HB5.out) _ _ (Nat.le_refl _)
end Go.Proofs.YticejlepalhmhaaDoor

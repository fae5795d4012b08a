/- Contracts of the reference: TextRead. -/
import Derived.Test.YticejlepalhmhaaDoorText5
import Derived.Test.YticejlepalhmhaaDoorRefEvOf
import Derived.Test.YticejlepalhmhaaDoorRefTr2
set_option linter.all false
set_option maxRecDepth 100000
namespace Go.Proofs.YticejlepalhmhaaDoor
open Go Go.RowKit

theorem cutA_miss {l : List UInt8} {c : UInt8} (h : cutF c l = false) : cutA c l = l := by
  rcases cut_of_index l c with ⟨_, h1, _⟩ | ⟨_, _, _, _, h3, _⟩
  · exact h1
  · rw [h] at h3; cases h3
/-- One cut: a line, and what lies behind it. -/
theorem cut_step {ls : List (List UInt8)} {i : Nat} {r : List UInt8} (h : linesL r = ls.drop i) : ls[i]? = some (cutA 10 r) ∧ (cutF 10 r = true → i + 1 < ls.length ∧ linesL (cutR 10 r) = ls.drop (i + 1)) ∧ (cutF 10 r = false → i + 1 = ls.length) := by
  rw [linesL_cut] at h
  have h0 : ls[i]? = (ls.drop i)[0]? := by rw [List.getElem?_drop]; rfl
  have h1 : ls.drop (i + 1) = (ls.drop i).drop 1 := by rw [List.drop_drop]
  have hl : (ls.drop i).length = ls.length - i := List.length_drop
  cases hf : cutF 10 r
  · rw [hf] at h
    simp only [Bool.false_eq_true, if_false] at h
    rw [← h] at h0 hl
    refine ⟨by rw [h0, cutA_miss hf]; rfl, fun h => (by cases h), fun _ => ?_⟩
    simp at hl; omega
  · rw [hf] at h
    simp only [if_true] at h
    have hne : 0 < (linesL (cutR 10 r)).length := List.length_pos_iff.2 (linesL_ne _)
    rw [← h] at h0 h1 hl
    refine ⟨by rw [h0]; rfl, fun _ => ⟨?_, by rw [h1]; rfl⟩, fun h => (by cases h)⟩
    simp at hl; omega
theorem rest_zero (s : List UInt8) (h : 0 < (linesT s).length) : linesL s = (linesT s).drop 0 := by
  cases s with
  | nil => simp [linesT] at h
  | cons b r => simp [linesT]
structure SRel (w : World) (ls : List (List UInt8)) (i : Nat) (v : Value) (r : List UInt8) (wr : World) : Prop where
  own : wr.ownsRow w.heap.size 23 3 v i (evc (evsOf (ls.take i)))
  ok : (ls.take i).all okLine = true
  rest : i < ls.length → linesL r = ls.drop i
  len : r.length ≤ 2000
set_option maxHeartbeats 8000000 in
theorem rread_any (s : List UInt8) (hs : s.length ≤ maxLen) (w : World) : Calls Tryd.prog 18 #[.string (str s)] w (ReadPost w s) := by
  have hz := str_sz s
  have hw0 := Bel.refl w
  unfold maxLen at hs
  by_cases hlong : 2000 < s.length
  · have HV := Lib.hid (readL_long hlong)
    have h0 : (2000 : Int) < (str s).size := by omega
    have HZ := Lib.hid hz
    have HW := Lib.hid hw0
    clear hz hw0
    go_enter Tryd.func18, Tryd.ntmps18
    go_wp2
    go_ret3
    exact ⟨.slice none 0 0, by rw [HV.out]; rfl, by rw [HV.out]; exact World.ownsRow_nil .., HW.out⟩
  · have h0 : ¬ (2000 : Int) < (str s).size := by omega
    have hN : (linesT s).length ≤ 2001 := by
      have := linesL_len s
      unfold linesT; split
      · simp
      · omega
    have hm : (!(str s).toList.isEmpty) = decide (0 < (linesT s).length) := by
      rw [str_isEmpty]
      cases s with
      | nil => rfl
      | cons b r =>
        have : 0 < (linesL (b :: r)).length := List.length_pos_iff.2 (linesL_ne _)
        simp [linesT, this]
    have HR0 := Lib.hid (SRel.mk (World.ownsRow_nil ..) rfl (rest_zero s) (by omega) : SRel w (linesT s) 0 (.slice none 0 0) s w)
    have HLg := Lib.hid hlong
    have HZ := Lib.hid hz
    obtain ⟨i0, hi0, hz0, hz1, hz2⟩ := info_parts ev_info
    have J := Lib.hid (And.intro hi0 (And.intro hz0 (And.intro hz1 hz2)))
    have HBad := Lib.hid (fun i x h1 hx hb => readL_bad HLg.out (i := i) (x := x) h1 hx hb)
    have HEnd := Lib.hid (readL_end HLg.out)
    generalize linesT s = ls at *
    clear hz hi0 hz0 hz1 hz2
    go_enter Tryd.func18, Tryd.ntmps18
    go_wp2
    go_loopw [5, 6, 7, 8] (fun v t r mb wr => ∃ (i : Nat) (rr : List UInt8), i ≤ ls.length ∧ t = .int .i64 i ∧ r = .string (str rr) ∧ mb = .bool (decide (i < ls.length)) ∧ SRel w ls i v rr wr ∧ Bel w wr) (fun _ t _ _ _ => ls.length - (intOf t).toNat)
    case atStart => exact ⟨0, s, by omega, rfl, rfl, rfl, HR0.out, hw0⟩
    case round =>
      obtain ⟨i, rr, hi, rfl, rfl, rfl, hr, hb⟩ := hrel
      have HR := Lib.hid hr
      have HB := Lib.hid hb
      clear hr hb hm HR0
      by_cases hlt : i < ls.length
      · obtain ⟨hx, hmore, hlast⟩ := cut_step (HR.out.rest hlt)
        have HXi := Lib.hid hx
        have HMo := Lib.hid hmore
        have HLa := Lib.hid hlast
        have hla := cutA_le 10 rr
        have hlr := cutR_le 10 rr
        have hrr := HR.out.len
        have HLr := Lib.hid (show (cutR 10 rr).length ≤ 2000 by omega)
        have hi63 : (i : Int) + 1 ≤ 2001 := by omega
        have hdt : decide (i < ls.length) = true := decide_eq_true hlt
        have HLen := Lib.hid (show rr.length ≤ maxLen by unfold maxLen; omega)
        have hF : cutF 10 rr = decide (i + 1 < ls.length) := by
          cases hf : cutF 10 rr
          · have := hlast hf; symm; rw [decide_eq_false_iff_not]; omega
          · symm; exact decide_eq_true (hmore hf).1
        have HF := Lib.hid hF
        clear hx hmore hlast hla hlr hrr hF
        rw [hdt]
        go_wp2_with fail
        refine (cut_any rr 10 _ HLen.out).mono ?_
        rintro e4 w4 ⟨rfl, hb4⟩
        rw [HF.out]
        have hw4 := HB.out.call hb4
        have HB4 := Lib.hid (Bel.of hb4)
        clear hb4
        generalize hxx : cutA 10 rr = x at *
        generalize cutR 10 rr = r2 at *
        clear hxx
        go_wp2_with fail
        refine (reventOf_any x _).mono ?_
        rintro e5 w5 ⟨rfl, hb5⟩
        have HB5 := Lib.hid (hw4.call hb5)
        have HBr := Lib.hid (HB4.out.call hb5)
        have HEB := Lib.hid (show Bel w5 _ from ewld_below w5 (evOf x).1 23)
        have HEX := Lib.hid (ewld_box w5 (evOf x).1 23)
        clear hb5 hw4
        cases hok : okLine x
        · have HV := Lib.hid (HBad.out i x HR.out.ok HXi.out hok)
          have HE3 := Lib.hid (okLine_err hok)
          clear hok
          rw [HE3.out]
          go_wp2_with (first | (refine load_ev T36 _ rfl rfl rfl hR.out ?_) | (refine ewld_store T36 _ _ rfl rfl _ rfl rfl rfl ?_))
          go_ret3
          exact ⟨.slice none 0 0, by rw [HV.out]; rfl, by rw [HV.out]; exact World.ownsRow_nil .., HB5.out.trans HEB.out⟩
        · have HE0 := Lib.hid (show (evOf x).2 = 0 by simpa [okLine] using hok)
          have HOK := Lib.hid hok
          clear hok
          rw [HE0.out]
          have HWE := Lib.hid (HB5.out.trans HEB.out)
          have hwr : Bel wr (ewld w5 (evOf x).1 23) := (HBr.out).trans HEB.out
          have HOA := Lib.hid (own_alloc (own_bel HR.out.own hwr) (.cells (evv (evOf x).1) 23))
          have HNW := Lib.hid (Box.news (l := evc [(evOf x).1]) (Box.new (ewld w5 (evOf x).1 23) (evv (evOf x).1) 23))
          have HSZ := Lib.hid (show w.heap.size ≤ ((ewld w5 (evOf x).1 23).alloc (.cells (evv (evOf x).1) 23)).heap.size from (HWE.out.alloc _).size)
          clear hwr
          go_wp2_with (first | (refine load_ev T36 _ rfl rfl rfl hR.out ?_) | (refine ewld_store T36 _ _ rfl rfl _ rfl rfl rfl ?_) | (refine loadB _ _ rfl rfl rfl HEX.out T36 ?_) | (refine build1 _ _ rfl rfl _ i0 Tryd.underlying30 J.out.1 J.out.2.1 J.out.2.2.1 (evOf x).1 rfl ?_) | (at_builtin; refine wpList_append_own_at _ rfl (.tmp 37) (.tmp 39) _ rfl w.heap.size 23 i0 _ 3 24 Tryd.underlying30 J.out.1 J.out.2.1 J.out.2.2.1 J.out.2.2.2 rfl (by omega) _ i _ rfl HOA.out ⟨(ewld w5 (evOf x).1 23).heap.size, 0, none⟩ 1 1 (evc [(evOf x).1]) rfl rfl HNW.out (by simp [evc, Value.oneCell']) (by simp [maxLen]; omega) (by omega) HSZ.out ?_; intro v2 w2 hown2 hg2 hn2 hat2))
          have hro : i + 1 < ls.length → linesL r2 = ls.drop (i + 1) := fun h => (HMo.out (by rw [HF.out]; exact decide_eq_true h)).2
          refine ⟨⟨i + 1, r2, by omega, by go_num, rfl, rfl, ⟨?_, take_all_snoc HR.out.ok HXi.out HOK.out, hro, HLr.out⟩, (HWE.out.alloc _).out.grown hg2 HSZ.out (own_block_ge HOA.out)⟩, by simp [intOf]; omega⟩
          rw [evsOf_snoc HXi.out, evc_append]
          exact hown2
      · obtain rfl : i = ls.length := by omega
        have hdt : decide (ls.length < ls.length) = false := by simp
        have hok := HR.out.ok
        rw [List.take_length] at hok
        have HV := Lib.hid (HEnd.out hok)
        have hown := HR.out.own
        rw [List.take_length] at hown
        obtain ⟨A5, c5, rfl, hs5, hc5, hm5⟩ := Sl.own hown
        have HO := Lib.hid hown
        have HS5 := Lib.hid hs5
        have HN5 := Lib.hid (evsOf_len ls)
        unfold maxLen at hm5
        clear hown hs5 hok
        rw [hdt]
        cases hmy : (may (evsOf ls) != 0)
        · have HM := Lib.hid (show may (evsOf ls) = 0 by simpa using hmy)
          go_wp2_with fail
          refine (rmay_any A5 _ c5 _ _ HS5.out hc5 (by omega)).mono ?_
          rintro e6 w6 ⟨rfl, hb6⟩
          have HB6 := Lib.hid (Bel.of hb6)
          clear hb6
          go_wp2
          go_ret3
          refine ⟨.slice A5 ls.length c5, ?_, ?_, HB.out.trans HB6.out⟩
          · rw [HV.out, if_pos HM.out]; rfl
          · rw [HV.out, if_pos HM.out]
            have := own_bel HO.out HB6.out
            simp only [evsOf_len]
            exact this
        · have HM := Lib.hid (show ¬ may (evsOf ls) = 0 by simpa using hmy)
          go_wp2_with fail
          refine (rmay_any A5 _ c5 _ _ HS5.out hc5 (by omega)).mono ?_
          rintro e6 w6 ⟨rfl, hb6⟩
          have HB6 := Lib.hid (Bel.of hb6)
          clear hb6
          go_wp2
          go_ret3
          refine ⟨.slice none 0 0, ?_, ?_, HB.out.trans HB6.out⟩
          · rw [HV.out, if_neg HM.out]; rfl
          · rw [HV.out, if_neg HM.out]
            exact World.ownsRow_nil ..
end Go.Proofs.YticejlepalhmhaaDoor

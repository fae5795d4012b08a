/- Contracts of the package text: Read. -/
import Derived.Test.YticejlepalhmhaaDoorText4
import Derived.Test.YticejlepalhmhaaDoorEqEv
import Derived.Test.YticejlepalhmhaaDoorAppend
set_option linter.all false
set_option maxRecDepth 100000
namespace Go.Proofs.YticejlepalhmhaaDoor
open Go Go.RowKit

theorem find_bad {ls : List (List UInt8)} {i : Nat} {x : List UInt8} (h : (ls.take i).all okLine = true) (hx : ls[i]? = some x) (hb : okLine x = false) : ls.findIdx? (fun l => !okLine l) = some i := by
  rw [List.findIdx?_eq_some_iff_getElem]
  have hi := List.getElem?_eq_some_iff.1 hx
  obtain ⟨hil, hix⟩ := hi
  refine ⟨hil, by rw [hix, hb]; rfl, fun j hj => ?_⟩
  have hm : ls[j]'(Nat.lt_trans hj hil) ∈ ls.take i := by
    rw [List.mem_take_iff_getElem]
    exact ⟨j, by omega, rfl⟩
  have := List.all_eq_true.1 h _ hm
  rw [this]; decide
theorem find_none {ls : List (List UInt8)} (h : ls.all okLine = true) : ls.findIdx? (fun l => !okLine l) = none := by
  rw [List.findIdx?_eq_none_iff]
  intro x hx
  rw [List.all_eq_true.1 h x hx]; rfl
def evsOf (ls : List (List UInt8)) : List Ev := ls.map fun l => (evOf l).1
theorem readL_long {s : List UInt8} (h : 2000 < s.length) : readL s = ([], 0, 2) := by unfold readL; rw [if_pos h]
theorem readL_bad {s : List UInt8} (h : ¬ 2000 < s.length) {i : Nat} {x : List UInt8} (h1 : ((linesT s).take i).all okLine = true) (hx : (linesT s)[i]? = some x) (hb : okLine x = false) : readL s = ([], (i : Int) + 1, 3) := by
  unfold readL; rw [if_neg h, find_bad h1 hx hb]
theorem readL_end {s : List UInt8} (h : ¬ 2000 < s.length) (h1 : (linesT s).all okLine = true) : readL s = if may (evsOf (linesT s)) = 0 then (evsOf (linesT s), 0, 0) else ([], 0, may (evsOf (linesT s))) := by
  unfold readL; rw [if_neg h, find_none h1]; rfl
theorem okLine_err {x : List UInt8} (h : okLine x = false) : (evOf x).2 = 3 := by
  rcases evOf_code x with h1 | h1
  · unfold okLine at h; rw [h1] at h; cases h
  · rw [h1]
theorem take_all_snoc {ls : List (List UInt8)} {i : Nat} {x : List UInt8} (h : (ls.take i).all okLine = true) (hx : ls[i]? = some x) (hb : okLine x = true) : (ls.take (i + 1)).all okLine = true := by
  rw [List.take_add_one, hx]; simp only [List.all_append, h, Bool.true_and]; simp [hb]
theorem evsOf_snoc {ls : List (List UInt8)} {i : Nat} {x : List UInt8} (hx : ls[i]? = some x) : evsOf (ls.take (i + 1)) = evsOf (ls.take i) ++ [(evOf x).1] := by
  rw [List.take_add_one, hx]; simp [evsOf]
theorem evsOf_len (ls : List (List UInt8)) : (evsOf ls).length = ls.length := by simp [evsOf]
def ReadPost (w : World) (s : List UInt8) (e : Ending) (w' : World) : Prop :=
  ∃ v, e = .returned (.tuple #[v, .int .i64 (readL s).2.1, .int .i64 (readL s).2.2]) ∧ w'.ownsRow w.heap.size 23 3 v (readL s).1.length (evc (readL s).1) ∧ Below w.heap.size w w'
structure RRel (w : World) (ls : List (List UInt8)) (i : Nat) (v : Value) (wr : World) : Prop where
  own : wr.ownsRow w.heap.size 23 3 v i (evc (evsOf (ls.take i)))
  ok : (ls.take i).all okLine = true
set_option maxHeartbeats 4000000 in
theorem pread_any (s : List UInt8) (hs : s.length ≤ maxLen) (m : Int) (w : World) (hm : w.cell? ⟨0, 0, none⟩ = some (.int .i64 m)) : Calls Tryd.prog 17 #[.string (str s)] w (ReadPost w s) := by
  have hz := str_sz s
  have hw0 := Bel.refl w
  unfold maxLen at hs
  by_cases hlong : 2000 < s.length
  · have HV := Lib.hid (readL_long hlong)
    have h0 : (2000 : Int) < (str s).size := by omega
    have HZ := Lib.hid hz
    have HW := Lib.hid hw0
    clear hm hz hw0
    go_enter Tryd.func17, Tryd.ntmps17
    go_wp2
    go_ret3
    exact ⟨.slice none 0 0, by rw [HV.out]; rfl, by rw [HV.out]; exact World.ownsRow_nil .., HW.out⟩
  · have h0 : ¬ (2000 : Int) < (str s).size := by omega
    have HS := Lib.hid (linesOf_any s (by omega) m w hm)
    have hN : (linesT s).length ≤ 2001 := by
      have := linesL_len s
      unfold linesT; split
      · simp
      · omega
    have HX := Lib.hid (show ∀ (i : Nat) (x : List UInt8), (linesT s)[i]? = some x → x.length ≤ maxLen from fun i x hx => by
      have : x ∈ linesL s := by
        have := List.mem_of_getElem? hx
        unfold linesT at this; split at this
        · cases this
        · exact this
      exact Nat.le_trans (linesL_part s x this) (by unfold maxLen; exact hs))
    have HLg := Lib.hid hlong
    have HZ := Lib.hid hz
    obtain ⟨i0, hi0, hz0, hz1, hz2⟩ := info_parts ev_info
    have J := Lib.hid (And.intro hi0 (And.intro hz0 (And.intro hz1 hz2)))
    clear hm hz hi0 hz0 hz1 hz2
    go_enter Tryd.func17, Tryd.ntmps17
    go_wp2_with fail
    refine HS.out.mono ?_
    rintro e1 w1 ⟨A, c, rfl, hs1, hc1, hb1⟩
    have hw1 : Bel w w1 := hw0.call hb1
    have HL := Lib.hid hs1
    have HW1 := Lib.hid hw1
    have HR0 := Lib.hid (RRel.mk (World.ownsRow_nil ..) rfl : RRel w1 (linesT s) 0 (.slice none 0 0) w1)
    have HBad := Lib.hid (fun i x h1 hx hb => readL_bad HLg.out (i := i) (x := x) h1 hx hb)
    have HEnd := Lib.hid (readL_end HLg.out)
    generalize linesT s = ls at *
    clear hs1 hb1 hw0 hw1
    go_wp2
    go_loopw [5, 18] (fun v t wr => ∃ i : Nat, i ≤ ls.length ∧ t = .int .i64 i ∧ RRel w1 ls i v wr ∧ Bel w1 wr) (fun _ t _ => ls.length - (intOf t).toNat)
    case atStart => exact ⟨0, by omega, rfl, HR0.out, Bel.refl _⟩
    case round =>
      obtain ⟨i, hi, rfl, hr, hb⟩ := hrel
      have HR := Lib.hid hr
      have HB := Lib.hid hb
      clear hr hb
      by_cases hlt : i < ls.length
      · have hlt' : (i : Int) < ls.length := by omega
        obtain ⟨b, rfl, hb1, hcells⟩ := HL.out (by omega)
        obtain ⟨x, hx⟩ : ∃ x, ls[i]? = some x := ⟨_, List.getElem?_eq_getElem hlt⟩
        have c1 := HB.out.cell (hcells i x hx)
        rw [Nat.zero_add] at c1
        have HXi := Lib.hid hx
        clear hcells hb1 hx
        have hi63 : (i : Int) + 1 ≤ 2001 := by omega
        go_wp2_with fail
        refine (pevent_any x (HX.out i x HXi.out) _).mono ?_
        rintro e5 w5 ⟨rfl, hb5⟩
        have HB5 := Lib.hid (HB.out.call hb5)
        have HBr := Lib.hid (Bel.of hb5)
        have HEB := Lib.hid (show Bel w5 _ from ewld_below w5 (evOf x).1 23)
        have HEX := Lib.hid (ewld_box w5 (evOf x).1 23)
        clear hb5
        cases hok : okLine x
        · have HV := Lib.hid (HBad.out i x HR.out.ok HXi.out hok)
          have HE3 := Lib.hid (okLine_err hok)
          clear hok
          rw [HE3.out]
          go_wp2_with (first | (refine load_ev T36 _ rfl rfl rfl hR.out ?_) | (refine ewld_store T36 _ _ rfl rfl _ rfl rfl rfl ?_))
          go_ret3
          exact ⟨.slice none 0 0, by rw [HV.out]; rfl, by rw [HV.out]; exact World.ownsRow_nil .., (HW1.out.trans (HB5.out.trans HEB.out))⟩
        · have HE0 := Lib.hid (show (evOf x).2 = 0 by simpa [okLine] using hok)
          have HOK := Lib.hid hok
          clear hok
          rw [HE0.out]
          have HWE := Lib.hid (HB5.out.trans HEB.out)
          have hwr : Bel wr (ewld w5 (evOf x).1 23) := (HBr.out).trans HEB.out
          have HOA := Lib.hid (own_alloc (own_bel HR.out.own hwr) (.cells (evv (evOf x).1) 23))
          have HNW := Lib.hid (Box.news (l := evc [(evOf x).1]) (Box.new (ewld w5 (evOf x).1 23) (evv (evOf x).1) 23))
          have HSZ := Lib.hid (show w1.heap.size ≤ ((ewld w5 (evOf x).1 23).alloc (.cells (evv (evOf x).1) 23)).heap.size from (HWE.out.alloc _).size)
          clear hwr
          go_wp2_with (first | (refine load_ev T36 _ rfl rfl rfl hR.out ?_) | (refine ewld_store T36 _ _ rfl rfl _ rfl rfl rfl ?_) | (refine loadB _ _ rfl rfl rfl HEX.out T36 ?_) | (refine build1 _ _ rfl rfl _ i0 Tryd.underlying30 J.out.1 J.out.2.1 J.out.2.2.1 (evOf x).1 rfl ?_) | (at_builtin; refine wpList_append_own_at _ rfl (.tmp 33) (.tmp 35) _ rfl w1.heap.size 23 i0 _ 3 24 Tryd.underlying30 J.out.1 J.out.2.1 J.out.2.2.1 J.out.2.2.2 rfl (by omega) _ i _ rfl HOA.out ⟨(ewld w5 (evOf x).1 23).heap.size, 0, none⟩ 1 1 (evc [(evOf x).1]) rfl rfl HNW.out (by simp [evc, Value.oneCell']) (by simp [maxLen]; omega) (by omega) HSZ.out ?_; intro v2 w2 hown2 hg2 hn2 hat2))
          refine ⟨⟨i + 1, by omega, by go_num, ⟨?_, take_all_snoc HR.out.ok HXi.out HOK.out⟩, (HWE.out.alloc _).out.grown hg2 HSZ.out (own_block_ge HOA.out)⟩, by simp [intOf]; omega⟩
          rw [evsOf_snoc HXi.out, evc_append]
          exact hown2
      · obtain rfl : i = ls.length := by omega
        have hok := HR.out.ok
        rw [List.take_length] at hok
        have HV := Lib.hid (HEnd.out hok)
        have hown := HR.out.own
        rw [List.take_length] at hown
        obtain ⟨A5, c5, rfl, hs5, hc5, hm5⟩ := Sl.own hown
        have HO := Lib.hid hown
        have HS5 := Lib.hid hs5
        have HWB := Lib.hid (HW1.out.trans HB.out)
        have HN5 := Lib.hid (evsOf_len ls)
        clear hown hs5 hok
        cases hmy : (may (evsOf ls) != 0)
        · have hz0 : ((check (evsOf ls)).2 != 0) = false := hmy
          have HM := Lib.hid (show may (evsOf ls) = 0 by simpa using hmy)
          clear hmy
          go_wp2_with fail
          refine (check_any A5 _ c5 _ _ HS5.out).mono ?_
          rintro e6 w6 ⟨rfl, hb6⟩
          have HB6 := Lib.hid (Bel.of hb6)
          clear hb6
          go_wp2
          go_ret3
          refine ⟨.slice A5 ls.length c5, ?_, ?_, HWB.out.trans HB6.out⟩
          · rw [HV.out, if_pos HM.out]; rfl
          · rw [HV.out, if_pos HM.out]
            have := own_bel HO.out HB6.out
            simp only [evsOf_len]
            exact own_drop_alloc this HW1.out.size
        · have hz0 : ((check (evsOf ls)).2 != 0) = true := hmy
          have HM := Lib.hid (show ¬ may (evsOf ls) = 0 by simpa using hmy)
          clear hmy
          go_wp2_with fail
          refine (check_any A5 _ c5 _ _ HS5.out).mono ?_
          rintro e6 w6 ⟨rfl, hb6⟩
          have HB6 := Lib.hid (Bel.of hb6)
          clear hb6
          go_wp2
          go_ret3
          refine ⟨.slice none 0 0, ?_, ?_, HWB.out.trans HB6.out⟩
          · rw [HV.out, if_neg HM.out]; rfl
          · rw [HV.out, if_neg HM.out]
            exact World.ownsRow_nil ..
end Go.Proofs.YticejlepalhmhaaDoor

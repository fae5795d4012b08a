/- 'deadheatkeep.FastVars' returns true for every input and leaves its arguments as they are. No condition. -/
import Derived.Test.YtbkciglapambgaaOpen
import Derived.Test.YtbkciglapambgaaKeepFa
import Derived.Test.YtbkciglapambgaaVarP
import Derived.Test.YtbkciglapambgaaRest
import Derived.Test.YtbkciglapambgaaRefTr
set_option linter.all false
set_option maxRecDepth 100000
namespace Go.Proofs.Ytbkciglapambgaa.LFastVars
open Go Go.ChangeShapes Go.WideShapes Go.ChangeAt Go.RowKit

theorem ints_own {w : World} {base : Nat} {t : TypeId} {v : Value} {n : Nat} {rs : List Nat} {zs : List Int} (hz : zs = rs.map fun (i : Nat) => (i : Int)) (h : w.ownsRow base t 1 v n (intv zs)) :
    ∃ A c, v = .slice A n c ∧ rs.length = n ∧ ∀ j x, rs[j]? = some x → ∃ g, A = some ⟨g, 0, none⟩ ∧ g < w.heap.size ∧ w.cell? ⟨g, j, none⟩ = some (.int .i64 (x : Nat)) := by
  have hl : rs.length = n := by have := h.1; rw [hz] at this; unfold intv at this; simp at this; omega
  rcases h.2 with ⟨rfl, h0⟩ | ⟨g, cap, cur, rfl, hg, hh, hn, hc, hs, ht⟩
  · exact ⟨none, 0, by rw [h0], hl, fun j k hk => by have := (List.getElem?_eq_some_iff.1 hk).1; omega⟩
  · have hb : Box w g cur t := hh
    refine ⟨_, cap, rfl, hl, fun j x hx => ⟨g, rfl, hb.lt, ?_⟩⟩
    have h9 : (intv zs)[j]? = some (.int .i64 (x : Nat)) := by rw [hz]; unfold intv; rw [List.getElem?_map, List.getElem?_map, hx]; rfl
    rw [← ht, List.getElem?_take] at h9
    split at h9
    · exact hb.cell j (by simpa using h9)
    · cases h9
def tB (x : Nat) (e : Ev) : Bool := decide (e.t = (x : Int))
theorem TFl8 : RowTy Try.prog 33 3 := ⟨_, Try.underlying33, rfl, by kernel_rfl⟩
set_option maxHeartbeats 16000000 in
theorem walk (W : World) (A : Option Addr) (n c : Nat) (l : List Ev) (s : Sl W A n l) (m : n ≤ c) (x : c ≤ maxLen) (g : ∀ e ∈ l, EvOk e) (t : Int) (kt : In64 t) :
    Calls Try.prog 9 #[.slice A n c, .int .i64 t] W fun e w' => e = .returned (.bool true) ∧ Below W.heap.size W w' := by
  unfold maxLen at x
  have hw0 : Bel W W := Bel.refl _
  have HL := Lib.hid s
  have HN := Lib.hid s.1
  clear s g
  cases h1 : (may l == 0)
  · clear kt
    go_enter Try.func9, Try.ntmps9
    go_wp2_with fail
    refine (fasted_any _).mono ?_
    rintro e1 w1 ⟨rfl, hb1⟩
    have hw1 := hw0.call hb1
    clear hb1
    go_wp2_with fail
    refine (may_any A n c l _ (HL.out.bel hw1)).mono ?_
    rintro e2 w2 ⟨rfl, hb2⟩
    have hw2 := hw1.call hb2
    clear hb2
    go_wp2
    go_ret
    exact ⟨rfl, hw2⟩
  · have hm := eq_of_beq h1
    have HM := Lib.hid hm
    have hn80 : n ≤ 80 := by rw [← HN.out]; exact ((may_iff l).1 hm).1
    have hk0 := Int.emod_nonneg t (show (8 : Int) ≠ 0 by omega)
    have hk1 := Int.emod_lt_of_pos t (show (0 : Int) < 8 by omega)
    have HRT := Lib.hid (fun w => rest_any t 8 kt (by omega) (by omega) w)
    clear kt hm
    generalize t % (8 : Int) = t' at *
    obtain ⟨x, rfl⟩ := Int.eq_ofNat_of_zero_le hk0
    obtain ⟨i0, hi0, hz0, hz1, hz2⟩ := info_parts fl_info
    obtain ⟨e0, he0, hy0, hy1, hy2⟩ := info_parts ev_info
    obtain ⟨j0, hj0, hu0, hu1, hu2⟩ := info_parts int_info
    have J := Lib.hid (And.intro hi0 (And.intro hz0 (And.intro hz1 hz2)))
    have JE := Lib.hid (And.intro he0 (And.intro hy0 (And.intro hy1 hy2)))
    have JI := Lib.hid (And.intro hj0 (And.intro hu0 (And.intro hu1 hu2)))
    clear hk0 hk1 hi0 hz0 hz1 hz2 he0 hy0 hy1 hy2 hj0 hu0 hu1 hu2
    have HMR := Lib.hid (show may (l.filter (varF x)) = 0 from may_filter (varF_syn x) l.length l rfl HM.out)
    have HLR := Lib.hid (show (l.filter (varF x)).length ≤ 80 from Nat.le_trans (List.length_filter_le _ _) (by rw [HN.out]; exact hn80))
    go_enter Try.func9, Try.ntmps9
    go_wp2_with fail
    refine (fasted_any _).mono ?_
    rintro e1 w1 ⟨rfl, hb1⟩
    have hw1 := hw0.call hb1
    clear hb1
    go_wp2_with fail
    refine (may_any A n c l _ (HL.out.bel hw1)).mono ?_
    rintro e2 w2 ⟨rfl, hb2⟩
    have hw2 := hw1.call hb2
    clear hb2
    go_wp2_with fail
    refine (HRT.out _).mono ?_
    rintro _ _ ⟨rfl, rfl⟩
    have HW2 := Lib.hid hw2
    have HL2 := Lib.hid (HL.out.bel hw2)
    clear hw0 hw1 hw2
    go_wp2
    go_loopw [5, 6, 26] (fun v1 v2 t26 wr => ∃ k : Nat, k ≤ n ∧ t26 = .int .i64 k ∧ VaR w2 ((l.take k).filter (varF x)) (atI x l k) v1 v2 wr) (fun _ _ t26 _ => n - (intOf t26).toNat)
    case atStart => exact ⟨0, Nat.zero_le _, rfl, World.ownsRow_nil _ _ _ _, World.ownsRow_nil _ _ _ _, (fun g h _ => by cases h), Bel.refl _⟩
    case round =>
      obtain ⟨k, hk, rfl, hr⟩ := hrel
      have HR := Lib.hid hr
      clear hr
      by_cases hlt : k < n
      · have hlt' : (k : Int) < n := by omega
        obtain ⟨bb, off, ⟨ek, et, eo⟩, rfl, hbb, he, hrg⟩ := HL2.out.at_ hlt
        have hR := Lib.hid (rangeAt_below HR.out.below.out hbb hrg)
        have HX := Lib.hid (ewld_box wr ⟨ek, et, eo⟩ 50)
        have HXB := Lib.hid (ewld_below wr ⟨ek, et, eo⟩ 50)
        have HE := Lib.hid he
        have HEZ := Lib.hid (eZ_at he)
        have HDX := Lib.hid (HR.out.bel HXB.out)
        have HDA := Lib.hid (HDX.out.bel ((Bel.refl (ewld wr ⟨ek, et, eo⟩ 50)).alloc (.cells (evv ⟨ek, et, eo⟩) 50)))
        have HNW := Lib.hid (Box.news (l := evl ⟨ek, et, eo⟩) (Box.new (ewld wr ⟨ek, et, eo⟩ 50) (evv ⟨ek, et, eo⟩) 50))
        have HLE := Lib.hid (vfilter_len (varF x) l k)
        have HL9 := Lib.hid (atI_len (x := x) (l := l) (k := k) (by rw [HN.out]; omega))
        have c0 := HX.out.cell 0 (v := .int .i64 ek) rfl
        have c2 := HX.out.cell 2 (v := .int .i64 eo) rfl
        clear he hrg
        by_cases hv : 2 < ek ∨ eo = (x : Int)
        · have HV := Lib.hid (show varF x ⟨ek, et, eo⟩ = true by unfold varF; rcases hv with h | h; · simp [h]
                                                                 · simp [h])
          rcases (show 2 < ek ∨ (¬ 2 < ek ∧ eo = (x : Int)) by omega) with h2 | ⟨h2, h3⟩
          · have HF1 := Lib.hid (vfilter_yes (p := varF x) HE.out HV.out)
            have HF2 := Lib.hid (atI_yes (x := x) (l := l) (k := k) (by rw [HEZ.out]; exact HV.out))
            clear hv
            go_wp2_with (first | (refine load_ev T36 _ rfl rfl rfl hR.out ?_) | (refine ewld_store T36 _ _ rfl rfl _ rfl rfl rfl ?_) | (refine loadB _ _ rfl rfl rfl HX.out T36 ?_) | (refine build1 22 _ rfl rfl 50 e0 Try.underlying22 JE.out.1 JE.out.2.1 JE.out.2.2.1 ⟨ek, et, eo⟩ rfl ?_) | (at_builtin; refine wpList_append_own_at _ rfl (.tmp 40) (.tmp 42) _ rfl w2.heap.size 50 e0 _ 3 24 Try.underlying22 JE.out.1 JE.out.2.1 JE.out.2.2.1 JE.out.2.2.2 rfl (by omega) _ ((l.take k).filter (varF x)).length _ rfl HDA.out.own1 _ 1 1 (evl ⟨ek, et, eo⟩) rfl rfl HNW.out (by simp [evl, Value.oneCell']) (by have := HLE.out; unfold maxLen; omega) (by have := HLE.out; omega) HDA.out.below.size ?_; intro v8 w8 hown8 hg8 hn8 hat8; have HD8 := Lib.hid (HDA.out.add1 hg8 hat8 hown8); have HA8 := Lib.hid (HD8.out.bel ((Bel.refl w8).alloc (.cells #[.int .i64 (k : Nat)] 3)))) | (at_builtin; refine wpList_append_own_at _ rfl (.tmp 44) (.tmp 46) _ rfl w2.heap.size 3 j0 _ 1 8 Try.underlying48 JI.out.1 JI.out.2.1 JI.out.2.2.1 JI.out.2.2.2 rfl (by omega) _ (atI x l k).length _ rfl HA8.out.own2 ⟨w8.heap.size, 0, none⟩ 1 1 [.int .i64 (k : Nat)] rfl rfl (cell_one_new _ _ _) (by simp [Value.oneCell']) (by have := HLE.out; have := HL9.out; unfold maxLen; omega) (by have := HLE.out; have := HL9.out; omega) HA8.out.below.size ?_; intro v9 w9 hown9 hg9 hn9 hat9))
            refine ⟨⟨k + 1, by omega, by go_num, by rw [HF1.out, HF2.out]; exact HA8.out.add2 hg9 hat9 hown9⟩, by simp [intOf]; omega⟩
          · have h4 : (eo == (x : Int)) = true := by simp [h3]
            clear h3
            have HF1 := Lib.hid (vfilter_yes (p := varF x) HE.out HV.out)
            have HF2 := Lib.hid (atI_yes (x := x) (l := l) (k := k) (by rw [HEZ.out]; exact HV.out))
            clear hv
            go_wp2_with (first | (refine load_ev T36 _ rfl rfl rfl hR.out ?_) | (refine ewld_store T36 _ _ rfl rfl _ rfl rfl rfl ?_) | (refine loadB _ _ rfl rfl rfl HX.out T36 ?_) | (refine build1 22 _ rfl rfl 50 e0 Try.underlying22 JE.out.1 JE.out.2.1 JE.out.2.2.1 ⟨ek, et, eo⟩ rfl ?_) | (at_builtin; refine wpList_append_own_at _ rfl (.tmp 40) (.tmp 42) _ rfl w2.heap.size 50 e0 _ 3 24 Try.underlying22 JE.out.1 JE.out.2.1 JE.out.2.2.1 JE.out.2.2.2 rfl (by omega) _ ((l.take k).filter (varF x)).length _ rfl HDA.out.own1 _ 1 1 (evl ⟨ek, et, eo⟩) rfl rfl HNW.out (by simp [evl, Value.oneCell']) (by have := HLE.out; unfold maxLen; omega) (by have := HLE.out; omega) HDA.out.below.size ?_; intro v8 w8 hown8 hg8 hn8 hat8; have HD8 := Lib.hid (HDA.out.add1 hg8 hat8 hown8); have HA8 := Lib.hid (HD8.out.bel ((Bel.refl w8).alloc (.cells #[.int .i64 (k : Nat)] 3)))) | (at_builtin; refine wpList_append_own_at _ rfl (.tmp 44) (.tmp 46) _ rfl w2.heap.size 3 j0 _ 1 8 Try.underlying48 JI.out.1 JI.out.2.1 JI.out.2.2.1 JI.out.2.2.2 rfl (by omega) _ (atI x l k).length _ rfl HA8.out.own2 ⟨w8.heap.size, 0, none⟩ 1 1 [.int .i64 (k : Nat)] rfl rfl (cell_one_new _ _ _) (by simp [Value.oneCell']) (by have := HLE.out; have := HL9.out; unfold maxLen; omega) (by have := HLE.out; have := HL9.out; omega) HA8.out.below.size ?_; intro v9 w9 hown9 hg9 hn9 hat9))
            refine ⟨⟨k + 1, by omega, by go_num, by rw [HF1.out, HF2.out]; exact HA8.out.add2 hg9 hat9 hown9⟩, by simp [intOf]; omega⟩
        · have HV := Lib.hid (show varF x ⟨ek, et, eo⟩ = false by unfold varF; simp; omega)
          have h2 : ¬ 2 < ek := fun h => hv (.inl h)
          have h3 : (eo == (x : Int)) = false := by simp; exact fun h => hv (.inr h)
          have HF1 := Lib.hid (vfilter_no (p := varF x) HE.out HV.out)
          have HF2 := Lib.hid (atI_no (x := x) (l := l) (k := k) (by rw [HEZ.out]; exact HV.out))
          clear hv
          go_wp2_with (first | (refine load_ev T36 _ rfl rfl rfl hR.out ?_) | (refine ewld_store T36 _ _ rfl rfl _ rfl rfl rfl ?_))
          go_roundw
          case rel => exact ⟨k + 1, by omega, by go_num, by rw [HF1.out, HF2.out]; exact HDX.out⟩
          case measure => simp [intOf]; omega
      · obtain rfl : k = n := by omega
        have HT1 := Lib.hid (show (l.take k).filter (varF x) = l.filter (varF x) by rw [← HN.out, List.take_length])
        have hr := HR.out
        rw [HT1.out] at hr
        have HR2 := Lib.hid hr
        obtain ⟨A5, c5, rfl, hs5, hq5, hx5⟩ := Sl.own hr.own1
        have HS5 := Lib.hid hs5
        have hw3 := hr.below
        clear hr HR hs5 hq5 hx5
        go_wp2_with fail
        refine (frun_any A k c l _ (HL2.out.bel hw3)).mono ?_
        rintro e4 w4 ⟨v3, rfl, hown3, hb4⟩
        have hw4 := hw3.call hb4
        replace HS5 := Lib.hid (HS5.out.bel (Bel.of hb4))
        replace HR2 := Lib.hid (HR2.out.bel (Bel.of hb4))
        clear hb4
        rw [HM.out]
        obtain ⟨A3, c3, rfl, hs3, hq3, hx3⟩ := Sl.own hown3
        have HS3 := Lib.hid hs3
        clear hown3 hs3 hq3 hx3
        have HR2w := Lib.hid HR2.out
        go_wp2_with fail
        refine (frun_any A5 (l.filter (varF x)).length c5 (l.filter (varF x)) _ HS5.out).mono ?_
        rintro e5 w5 ⟨v4, rfl, hown4, hb5⟩
        have hw5 := hw4.call hb5
        replace HS3 := Lib.hid (HS3.out.bel (Bel.of hb5))
        replace HR2 := Lib.hid (HR2.out.bel (Bel.of hb5))
        clear hb5
        rw [HMR.out]
        have HFV := Lib.hid (show (fflags (l.filter (varF x))).map (reAt (atK (varF x) l k)) = (fflags l).filter (tB x) by
          rw [fflags_ok HM.out, fflags_ok HMR.out, ← kept_all]
          exact gl_var HM.out x HN.out.symm l.length (Nat.le_refl _))
        have HLW := Lib.hid (show ∀ e ∈ fflags (l.filter (varF x)), 0 ≤ e.k ∧ e.k < (l.filter (varF x)).length by rw [fflags_ok HMR.out]; exact fun e he => gl_low he)
        have HAN := Lib.hid (show (atK (varF x) l k).length = (l.filter (varF x)).length by rw [atK_len k (by rw [HN.out]; exact Nat.le_refl _), ← HN.out, kept_all])
        have HO2 := Lib.hid (fun gg (e : u6.ownBlock = some gg) => (own_lt HR2w.out.own2 e).2)
        obtain ⟨A7, c7, rfl, hn7, hi7⟩ := ints_own (rs := atK (varF x) l k) rfl HR2.out.own2
        have HI7 := Lib.hid hi7
        have HAL7 := Lib.hid (fun gg (e : A7 = some ⟨gg, 0, none⟩) => HO2.out gg (by rw [e]; rfl))
        have HN7 := Lib.hid hn7
        have HNA := Lib.hid (show (fflags l).length ≤ 80 by rw [fflags_ok HM.out]; exact Nat.le_trans (gl_len _ l _) (by rw [HN.out]; exact hn80))
        have HNB := Lib.hid (show (fflags (l.filter (varF x))).length ≤ 80 by rw [fflags_ok HMR.out]; exact Nat.le_trans (gl_len _ _ _) HLR.out)
        generalize atK (varF x) l k = as_ at *
        generalize hal : fflags l = al at *
        generalize hfb : fflags (l.filter (varF x)) = fb at *
        generalize hna : al.length = na at *
        have HNAL := Lib.hid hna
        generalize hnb : fb.length = nb at *
        have HNB2 := Lib.hid hnb
        have HW5 := Lib.hid hw5
        have HOW4 := Lib.hid hown4
        have HWL := Lib.hid (HW2.out.trans hw4).size
        clear hn7 hi7 hal hfb hna hnb hw3 hw4 hw5 hown4
        go_wp2
        go_loopw [13, 61] (fun v6 t61 wr => ∃ i : Nat, i ≤ na ∧ t61 = .int .i64 i ∧ wr.ownsRow w5.heap.size 33 3 v6 ((al.take i).filter (tB x)).length (evc ((al.take i).filter (tB x))) ∧ Bel w5 wr) (fun _ t61 _ => na - (intOf t61).toNat)
        case atStart => exact ⟨0, Nat.zero_le _, rfl, World.ownsRow_nil _ _ _ _, Bel.refl _⟩
        case round =>
          obtain ⟨i, hi, rfl, ho, hb⟩ := hrel
          have HO := Lib.hid ho
          have HB := Lib.hid hb
          clear ho hb
          have hna80 := HNA.out
          by_cases hli : i < na
          · have hli' : (i : Int) < na := by omega
            obtain ⟨fb_, foff, ⟨fk_, fv_, fq_⟩, rfl, hfb, hfe, hfr⟩ := HS3.out.at_ hli
            have hR := Lib.hid (rangeAt_below HB.out.out hfb hfr)
            have HX := Lib.hid (ewld_box wr ⟨fk_, fv_, fq_⟩ 33)
            have HXB := Lib.hid (ewld_below wr ⟨fk_, fv_, fq_⟩ 33)
            have HOL := Lib.hid (vfilter_len (tB x) al i)
            have c1 := HX.out.cell 1 (v := .int .i64 fv_) rfl
            by_cases hat9 : fv_ = (x : Int)
            · have hq : (fv_ == (x : Int)) = true := by simp [hat9]
              have HN9 := Lib.hid (vfilter_yes (p := tB x) hfe (by unfold tB; exact decide_eq_true hat9))
              clear hfe hfr hat9
              have HA := Lib.hid (own_alloc (own_bel HO.out HXB.out) (.cells (evv ⟨fk_, fv_, fq_⟩) 33))
              have HNW := Lib.hid (Box.news (l := evl ⟨fk_, fv_, fq_⟩) (Box.new (ewld wr ⟨fk_, fv_, fq_⟩ 33) (evv ⟨fk_, fv_, fq_⟩) 33))
              have HB5 := Lib.hid ((HB.out.trans HXB.out).alloc (.cells (evv ⟨fk_, fv_, fq_⟩) 33))
              go_wp2_with (first | (refine load_ev TFl8 _ rfl rfl rfl hR.out ?_) | (refine ewld_store TFl8 _ _ rfl rfl _ rfl rfl rfl ?_) | (refine loadB _ _ rfl rfl rfl HX.out TFl8 ?_) | (refine build1 23 _ rfl rfl 33 i0 Try.underlying23 J.out.1 J.out.2.1 J.out.2.2.1 ⟨fk_, fv_, fq_⟩ rfl ?_) | (at_builtin; refine wpList_append_own_at _ rfl (.tmp 69) (.tmp 71) _ rfl w5.heap.size 33 i0 _ 3 24 Try.underlying23 J.out.1 J.out.2.1 J.out.2.2.1 J.out.2.2.2 rfl (by omega) _ ((al.take i).filter (tB x)).length _ rfl HA.out _ 1 1 (evl ⟨fk_, fv_, fq_⟩) rfl rfl HNW.out (by simp [evl, Value.oneCell']) (by have := HOL.out; unfold maxLen; omega) (by have := HOL.out; omega) HB5.out.size ?_; intro v8 w8 hown8 hg8 hn8 hat8))
              refine ⟨⟨i + 1, by omega, by go_num, ?_, HB5.out.out.grown hg8 HB5.out.size (own_block_ge HA.out)⟩, by simp [intOf]; omega⟩
              rw [HN9.out, List.length_append, evc_append]
              exact hown8
            · have hq : (fv_ == (x : Int)) = false := by simp [hat9]
              have HN9 := Lib.hid (vfilter_no (p := tB x) hfe (by unfold tB; exact decide_eq_false hat9))
              clear hfe hfr hat9
              go_wp2_with (first | (refine load_ev TFl8 _ rfl rfl rfl hR.out ?_) | (refine ewld_store TFl8 _ _ rfl rfl _ rfl rfl rfl ?_))
              go_roundw
              case rel => exact ⟨i + 1, by omega, by go_num, by rw [HN9.out]; exact own_bel HO.out HXB.out, HB.out.trans HXB.out⟩
              case measure => simp [intOf]; omega
          · have hin : i = na := by omega
            have HSW := Lib.hid (show wr.ownsRow w5.heap.size 33 3 u13 (al.filter (tB x)).length (evc (al.filter (tB x))) by have := HO.out; rwa [hin, show al.take na = al by rw [← HNAL.out, List.take_length]] at this)
            have HRW := Lib.hid (HR2.out.bel HB.out)
            have HBW := Lib.hid (HW5.out.trans HB.out)
            have HOB := Lib.hid (own_bel HOW4.out HB.out)
            have HIW := Lib.hid (fun j (y : Nat) (h : as_[j]? = some y) => show ∃ g, A7 = some ⟨g, 0, none⟩ ∧ g < w4.heap.size ∧ wr.cell? ⟨g, j, none⟩ = some (.int .i64 (y : Nat)) from by
              obtain ⟨g, h1, h2, h3⟩ := HI7.out j y h
              exact ⟨g, h1, HAL7.out g (by rw [h1]), HB.out.cell h3⟩)
            have hli9 : ¬ ((i : Int) < (na : Int)) := by omega
            clear HO HB hi hin
            obtain ⟨A6, c6, hv6, hs6, hq6, hx6⟩ := Sl.own HSW.out
            subst hv6
            have HQ6 := Lib.hid (And.intro hq6 hx6)
            have HS6 := Lib.hid hs6
            generalize hws : wr = w6 at *
            clear hws hq6 hx6 hs6
            rcases HOB.out.2 with ⟨rfl, h0⟩ | ⟨g, cap, cur, rfl, hg, hh, hn, hc, hs, ht⟩
            · have hfb0 : fb = [] := List.length_eq_zero_iff.1 (by rw [HNB2.out]; exact h0)
              have HFE := Lib.hid (show ([] : List Ev) = al.filter (tB x) by rw [← HFV.out, hfb0]; rfl)
              clear h0 hfb0
              go_wp2
              go_loopw [76] (fun t76 wr => t76 = .int .i64 0 ∧ wr = w6) (fun _ _ => 0)
              case atStart => exact ⟨rfl, rfl⟩
              case round =>
                obtain ⟨rfl, hwx⟩ := hrel
                obtain rfl := hwx.symm
                go_wp2_with fail
                refine (eqfl_any none A6 0 0 _ c6 [] (al.filter (tB x)) w6 ⟨rfl, fun h => absurd h (by omega)⟩ HS6.out (Nat.le_refl _) HQ6.out.1 (by unfold maxLen; omega) HQ6.out.2).mono ?_
                rintro e9 w9 ⟨rfl, hb9⟩
                rw [decide_eq_true HFE.out]
                have hw9 := (HW2.out.trans HBW.out).call hb9
                clear hb9
                go_wp2
                go_ret
                exact ⟨rfl, hw9⟩
            · have HH := Lib.hid (show MaR w6 g nb as_ fb 0 w6 from ⟨⟨cur, hh, by rw [mapTo_zero]; exact ht⟩, ⟨rfl, rfl, rfl, Nat.le_refl _, fun _ _ _ => rfl⟩⟩)
              have HG := Lib.hid hg
              have HC := Lib.hid (And.intro hn hc)
              have HGL := Lib.hid (show g < w6.heap.size from Box.lt (w := w6) (c := cur) (t := 33) hh)
              clear hg hh hn hc hs ht
              go_wp2
              go_loopw [76] (fun t76 wr => ∃ i : Nat, i ≤ nb ∧ t76 = .int .i64 i ∧ MaR w6 g nb as_ fb i wr) (fun t76 _ => nb - (intOf t76).toNat)
              case atStart => exact ⟨0, Nat.zero_le _, rfl, HH.out⟩
              case round =>
                obtain ⟨i, hi, rfl, hr⟩ := hrel
                have HM9 := Lib.hid hr
                have hnb80 := HNB.out
                clear hr
                by_cases hli : i < nb
                · have hli' : (i : Int) < nb := by omega
                  obtain ⟨⟨fk_, fv_, fq_⟩, he⟩ : ∃ e, fb[i]? = some e := ⟨fb[i]'(by rw [HNB2.out]; exact hli), List.getElem?_eq_getElem (by rw [HNB2.out]; exact hli)⟩
                  have hk9 := HLW.out _ (List.mem_of_getElem? he)
                  obtain ⟨q, rfl⟩ := Int.eq_ofNat_of_zero_le hk9.1
                  have hq9 : q < as_.length := by rw [HAN.out]; have := hk9.2; dsimp only at this; omega
                  obtain ⟨a, ha⟩ : ∃ a, as_[q]? = some a := ⟨as_[q], List.getElem?_eq_getElem hq9⟩
                  obtain ⟨ga, rfl, hga, hgc⟩ := HIW.out q a ha
                  have hgc2 : wr.cell? ⟨ga, q, none⟩ = some (.int .i64 (a : Nat)) := by
                    rw [cell_heap (w := w6) (HM9.out.chg.block ga (by have := HGL.out; have := HG.out; omega) (fun e => by have := Option.some.inj e; have := HG.out; omega))]; exact hgc
                  have hmc := (HM9.out.cell he).1
                  have hmf := (HM9.out.cell he).2
                  dsimp only at hmc
                  have hq0 : (0 : Int) ≤ (q : Int) := by omega
                  have hq1 : (q : Int) < (atI x l k).length := by have := HN7.out; omega
                  have HST := Lib.hid (HM9.out.step he (a := (a : Nat)) (by show (a : Int) = ((as_[(q : Int).toNat]?).getD 0 : Nat); rw [Int.toNat_natCast, ha]; rfl))
                  clear he hk9 ha hgc
                  go_wp2
                  go_roundw
                  case rel => exact ⟨i + 1, by omega, by go_num, HST.out⟩
                  case measure => simp [intOf]; omega
                · have hin : i = nb := by omega
                  have hli8 : ¬ ((i : Int) < (nb : Int)) := by omega
                  have hmr := HM9.out
                  rw [hin] at hmr
                  have HSB := Lib.hid (MaR.sl HNB2.out hmr)
                  have hk9 := HSW.out.kept hmr.chg (.inr fun e => by have := own_block_ge HSW.out _ e; have := (own_lt HOW4.out (g := g) rfl).2; omega)
                  obtain ⟨A8, c8, h8, hs8, hq8, hx8⟩ := Sl.own hk9
                  cases h8
                  have HS8 := Lib.hid hs8
                  have HW9 := Lib.hid (show Bel W wr from Bel.of ((HW2.out.trans HBW.out).out.grown hmr.chg (HW2.out.trans HBW.out).size (fun y e => by have := Option.some.inj e; have := HG.out; have := HWL.out; omega)))
                  clear hmr hk9 hs8 hq8 hx8 hin hi hli
                  go_wp2_with fail
                  refine (eqfl_any (some ⟨g, 0, none⟩) A6 _ cap _ c6 _ _ _ HSB.out HS8.out HC.out.1 HQ6.out.1 HC.out.2 HQ6.out.2).mono ?_
                  rintro e9 w9 ⟨rfl, hb9⟩
                  rw [decide_eq_true HFV.out]
                  have hw9 := HW9.out.call hb9
                  clear hb9
                  go_wp2
                  go_ret
                  exact ⟨rfl, hw9⟩

set_option maxRecDepth 100000 in
theorem lifted (os : Os) (started : os.Started) (H : Type) (enc : TypeId × Value → H) :
    ReturnsInHanded {} Try.checked os 9 .any (Rows.fastVarsSpec.pre6 enc Try.prog Try.f9 Rows.fastVarsRow.domain false) (Rows.fastVarsSpec.post enc Try.prog Try.f9 false true false false) := by
  refine returnsInHanded_of_change_sized (C := Try.checked) own started (by kernel_rfl) Try.func9
    (ChangeSpec.witness6 (enc := enc) (C := Try.checked) false ⟨#[], #[.slice none 0 0, .int .i64 0], []⟩ 8 (by kernel_rfl) (by kernel_rfl) (by kernel_rfl) (by kernel_rfl)) ?_
  intro W base args ds gs before hval0 hW hcnd hsz0 _
  have hsz : (DataW.weightsEach Try.prog (Try.f9.params.toList ++ Rows.fastVarsSpec.plain.varTypes Try.prog) (ds ++ gs)).all (· ≤ reachBytes) = true := hsz0
  clear hsz0
  have hval : ∀ (j : Nat) t v, Try.f9.params[j]? = some t → args[j]? = some v → Value.okWide Try.prog W .any base t v := hval0
  have hW' := hW
  obtain ⟨p, q, hA0, hV, rfl, hfz, hnd⟩ := hW
  have hA : DataW.TrodAll enc Try.prog W 0 (fun _ => true) true Try.f9.params.toList args.toList ds p := hA0
  rw [Try.params9] at hA hval hsz
  obtain ⟨v0, vs0, d0, ds0, p0, q0, hargs, rfl, rfl, h0, r0⟩ := trodAll_cons hA
  obtain ⟨v1, vs1, d1, ds1, p1, q1, rfl, rfl, rfl, h1, r1⟩ := trodAll_cons r0
  obtain ⟨rfl, rfl, rfl⟩ := trodAll_nil r1
  obtain rfl : args = #[v0, v1] := by cases args; simp_all
  obtain ⟨rfl, rfl⟩ := trodVars_none hV
  have t0 := h0
  have lt0 : ∀ x ∈ p0, x.block < W.heap.size := by obtain ⟨m, hm⟩ := t0; exact DataW.trod_lt m _ _ _ hm
  have t1 := h1
  have lt1 : ∀ x ∈ p1, x.block < W.heap.size := by obtain ⟨m, hm⟩ := t1; exact DataW.trod_lt m _ _ _ hm
  obtain ⟨A0, n0, c0, l0, rfl, s0, m0, x0, g0, z0⟩ := open_evs Try.underlying22 Try.underlying50 ⟨rfl, rfl, rfl⟩ (by kernel_rfl) (by kernel_rfl) Try.underlying3 (hval 0 22 v0 rfl rfl) h0
  have y0 := reach_sl hsz (j := 0) rfl rfl Try.underlying22 (b := 24) (by kernel_rfl) z0
  obtain ⟨a1, rfl, _, _, x1⟩ := open_int Try.underlying3 (hval 1 3 v1 rfl rfl) h1
  have k1 := in64_of x1
  clear hA0 hval0
  refine (walk W A0 n0 c0 l0 s0 m0 x0 g0 a1 k1).mono fun e W' ⟨he, bel⟩ => ?_
  subst he
  exact ⟨_, rfl, _, _, _, [], _, [], hW', trodAll_mk1 (shut_bool Try.underlying4 _), (trodAll_cons_mk (Below.trod laidOut (by kernel_rfl) (of_decide_eq_true (by kernel_rfl)) t0 bel lt0) (trodAll_cons_mk (Below.trod laidOut (by kernel_rfl) (of_decide_eq_true (by kernel_rfl)) t1 bel lt1) trodAll_mk0)), rfl, bel.frame _, fun h => by cases h⟩

theorem over : Rows.fastVarsRow.holds Try.pinned (OpenSpec.ofChange Rows.fastVarsSpec) :=
  OpenClaim.holds_of_wide 9 Try.f9 rfl rfl rfl rfl rfl rfl rfl ⟨rfl, rfl, rfl, rfl, rfl⟩ rfl rfl rfl rfl rfl (by kernel_rfl) Try.func9 (by kernel_rfl)
    (of_decide_eq_true (by kernel_rfl)) (by unfold Func.isWrapper; first | (rw [if_pos (by decide +kernel)]; kernel_rfl) | (rw [if_neg (by decide +kernel)]; exact ⟨rfl, rfl⟩))
    (fun os started H enc _ => lifted os started H enc)

theorem proved : Rows.FastVarsSaid := over
#print axioms proved
end Go.Proofs.Ytbkciglapambgaa.LFastVars

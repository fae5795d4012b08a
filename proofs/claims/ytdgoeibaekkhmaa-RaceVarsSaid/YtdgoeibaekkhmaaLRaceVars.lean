/- 'deadheatlaw.RaceVars' returns true for every input and leaves its arguments as they are. No condition. -/
import Derived.Test.YtdgoeibaekkhmaaOpenTr
import Derived.Test.YtdgoeibaekkhmaaRefSec
import Derived.Test.YtdgoeibaekkhmaaEqInt
import Derived.Test.YtdgoeibaekkhmaaTwoRow
import Derived.Test.YtdgoeibaekkhmaaRefTr2
set_option linter.all false
set_option maxRecDepth 100000
namespace Go.Proofs.Ytdgoeibaekkhmaa.LRaceVars
open Go Go.ChangeShapes Go.WideShapes Go.ChangeAt Go.RowKit

def hitV (rs : List Rc) (j : Nat) : Bool := rs.any fun r => r.v == (j : Int)
def varTo (rs : List Rc) (j : Nat) : List Int := ((List.range j).filter (hitV rs)).map fun (x : Nat) => (x : Int)
def varIn (rs : List Rc) (i j : Nat) : List Int := varTo rs j ++ if hitV (rs.take i) j = true then [(j : Int)] else []
theorem varIn_zero (rs : List Rc) (j : Nat) : varIn rs 0 j = varTo rs j := by simp [varIn, hitV]
theorem varTo_succ (rs : List Rc) (j : Nat) : varTo rs (j + 1) = varTo rs j ++ if hitV rs j = true then [(j : Int)] else [] := by
  unfold varTo
  rw [List.range_succ, List.filter_append, List.map_append]
  congr 1
  by_cases h : hitV rs j = true <;> simp [h]
theorem hitV_snoc {rs : List Rc} {i j : Nat} {r : Rc} (h : rs[i]? = some r) : hitV (rs.take (i + 1)) j = (hitV (rs.take i) j || r.v == (j : Int)) := by
  unfold hitV; rw [rc_ptake h, List.any_append]; simp
theorem varTo_low {rs : List Rc} {j : Nat} : (j : Int) ∉ varTo rs j := by
  unfold varTo
  simp only [List.mem_map, List.mem_filter, List.mem_range]
  rintro ⟨x, ⟨h1, _⟩, h2⟩; omega
theorem varIn_has (rs : List Rc) (i j : Nat) : decide ((j : Int) ∈ varIn rs i j) = hitV (rs.take i) j := by
  unfold varIn
  by_cases h : hitV (rs.take i) j = true
  · rw [if_pos h, h, decide_eq_true_iff]; simp
  · rw [if_neg h, List.append_nil, decide_eq_false varTo_low]; simpa using h
theorem varTo_len (rs : List Rc) (j : Nat) : (varTo rs j).length ≤ j := by
  unfold varTo; rw [List.length_map]; exact Nat.le_trans (List.length_filter_le _ _) (by simp)
theorem varIn_len (rs : List Rc) (i j : Nat) : (varIn rs i j).length ≤ j + 1 := by
  have := varTo_len rs j
  unfold varIn; rw [List.length_append]
  split <;> simp <;> omega
theorem rcs_v {l : List Ev} {r : Rc} (h : r ∈ rcs l) : 0 ≤ r.v ∧ r.v < 8 := by
  unfold rcs at h
  split at h
  · rename_i hm
    obtain ⟨a, b, h1, _, _, h4, _, h6, _⟩ := mem_rcsA h
    have he := isEv_o (wrong_isEv (wrong_at hm h1))
    have hk := (conf_bin (l := l) h6).2.1
    unfold nobj at he
    rw [if_pos hk] at he
    rw [h4]; exact he
  · cases h
theorem vars_ref (l : List Ev) : varTo (rcs l) 8 = dd ((rcs l).map fV) := by
  refine up_eq (range_up _ _) (dd_up _) fun x => ?_
  rw [dd_mem]
  unfold varTo hitV
  simp only [List.mem_map, List.mem_filter, List.mem_range, List.any_eq_true, beq_iff_eq]
  constructor
  · rintro ⟨j, ⟨h1, r, hr, h2⟩, rfl⟩; exact ⟨r, hr, h2⟩
  · rintro ⟨r, hr, rfl⟩
    have := rcs_v hr
    exact ⟨r.v.toNat, ⟨by omega, r, hr, by omega⟩, by unfold fV; omega⟩
/-- The first hit among the first k. -/
def fT (p : Int → Bool) (ss : List Int) (k : Nat) : Option Int := (ss.take k).find? p
theorem fT_zero (p : Int → Bool) (ss : List Int) : fT p ss 0 = none := rfl
theorem fT_snoc {p : Int → Bool} {ss : List Int} {k : Nat} {y : Int} (h : ss[k]? = some y) : fT p ss (k + 1) = (fT p ss k).or (if p y = true then some y else none) := by
  unfold fT
  rw [List.take_succ, h, List.find?_append]
  congr 1
  by_cases hp : p y = true <;> simp [hp]
structure VarR (w : World) (zs : List Int) (rs : List Rc) (v vr : Value) (n : Nat) (wr : World) : Prop where
  own : wr.ownsRow w.heap.size 3 1 v zs.length (intv zs)
  rcs : wr.ownsRow w.heap.size 31 4 vr n (rcc rs)
  apart : ∀ g, v.ownBlock = some g → vr.ownBlock ≠ some g
  below : Bel w wr
theorem VarR.bel {w : World} {zs : List Int} {rs : List Rc} {v vr : Value} {n : Nat} {wr w' : World} (h : VarR w zs rs v vr n wr) (hb : Bel wr w') : VarR w zs rs v vr n w' := ⟨own_bel h.own hb, own_bel h.rcs hb, h.apart, h.below.trans hb⟩
theorem VarR.to {w : World} {zs zs' : List Int} {rs : List Rc} {v vr : Value} {n : Nat} {wr : World} (h : VarR w zs rs v vr n wr) (e : zs' = zs) : VarR w zs' rs v vr n wr := by subst e; exact h
set_option maxHeartbeats 32000000 in
theorem walk (W : World) (A : Option Addr) (n c : Nat) (l : List Ev) (s : Sl W A n l) (m : n ≤ c) (x : c ≤ maxLen) (g : ∀ e ∈ l, EvOk e) (t : Int) (kt : In64 t) :
    Calls Try.prog 5 #[.slice A n c, .int .i64 t] W fun e w' => e = .returned (.bool true) ∧ Below W.heap.size W w' := by
  unfold maxLen at x
  have hw0 : Bel W W := Bel.refl _
  have HL := Lib.hid s
  have HMW := Lib.hid (show may [⟨0, 0, 0⟩] = 1 by decide +kernel)
  have HMZ := Lib.hid (show may [⟨0, 0, 0⟩] ≠ 0 by decide +kernel)
  clear s g kt
  cases h1 : (may l != 0)
  · have hm : may l = 0 := by simpa using h1
    have HM := Lib.hid hm
    have hn80 : n ≤ 80 := by rw [← HL.out.1]; exact ((may_iff l).1 hm).1
    have hln := rcs_len l
    have HVR := Lib.hid (vars_ref l)
    obtain ⟨i0, hi0, hz0, hz1, hz2⟩ := info_parts int_info
    have J := Lib.hid (And.intro hi0 (And.intro hz0 (And.intro hz1 hz2)))
    clear hi0 hz0 hz1 hz2 hm
    go_enter Try.func5, Try.ntmps5
    go_wp2_with fail
    refine (vars_any A n c l _ HL.out).mono ?_
    rintro e1 w1 ⟨v1, rfl, hs1, hb1⟩
    have hw1 := hw0.call hb1
    clear hb1
    rw [HM.out]
    have HC1 := Lib.hid hs1
    clear hs1
    go_wp2_with fail
    refine (first_any A n c l t _ (HL.out.bel hw1)).mono ?_
    rintro e2 w2 ⟨rfl, hb2⟩
    have hw2 := hw1.call hb2
    replace HC1 := Lib.hid (HC1.out.bel (Bel.of hb2))
    clear hb2
    go_wp2_with fail
    refine (wrong_any _).mono ?_
    rintro e3 w3 ⟨A3, c3, rfl, hs3, hd3, hd3', hb3⟩
    have hw3 := hw2.call hb3
    replace HC1 := Lib.hid (HC1.out.bel (Bel.of hb3))
    clear hb3
    go_wp2_with fail
    refine (all_bad A3 1 c3 _ _ hs3 HMZ.out).mono ?_
    rintro e4 w4 ⟨rfl, hb4⟩
    have hw4 := hw3.call hb4
    replace HC1 := Lib.hid (HC1.out.bel (Bel.of hb4))
    clear hb4
    rw [HMW.out]
    go_wp2_with fail
    refine (rmay_any A n c l _ (HL.out.bel hw4) m x).mono ?_
    rintro e5 w5 ⟨rfl, hb5⟩
    have hw5 := hw4.call hb5
    replace HC1 := Lib.hid (HC1.out.bel (Bel.of hb5))
    clear hb5
    rw [HM.out]
    have HW5 := Lib.hid hw5
    have H0 := Lib.hid (ProjR.mk (World.ownsRow_nil _ _ _ _) (Bel.refl w5) : ProjR w5 (varTo (rcs l) 0) (.slice none 0 0) w5)
    clear hw0 hw1 hw2 hw3 hw4 hw5
    obtain ⟨nr, hnr⟩ : ∃ nr, (rcs l).length = nr := ⟨_, rfl⟩
    rw [hnr] at hln
    have HNR := Lib.hid hnr
    clear hnr
    go_wp2
    go_loopw [13, 71] (fun v t71 wr => ∃ j : Nat, j ≤ 8 ∧ t71 = .int .i64 j ∧ ProjR w5 (varTo (rcs l) j) v wr) (fun _ t71 _ => 8 - (intOf t71).toNat)
    case atStart => exact ⟨0, by omega, rfl, H0.out⟩
    case round =>
      obtain ⟨j, hj, rfl, hr⟩ := hrel
      have HR := Lib.hid hr
      clear hr H0
      by_cases hlt : j < 8
      · have hlt' : (j : Int) < 8 := by omega
        go_wp2_with fail
        refine (races_any A n c l _ (HL.out.bel (HW5.out.trans HR.out.below)) HM.out).mono ?_
        rintro e6 w6 ⟨v6, rfl, hown6, hb6⟩
        rw [HNR.out] at hown6
        obtain ⟨A6, c6, rfl, hs6, _⟩ := SlR.own hown6
        have H1 := Lib.hid (VarR.to (VarR.mk (own_bel HR.out.own hb6) (own_drop_alloc hown6 HR.out.below.size) (fun g h h' => by have := (own_lt HR.out.own h).2; have := (own_lt hown6 h').1; omega) (HR.out.below.trans (Bel.of hb6)) : VarR w5 (varTo (rcs l) j) (rcs l) u13 (.slice A6 nr c6) nr w6) (varIn_zero (rcs l) j))
        clear hown6 hs6 hb6
        go_wp2
        go_loopw [13, 77] (fun v t77 wr => ∃ i : Nat, i ≤ nr ∧ t77 = .int .i64 i ∧ VarR w5 (varIn (rcs l) i j) (rcs l) v (.slice A6 nr c6) nr wr) (fun _ t77 _ => nr - (intOf t77).toNat)
        case atStart => exact ⟨0, by omega, rfl, H1.out⟩
        case round =>
          obtain ⟨i, hi, rfl, hr⟩ := hrel
          have HR2 := Lib.hid hr
          clear hr H1 HR
          by_cases hli : i < nr
          · have hli' : (i : Int) < nr := by omega
            obtain ⟨A7, c7, he7, hs7, _⟩ := SlR.own HR2.out.rcs
            obtain ⟨rfl, rfl⟩ : A7 = A6 ∧ c7 = c6 := by injection he7 with h1 h2 h3; exact ⟨h1.symm, h3.symm⟩
            obtain ⟨bb, off, r, rfl, hbb, he, hrg⟩ := hs7.at_ hli
            have hR := Lib.hid hrg
            have HX := Lib.hid (rwld_box wr r 31)
            have HR3 := Lib.hid (HR2.out.bel (rwld_below wr r 31))
            have cb := HX.out.cell 2 (v := .int .i64 r.v) rfl
            have HSN := Lib.hid (hitV_snoc (j := j) he)
            clear he hrg hs7 he7
            cases hq : (r.v == (j : Int))
            · have HE := Lib.hid (show varIn (rcs l) (i + 1) j = varIn (rcs l) i j by unfold varIn; rw [HSN.out, hq, Bool.or_false])
              go_wp2_with (first | (refine load_rc TRc _ rfl rfl rfl hR.out ?_) | (refine rwld_store TRc _ _ rfl rfl _ rfl rfl rfl ?_))
              go_roundw
              case rel => exact ⟨i + 1, by omega, by go_num, HR3.out.to HE.out⟩
              case measure => simp [intOf]; omega
            · have HLE := Lib.hid (varIn_len (rcs l) i j)
              obtain ⟨A3, n3, c3, rfl, hs3, hm3⟩ := SlI.form (SlI.own HR3.out.own (by have := varIn_len (rcs l) i j; unfold maxLen; omega))
              have HH := Lib.hid (hasint_any A3 n3 c3 _ (j : Int) _ hs3 (by unfold maxLen at hm3; exact hm3))
              rw [varIn_has] at HH
              clear hs3 hm3
              cases hh : hitV ((rcs l).take i) j
              · rw [hh] at HH
                have HE := Lib.hid (show varIn (rcs l) (i + 1) j = varIn (rcs l) i j ++ [(j : Int)] by unfold varIn; rw [HSN.out, hh, hq]; simp)
                have HA := Lib.hid (own_alloc HR3.out.own (.cells #[.int .i64 j] 3))
                have HA2 := Lib.hid (own_alloc HR3.out.rcs (.cells #[.int .i64 j] 3))
                have HSZ := Lib.hid (HR3.out.below.alloc (.cells #[.int .i64 j] 3)).size
                clear hh
                go_wp2_with (first | (refine load_rc TRc _ rfl rfl rfl hR.out ?_) | (refine rwld_store TRc _ _ rfl rfl _ rfl rfl rfl ?_) | (go_at_call 21; (with_reducible refine HH.out.mono ?_); rintro e w' ⟨rfl, rfl⟩) | (at_builtin; refine wpList_append_own_at _ rfl (.tmp 91) (.tmp 93) _ rfl w5.heap.size 3 i0 _ 1 8 Try.underlying34 J.out.1 J.out.2.1 J.out.2.2.1 J.out.2.2.2 rfl (by omega) _ (varIn (rcs l) i j).length _ rfl HA.out _ 1 1 [.int .i64 j] rfl rfl (cell_one_new _ _ _) (by simp [Value.oneCell']) (by have := HLE.out; unfold maxLen; omega) (by have := HLE.out; omega) HSZ.out ?_; intro v7 w7 hown7 hg7 hn7 hat7))
                obtain ⟨hr7, hap7⟩ := own_two HA.out HA2.out HR3.out.apart hg7 hat7
                refine ⟨⟨i + 1, by omega, by go_num, ⟨?_, hr7, hap7, (HR3.out.below.alloc _).out.grown hg7 HSZ.out (own_block_ge HA.out)⟩⟩, by simp [intOf]; omega⟩
                rw [HE.out, List.length_append, intv_app]
                exact hown7
              · rw [hh] at HH
                have HE := Lib.hid (show varIn (rcs l) (i + 1) j = varIn (rcs l) i j by unfold varIn; rw [HSN.out, hh]; simp)
                clear hh
                go_wp2_with (first | (refine load_rc TRc _ rfl rfl rfl hR.out ?_) | (refine rwld_store TRc _ _ rfl rfl _ rfl rfl rfl ?_) | (go_at_call 21; (with_reducible refine HH.out.mono ?_); rintro e w' ⟨rfl, rfl⟩))
                go_roundw
                case rel => exact ⟨i + 1, by omega, by go_num, HR3.out.to HE.out⟩
                case measure => simp [intOf]; omega
          · obtain rfl : i = nr := by omega
            have HE := Lib.hid (ProjR.to ⟨HR2.out.own, HR2.out.below⟩ (show varTo (rcs l) (j + 1) = varIn (rcs l) i j by rw [varTo_succ, varIn, ← HNR.out, List.take_length]))
            go_wp2
            go_roundw
            case rel => exact ⟨j + 1, by omega, by go_num, HE.out⟩
            case measure => simp [intOf]; omega
      · obtain rfl : j = 8 := by omega
        have HSI := Lib.hid (SlI.own HR.out.own (by have := varTo_len (rcs l) 8; unfold maxLen; omega))
        rw [HVR.out] at HSI
        have HW6 := Lib.hid (HW5.out.trans HR.out.below)
        have HC6 := Lib.hid (HC1.out.bel HR.out.below)
        clear HR
        go_wp2_with fail
        refine (rseconds_any A n c l _ (HL.out.bel HW6.out) HM.out).mono ?_
        rintro e7 w7 ⟨v7, rfl, hs7, hb7⟩
        have HC7 := Lib.hid (HC6.out.bel hb7)
        have HS7 := Lib.hid (HSI.out.bel hb7)
        have HW7 := Lib.hid (HW6.out.trans (Bel.of hb7))
        have HLW := Lib.hid (HL.out.bel HW7.out)
        have HSM := Lib.hid (fun (y : Int) (h : y ∈ secs l) => secs_mem h)
        have HFT := Lib.hid (fun (h : isV t = true) => fst_ok HM.out h)
        obtain ⟨A7, n7, c7, rfl, hs7, hm7⟩ := SlI.form hs7
        have HS := Lib.hid hs7
        generalize secs l = ss at *
        unfold maxLen at hm7
        clear hs7 hb7
        go_wp2
        go_loop [14, 15, 100] (fun t14 t15 t100 => ∃ k : Nat, k ≤ n7 ∧ t100 = .int .i64 k ∧ t14 = .int .i64 ((fT (objB l t) ss k).getD 0) ∧ t15 = .bool (fT (objB l t) ss k).isSome) (fun _ _ t100 => n7 - (intOf t100).toNat)
        case atStart => exact ⟨0, by omega, rfl, rfl, rfl⟩
        case round =>
          obtain ⟨k, hk, rfl, rfl, rfl⟩ := hrel
          by_cases hlk : k < n7
          · obtain ⟨sb, so, rfl, hc⟩ := HS.out.2 (by omega)
            have hc1 := hc k hlk
            have hkl : k < ss.length := by rw [HS.out.1]; exact hlk
            have hlk' : (k : Int) < n7 := by omega
            have he : ss[k]? = some ss[k] := List.getElem?_eq_getElem hkl
            obtain ⟨r, hr, hy, hrn⟩ := HSM.out _ (List.getElem_mem hkl)
            rw [he, Option.getD_some, hy] at hc1
            rw [hy] at he
            have HK := Lib.hid (fT_snoc (p := objB l t) he)
            have hrn' : r.b < n := by rw [← HL.out.1]; exact hrn
            obtain ⟨bb, off, ev, rfl, hbb, hev, hrg⟩ := HLW.out.at_ hrn'
            have e2 : w7.cell? ⟨bb, off + r.b * 3 + 2, none⟩ = some (.int .i64 ev.o) := hrg 2 _ rfl
            have HO := Lib.hid (show objB l t (r.b : Int) = (ev.o == t) by unfold objB; rw [show ((r.b : Int)).toNat = r.b from by omega, evZ_at hev])
            have hb0 : (0 : Int) ≤ (r.b : Int) := by omega
            have hbn : (r.b : Int) < n := by omega
            clear hc he hr hy hrn hev hrg
            generalize fT (objB l t) ss k = F at *
            cases hq : (ev.o == t)
            · have HE := Lib.hid (show fT (objB l t) ss (k + 1) = F by rw [HK.out, HO.out, hq]; cases F <;> rfl)
              go_wp2
              go_round
              case rel => exact ⟨k + 1, by omega, by go_num, by rw [HE.out], by rw [HE.out]⟩
              case measure => simp [intOf]; omega
            · cases F with
              | none =>
                have HE := Lib.hid (show fT (objB l t) ss (k + 1) = some (r.b : Int) by rw [HK.out, HO.out, hq]; rfl)
                go_wp2
                go_round
                case rel => exact ⟨k + 1, by omega, by go_num, by first | (rw [HE.out]; done) | (rw [HE.out]; rfl), by first | (rw [HE.out]; done) | (rw [HE.out]; rfl)⟩
                case measure => simp [intOf]; omega
              | some z =>
                have HE := Lib.hid (show fT (objB l t) ss (k + 1) = some z by rw [HK.out]; rfl)
                go_wp2
                go_round
                case rel => exact ⟨k + 1, by omega, by go_num, by first | (rw [HE.out]; done) | (rw [HE.out]; rfl), by first | (rw [HE.out]; done) | (rw [HE.out]; rfl)⟩
                case measure => simp [intOf]; omega
          · obtain rfl : k = n7 := by omega
            have HFK := Lib.hid (show fT (objB l t) ss k = ss.find? (objB l t) by unfold fT; rw [← HS.out.1, List.take_length])
            rw [HFK.out]
            obtain ⟨A1, n1, c1, rfl, hsi1, hmi1⟩ := SlI.form HC7.out
            clear hsi1 hmi1
            have HEQ := Lib.hid (eqint_any _ _ _ _ w7 HC7.out HS7.out)
            rw [beq_self_eq_true] at HEQ
            have hin := Lib.hid (Iff.rfl : (0 ≤ t ∧ t < 8) ↔ (0 ≤ t ∧ t < 8))
            by_cases hx0 : t < 0
            · have hv : isV t = false := inB_no (by omega)
              have HA := Lib.hid (show fstA l t = 0 by unfold fstA; rw [fst_bad (fun h => by rw [hv] at h; cases h.2)]; rfl)
              have HI := Lib.hid (show fstI l t = false by unfold fstI; rw [fst_bad (fun h => by rw [hv] at h; cases h.2)]; rfl)
              have HE := Lib.hid (show fstE l t = 1 by unfold fstE; rw [if_neg (by rw [HM.out]; decide), hv]; rfl)
              rw [HA.out, HI.out, HE.out]
              clear hv
              go_wp2_with (first | (go_at_call 17; (with_reducible refine HEQ.out.mono ?_); rintro e w' ⟨rfl, rfl⟩))
              go_ret
              exact ⟨rfl, HW7.out⟩
            · by_cases hx8 : 7 < t
              · have hv : isV t = false := inB_no (by omega)
                have HA := Lib.hid (show fstA l t = 0 by unfold fstA; rw [fst_bad (fun h => by rw [hv] at h; cases h.2)]; rfl)
                have HI := Lib.hid (show fstI l t = false by unfold fstI; rw [fst_bad (fun h => by rw [hv] at h; cases h.2)]; rfl)
                have HE := Lib.hid (show fstE l t = 1 by unfold fstE; rw [if_neg (by rw [HM.out]; decide), hv]; rfl)
                rw [HA.out, HI.out, HE.out]
                clear hv
                go_wp2_with (first | (go_at_call 17; (with_reducible refine HEQ.out.mono ?_); rintro e w' ⟨rfl, rfl⟩))
                go_ret
                exact ⟨rfl, HW7.out⟩
              · have hv : isV t = true := inB_yes (by omega) (by omega)
                have HE := Lib.hid (show fstE l t = 0 by unfold fstE; rw [if_neg (by rw [HM.out]; decide), hv]; rfl)
                have HA := Lib.hid (show fstA l t = (ss.find? (objB l t)).getD 0 by unfold fstA; rw [HFT.out hv])
                have HI := Lib.hid (show fstI l t = (ss.find? (objB l t)).isSome by unfold fstI; rw [HFT.out hv])
                rw [HA.out, HI.out, HE.out]
                clear hv
                cases hF : ss.find? (objB l t) <;>
                  (clear hF
                   go_wp2_with (first | (go_at_call 17; (with_reducible refine HEQ.out.mono ?_); rintro e w' ⟨rfl, rfl⟩))
                   go_ret
                   exact ⟨rfl, HW7.out⟩)
  · have HM := Lib.hid (show may l ≠ 0 by simpa using h1)
    have HA := Lib.hid (show fstA l t = 0 by unfold fstA; rw [fst_bad (fun h => HM.out h.1)]; rfl)
    have HI := Lib.hid (show fstI l t = false by unfold fstI; rw [fst_bad (fun h => HM.out h.1)]; rfl)
    have HE := Lib.hid (show fstE l t = may l by unfold fstE; rw [if_pos HM.out])
    go_enter Try.func5, Try.ntmps5
    go_wp2_with fail
    refine (vars_any A n c l _ HL.out).mono ?_
    rintro e1 w1 ⟨v1, rfl, hs1, hb1⟩
    have hw1 := hw0.call hb1
    clear hb1
    rw [rcs_no HM.out] at hs1
    obtain ⟨A1, n1, c1, rfl, hsi, hmi⟩ := SlI.form hs1
    obtain rfl : n1 = 0 := by have := hsi.1; simp [dd, srt, Lib.compact, Lib.compactUpTo] at this; exact this.symm
    clear hs1 hsi hmi
    go_wp2_with fail
    refine (first_any A n c l t _ (HL.out.bel hw1)).mono ?_
    rintro e2 w2 ⟨rfl, hb2⟩
    have hw2 := hw1.call hb2
    clear hb2
    rw [HA.out, HI.out, HE.out]
    go_wp2_with fail
    refine (wrong_any _).mono ?_
    rintro e3 w3 ⟨A3, c3, rfl, hs3, hd3, hd3', hb3⟩
    have hw3 := hw2.call hb3
    clear hb3
    go_wp2_with fail
    refine (all_bad A3 1 c3 _ _ hs3 HMZ.out).mono ?_
    rintro e4 w4 ⟨rfl, hb4⟩
    have hw4 := hw3.call hb4
    clear hb4
    rw [HMW.out]
    go_wp2_with fail
    refine (rmay_any A n c l _ (HL.out.bel hw4) m x).mono ?_
    rintro e5 w5 ⟨rfl, hb5⟩
    have hw5 := hw4.call hb5
    clear hb5
    go_wp2
    go_ret
    exact ⟨rfl, hw5⟩

set_option maxRecDepth 100000 in
theorem lifted (os : Os) (started : os.Started) (H : Type) (enc : TypeId × Value → H) :
    ReturnsInHanded {} Try.checked os 5 .any (Rows.raceVarsSpec.pre6 enc Try.prog Try.f5 Rows.raceVarsRow.domain false) (Rows.raceVarsSpec.post enc Try.prog Try.f5 false true false false) := by
  refine returnsInHanded_of_change_sized (C := Try.checked) own started (by kernel_rfl) Try.func5
    (ChangeSpec.witness6 (enc := enc) (C := Try.checked) false ⟨#[], #[.slice none 0 0, .int .i64 0], []⟩ 8 (by kernel_rfl) (by kernel_rfl) (by kernel_rfl) (by kernel_rfl)) ?_
  intro W base args ds gs before hval0 hW hcnd hsz0 _
  have hsz : (DataW.weightsEach Try.prog (Try.f5.params.toList ++ Rows.raceVarsSpec.plain.varTypes Try.prog) (ds ++ gs)).all (· ≤ reachBytes) = true := hsz0
  clear hsz0
  have hval : ∀ (j : Nat) t v, Try.f5.params[j]? = some t → args[j]? = some v → Value.okWide Try.prog W .any base t v := hval0
  have hW' := hW
  obtain ⟨p, q, hA0, hV, rfl, hfz, hnd⟩ := hW
  have hA : DataW.TrodAll enc Try.prog W 0 (fun _ => true) true Try.f5.params.toList args.toList ds p := hA0
  rw [Try.params5] at hA hval hsz
  obtain ⟨v0, vs0, d0, ds0, p0, q0, hargs, rfl, rfl, h0, r0⟩ := trodAll_cons hA
  obtain ⟨v1, vs1, d1, ds1, p1, q1, rfl, rfl, rfl, h1, r1⟩ := trodAll_cons r0
  obtain ⟨rfl, rfl, rfl⟩ := trodAll_nil r1
  obtain rfl : args = #[v0, v1] := by cases args; simp_all
  obtain ⟨rfl, rfl⟩ := trodVars_none hV
  have t0 := h0
  have lt0 : ∀ x ∈ p0, x.block < W.heap.size := by obtain ⟨m, hm⟩ := t0; exact DataW.trod_lt m _ _ _ hm
  have t1 := h1
  have lt1 : ∀ x ∈ p1, x.block < W.heap.size := by obtain ⟨m, hm⟩ := t1; exact DataW.trod_lt m _ _ _ hm
  obtain ⟨A0, n0, c0, l0, rfl, s0, m0, x0, g0, z0⟩ := open_evs Try.underlying22 Try.underlying43 ⟨rfl, rfl, rfl⟩ (by kernel_rfl) (by kernel_rfl) Try.underlying3 (hval 0 22 v0 rfl rfl) h0
  have y0 := reach_sl hsz (j := 0) rfl rfl Try.underlying22 (b := 24) (by kernel_rfl) z0
  obtain ⟨a1, rfl, _, _, x1⟩ := open_int Try.underlying3 (hval 1 3 v1 rfl rfl) h1
  have k1 := in64_of x1
  clear hA0 hval0
  refine (walk W A0 n0 c0 l0 s0 m0 x0 g0 a1 k1).mono fun e W' ⟨he, bel⟩ => ?_
  subst he
  exact ⟨_, rfl, _, _, _, [], _, [], hW', trodAll_mk1 (shut_bool Try.underlying4 _), (trodAll_cons_mk (Below.trod laidOut (by kernel_rfl) (of_decide_eq_true (by kernel_rfl)) t0 bel lt0) (trodAll_cons_mk (Below.trod laidOut (by kernel_rfl) (of_decide_eq_true (by kernel_rfl)) t1 bel lt1) trodAll_mk0)), rfl, bel.frame _, fun h => by cases h⟩

theorem over : Rows.raceVarsRow.holds Try.pinned (OpenSpec.ofChange Rows.raceVarsSpec) :=
  OpenClaim.holds_of_wide 5 Try.f5 rfl rfl rfl rfl rfl rfl rfl ⟨rfl, rfl, rfl, rfl, rfl⟩ rfl rfl rfl rfl rfl (by kernel_rfl) Try.func5 (by kernel_rfl)
    (of_decide_eq_true (by kernel_rfl)) (by unfold Func.isWrapper; first | (rw [if_pos (by decide +kernel)]; kernel_rfl) | (rw [if_neg (by decide +kernel)]; exact ⟨rfl, rfl⟩))
    (fun os started H enc _ => lifted os started H enc)

theorem proved : Rows.RaceVarsSaid := over
#print axioms proved
end Go.Proofs.Ytdgoeibaekkhmaa.LRaceVars

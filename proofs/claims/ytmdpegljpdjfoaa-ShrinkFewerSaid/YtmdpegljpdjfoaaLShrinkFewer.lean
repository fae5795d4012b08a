/- 'deadheatkeep.ShrinkFewer' returns true for every input and leaves its arguments as they are. No condition. -/
import Derived.Test.YtmdpegljpdjfoaaShM
import Derived.Test.YtmdpegljpdjfoaaOpen
import Derived.Test.YtmdpegljpdjfoaaKeepSh
import Derived.Test.YtmdpegljpdjfoaaAllE
import Derived.Test.YtmdpegljpdjfoaaKeepAh
import Derived.Deep.DeepCutAuto
set_option linter.all false
set_option maxRecDepth 100000
namespace Go.Proofs.Ytmdpegljpdjfoaa.LShrinkFewer
open Go Go.ChangeShapes Go.WideShapes Go.ChangeAt Go.RowKit

theorem rc_pair {l : List Ev} (hm : may l = 0) {j : Nat} {r : Rc} (h : (rcs l)[j]? = some r) : (prsA (racB l) l.length)[j]? = some (r.a, r.b) := by
  rw [rcs_ok hm] at h
  unfold rcsA at h
  rw [List.getElem?_map] at h
  cases hp : (prsA (racB l) l.length)[j]? with
  | none => rw [hp] at h; cases h
  | some p => rw [hp] at h; cases h; rfl
theorem rcs_len3 {l : List Ev} (hm : may l = 0) : (rcs l).length = (prsA (racB l) l.length).length := by
  rw [rcs_ok hm]; unfold rcsA; rw [List.length_map]
set_option maxHeartbeats 16000000 in
theorem walkH (HWo : WithoutC) (HMi : MinC) (W : World) (A : Option Addr) (n c : Nat) (l : List Ev) (s : Sl W A n l) (m : n ≤ c) (x : c ≤ maxLen) (_g : ∀ e ∈ l, EvOk e) (i : Int) (ki : In64 i) :
    Calls Try.prog 8 #[.slice A n c, .int .i64 i] W fun e w' => e = .returned (.bool true) ∧ Below W.heap.size W w' := by
  have hw0 : Bel W W := Bel.refl _
  have HL := Lib.hid s
  have HMX := Lib.hid (And.intro m x)
  have HSH := Lib.hid (fun w => shrunk_any HMi w)
  unfold WithoutC at HWo
  have HWC := Lib.hid HWo
  have HK := Lib.hid ki
  have hmm := @run_makeMap Try.prog
  clear s m x HMi HWo ki
  go_enter Try.func8, Try.ntmps8
  go_wp2_with fail
  refine (HSH.out _).mono ?_
  rintro e1 w1 ⟨rfl, hb1⟩
  have hw1 := hw0.call hb1
  clear hb1
  go_wp2_with fail
  refine (HWC.out A n c l i w1 (HL.out.bel hw1.out) HMX.out.1 HMX.out.2 HK.out).mono ?_
  rintro e2 w2 ⟨r, cc, hB, v, rfl, ho, hb2⟩
  obtain ⟨A2, d2, rfl, hs2, hn2, hm2⟩ := Sl.own ho
  have HW2 := Lib.hid (hw1.call hb2)
  have HS2 := Lib.hid (And.intro hs2 (And.intro hn2 hm2))
  clear hw0 hw1 ho hs2 hn2 hm2 hb2
  by_cases hcc : cc = 0
  · obtain ⟨hm, k, rfl, hk, hmk, rfl⟩ := woB_ok hB hcc
    have HM := Lib.hid (And.intro hm hmk)
    have HKL := Lib.hid hk
    have hn80 : n ≤ 80 := by rw [← HL.out.1]; exact ((may_iff l).1 hm).1
    have hkn : k < n := by rw [← HL.out.1]; exact hk
    have HLE := Lib.hid (show (l.eraseIdx k).length = n - 1 by rw [List.length_eraseIdx_of_lt hk, HL.out.1])
    subst hcc
    clear hB hm hk hmk
    go_wp2_with fail
    refine (alle_any A n c l w2 (HL.out.bel HW2.out.out)).mono ?_
    rintro e3 w3 ⟨v3, rfl, ho3, hb3⟩
    obtain ⟨A3, d3, rfl, hs3, hn3, hm3⟩ := SlR.own ho3
    have HW3 := Lib.hid (HW2.out.call hb3)
    have HS3 := Lib.hid hs3
    have HS23 := Lib.hid (HS2.out.1.bel hb3)
    rw [HM.out.1]
    clear ho3 hb3 hs3 hn3 hm3
    go_wp2_with fail
    refine (alle_any A2 _ d2 _ w3 HS23.out).mono ?_
    rintro e4 w4 ⟨v4, rfl, ho4, hb4⟩
    obtain ⟨A4, d4, rfl, hs4, hn4, hm4⟩ := SlR.own ho4
    have HW4 := Lib.hid (HW3.out.call hb4)
    have HS34 := Lib.hid (HS3.out.bel (Bel.of hb4))
    have HS4 := Lib.hid hs4
    rw [HM.out.2]
    have HKEY := Lib.hid (fun (j : Nat) (r : Rc) (h : (rcs (l.eraseIdx k))[j]? = some r) => rc_pair HM.out.2 h)
    have HND := Lib.hid (prsA_nodup (racB (l.eraseIdx k)) (l.eraseIdx k).length)
    have HIN := Lib.hid (show ∀ r ∈ rcs l, r.a ≠ k → r.b ≠ k → (dnI k r.a, dnI k r.b) ∈ prsA (racB (l.eraseIdx k)) (l.eraseIdx k).length ∧ r.a < r.b ∧ r.b < n from fun r hr ha hb => by
      rw [rcs_ok HM.out.1] at hr
      unfold rcsA at hr
      obtain ⟨p, hp, rfl⟩ := List.mem_map.1 hr
      obtain ⟨p1, p2, p3⟩ := mem_prsA.1 hp
      exact ⟨mem_prsA.2 ⟨dn_len HKL.out p1 ha, dn_len HKL.out p2 hb, er_rac ha hb p3⟩, (rac_parts p3).1, by rw [← HL.out.1]; exact p2⟩)
    have hlm := rcs_len3 HM.out.2
    have hm6 : (rcs (l.eraseIdx k)).length ≤ 6480 := rcs_small
    have hl6 : (rcs l).length ≤ 6480 := rcs_small
    generalize hps : prsA (racB (l.eraseIdx k)) (l.eraseIdx k).length = ps at *
    have H0 := Lib.hid (FillR.mk (show MapB (w4.alloc (.map #[] 0)) w4.heap.size [] from heap_alloc_new w4 _) (Nat.le_refl _) ((Bel.refl w4).alloc _) : FillR w4 w4.heap.size (ps.take 0) (w4.alloc (.map #[] 0)))
    rw [hlm] at hm6
    rw [hlm]
    have HS4 := Lib.hid (show SlR w4 A4 ps.length (rcs (l.eraseIdx k)) by have := HS4.out; rwa [hlm] at this)
    have HLE2 := HLE.out
    generalize hpl : ps.length = pl at *
    have HPL := Lib.hid hpl
    generalize (rcs l).length = al at *
    rw [HLE2]
    clear ho4 hb4 hs4 hn4 hm4 hps hlm hpl HLE2
    go_wp2
    go_loopw [43] (fun t wr => ∃ j : Nat, j ≤ pl ∧ t = .int .i64 j ∧ FillR w4 w4.heap.size (ps.take j) wr) (fun t _ => pl - (intOf t).toNat)
    case atStart => exact ⟨0, by omega, rfl, H0.out⟩
    case round =>
      obtain ⟨j, hj, rfl, hr⟩ := hrel
      have HR := Lib.hid hr
      clear hr H0
      by_cases hlt : j < pl
      · have hlt' : (j : Int) < pl := by omega
        obtain ⟨bb, off, r, rfl, hbb, hrr, hrg⟩ := HS4.out.at_ hlt
        have hR := Lib.hid (rangeAt_below HR.out.below.out hbb hrg)
        have hp := HKEY.out j r hrr
        have HE := Lib.hid (ptake_snoc hp)
        have HX := Lib.hid (rwld_box wr r 41)
        have HM2 := Lib.hid (HR.out.map.bel (rwld_below wr r 41))
        have HBW := Lib.hid (HR.out.below.trans (rwld_below wr r 41))
        have HNI := Lib.hid (show (r.a, r.b) ∉ ps.take j from fun hin => by
          obtain ⟨q, hq, hje⟩ := List.mem_iff_getElem.1 hin
          rw [List.length_take] at hq
          rw [List.getElem_take] at hje
          obtain ⟨h1a, h1b⟩ := List.getElem?_eq_some_iff.1 hp
          exact List.pairwise_iff_getElem.1 HND.out q j (by omega) h1a (by omega) (by rw [hje, h1b]))
        have c0 := HX.out.cell 0 (v := .int .i64 r.a) rfl
        have c1 := HX.out.cell 1 (v := .int .i64 r.b) rfl
        clear hp hrg hrr
        go_wp2_with (first | (refine load_rc TRc _ rfl rfl rfl hR.out ?_) | (refine rwld_store TRc _ _ rfl rfl _ rfl rfl rfl ?_) | (refine updPr (p := (r.a, r.b)) _ _ _ rfl rfl rfl rfl rfl HM2.out HNI.out ?_))
        go_roundw
        case rel => exact ⟨j + 1, by omega, by go_num, by rw [HE.out]; exact mset_map _ HM2.out.lt, Nat.le_refl _, below_mset HBW.out.out (Nat.le_refl _) _⟩
        case measure => simp [intOf]; omega
      · obtain rfl : j = pl := by omega
        have HMP := Lib.hid (show MapB wr w4.heap.size ps by have := HR.out.map; rwa [← HPL.out, List.take_length] at this)
        have HBW := Lib.hid HR.out.below
        clear HR
        go_wp2
        generalize hwm : wr = wM at *
        clear hwm
        go_loopw [56] (fun t wr => ∃ j : Nat, j ≤ al ∧ t = .int .i64 j ∧ Bel wM wr) (fun t _ => al - (intOf t).toNat)
        case atStart => exact ⟨0, by omega, rfl, Bel.refl _⟩
        case round =>
          obtain ⟨j2, hj2, rfl, hbr⟩ := hrel
          have HB := Lib.hid hbr
          clear hbr
          by_cases hlt2 : j2 < al
          · obtain ⟨bb, off, r, rfl, hbb, hrr, hrg⟩ := (HS34.out.bel (HBW.out.trans HB.out)).at_ hlt2
            have hlt2' : (j2 : Int) < al := by omega
            have hR := Lib.hid hrg
            have HX := Lib.hid (rwld_box wr r 41)
            have HB2 := Lib.hid (HB.out.trans (rwld_below wr r 41))
            have c0 := HX.out.cell 0 (v := .int .i64 r.a) rfl
            have c1 := HX.out.cell 1 (v := .int .i64 r.b) rfl
            have HMEM := Lib.hid (List.mem_of_getElem? hrr)
            clear hrr hrg hbb
            by_cases ha : r.a = k
            · have e1 : ((r.a : Int) == (k : Int)) = true := by simp; omega
              clear ha
              go_wp2_with (first | (refine load_rc TRc _ rfl rfl rfl hR.out ?_) | (refine rwld_store TRc _ _ rfl rfl _ rfl rfl rfl ?_))
              go_roundw
              case rel => exact ⟨j2 + 1, by omega, by go_num, HB2.out⟩
              case measure => simp [intOf]; omega
            · have e1 : ((r.a : Int) == (k : Int)) = false := by simp; omega
              by_cases hb : r.b = k
              · have e2 : ((r.b : Int) == (k : Int)) = true := by simp; omega
                clear ha hb
                go_wp2_with (first | (refine load_rc TRc _ rfl rfl rfl hR.out ?_) | (refine rwld_store TRc _ _ rfl rfl _ rfl rfl rfl ?_))
                go_roundw
                case rel => exact ⟨j2 + 1, by omega, by go_num, HB2.out⟩
                case measure => simp [intOf]; omega
              · have e2 : ((r.b : Int) == (k : Int)) = false := by simp; omega
                obtain ⟨hin, hab, hbn⟩ := HIN.out r HMEM.out ha hb
                have HY0 := pwld_box (rwld wr r 41) (r.a, r.b) 43
                have HB3 := Lib.hid (HB2.out.trans (pwld_below (rwld wr r 41) (r.a, r.b) 43))
                have HGE0 := HB2.out.size
                go_upto_region 19 with (first | (refine load_rc TRc _ rfl rfl rfl hR.out ?_) | (refine rwld_store TRc _ _ rfl rfl _ rfl rfl rfl ?_) | (refine pwld_store (p := (r.a, r.b)) TPr _ _ rfl rfl _ rfl rfl rfl ?_))
                generalize pwld (rwld wr r 41) (r.a, r.b) 43 = wp at *
                generalize (rwld wr r 41).heap.size = X2 at *
                have HY := Lib.hid HY0
                have HGE := Lib.hid HGE0
                have d0 := HY.out.cell 0 (v := .int .i64 r.a) rfl
                have d1 := HY.out.cell 1 (v := .int .i64 r.b) rfl
                have f0 := HY.out.frozen 0
                have f1 := HY.out.frozen 1
                clear HY0 HGE0 c0 c1 e1 e2
                generalize r.a = ra at *
                generalize r.b = rb at *
                by_cases hka : k < ra
                · have hkb : k < rb := by omega
                  have DN1 : dnI k ra = ra - 1 := if_pos hka
                  have DN2 : dnI k rb = rb - 1 := if_pos hkb
                  have hwa : IntKind.i64.wrap ((ra : Int) - 1) = ((ra - 1 : Nat) : Int) := by rw [show ((ra - 1 : Nat) : Int) = (ra : Int) - 1 by omega]; exact IntWalk.i64_in _ (by omega)
                  have hwb : IntKind.i64.wrap ((rb : Int) - 1) = ((rb - 1 : Nat) : Int) := by rw [show ((rb - 1 : Nat) : Int) = (rb : Int) - 1 by omega]; exact IntWalk.i64_in _ (by omega)
                  have HXF := Lib.hid (show Box (World.setCell (World.setCell wp ⟨X2, 0, none⟩ (.int .i64 (ra - 1 : Nat))) ⟨X2, 1, none⟩ (.int .i64 (rb - 1 : Nat))) X2 (prv (ra - 1, rb - 1)) 43 from ((HY.out.set 0 (.int .i64 (ra - 1 : Nat))).set 1 (.int .i64 (rb - 1 : Nat))))
                  have HBF := Lib.hid (show Bel wM (World.setCell (World.setCell wp ⟨X2, 0, none⟩ (.int .i64 (ra - 1 : Nat))) ⟨X2, 1, none⟩ (.int .i64 (rb - 1 : Nat))) from Bel.of ((HB3.out.out.setCell HGE.out _).setCell HGE.out _))
                  have LP : (Instr.lookup 39 (.map (some w4.heap.size)) (.agg (prv (ra - 1, rb - 1))) false).run Try.prog (World.setCell (World.setCell wp ⟨X2, 0, none⟩ (.int .i64 (ra - 1 : Nat))) ⟨X2, 1, none⟩ (.int .i64 (rb - 1 : Nat))) = .ok (.bool true) (World.setCell (World.setCell wp ⟨X2, 0, none⟩ (.int .i64 (ra - 1 : Nat))) ⟨X2, 1, none⟩ (.int .i64 (rb - 1 : Nat))) := (run_look_pr (HMP.out.bel HBF.out) (ra - 1, rb - 1)).trans (by rw [decide_eq_true (by have h := hin; rwa [DN1, DN2] at h)])
                  have d1' : (World.setCell wp ⟨X2, 0, none⟩ (.int .i64 (ra - 1 : Nat))).cell? ⟨X2, 1, none⟩ = some (.int .i64 rb) := (HY.out.set 0 (.int .i64 (ra - 1 : Nat))).cell 1 rfl
                  have f1' : (World.setCell wp ⟨X2, 0, none⟩ (.int .i64 (ra - 1 : Nat))).frozen? ⟨X2, 1, none⟩ = false := (HY.out.set 0 (.int .i64 (ra - 1 : Nat))).frozen 1
                  clear hin ha hb DN1 DN2
                  go_wp2_with (refine loadB _ _ rfl rfl rfl HXF.out TPr ?_)
                  go_roundw
                  case rel => exact ⟨j2 + 1, by omega, by go_num, HBF.out⟩
                  case measure => simp [intOf]; omega
                · have DN1 : dnI k ra = ra := if_neg hka
                  by_cases hkb : k < rb
                  · have DN2 : dnI k rb = rb - 1 := if_pos hkb
                    have hwb : IntKind.i64.wrap ((rb : Int) - 1) = ((rb - 1 : Nat) : Int) := by rw [show ((rb - 1 : Nat) : Int) = (rb : Int) - 1 by omega]; exact IntWalk.i64_in _ (by omega)
                    have HXF := Lib.hid (show Box (World.setCell wp ⟨X2, 1, none⟩ (.int .i64 (rb - 1 : Nat))) X2 (prv (ra, rb - 1)) 43 from (HY.out.set 1 (.int .i64 (rb - 1 : Nat))))
                    have HBF := Lib.hid (show Bel wM (World.setCell wp ⟨X2, 1, none⟩ (.int .i64 (rb - 1 : Nat))) from Bel.of (HB3.out.out.setCell HGE.out _))
                    have LP : (Instr.lookup 39 (.map (some w4.heap.size)) (.agg (prv (ra, rb - 1))) false).run Try.prog (World.setCell wp ⟨X2, 1, none⟩ (.int .i64 (rb - 1 : Nat))) = .ok (.bool true) (World.setCell wp ⟨X2, 1, none⟩ (.int .i64 (rb - 1 : Nat))) := (run_look_pr (HMP.out.bel HBF.out) (ra, rb - 1)).trans (by rw [decide_eq_true (by have h := hin; rwa [DN1, DN2] at h)])
                    clear hin ha hb DN1 DN2
                    go_wp2_with (refine loadB _ _ rfl rfl rfl HXF.out TPr ?_)
                    go_roundw
                    case rel => exact ⟨j2 + 1, by omega, by go_num, HBF.out⟩
                    case measure => simp [intOf]; omega
                  · have DN2 : dnI k rb = rb := if_neg hkb
                    have HXF := Lib.hid (show Box wp X2 (prv (ra, rb)) 43 from HY.out)
                    have HBF := Lib.hid HB3.out
                    have LP : (Instr.lookup 39 (.map (some w4.heap.size)) (.agg (prv (ra, rb))) false).run Try.prog wp = .ok (.bool true) wp := (run_look_pr (HMP.out.bel HBF.out) (ra, rb)).trans (by rw [decide_eq_true (by have h := hin; rwa [DN1, DN2] at h)])
                    clear hin ha hb DN1 DN2
                    go_wp2_with (refine loadB _ _ rfl rfl rfl HXF.out TPr ?_)
                    go_roundw
                    case rel => exact ⟨j2 + 1, by omega, by go_num, HBF.out⟩
                    case measure => simp [intOf]; omega
          · obtain rfl : j2 = al := by omega
            have hfin : (((n - 1 : Nat) : Int) == (n : Int) - 1) = true := by simp; omega
            have hwn : IntKind.i64.wrap ((n : Int) - 1) = (n : Int) - 1 := IntWalk.i64_in _ (by omega)
            go_wp2
            go_ret
            exact ⟨rfl, ((HW4.out.trans HBW.out).trans HB.out).out⟩
  · have hr := woB_no hB hcc
    subst hr
    have h9 : (cc != 0) = true := by simpa using hcc
    clear hB hcc
    go_wp2
    go_ret
    exact ⟨rfl, HW2.out.out⟩
theorem walk (W : World) (A : Option Addr) (n c : Nat) (l : List Ev) (s : Sl W A n l) (m : n ≤ c) (x : c ≤ maxLen) (_g : ∀ e ∈ l, EvOk e) (i : Int) (ki : In64 i) :
    Calls Try.prog 8 #[.slice A n c, .int .i64 i] W fun e w' => e = .returned (.bool true) ∧ Below W.heap.size W w' := walkH without_any min_any W A n c l s m x _g i ki
set_option maxRecDepth 100000 in
theorem lifted (os : Os) (started : os.Started) (H : Type) (enc : TypeId × Value → H) :
    ReturnsInHanded {} Try.checked os 8 .any (Rows.shrinkFewerSpec.pre6 enc Try.prog Try.f8 Rows.shrinkFewerRow.domain false) (Rows.shrinkFewerSpec.post enc Try.prog Try.f8 false true false false) := by
  refine returnsInHanded_of_change_sized (C := Try.checked) own started (by kernel_rfl) Try.func8
    (ChangeSpec.witness6 (enc := enc) (C := Try.checked) false ⟨#[], #[.slice none 0 0, .int .i64 0], []⟩ 8 (by kernel_rfl) (by kernel_rfl) (by kernel_rfl) (by kernel_rfl)) ?_
  intro W base args ds gs before hval0 hW hcnd hsz0 _
  have hsz : (DataW.weightsEach Try.prog (Try.f8.params.toList ++ Rows.shrinkFewerSpec.plain.varTypes Try.prog) (ds ++ gs)).all (· ≤ reachBytes) = true := hsz0
  clear hsz0
  have hval : ∀ (j : Nat) t v, Try.f8.params[j]? = some t → args[j]? = some v → Value.okWide Try.prog W .any base t v := hval0
  have hW' := hW
  obtain ⟨p, q, hA0, hV, rfl, hfz, hnd⟩ := hW
  have hA : DataW.TrodAll enc Try.prog W 0 (fun _ => true) true Try.f8.params.toList args.toList ds p := hA0
  rw [Try.params8] at hA hval hsz
  obtain ⟨v0, vs0, d0, ds0, p0, q0, hargs, rfl, rfl, h0, r0⟩ := trodAll_cons hA
  obtain ⟨v1, vs1, d1, ds1, p1, q1, rfl, rfl, rfl, h1, r1⟩ := trodAll_cons r0
  obtain ⟨rfl, rfl, rfl⟩ := trodAll_nil r1
  obtain rfl : args = #[v0, v1] := by cases args; simp_all
  obtain ⟨rfl, rfl⟩ := trodVars_none hV
  have t0 := h0
  have lt0 : ∀ x ∈ p0, x.block < W.heap.size := by obtain ⟨m, hm⟩ := t0; exact DataW.trod_lt m _ _ _ hm
  have t1 := h1
  have lt1 : ∀ x ∈ p1, x.block < W.heap.size := by obtain ⟨m, hm⟩ := t1; exact DataW.trod_lt m _ _ _ hm
  obtain ⟨A0, n0, c0, l0, rfl, s0, m0, x0, g0, z0⟩ := open_evs Try.underlying22 Try.underlying29 ⟨rfl, rfl, rfl⟩ (by kernel_rfl) (by kernel_rfl) Try.underlying3 (hval 0 22 v0 rfl rfl) h0
  have y0 := reach_sl hsz (j := 0) rfl rfl Try.underlying22 (b := 24) (by kernel_rfl) z0
  obtain ⟨a1, rfl, _, _, x1⟩ := open_int Try.underlying3 (hval 1 3 v1 rfl rfl) h1
  have k1 := in64_of x1
  clear hA0 hval0
  refine (walk W A0 n0 c0 l0 s0 m0 x0 g0 a1 k1).mono fun e W' ⟨he, bel⟩ => ?_
  subst he
  exact ⟨_, rfl, _, _, _, [], _, [], hW', trodAll_mk1 (shut_bool Try.underlying4 _), (trodAll_cons_mk (Below.trod laidOut (by kernel_rfl) (of_decide_eq_true (by kernel_rfl)) t0 bel lt0) (trodAll_cons_mk (Below.trod laidOut (by kernel_rfl) (of_decide_eq_true (by kernel_rfl)) t1 bel lt1) trodAll_mk0)), rfl, bel.frame _, fun h => by cases h⟩

theorem over : Rows.shrinkFewerRow.holds Try.pinned (OpenSpec.ofChange Rows.shrinkFewerSpec) :=
  OpenClaim.holds_of_wide 8 Try.f8 rfl rfl rfl rfl rfl rfl rfl ⟨rfl, rfl, rfl, rfl, rfl⟩ rfl rfl rfl rfl rfl (by kernel_rfl) Try.func8 (by kernel_rfl)
    (of_decide_eq_true (by kernel_rfl)) (by unfold Func.isWrapper; first | (rw [if_pos (by decide +kernel)]; kernel_rfl) | (rw [if_neg (by decide +kernel)]; exact ⟨rfl, rfl⟩))
    (fun os started H enc _ => lifted os started H enc)

theorem proved : Rows.ShrinkFewerSaid := over
#print axioms proved
end Go.Proofs.Ytmdpegljpdjfoaa.LShrinkFewer

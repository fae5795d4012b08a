/- 'deadheatkeep.OrderSteps' returns true for every input and leaves its arguments as they are. No condition. -/
import Derived.Test.YtkkiflhnjpmalaaOpenTr
import Derived.Test.YtkkiflhnjpmalaaKeepOr
set_option linter.all false
set_option maxRecDepth 100000
namespace Go.Proofs.Ytkkiflhnjpmalaa.LOrderSteps
open Go Go.ChangeShapes Go.WideShapes Go.ChangeAt Go.RowKit

def stepK (l : List Ev) (p : Nat × Nat) (k : Nat) : Bool := dirB l p.1 p.2 || (List.range k).any fun d => dirB l p.1 d && bef l d p.2
theorem stepK_zero (l : List Ev) (p : Nat × Nat) : stepK l p 0 = dirB l p.1 p.2 := by simp [stepK]
theorem stepK_succ (l : List Ev) (p : Nat × Nat) (k : Nat) : stepK l p (k + 1) = (stepK l p k || (dirB l p.1 k && bef l k p.2)) := by
  simp [stepK, List.range_succ, Bool.or_assoc]
theorem stepK_all {l : List Ev} {p : Nat × Nat} (h : bef l p.1 p.2 = true) : stepK l p l.length = true := by
  unfold stepK
  rcases bef_step h with h1 | ⟨m, h1, h2⟩
  · rw [h1]; rfl
  · have : ((List.range l.length).any fun d => dirB l p.1 d && bef l d p.2) = true := by
      rw [List.any_eq_true]
      exact ⟨m, by have := dirB_lt h1; simpa using this.2, by rw [h1, h2]; rfl⟩
    rw [this, Bool.or_true]
theorem mem_dir (l : List Ev) (a b : Nat) : decide ((a, b) ∈ prsA (dirB l) l.length) = dirB l a b := by
  rw [Bool.eq_iff_iff, decide_eq_true_iff, mem_prsA]
  exact ⟨fun h => h.2.2, fun h => ⟨by have := dirB_lt h; omega, (dirB_lt h).2, h⟩⟩
theorem look_dir {w : World} {B : Nat} {l : List Ev} (h : MapB w B (prsA (dirB l) l.length)) (a b : Nat) :
    (Instr.lookup 42 (.map (some B)) (.agg #[.int .i64 a, .int .i64 b]) false).run Try.prog w = .ok (.bool (dirB l a b)) w := by
  rw [← mem_dir]; exact run_look_pr h (a, b)
set_option maxHeartbeats 16000000 in
theorem walk (W : World) (A : Option Addr) (n c : Nat) (l : List Ev) (s : Sl W A n l) (m : n ≤ c) (x : c ≤ maxLen) (g : ∀ e ∈ l, EvOk e) :
    Calls Try.prog 11 #[.slice A n c] W fun e w' => e = .returned (.bool true) ∧ Below W.heap.size W w' := by
  unfold maxLen at x
  have hw0 : Bel W W := Bel.refl _
  have HL := Lib.hid s
  have HN := Lib.hid s.1
  clear s g
  cases h1 : (may l == 0)
  · have HPD := Lib.hid (prOf_no (R := dirB) (show may l ≠ 0 by simpa using h1))
    have h2 : (may l != 0) = true := by simpa using h1
    go_enter Try.func11, Try.ntmps11
    go_wp2_with fail
    refine (ordered_any _).mono ?_
    rintro e1 w1 ⟨rfl, hb1⟩
    have hw1 := hw0.call hb1
    clear hb1
    go_wp2_with fail
    refine (direct_any A n c l _ (HL.out.bel hw1)).mono ?_
    rintro e2 w2 ⟨v2, rfl, hown2, hb2⟩
    have hw2 := hw1.call hb2
    clear hb2
    rw [HPD.out] at hown2
    obtain ⟨A2, c2, rfl, hs2, hn2, hm2⟩ := SlP.own hown2
    clear hown2 hs2 hn2 hm2
    go_wp2_with fail
    refine (may_any A n c l _ (HL.out.bel hw2)).mono ?_
    rintro e3 w3 ⟨rfl, hb3⟩
    have hw3 := hw2.call hb3
    clear hb3
    go_wp2
    go_ret
    exact ⟨rfl, hw3⟩
  · have hm := eq_of_beq h1
    have HM := Lib.hid hm
    have HPD := Lib.hid (prOf_ok (R := dirB) hm rfl)
    have hmm := @run_makeMap Try.prog
    have hln : (prsA (dirB l) l.length).length ≤ 6480 := prs_small ((may_iff l).1 hm).1 (Nat.le_refl _) (Nat.zero_le _)
    have hn80 : n ≤ 80 := by rw [← HN.out]; exact ((may_iff l).1 hm).1
    have HND := Lib.hid (prsA_nodup (dirB l) l.length)
    clear hm
    go_enter Try.func11, Try.ntmps11
    go_wp2_with fail
    refine (ordered_any _).mono ?_
    rintro e1 w1 ⟨rfl, hb1⟩
    have hw1 := hw0.call hb1
    clear hb1
    go_wp2_with fail
    refine (direct_any A n c l _ (HL.out.bel hw1)).mono ?_
    rintro e2 w2 ⟨v2, rfl, hown2, hb2⟩
    have hw2 := hw1.call hb2
    clear hb2
    rw [HPD.out] at hown2
    rw [HM.out]
    have HDB := Lib.hid (fun (p : Nat × Nat) (h : p ∈ prsA (dirB l) l.length) => (dir_bef (mem_prsA.1 h).2.2))
    have HDK := Lib.hid (fun (w : World) (D : Nat) (h : MapB w D (prsA (dirB l) l.length)) (a b : Nat) => look_dir h a b)
    generalize prsA (dirB l) l.length = ds at *
    obtain ⟨A2, c2, rfl, hs2, hn2, hm2⟩ := SlP.own hown2
    have HS2 := Lib.hid hs2
    generalize hdl : ds.length = m2 at *
    clear hs2 hown2 hn2 hm2 hdl
    go_wp2_with fail
    refine (kahead_any A n c l _ (HL.out.bel hw2) HM.out).mono ?_
    rintro e3 w3 ⟨B, rfl, hmap, hb3⟩
    have HW3 := Lib.hid (hw2.call hb3)
    have HS3 := Lib.hid (HS2.out.bel hb3)
    have HIN := Lib.hid (fun (p : Nat × Nat) (h : p ∈ prsA (bef l) l.length) => (mem_prsA.1 h).2.2)
    have HLK := Lib.hid (fun (w : World) (h : MapB w B (prsA (bef l) l.length)) (a b : Nat) => look_bef h a b)
    have HME := Lib.hid (fun (p : Nat × Nat) (h : bef l p.1 p.2 = true) => (mem_prsA.2 ⟨by have := bef_lt h; omega, (bef_lt h).2, h⟩ : p ∈ prsA (bef l) l.length))
    generalize prsA (bef l) l.length = ps at *
    have HMAP := Lib.hid hmap
    have H0 := Lib.hid (show MapB (w3.alloc (.map #[] 0)) w3.heap.size (ds.take 0) from heap_alloc_new w3 _)
    have HB0 := Lib.hid ((Bel.refl w3).alloc (.map #[] 0))
    clear hmap hb3 hw2 hw1 hw0 HS2
    go_wp2
    go_loopw [34] (fun t34 wr => ∃ i : Nat, i ≤ m2 ∧ t34 = .int .i64 i ∧ MapB wr w3.heap.size (ds.take i) ∧ Bel w3 wr) (fun t34 _ => m2 - (intOf t34).toNat)
    case atStart => exact ⟨0, by omega, rfl, H0.out, HB0.out⟩
    case round =>
      obtain ⟨i, hi, rfl, hmr, hbr⟩ := hrel
      have HMR := Lib.hid hmr
      have HB := Lib.hid hbr
      clear hmr hbr H0 HB0
      by_cases hlt : i < m2
      · have hlt' : (i : Int) < m2 := by omega
        obtain ⟨bb, off, p, rfl, hbb, hp, hrg⟩ := HS3.out.at_ hlt
        have hR := Lib.hid (rangeAt_below HB.out.out hbb hrg)
        have HE := Lib.hid (ptake_snoc hp)
        have hX := pwld_box wr p 45
        have HX := Lib.hid hX
        have hM2 := HMR.out.bel (pwld_below wr p 45)
        have HM2 := Lib.hid hM2
        have HBW := Lib.hid (HB.out.trans (pwld_below wr p 45))
        have HNI := Lib.hid (show p ∉ ds.take i from fun hin => by
          obtain ⟨j, hj, hje⟩ := List.mem_iff_getElem.1 hin
          rw [List.length_take] at hj
          rw [List.getElem_take] at hje
          obtain ⟨h1a, h1b⟩ := List.getElem?_eq_some_iff.1 hp
          exact List.pairwise_iff_getElem.1 HND.out j i (by omega) h1a (by omega) (by rw [hje, h1b]))
        have hB6 : Bel w3 (mset (pwld wr p 45) w3.heap.size (ds.take i ++ [p])) := below_mset HBW.out.out (Nat.le_refl _) _
        have HB6 := Lib.hid hB6
        have HX6 := Lib.hid (show Box (mset (pwld wr p 45) w3.heap.size (ds.take i ++ [p])) wr.heap.size (prv p) 45 from
          (mset_other _ _ _ (by have := HMR.out.lt; omega)).trans hX)
        have L1 := run_look_pr (HMAP.out.bel hB6) p
        rw [decide_eq_true (show p ∈ ps from by
          exact HME.out p (HDB.out p (List.mem_of_getElem? hp)))] at L1
        clear hp hrg hX hM2 hB6
        go_wp2_with (first | (refine load_pr TPr _ rfl rfl rfl hR.out ?_) | (refine pwld_store TPr _ _ rfl rfl _ rfl rfl rfl ?_) | (refine loadB _ _ rfl rfl rfl HX.out TPr ?_) | (refine updPr _ _ _ rfl rfl rfl rfl rfl HM2.out HNI.out ?_) | (refine loadB _ _ rfl rfl rfl HX6.out TPr ?_))
        go_roundw
        case rel => exact ⟨i + 1, by omega, by go_num, by rw [HE.out]; exact mset_map _ HM2.out.lt, HB6.out⟩
        case measure => simp [intOf]; omega
      · obtain rfl : i = m2 := by omega
        have HDM := Lib.hid (show MapB wr w3.heap.size ds by have := HMR.out; rw [ptake_all HS3.out] at this; exact this)
        have HBM := Lib.hid (HMAP.out.bel HB.out)
        have H1 := Lib.hid (show Itr (wr.alloc (.mapIter (some B) ps.length #[] ps.length)) wr.heap.size B (prM ps) ps.length #[] from ⟨heap_alloc_new wr _, (heap_alloc_old _ _ HBM.out.lt).trans HBM.out⟩)
        have HB1 := Lib.hid ((Bel.refl wr).alloc (.mapIter (some B) ps.length #[] ps.length))
        have HWR := Lib.hid (HW3.out.trans HB.out)
        go_wp2_with (refine rangeNew Try.underlying42 _ rfl rfl rfl HBM.out ?_)
        go_frame
        go_loopw [47] (fun _ wr1 => ∃ seen, Itr wr1 wr.heap.size B (prM ps) ps.length seen ∧ Bel wr wr1) (fun _ wr1 => wr1.rangeLeft B wr.heap.size)
        case atStart => exact ⟨#[], H1.out, HB1.out⟩
        case round =>
          obtain ⟨seen, hI, hbr⟩ := hrel
          have HI := Lib.hid hI
          have HB2 := Lib.hid hbr
          clear hI hbr H1 HB1
          go_wp2_with (refine nextMap _ rfl rfl rfl HI.out (prM_old ps) ?_ ?_)
          · intro hall
            have HS := Lib.hid (HWR.out.trans HB2.out)
            clear hall
            go_wp2
            go_ret
            exact ⟨rfl, HS.out⟩
          · intro e kv vv w4 he hkv hvv hI2 hg hlt
            obtain ⟨p, b, rfl, hp⟩ := prM_in he
            obtain rfl : Value.agg (prv p) = kv := hkv
            obtain rfl : Value.bool true = vv := hvv
            have HE := Lib.hid he
            have HI2 := Lib.hid hI2
            have HLT := Lib.hid hlt
            have HB4 := Lib.hid (Bel.of (HB2.out.out.grown hg HB2.out.size (by intro j hj; cases hj; exact Nat.le_refl _)))
            have HP := Lib.hid (HIN.out p hp)
            have hX := pwld_box w4 p 45
            have HX := Lib.hid hX
            have HG5 := Lib.hid (pwld_below w4 p 45)
            have HC := Lib.hid (And.intro (hX.cell 0 (v := .int .i64 p.1) rfl) (hX.cell 1 (v := .int .i64 p.2) rfl))
            have L0 : (Instr.lookup 42 (.map (some w3.heap.size)) (.agg (prv p)) false).run Try.prog (pwld w4 p 45) = .ok (.bool (dirB l p.1 p.2)) (pwld w4 p 45) := HDK.out _ _ (HDM.out.bel (HB4.out.trans HG5.out)) p.1 p.2
            have HST := Lib.hid (show stepK l p n = true by rw [← HN.out]; exact stepK_all HP.out)
            clear he hI2 hlt hg hp hX
            go_wp2_with (first | (refine entryMap _ rfl rfl rfl HI2.out HE.out (prM_nodup ps) (kv := .agg (prv p)) (vv := .bool true) rfl rfl ?_) | (refine pwld_store TPr _ _ rfl rfl _ rfl rfl rfl ?_) | (refine loadB _ _ rfl rfl rfl HX.out TPr ?_))
            clear L0
            go_loopw [10, 56] (fun t10 t56 wr2 => ∃ k : Nat, k ≤ n ∧ t56 = .int .i64 k ∧ t10 = .bool (stepK l p k) ∧ Bel (pwld w4 p 45) wr2) (fun _ t56 _ => n - (intOf t56).toNat)
            case atStart => exact ⟨0, by omega, rfl, by rw [stepK_zero], Bel.refl _⟩
            case round =>
              obtain ⟨k, hk, rfl, rfl, hbr⟩ := hrel
              have HB5 := Lib.hid hbr
              clear hbr
              by_cases hlk : k < n
              · have hlk' : (k : Int) < n := by omega
                have c0 := HB5.out.cell HC.out.1
                have c1 := HB5.out.cell HC.out.2
                have hbw := HB4.out.trans (HG5.out.trans HB5.out)
                have LD := HDK.out _ _ (HDM.out.bel hbw) p.1 k
                have LB := HLK.out _ (HBM.out.bel hbw) k p.2
                have HV := Lib.hid (stepK_succ l p k)
                clear hbw
                cases hs : stepK l p k
                · rw [hs] at HV
                  cases hd : dirB l p.1 k
                  · rw [hd] at LD HV
                    clear LB
                    go_wp2
                    go_roundw
                    case rel => exact ⟨k + 1, by omega, by go_num, by rw [HV.out]; rfl, HB5.out⟩
                    case measure => simp [intOf]; omega
                  · rw [hd] at LD HV
                    go_wp2
                    go_roundw
                    case rel => exact ⟨k + 1, by omega, by go_num, by rw [HV.out]; rfl, HB5.out⟩
                    case measure => simp [intOf]; omega
                · rw [hs] at HV
                  clear LD LB
                  go_wp2
                  go_roundw
                  case rel => exact ⟨k + 1, by omega, by go_num, by rw [HV.out]; rfl, HB5.out⟩
                  case measure => simp [intOf]; omega
              · obtain rfl : k = n := by omega
                have HI5 := Lib.hid (HI2.out.grown (HG5.out.trans HB5.out))
                have HBF := Lib.hid (HB4.out.trans (HG5.out.trans HB5.out))
                rw [HST.out]
                go_wp2
                go_roundw
                case rel => exact ⟨_, HI5.out, HBF.out⟩
                case measure =>
                  rw [HI5.out.left, HI.out.left]; exact HLT.out

set_option maxRecDepth 100000 in
theorem lifted (os : Os) (started : os.Started) (H : Type) (enc : TypeId × Value → H) :
    ReturnsInHanded {} Try.checked os 11 .any (Rows.orderStepsSpec.pre6 enc Try.prog Try.f11 Rows.orderStepsRow.domain false) (Rows.orderStepsSpec.post enc Try.prog Try.f11 false true false false) := by
  refine returnsInHanded_of_change_sized (C := Try.checked) own started (by kernel_rfl) Try.func11
    (ChangeSpec.witness6 (enc := enc) (C := Try.checked) false ⟨#[], #[.slice none 0 0], []⟩ 8 (by kernel_rfl) (by kernel_rfl) (by kernel_rfl) (by kernel_rfl)) ?_
  intro W base args ds gs before hval0 hW hcnd hsz0 _
  have hsz : (DataW.weightsEach Try.prog (Try.f11.params.toList ++ Rows.orderStepsSpec.plain.varTypes Try.prog) (ds ++ gs)).all (· ≤ reachBytes) = true := hsz0
  clear hsz0
  have hval : ∀ (j : Nat) t v, Try.f11.params[j]? = some t → args[j]? = some v → Value.okWide Try.prog W .any base t v := hval0
  have hW' := hW
  obtain ⟨p, q, hA0, hV, rfl, hfz, hnd⟩ := hW
  have hA : DataW.TrodAll enc Try.prog W 0 (fun _ => true) true Try.f11.params.toList args.toList ds p := hA0
  rw [Try.params11] at hA hval hsz
  obtain ⟨v0, vs0, d0, ds0, p0, q0, hargs, rfl, rfl, h0, r0⟩ := trodAll_cons hA
  obtain ⟨rfl, rfl, rfl⟩ := trodAll_nil r0
  obtain rfl : args = #[v0] := by cases args; simp_all
  obtain ⟨rfl, rfl⟩ := trodVars_none hV
  have t0 := h0
  have lt0 : ∀ x ∈ p0, x.block < W.heap.size := by obtain ⟨m, hm⟩ := t0; exact DataW.trod_lt m _ _ _ hm
  obtain ⟨A0, n0, c0, l0, rfl, s0, m0, x0, g0, z0⟩ := open_evs Try.underlying22 Try.underlying30 ⟨rfl, rfl, rfl⟩ (by kernel_rfl) (by kernel_rfl) Try.underlying3 (hval 0 22 v0 rfl rfl) h0
  have y0 := reach_sl hsz (j := 0) rfl rfl Try.underlying22 (b := 24) (by kernel_rfl) z0
  clear hA0 hval0
  refine (walk W A0 n0 c0 l0 s0 m0 x0 g0).mono fun e W' ⟨he, bel⟩ => ?_
  subst he
  exact ⟨_, rfl, _, _, _, [], _, [], hW', trodAll_mk1 (shut_bool Try.underlying4 _), (trodAll_cons_mk (Below.trod laidOut (by kernel_rfl) (of_decide_eq_true (by kernel_rfl)) t0 bel lt0) trodAll_mk0), rfl, bel.frame _, fun h => by cases h⟩

theorem over : Rows.orderStepsRow.holds Try.pinned (OpenSpec.ofChange Rows.orderStepsSpec) :=
  OpenClaim.holds_of_wide 11 Try.f11 rfl rfl rfl rfl rfl rfl rfl ⟨rfl, rfl, rfl, rfl, rfl⟩ rfl rfl rfl rfl rfl (by kernel_rfl) Try.func11 (by kernel_rfl)
    (of_decide_eq_true (by kernel_rfl)) (by unfold Func.isWrapper; first | (rw [if_pos (by decide +kernel)]; kernel_rfl) | (rw [if_neg (by decide +kernel)]; exact ⟨rfl, rfl⟩))
    (fun os started H enc _ => lifted os started H enc)

theorem proved : Rows.OrderStepsSaid := over
#print axioms proved
end Go.Proofs.Ytkkiflhnjpmalaa.LOrderSteps

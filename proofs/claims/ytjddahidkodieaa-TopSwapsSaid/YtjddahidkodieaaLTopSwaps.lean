/- 'deadheattop.TopSwaps' returns true for every input and leaves its arguments as they are. No condition. -/
import Derived.Test.YtjddahidkodieaaOpen
import Derived.Test.YtjddahidkodieaaOpenInts
import Derived.Test.YtjddahidkodieaaKeepTp
import Derived.Test.YtjddahidkodieaaSwS
import Derived.Test.YtjddahidkodieaaRcd
set_option linter.all false
set_option maxRecDepth 100000
namespace Go.Proofs.Ytjddahidkodieaa.LTopSwaps
open Go Go.ChangeShapes Go.WideShapes Go.ChangeAt Go.RowKit

theorem T4 : RowTy Try.prog 41 4 := ⟨_, Try.underlying41, rfl, by kernel_rfl⟩
/-- Two names, as four numbers. -/
def r4 (p : Q4) : Rc := ⟨p.1.1, p.1.2, (p.2.1 : Nat), (p.2.2 : Nat)⟩
theorem r4_v (p : Q4) : rcv (r4 p) = qv p := rfl
theorem qM_size (ps : List Q4) : (qM ps).size = ps.length := by
  unfold qM
  rw [List.size_toArray]
  generalize 0 = k
  induction ps generalizing k with
  | nil => rfl
  | cons q ps ih => simp only [entsQ, List.length_cons, ih]
theorem run_len_q {w : World} {B : Nat} {ps : List Q4} (h : MapQ w B ps) (ty : TypeId) : (Builtin.len_ #[31] ty #[.map (some B)]).run Try.prog w = .ok (.int .i64 (ps.length : Nat)) w := by
  simp [Builtin.len_, run_underlying Try.underlying31, MapKept.run_getObj_map h, goInt, qM_size]
def SwR (w : World) (l : List Ev) (n : Nat) (v : Value) (wr : World) : Prop := ∃ m A d, v = .slice A n d ∧ Eqv l m ∧ Sl wr A n m ∧ n ≤ d ∧ d ≤ maxLen ∧ Bel w wr
set_option maxHeartbeats 16000000 in
theorem walk (W : World) (A : Option Addr) (n c : Nat) (l : List Ev) (s : Sl W A n l) (m : n ≤ c) (x : c ≤ maxLen) (_g : ∀ e ∈ l, EvOk e)
    (B : Option Addr) (nb d : Nat) (js : List Int) (sj : SI W B nb js) (mj : nb ≤ d) (xj : d ≤ maxLen) (gj : ∀ x ∈ js, In64 x) :
    Calls Try.prog 3 #[.slice A n c, .slice B nb d] W fun e w' => e = .returned (.bool true) ∧ Below W.heap.size W w' := by
  have hw0 : Bel W W := Bel.refl _
  have HSC := swap_any
  unfold SwapC at HSC
  have HSC := Lib.hid HSC
  have HL := Lib.hid s
  have HMX := Lib.hid (And.intro m x)
  have HJ := Lib.hid sj
  have HMJ := Lib.hid (And.intro mj xj)
  have H64 := Lib.hid gj
  have HML := Lib.hid (show (check l).2 = may l from rfl)
  unfold maxLen at xj
  clear s m x sj gj
  go_enter Try.func3, Try.ntmps3
  go_wp2_with fail
  refine (works_any _).mono ?_
  rintro e1 w1 ⟨rfl, hb1⟩
  have hw1 := hw0.call hb1
  clear hb1
  go_wp2_with fail
  refine (check_any A n c l _ (HL.out.bel hw1.out)).mono ?_
  rintro e2 w2 ⟨rfl, hb2⟩
  rw [HML.out]
  have HW2 := Lib.hid (hw1.call hb2)
  clear hw0 hw1 hb2
  cases h1 : (may l != 0)
  · have hm : may l = 0 := by simpa using h1
    have HM := Lib.hid hm
    have hn80 : n ≤ 80 := by rw [← HL.out.1]; exact ((may_iff l).1 hm).1
    have H0 := Lib.hid (show SwR w2 l n (.slice A n c) w2 from ⟨l, A, c, rfl, .refl _, HL.out.bel HW2.out.out, HMX.out.1, HMX.out.2, Bel.refl _⟩)
    clear hm
    go_wp2
    go_loopw [7, 28] (fun v t wr => ∃ j : Nat, j ≤ nb ∧ t = .int .i64 j ∧ SwR w2 l n v wr) (fun _ t _ => nb - (intOf t).toNat)
    case atStart => exact ⟨0, by omega, rfl, H0.out⟩
    case round =>
      obtain ⟨j, hj, rfl, m, A1, d1, rfl, he, hs, hn1, hd1, hb⟩ := hrel
      have HE := Lib.hid he
      have HSl := Lib.hid hs
      have HD := Lib.hid (And.intro hn1 hd1)
      have HB := Lib.hid hb
      clear he hs hd1 hb H0
      by_cases hlt : j < nb
      · obtain ⟨b, o, rfl, hcell⟩ := HJ.out.2 (by omega)
        have cj := (HW2.out.trans HB.out).cell (hcell j hlt)
        have hx64 : In64 (js[j]?.getD 0) := H64.out _ (by
          have h1 : j < js.length := by rw [HJ.out.1]; exact hlt
          rw [List.getElem?_eq_getElem h1]; exact List.getElem_mem h1)
        generalize js[j]?.getD 0 = x at *
        have hlt' : (j : Int) < nb := by omega
        have HX := Lib.hid hx64
        have hw1 : IntKind.i64.wrap ((n : Int) - 1) = (n : Int) - 1 := IntWalk.i64_in _ (by omega)
        clear hcell hx64
        by_cases hmx : (1 : Int) < (n : Int) - 1
        · have HP := Lib.hid (HSC.out A1 n d1 m (x % ((n : Int) - 1)) wr HSl.out HD.out.1 HD.out.2 (by unfold In64; have := Int.emod_nonneg x (show (((n : Int) - 1) : Int) ≠ 0 by omega); have := Int.emod_lt_of_pos x (show (0 : Int) < ((n : Int) - 1) by omega); omega))
          go_wp2_with fail
          rw [show max (1 : Int) ((n : Int) - 1) = (n : Int) - 1 by omega]
          refine (rest_any x ((n : Int) - 1) HX.out (by omega) (by omega) _).mono ?_
          rintro e w' ⟨rfl, rfl⟩
          go_wp2_with fail
          refine HP.out.mono ?_
          rintro e w6 ⟨r, cc, hB, A2, n2, d2, rfl, hs2, hn2, hd2, hb2⟩
          have HB2 := Lib.hid (HB.out.call hb2)
          by_cases hcc : cc = 0
          · obtain ⟨_, k, _, hat⟩ := swB_ok hB hcc
            have HE2 := Lib.hid (Eqv.step HE.out hat.sw)
            have hn2' : n2 = n := by rw [← hs2.1, ← hat.sw.length, HSl.out.1]
            subst hn2'
            have HS2 := Lib.hid hs2
            have HD2 := Lib.hid (And.intro hn2 hd2)
            clear hB hs2 hn2 hd2 hb2 hat
            subst hcc
            go_wp2
            go_roundw
            case rel => exact ⟨j + 1, by omega, by go_num, r, A2, d2, rfl, HE2.out, HS2.out, HD2.out.1, HD2.out.2, HB2.out⟩
            case measure => simp [intOf]; omega
          · have hcc' : (cc == 0) = false := by simpa using hcc
            have HS2 := Lib.hid (HSl.out.bel (Bel.of hb2))
            clear hB hs2 hn2 hd2 hb2
            go_wp2
            go_roundw
            case rel => exact ⟨j + 1, by omega, by go_num, m, A1, d1, rfl, HE.out, HS2.out, HD.out.1, HD.out.2, HB2.out⟩
            case measure => simp [intOf]; omega
        · have HP := Lib.hid (HSC.out A1 n d1 m 0 wr HSl.out HD.out.1 HD.out.2 (by unfold In64; omega))
          have HRT := Lib.hid (show ∀ w, Calls Try.prog 13 #[.int .i64 x, .int .i64 1] w fun e w' => e = .returned (.int .i64 0) ∧ w = w' from fun w => by
            have h9 := rest_any x 1 HX.out (by omega) (by omega) w
            rwa [Int.emod_one] at h9)
          go_wp2_with fail
          rw [show max (1 : Int) ((n : Int) - 1) = 1 by omega]
          refine (HRT.out _).mono ?_
          rintro e w' ⟨rfl, rfl⟩
          go_wp2_with fail
          refine HP.out.mono ?_
          rintro e w6 ⟨r, cc, hB, A2, n2, d2, rfl, hs2, hn2, hd2, hb2⟩
          have HB2 := Lib.hid (HB.out.call hb2)
          by_cases hcc : cc = 0
          · obtain ⟨_, k, _, hat⟩ := swB_ok hB hcc
            have HE2 := Lib.hid (Eqv.step HE.out hat.sw)
            have hn2' : n2 = n := by rw [← hs2.1, ← hat.sw.length, HSl.out.1]
            subst hn2'
            have HS2 := Lib.hid hs2
            have HD2 := Lib.hid (And.intro hn2 hd2)
            clear hB hs2 hn2 hd2 hb2 hat
            subst hcc
            go_wp2
            go_roundw
            case rel => exact ⟨j + 1, by omega, by go_num, r, A2, d2, rfl, HE2.out, HS2.out, HD2.out.1, HD2.out.2, HB2.out⟩
            case measure => simp [intOf]; omega
          · have hcc' : (cc == 0) = false := by simpa using hcc
            have HS2 := Lib.hid (HSl.out.bel (Bel.of hb2))
            clear hB hs2 hn2 hd2 hb2
            go_wp2
            go_roundw
            case rel => exact ⟨j + 1, by omega, by go_num, m, A1, d1, rfl, HE.out, HS2.out, HD.out.1, HD.out.2, HB2.out⟩
            case measure => simp [intOf]; omega
      · obtain rfl : j = nb := by omega
        go_wp2_with fail
        refine (raced_any A n c l _ (HL.out.bel (HW2.out.trans HB.out).out) HM.out).mono ?_
        rintro e3 w3 ⟨B3, rfl, hm3, hb3⟩
        have HB3 := Lib.hid (HB.out.call hb3)
        have HS3 := Lib.hid (HSl.out.bel hb3)
        have HM3 := Lib.hid hm3
        clear hb3 hm3
        go_wp2_with fail
        refine (raced_any A1 n d1 m _ HS3.out (HE.out.may HM.out)).mono ?_
        rintro e4 w4 ⟨B4, rfl, hm4, hb4⟩
        have HB4 := Lib.hid (HW2.out.trans (HB3.out.call hb4))
        have HM4 := Lib.hid hm4
        have HM34 := Lib.hid (HM3.out.bel (Bel.of hb4))
        have HIN := Lib.hid (rk_eqv HE.out HM.out)
        clear hb4 hm4
        have LQ3 := run_len_q HM34.out 3
        have LQ4 := run_len_q HM4.out 3
        rw [HIN.out.2] at LQ4
        have hne1 : (((rk l).length : Int) != ((rk l).length : Int)) = false := by simp
        have hne2 : ((n : Int) != (n : Int)) = false := by simp
        have LK := Lib.hid (fun (p : Q4) (h : p ∈ rk l) (w' : World) (hw : Bel w4 w') => (run_look_q (HM4.out.bel hw) p).trans (by rw [decide_eq_true (HIN.out.1 p h)]))
        generalize hps : rk l = ps at *
        have H1 := Lib.hid (show Itr (w4.alloc (.mapIter (some B3) ps.length #[] ps.length)) w4.heap.size B3 (qM ps) ps.length #[] from ⟨heap_alloc_new w4 _, (heap_alloc_old _ _ HM34.out.lt).trans HM34.out⟩)
        have HB0 := Lib.hid ((Bel.refl w4).alloc (.mapIter (some B3) ps.length #[] ps.length))
        clear hps
        go_wp2_with (refine rangeNew Try.underlying31 _ rfl rfl rfl HM34.out ?_)
        go_frame
        clear LQ3 LQ4 hne1 hne2
        go_loopw [15] (fun _ wr => ∃ seen, Itr wr w4.heap.size B3 (qM ps) ps.length seen ∧ Bel w4 wr) (fun _ wr => wr.rangeLeft B3 w4.heap.size)
        case atStart => exact ⟨#[], H1.out, HB0.out⟩
        case round =>
          obtain ⟨seen, hI, hbr⟩ := hrel
          have HI := Lib.hid hI
          have HBR := Lib.hid hbr
          clear hI hbr H1 HB0
          go_wp2_with (refine nextMap _ rfl rfl rfl HI.out (qM_old ps) ?_ ?_)
          · intro hall
            have HS := Lib.hid (HB4.out.trans HBR.out)
            clear hall
            go_wp2
            go_ret
            exact ⟨rfl, HS.out.out⟩
          · intro e kv vv w5 he hkv hvv hI2 hg hlt5
            obtain ⟨p, b, rfl, hp⟩ := qM_in he
            obtain rfl : Value.agg (qv p) = kv := hkv
            obtain rfl : Value.bool true = vv := hvv
            have HEM := Lib.hid he
            have HI2 := Lib.hid hI2
            have HLT := Lib.hid hlt5
            have HB5 := Lib.hid (Bel.of (HBR.out.out.grown hg HBR.out.size (by intro j hj; cases hj; exact Nat.le_refl _)))
            have HX := Lib.hid (rwld_box w5 (r4 p) 41)
            have HG6 := Lib.hid (show Bel w5 (rwld w5 (r4 p) 41) from rwld_below w5 (r4 p) 41)
            have LP : (Instr.lookup 31 (.map (some B4)) (.agg (rcv (r4 p))) false).run Try.prog (rwld w5 (r4 p) 41) = .ok (.bool true) (rwld w5 (r4 p) 41) := LK.out p hp _ (HB5.out.trans HG6.out)
            have HI6 := Lib.hid (HI2.out.grown HG6.out)
            have HBF := Lib.hid (HB5.out.trans HG6.out)
            clear he hI2 hlt5 hg hp
            go_wp2_with (first | (refine entryMap _ rfl rfl rfl HI2.out HEM.out (qM_nodup ps) (kv := .agg (qv p)) (vv := .bool true) rfl rfl ?_) | (refine rwld_store (r := r4 p) T4 _ _ rfl rfl _ rfl rfl rfl ?_) | (refine loadB _ _ rfl rfl rfl HX.out T4 ?_))
            go_roundw
            case rel => exact ⟨_, HI6.out, HBF.out⟩
            case measure =>
              rw [HI6.out.left, HI.out.left]; exact HLT.out
  · go_wp2
    go_ret
    exact ⟨rfl, HW2.out.out⟩
set_option maxRecDepth 100000 in
theorem lifted (os : Os) (started : os.Started) (H : Type) (enc : TypeId × Value → H) :
    ReturnsInHanded {} Try.checked os 3 .any (Rows.topSwapsSpec.pre6 enc Try.prog Try.f3 Rows.topSwapsRow.domain false) (Rows.topSwapsSpec.post enc Try.prog Try.f3 false true false false) := by
  refine returnsInHanded_of_change_sized (C := Try.checked) own started (by kernel_rfl) Try.func3
    (ChangeSpec.witness6 (enc := enc) (C := Try.checked) false ⟨#[], #[.slice none 0 0, .slice none 0 0], []⟩ 8 (by kernel_rfl) (by kernel_rfl) (by kernel_rfl) (by kernel_rfl)) ?_
  intro W base args ds gs before hval0 hW hcnd hsz0 _
  have hsz : (DataW.weightsEach Try.prog (Try.f3.params.toList ++ Rows.topSwapsSpec.plain.varTypes Try.prog) (ds ++ gs)).all (· ≤ reachBytes) = true := hsz0
  clear hsz0
  have hval : ∀ (j : Nat) t v, Try.f3.params[j]? = some t → args[j]? = some v → Value.okWide Try.prog W .any base t v := hval0
  have hW' := hW
  obtain ⟨p, q, hA0, hV, rfl, hfz, hnd⟩ := hW
  have hA : DataW.TrodAll enc Try.prog W 0 (fun _ => true) true Try.f3.params.toList args.toList ds p := hA0
  rw [Try.params3] at hA hval hsz
  obtain ⟨v0, vs0, d0, ds0, p0, q0, hargs, rfl, rfl, h0, r0⟩ := trodAll_cons hA
  obtain ⟨v1, vs1, d1, ds1, p1, q1, rfl, rfl, rfl, h1, r1⟩ := trodAll_cons r0
  obtain ⟨rfl, rfl, rfl⟩ := trodAll_nil r1
  obtain rfl : args = #[v0, v1] := by cases args; simp_all
  obtain ⟨rfl, rfl⟩ := trodVars_none hV
  have t0 := h0
  have lt0 : ∀ x ∈ p0, x.block < W.heap.size := by obtain ⟨m, hm⟩ := t0; exact DataW.trod_lt m _ _ _ hm
  have t1 := h1
  have lt1 : ∀ x ∈ p1, x.block < W.heap.size := by obtain ⟨m, hm⟩ := t1; exact DataW.trod_lt m _ _ _ hm
  obtain ⟨A0, n0, c0, l0, rfl, s0, m0, x0, g0, z0⟩ := open_evs Try.underlying22 Try.underlying54 ⟨rfl, rfl, rfl⟩ (by kernel_rfl) (by kernel_rfl) Try.underlying3 (hval 0 22 v0 rfl rfl) h0
  have y0 := reach_sl hsz (j := 0) rfl rfl Try.underlying22 (b := 24) (by kernel_rfl) z0
  obtain ⟨A1, n1, c1, l1, rfl, s1, m1, x1, g1⟩ := open_ints_arg Try.underlying23 Try.underlying3 (by kernel_rfl) (hval 1 23 v1 rfl rfl) h1
  clear hA0 hval0
  refine (walk W A0 n0 c0 l0 s0 m0 x0 g0 A1 n1 c1 l1 s1 m1 x1 g1).mono fun e W' ⟨he, bel⟩ => ?_
  subst he
  exact ⟨_, rfl, _, _, _, [], _, [], hW', trodAll_mk1 (shut_bool Try.underlying4 _), (trodAll_cons_mk (Below.trod laidOut (by kernel_rfl) (of_decide_eq_true (by kernel_rfl)) t0 bel lt0) (trodAll_cons_mk (Below.trod laidOut (by kernel_rfl) (of_decide_eq_true (by kernel_rfl)) t1 bel lt1) trodAll_mk0)), rfl, bel.frame _, fun h => by cases h⟩

theorem over : Rows.topSwapsRow.holds Try.pinned (OpenSpec.ofChange Rows.topSwapsSpec) :=
  OpenClaim.holds_of_wide 3 Try.f3 rfl rfl rfl rfl rfl rfl rfl ⟨rfl, rfl, rfl, rfl, rfl⟩ rfl rfl rfl rfl rfl (by kernel_rfl) Try.func3 (by kernel_rfl)
    (of_decide_eq_true (by kernel_rfl)) (by unfold Func.isWrapper; first | (rw [if_pos (by decide +kernel)]; kernel_rfl) | (rw [if_neg (by decide +kernel)]; exact ⟨rfl, rfl⟩))
    (fun os started H enc _ => lifted os started H enc)

theorem proved : Rows.TopSwapsSaid := over
#print axioms proved
end Go.Proofs.Ytjddahidkodieaa.LTopSwaps

/- 'deadheatkeep.ShrinkBare' returns true for every input and leaves its arguments as they are. No condition. -/
import Derived.Test.YtmdpegljpdjfoaaShM
import Derived.Test.YtmdpegljpdjfoaaOpen
import Derived.Test.YtmdpegljpdjfoaaKeepSh
import Derived.Test.YtmdpegljpdjfoaaAllE
set_option linter.all false
set_option maxRecDepth 100000
namespace Go.Proofs.Ytmdpegljpdjfoaa.LShrinkBare
open Go Go.ChangeShapes Go.WideShapes Go.ChangeAt Go.RowKit

set_option maxHeartbeats 8000000 in
theorem walkH (HMi : MinC) (W : World) (A : Option Addr) (n c : Nat) (l : List Ev) (s : Sl W A n l) (m : n ≤ c) (x : c ≤ maxLen) (_g : ∀ e ∈ l, EvOk e) :
    Calls Try.prog 7 #[.slice A n c] W fun e w' => e = .returned (.bool true) ∧ Below W.heap.size W w' := by
  have hw0 : Bel W W := Bel.refl _
  have HL := Lib.hid s
  have HMX := Lib.hid (And.intro m x)
  have HSH := Lib.hid (fun w => shrunk_any HMi w)
  unfold MinC at HMi
  have HMC := Lib.hid HMi
  clear s m x HMi
  go_enter Try.func7, Try.ntmps7
  go_wp2_with fail
  refine (HSH.out _).mono ?_
  rintro e1 w1 ⟨rfl, hb1⟩
  have hw1 := hw0.call hb1
  clear hb1
  go_wp2_with fail
  refine (HMC.out A n c l w1 (HL.out.bel hw1.out) HMX.out.1 HMX.out.2).mono ?_
  rintro e2 w2 ⟨r, cc, hB, v, rfl, ho, hb2⟩
  obtain ⟨A2, d2, rfl, hs2, hn2, hm2⟩ := Sl.own ho
  have HW2 := Lib.hid (hw1.call hb2)
  have HS2 := Lib.hid (And.intro hs2 (And.intro hn2 hm2))
  clear hw0 hw1 ho hs2 hn2 hm2 hb2
  by_cases hcc : cc = 0
  · obtain ⟨hok, hred⟩ := minB_ok hB hcc
    obtain ⟨pa, pb, hbf⟩ := bare_form (hred.ok hok) hred.bare
    have HF := Lib.hid hbf
    have HM := Lib.hid (hred.ok hok).1
    have hq7 : r.length ≤ 7 := hbf.small HM.out
    have HA2 := Lib.hid hbf.acc
    have HO1 := Lib.hid (hbf.one HM.out)
    have HKD := Lib.hid (fun (i : Nat) (e : Ev) (he : r[i]? = some e) => show e.k ≤ 2 ∨ e.k = 5 from by
      by_cases h1 : i = pa
      · have := hbf.ka; rw [← h1, evZ_at he] at this; exact .inl this
      · by_cases h2 : i = pb
        · have := hbf.kb; rw [← h2, evZ_at he] at this; exact .inl this
        · exact .inr (hbf.frk i e he h1 h2))
    subst hcc
    clear hB hok hred hbf
    generalize hr : r.length = q at *
    have HR := Lib.hid hr
    clear hr
    go_wp2
    go_loopw [5, 24] (fun v t wr => ∃ i : Nat, i ≤ q ∧ v = .int .i64 (accN (r.take i) : Nat) ∧ t = .int .i64 i ∧ Bel w2 wr) (fun _ t _ => q - (intOf t).toNat)
    case atStart => exact ⟨0, by omega, rfl, rfl, Bel.refl _⟩
    case round =>
      obtain ⟨i, hi, rfl, rfl, hbr⟩ := hrel
      have HB := Lib.hid hbr
      clear hbr
      by_cases hlt : i < q
      · have hlt' : (i : Int) < q := by omega
        obtain ⟨b, off, x, rfl, hbb, hx, hrg⟩ := (HS2.out.1.bel HB.out.out).at_ hlt
        have HE := Lib.hid hx
        have hR := Lib.hid hrg
        have hk := HKD.out i x hx
        have HAC := Lib.hid (show accN (r.take (i + 1)) = accN (r.take i) + if x.k ≤ 2 then 1 else 0 by
          rw [take_snoc' hx, accN_app, accN_cons]; simp [accN])
        have hac : accN (r.take i) ≤ 7 := Nat.le_trans (List.length_filter_le _ _) (by rw [List.length_take]; omega)
        clear hx hrg hbb
        obtain ⟨xk, xt, xo⟩ := x
        simp only at hk
        have HX := Lib.hid (ewld_box wr ⟨xk, xt, xo⟩ 29)
        have HB2 := Lib.hid (HB.out.trans (show Bel wr _ from ewld_below wr ⟨xk, xt, xo⟩ 29))
        generalize hz : accN (r.take i) = z at *
        have hwz : IntKind.i64.wrap ((z : Int) + 1) = (z : Int) + 1 := IntWalk.i64_in _ (by omega)
        clear hz
        by_cases hq : xk ≤ 2
        · have HQ := Lib.hid hq
          have c0 := HX.out.cell 0 (v := .int .i64 xk) rfl
          clear hk
          go_wp2_with (first | (refine load_ev T36 _ rfl rfl rfl hR.out ?_) | (refine ewld_store T36 _ _ rfl rfl _ rfl rfl rfl ?_))
          go_roundw
          case rel => exact ⟨i + 1, by omega, by rw [HAC.out, if_pos HQ.out]; go_num, by go_num, HB2.out⟩
          case measure => simp [intOf]; omega
        · obtain rfl : xk = 5 := by omega
          have c0 := HX.out.cell 0 (v := .int .i64 5) rfl
          clear hk hq
          go_wp2_with (first | (refine load_ev T36 _ rfl rfl rfl hR.out ?_) | (refine ewld_store T36 _ _ rfl rfl _ rfl rfl rfl ?_))
          go_roundw
          case rel => exact ⟨i + 1, by omega, by rw [HAC.out]; rfl, by go_num, HB2.out⟩
          case measure => simp [intOf]; omega
      · obtain rfl : i = q := by omega
        have HT := Lib.hid (show r.take i = r by rw [← HR.out, List.take_length])
        rw [HT.out, HA2.out]
        go_wp2_with fail
        refine (alle_any A2 _ d2 _ wr (HS2.out.1.bel HB.out.out)).mono ?_
        rintro e4 w4 ⟨v4, rfl, ho4, hb4⟩
        rw [HM.out]
        obtain ⟨A4, d4, rfl, _, _, _⟩ := SlR.own ho4
        rw [HO1.out]
        have HW4 := Lib.hid ((HW2.out.trans HB.out).call hb4)
        have h7 : (i : Int) ≤ 7 := by omega
        clear ho4 hb4
        go_wp2
        go_ret
        exact ⟨rfl, HW4.out.out⟩
  · have hr := minB_no hB hcc
    subst hr
    have h9 : (cc != 0) = true := by simpa using hcc
    clear hB hcc
    go_wp2
    go_ret
    exact ⟨rfl, HW2.out.out⟩
theorem walk (W : World) (A : Option Addr) (n c : Nat) (l : List Ev) (s : Sl W A n l) (m : n ≤ c) (x : c ≤ maxLen) (_g : ∀ e ∈ l, EvOk e) :
    Calls Try.prog 7 #[.slice A n c] W fun e w' => e = .returned (.bool true) ∧ Below W.heap.size W w' := walkH min_any W A n c l s m x _g
set_option maxRecDepth 100000 in
theorem lifted (os : Os) (started : os.Started) (H : Type) (enc : TypeId × Value → H) :
    ReturnsInHanded {} Try.checked os 7 .any (Rows.shrinkBareSpec.pre6 enc Try.prog Try.f7 Rows.shrinkBareRow.domain false) (Rows.shrinkBareSpec.post enc Try.prog Try.f7 false true false false) := by
  refine returnsInHanded_of_change_sized (C := Try.checked) own started (by kernel_rfl) Try.func7
    (ChangeSpec.witness6 (enc := enc) (C := Try.checked) false ⟨#[], #[.slice none 0 0], []⟩ 8 (by kernel_rfl) (by kernel_rfl) (by kernel_rfl) (by kernel_rfl)) ?_
  intro W base args ds gs before hval0 hW hcnd hsz0 _
  have hsz : (DataW.weightsEach Try.prog (Try.f7.params.toList ++ Rows.shrinkBareSpec.plain.varTypes Try.prog) (ds ++ gs)).all (· ≤ reachBytes) = true := hsz0
  clear hsz0
  have hval : ∀ (j : Nat) t v, Try.f7.params[j]? = some t → args[j]? = some v → Value.okWide Try.prog W .any base t v := hval0
  have hW' := hW
  obtain ⟨p, q, hA0, hV, rfl, hfz, hnd⟩ := hW
  have hA : DataW.TrodAll enc Try.prog W 0 (fun _ => true) true Try.f7.params.toList args.toList ds p := hA0
  rw [Try.params7] at hA hval hsz
  obtain ⟨v0, vs0, d0, ds0, p0, q0, hargs, rfl, rfl, h0, r0⟩ := trodAll_cons hA
  obtain ⟨rfl, rfl, rfl⟩ := trodAll_nil r0
  obtain rfl : args = #[v0] := by cases args; simp_all
  obtain ⟨rfl, rfl⟩ := trodVars_none hV
  have t0 := h0
  have lt0 : ∀ x ∈ p0, x.block < W.heap.size := by obtain ⟨m, hm⟩ := t0; exact DataW.trod_lt m _ _ _ hm
  obtain ⟨A0, n0, c0, l0, rfl, s0, m0, x0, g0, z0⟩ := open_evs Try.underlying22 Try.underlying29 ⟨rfl, rfl, rfl⟩ (by kernel_rfl) (by kernel_rfl) Try.underlying3 (hval 0 22 v0 rfl rfl) h0
  have y0 := reach_sl hsz (j := 0) rfl rfl Try.underlying22 (b := 24) (by kernel_rfl) z0
  clear hA0 hval0
  refine (walk W A0 n0 c0 l0 s0 m0 x0 g0).mono fun e W' ⟨he, bel⟩ => ?_
  subst he
  exact ⟨_, rfl, _, _, _, [], _, [], hW', trodAll_mk1 (shut_bool Try.underlying4 _), (trodAll_cons_mk (Below.trod laidOut (by kernel_rfl) (of_decide_eq_true (by kernel_rfl)) t0 bel lt0) trodAll_mk0), rfl, bel.frame _, fun h => by cases h⟩

theorem over : Rows.shrinkBareRow.holds Try.pinned (OpenSpec.ofChange Rows.shrinkBareSpec) :=
  OpenClaim.holds_of_wide 7 Try.f7 rfl rfl rfl rfl rfl rfl rfl ⟨rfl, rfl, rfl, rfl, rfl⟩ rfl rfl rfl rfl rfl (by kernel_rfl) Try.func7 (by kernel_rfl)
    (of_decide_eq_true (by kernel_rfl)) (by unfold Func.isWrapper; first | (rw [if_pos (by decide +kernel)]; kernel_rfl) | (rw [if_neg (by decide +kernel)]; exact ⟨rfl, rfl⟩))
    (fun os started H enc _ => lifted os started H enc)

theorem proved : Rows.ShrinkBareSaid := over
#print axioms proved
end Go.Proofs.Ytmdpegljpdjfoaa.LShrinkBare

/- 'deadheatkeep.ShrinkSmall' returns true for every input and leaves its arguments as they are. No condition. -/
import Derived.Test.YtmdpegljpdjfoaaShM
import Derived.Test.YtmdpegljpdjfoaaOpen
import Derived.Test.YtmdpegljpdjfoaaKeepSh
import Derived.Test.YtmdpegljpdjfoaaAllE
set_option linter.all false
set_option maxRecDepth 100000
namespace Go.Proofs.Ytmdpegljpdjfoaa.LShrinkSmall
open Go Go.ChangeShapes Go.WideShapes Go.ChangeAt Go.RowKit

set_option maxHeartbeats 8000000 in
theorem walkH (HWo : WithoutC) (HMi : MinC) (W : World) (A : Option Addr) (n c : Nat) (l : List Ev) (s : Sl W A n l) (m : n ≤ c) (x : c ≤ maxLen) (_g : ∀ e ∈ l, EvOk e) :
    Calls Try.prog 5 #[.slice A n c] W fun e w' => e = .returned (.bool true) ∧ Below W.heap.size W w' := by
  have hw0 : Bel W W := Bel.refl _
  have HL := Lib.hid s
  have HMX := Lib.hid (And.intro m x)
  have HSH := Lib.hid (fun w => shrunk_any HMi w)
  unfold MinC at HMi
  unfold WithoutC at HWo
  have HMC := Lib.hid HMi
  have HWC := Lib.hid HWo
  clear s m x HMi HWo
  go_enter Try.func5, Try.ntmps5
  go_wp2_with fail
  refine (HSH.out _).mono ?_
  rintro e1 w1 ⟨rfl, hb1⟩
  have hw1 := hw0.call hb1
  clear hb1
  go_wp2_with fail
  refine (HMC.out A n c l w1 (HL.out.bel hw1.out) HMX.out.1 HMX.out.2).mono ?_
  rintro e2 w2 ⟨r, cc, hB, v, rfl, ho, hb2⟩
  obtain ⟨A2, d2, rfl, hs2, hn2, hm2⟩ := Sl.own ho
  have HW2 := Lib.hid (hw1.call hb2)
  have HS2 := Lib.hid (And.intro hs2 (And.intro hn2 hm2))
  clear hw0 hw1 ho hs2 hn2 hm2 hb2
  by_cases hcc : cc = 0
  · obtain ⟨hok, hred⟩ := minB_ok hB hcc
    have HK := Lib.hid (And.intro (hred.ok hok).1 hred.bare)
    have hq80 : r.length ≤ 80 := ((may_iff r).1 HK.out.1).1
    subst hcc
    clear hB hok hred
    generalize hr : r.length = q at *
    have HR := Lib.hid hr
    clear hr
    go_wp2
    go_loopw [24] (fun t wr => ∃ i : Nat, i ≤ q ∧ t = .int .i64 i ∧ Bel w2 wr) (fun t _ => q - (intOf t).toNat)
    case atStart => exact ⟨0, by omega, rfl, Bel.refl _⟩
    case round =>
      obtain ⟨i, hi, rfl, hbr⟩ := hrel
      have HB := Lib.hid hbr
      clear hbr
      by_cases hlt : i < q
      · have hlt' : (i : Int) < q := by omega
        go_wp2_with fail
        refine (HWC.out A2 q d2 r i wr (HS2.out.1.bel HB.out.out) HS2.out.2.1 HS2.out.2.2 (by unfold In64; omega)).mono ?_
        rintro e3 w3 ⟨r3, c3, hB3, v3, rfl, ho3, hb3⟩
        obtain ⟨A3, d3, rfl, hs3, hn3, hm3⟩ := Sl.own ho3
        have HW3 := Lib.hid (HB.out.call hb3)
        have HS3 := Lib.hid hs3
        clear ho3 hb3 hs3 hn3 hm3
        by_cases hc3 : c3 = 0
        · obtain ⟨_, k, hk, hkl, hmk, rfl⟩ := woB_ok hB3 hc3
          obtain rfl : i = k := by omega
          have HZ := Lib.hid (show rcs (r.eraseIdx i) = [] from by
            rcases Classical.em (rcs (r.eraseIdx i) = []) with h | h
            · exact h
            · exact absurd ⟨hmk, h⟩ (HK.out.2 i (by rw [HR.out]; exact hlt)))
          have HMK := Lib.hid hmk
          subst hc3
          clear hB3 hk hkl hmk
          go_wp2_with fail
          refine (alle_any A3 _ d3 _ w3 HS3.out).mono ?_
          rintro e4 w4 ⟨v4, rfl, ho4, hb4⟩
          rw [HMK.out]
          rw [HZ.out] at ho4
          obtain ⟨A4, d4, rfl, _, _, _⟩ := SlR.own ho4
          have HW4 := Lib.hid (HW3.out.call hb4)
          have h40 : (([] : List Rc).length : Int) = 0 := rfl
          clear ho4 hb4
          go_wp2
          go_roundw
          case rel => exact ⟨i + 1, by omega, by go_num, HW4.out⟩
          case measure => simp [intOf]; omega
        · have hc9 : (c3 != 0) = true := by simpa using hc3
          clear hB3 hc3
          go_wp2
          go_roundw
          case rel => exact ⟨i + 1, by omega, by go_num, HW3.out⟩
          case measure => simp [intOf]; omega
      · obtain rfl : i = q := by omega
        go_wp2
        go_ret
        exact ⟨rfl, (HW2.out.trans HB.out).out⟩
  · have hr := minB_no hB hcc
    subst hr
    have h9 : (cc != 0) = true := by simpa using hcc
    clear hB hcc
    go_wp2
    go_ret
    exact ⟨rfl, HW2.out.out⟩
theorem walk (W : World) (A : Option Addr) (n c : Nat) (l : List Ev) (s : Sl W A n l) (m : n ≤ c) (x : c ≤ maxLen) (_g : ∀ e ∈ l, EvOk e) :
    Calls Try.prog 5 #[.slice A n c] W fun e w' => e = .returned (.bool true) ∧ Below W.heap.size W w' := walkH without_any min_any W A n c l s m x _g
set_option maxRecDepth 100000 in
theorem lifted (os : Os) (started : os.Started) (H : Type) (enc : TypeId × Value → H) :
    ReturnsInHanded {} Try.checked os 5 .any (Rows.shrinkSmallSpec.pre6 enc Try.prog Try.f5 Rows.shrinkSmallRow.domain false) (Rows.shrinkSmallSpec.post enc Try.prog Try.f5 false true false false) := by
  refine returnsInHanded_of_change_sized (C := Try.checked) own started (by kernel_rfl) Try.func5
    (ChangeSpec.witness6 (enc := enc) (C := Try.checked) false ⟨#[], #[.slice none 0 0], []⟩ 8 (by kernel_rfl) (by kernel_rfl) (by kernel_rfl) (by kernel_rfl)) ?_
  intro W base args ds gs before hval0 hW hcnd hsz0 _
  have hsz : (DataW.weightsEach Try.prog (Try.f5.params.toList ++ Rows.shrinkSmallSpec.plain.varTypes Try.prog) (ds ++ gs)).all (· ≤ reachBytes) = true := hsz0
  clear hsz0
  have hval : ∀ (j : Nat) t v, Try.f5.params[j]? = some t → args[j]? = some v → Value.okWide Try.prog W .any base t v := hval0
  have hW' := hW
  obtain ⟨p, q, hA0, hV, rfl, hfz, hnd⟩ := hW
  have hA : DataW.TrodAll enc Try.prog W 0 (fun _ => true) true Try.f5.params.toList args.toList ds p := hA0
  rw [Try.params5] at hA hval hsz
  obtain ⟨v0, vs0, d0, ds0, p0, q0, hargs, rfl, rfl, h0, r0⟩ := trodAll_cons hA
  obtain ⟨rfl, rfl, rfl⟩ := trodAll_nil r0
  obtain rfl : args = #[v0] := by cases args; simp_all
  obtain ⟨rfl, rfl⟩ := trodVars_none hV
  have t0 := h0
  have lt0 : ∀ x ∈ p0, x.block < W.heap.size := by obtain ⟨m, hm⟩ := t0; exact DataW.trod_lt m _ _ _ hm
  obtain ⟨A0, n0, c0, l0, rfl, s0, m0, x0, g0, z0⟩ := open_evs Try.underlying22 Try.underlying29 ⟨rfl, rfl, rfl⟩ (by kernel_rfl) (by kernel_rfl) Try.underlying3 (hval 0 22 v0 rfl rfl) h0
  have y0 := reach_sl hsz (j := 0) rfl rfl Try.underlying22 (b := 24) (by kernel_rfl) z0
  clear hA0 hval0
  refine (walk W A0 n0 c0 l0 s0 m0 x0 g0).mono fun e W' ⟨he, bel⟩ => ?_
  subst he
  exact ⟨_, rfl, _, _, _, [], _, [], hW', trodAll_mk1 (shut_bool Try.underlying4 _), (trodAll_cons_mk (Below.trod laidOut (by kernel_rfl) (of_decide_eq_true (by kernel_rfl)) t0 bel lt0) trodAll_mk0), rfl, bel.frame _, fun h => by cases h⟩

theorem over : Rows.shrinkSmallRow.holds Try.pinned (OpenSpec.ofChange Rows.shrinkSmallSpec) :=
  OpenClaim.holds_of_wide 5 Try.f5 rfl rfl rfl rfl rfl rfl rfl ⟨rfl, rfl, rfl, rfl, rfl⟩ rfl rfl rfl rfl rfl (by kernel_rfl) Try.func5 (by kernel_rfl)
    (of_decide_eq_true (by kernel_rfl)) (by unfold Func.isWrapper; first | (rw [if_pos (by decide +kernel)]; kernel_rfl) | (rw [if_neg (by decide +kernel)]; exact ⟨rfl, rfl⟩))
    (fun os started H enc _ => lifted os started H enc)

theorem proved : Rows.ShrinkSmallSaid := over
#print axioms proved
end Go.Proofs.Ytmdpegljpdjfoaa.LShrinkSmall

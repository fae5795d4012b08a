/- 'deadheatkeep.StampOwn' returns true for every input and leaves its arguments as they are. No condition. -/
import Derived.Test.YtfmkbjgkicipcaaOpenTr
import Derived.Test.YtfmkbjgkicipcaaKeepSt
set_option linter.all false
set_option maxRecDepth 100000
namespace Go.Proofs.Ytfmkbjgkicipcaa.LStampOwn
open Go Go.ChangeShapes Go.WideShapes Go.ChangeAt Go.RowKit

structure OwnR (w2 : World) (l : List Ev) (i : Nat) (wr : World) : Prop where
  box : Box wr w2.heap.size (clk (pmc l i)) 31
  below : Below w2.heap.size w2 wr
theorem OwnR.bel {w2 : World} {l : List Ev} {i : Nat} {wr w' : World} (h : OwnR w2 l i wr) (hb : Bel wr w') : OwnR w2 l i w' := ⟨hb.box h.box, h.below.trans (hb.out.mono h.below.size)⟩
theorem OwnR.up {w2 : World} {l : List Ev} {i : Nat} {wr : World} (h : OwnR w2 l i wr) {t : Nat} (ht : tOf l i = t) (ht6 : t < 6) {u : Int} (hu : u = (pm l i t : Int) + 1) : OwnR w2 l (i + 1) (wr.setCell ⟨w2.heap.size, t, none⟩ (.int .i64 u)) :=
  ⟨by have := h.box.set t (.int .i64 u); rwa [clk_set _ _ ht6, pmc_up l ht hu] at this, h.below.setCell (Nat.le_refl _) _⟩
set_option maxHeartbeats 4000000 in
theorem walk (W : World) (A : Option Addr) (n c : Nat) (l : List Ev) (s : Sl W A n l) (m : n ≤ c) (x : c ≤ maxLen) (g : ∀ e ∈ l, EvOk e) :
    Calls Try.prog 6 #[.slice A n c] W fun e w' => e = .returned (.bool true) ∧ Below W.heap.size W w' := by
  unfold maxLen at x
  have hw0 : Bel W W := Bel.refl _
  have HL := Lib.hid s
  have HN := Lib.hid s.1
  clear s g
  cases h1 : (may l == 0)
  · have HM := Lib.hid (show may l ≠ 0 by simpa using h1)
    have h1' : (may l != 0) = true := by simpa using h1
    go_enter Try.func6, Try.ntmps6
    go_wp2_with fail
    refine (stamped_any _).mono ?_
    rintro e1 w1 ⟨rfl, hb1⟩
    have hw1 := hw0.call hb1
    clear hb1
    go_wp2_with fail
    refine (stamps_bad A n c l _ (HL.out.bel hw1) HM.out).mono ?_
    rintro e2 w2 ⟨rfl, hb2⟩
    have hw2 := hw1.call hb2
    clear hb2
    go_wp2_with fail
    refine (may_any A n c l _ (HL.out.bel hw2)).mono ?_
    rintro e3 w3 ⟨rfl, hb3⟩
    have hw3 := hw2.call hb3
    clear hb3
    go_wp2
    go_ret
    exact ⟨rfl, hw3⟩
  · have hm : may l = 0 := eq_of_beq h1
    have HM := Lib.hid hm
    have h1' : (may l != 0) = false := by simp [hm]
    have hne : ((n : Int) != (n : Int)) = false := by simp
    have hn80 : n ≤ 80 := by rw [← HN.out]; exact ((may_iff l).1 hm).1
    clear hm
    go_enter Try.func6, Try.ntmps6
    go_wp2_with fail
    refine (stamped_any _).mono ?_
    rintro e1 w1 ⟨rfl, hb1⟩
    have hw1 := hw0.call hb1
    clear hb1
    go_wp2_with fail
    refine (stamps_ok A n c l _ (HL.out.bel hw1) HM.out).mono ?_
    rintro e2 w2 ⟨B, rfl, hck, hge, hb2⟩
    have hw2 := hw1.call hb2
    clear hb2
    have HCK := Lib.hid hck
    have HW2 := Lib.hid hw2
    have H0 := Lib.hid (OwnR.mk (Box.new w2 _ _) ((Bel.refl w2).alloc _) : OwnR w2 l 0 (w2.alloc (.cells #[.int .i64 0, .int .i64 0, .int .i64 0, .int .i64 0, .int .i64 0, .int .i64 0] 31)))
    clear hck hge hw2 hw1 hw0
    go_wp2
    go_loopw [33] (fun t33 wr => ∃ i : Nat, i ≤ n ∧ t33 = .int .i64 i ∧ OwnR w2 l i wr) (fun t33 _ => n - (intOf t33).toNat)
    case atStart => exact ⟨0, by omega, rfl, H0.out⟩
    case round =>
      obtain ⟨i, hi, rfl, hr⟩ := hrel
      have HR := Lib.hid hr
      clear hr H0
      by_cases hlt : i < n
      · obtain ⟨bb, off, ⟨ek, et, eo⟩, rfl, hbb, he, hrg⟩ := HL.out.at_ hlt
        have het := isEv_t (wrong_isEv (wrong_at HM.out he))
        obtain ⟨t, rfl⟩ := Int.eq_ofNat_of_zero_le het.1
        have HTO := Lib.hid (show tOf l i = t by rw [tOf_at he]; rfl)
        have ht6 : t < 6 := by have := het.2; dsimp only at this; omega
        have hlt' : (i : Int) < n := by omega
        have hi0 : (0 : Int) ≤ (i : Int) := by omega
        have ht6' : (t : Int) < 6 := by omega
        have hR := Lib.hid (rangeAt_below (HW2.out.trans (Bel.of HR.out.below)).out hbb hrg)
        obtain ⟨c0, c1, c2⟩ := ewld_cells wr ⟨ek, (t : Int), eo⟩ 37
        have HR2 := Lib.hid (HR.out.bel (ewld_below wr ⟨ek, (t : Int), eo⟩ 37))
        obtain ⟨v, hv⟩ : ∃ v, pm l i t = v := ⟨_, rfl⟩
        have d0 : (ewld wr ⟨ek, (t : Int), eo⟩ 37).cell? ⟨w2.heap.size, t, none⟩ = some (.int .i64 (v : Int)) := by rw [← hv]; exact HR2.out.box.cell _ (clk_get _ _ ht6)
        have g0 := HR2.out.box.frozen t
        have hv80 : v ≤ 80 := by have := pm_le l i t; omega
        have f1 : IntKind.i64.wrap ((v : Int) + 1) = (v : Int) + 1 := IntWalk.i64_in _ (by omega)
        have HR3 := Lib.hid (HR2.out.up HTO.out ht6 (u := (v : Int) + 1) (by rw [hv]))
        have hpv : pm l (i + 1) t = v + 1 := by rw [pm_succ, hv, if_pos HTO.out]
        have HKV := Lib.hid (show kn l i t = v + 1 by have := kn_own HM.out (j := i) (by rw [HN.out]; exact hlt); rw [HTO.out, hpv] at this; exact this)
        have HPV := Lib.hid hpv
        have hbo : Box wr w2.heap.size (clk (pmc l i)) 31 := HR.out.box
        have hne2 : w2.heap.size ≠ wr.heap.size := by have := hbo.lt; omega
        have HC1 := Lib.hid c1
        clear he hrg het hv hpv hbo c0 c2
        go_wp2_with (first | (refine load_ev T36 _ rfl rfl rfl hR.out ?_) | (refine ewld_store T36 _ _ rfl rfl _ rfl rfl rfl ?_))
        generalize hw4 : ewld wr ⟨ek, (t : Int), eo⟩ 37 = w4 at *
        have e1 : (w4.setCell ⟨w2.heap.size, t, none⟩ (.int .i64 ((v : Int) + 1))).cell? ⟨wr.heap.size, 1, none⟩ = some (.int .i64 (t : Int)) := by
          have hbx := ewld_box wr ⟨ek, (t : Int), eo⟩ 37
          rw [hw4] at hbx
          exact (hbx.set_ne _ _ (Ne.symm hne2)).cell 1 rfl
        generalize hw5 : w4.setCell ⟨w2.heap.size, t, none⟩ (.int .i64 ((v : Int) + 1)) = w5 at *
        clear hw4 hw5 d0 g0 f1 c1
        have HB5 := Lib.hid (HR3.out.box)
        have HC5 := Lib.hid (show Cks w5 B n l from Box.below HCK.out HR3.out.below HCK.out.lt)
        have k1 : w5.cell? ⟨B, i * 6 + t, none⟩ = some (.int .i64 ((v : Int) + 1)) := by
          have := HC5.out.cell hlt ht6
          rw [HKV.out] at this; exact this
        have k2 : w5.cell? ⟨w2.heap.size, t, none⟩ = some (.int .i64 ((v : Int) + 1)) := by
          have := HB5.out.cell t (clk_get _ _ ht6)
          rw [this]; unfold pmc; rw [HPV.out]; rfl
        have F1 := fun (w' : World) (h : Bel w5 w') => h.cell k1
        have F2 := fun (w' : World) (h : Bel w5 w') => h.cell k2
        have F3 := fun (w' : World) (h : Bel w5 w') => h.cell e1
        have hq : (((v : Int) + 1) != ((v : Int) + 1)) = false := by simp
        have HB5' := HB5.out
        have HRI := Lib.hid (fun (w' : World) (h : Bel w5 w') => (HC5.out.bel h).row hlt)
        have HWI := Lib.hid (fun w => within_any (kc l i) (pmc l (i + 1)) w)
        rw [show within (kc l i) (pmc l (i + 1)) = true from (within_iff _ _).2 fun k _ => by have := kn_le_pm (l := l) (j := i) (by rw [HN.out]; exact hlt) k; unfold kc pmc; omega] at HWI
        clear k1 k2 e1
        (refine region_bel (by kernel_rfl) (by kernel_rfl) ?_; (repeat (first | ((with_reducible refine BigFrame.wpQuiet_skip ?_ ?_); exact rfl; simp only [Act.put, Act.eval, List.setIfInBounds_toArray, List.set_cons_zero, List.set_cons_succ, Array.getD_eq_getD_getElem?, List.getElem?_toArray, List.getElem?_cons_zero, List.getElem?_cons_succ, Option.getD_some]) | (refine q_move _ rfl rfl ?_; simp only [Act.put, Act.eval, List.setIfInBounds_toArray, List.set_cons_zero, List.set_cons_succ, Array.getD_eq_getD_getElem?, List.getElem?_toArray, List.getElem?_cons_zero, List.getElem?_cons_succ, Option.getD_some]) | (refine q_assign _ rfl rfl ?_; simp only [Act.put, Act.eval, List.setIfInBounds_toArray, List.set_cons_zero, List.set_cons_succ, Array.getD_eq_getD_getElem?, List.getElem?_toArray, List.getElem?_cons_zero, List.getElem?_cons_succ, Option.getD_some]) | (refine q_load _ _ rfl rfl rfl HB5' ty28 ?_; simp only [Act.put, Act.eval, List.setIfInBounds_toArray, List.set_cons_zero, List.set_cons_succ, Array.getD_eq_getD_getElem?, List.getElem?_toArray, List.getElem?_cons_zero, List.getElem?_cons_succ, Option.getD_some]) | (refine q_load_mid 31 _ rfl rfl rfl HRI.out ty28 (clk (kc l i)) rfl ?_; simp only [Act.put, Act.eval, List.setIfInBounds_toArray, List.set_cons_zero, List.set_cons_succ, Array.getD_eq_getD_getElem?, List.getElem?_toArray, List.getElem?_cons_zero, List.getElem?_cons_succ, Option.getD_some]) | (refine q_any rfl ?_; apply Exists.intro; refine ⟨fun w hw => ?_, ?_⟩; (have fct0 := F1 w hw; have fct1 := F2 w hw; have fct2 := F3 w hw; go_simp; first | exact ⟨rfl, rfl⟩ | rfl | (go_at_call 19; (with_reducible refine (HWI.out _).mono ?_); rintro e w' ⟨rfl, hb⟩; exact ⟨rfl, hw.call hb⟩)); simp only [Act.put, Act.eval, List.setIfInBounds_toArray, List.set_cons_zero, List.set_cons_succ, Array.getD_eq_getD_getElem?, List.getElem?_toArray, List.getElem?_cons_zero, List.getElem?_cons_succ, Option.getD_some]))); refine wpQuiet_nil ?_; intro w2 hw2)
        have HR4 := Lib.hid (HR3.out.bel hw2)
        clear hw2 F1 F2 F3 HB5'
        go_wp2
        go_roundw
        case rel => exact ⟨i + 1, by omega, by go_num, HR4.out⟩
        case measure => simp [intOf]; omega
      · obtain rfl : i = n := by omega
        have HE := Lib.hid (HW2.out.trans (Bel.of HR.out.below))
        go_wp2
        go_ret
        exact ⟨rfl, HE.out⟩

set_option maxRecDepth 100000 in
theorem lifted (os : Os) (started : os.Started) (H : Type) (enc : TypeId × Value → H) :
    ReturnsInHanded {} Try.checked os 6 .any (Rows.stampOwnSpec.pre6 enc Try.prog Try.f6 Rows.stampOwnRow.domain false) (Rows.stampOwnSpec.post enc Try.prog Try.f6 false true false false) := by
  refine returnsInHanded_of_change_sized (C := Try.checked) own started (by kernel_rfl) Try.func6
    (ChangeSpec.witness6 (enc := enc) (C := Try.checked) false ⟨#[], #[.slice none 0 0], []⟩ 8 (by kernel_rfl) (by kernel_rfl) (by kernel_rfl) (by kernel_rfl)) ?_
  intro W base args ds gs before hval0 hW hcnd hsz0 _
  have hsz : (DataW.weightsEach Try.prog (Try.f6.params.toList ++ Rows.stampOwnSpec.plain.varTypes Try.prog) (ds ++ gs)).all (· ≤ reachBytes) = true := hsz0
  clear hsz0
  have hval : ∀ (j : Nat) t v, Try.f6.params[j]? = some t → args[j]? = some v → Value.okWide Try.prog W .any base t v := hval0
  have hW' := hW
  obtain ⟨p, q, hA0, hV, rfl, hfz, hnd⟩ := hW
  have hA : DataW.TrodAll enc Try.prog W 0 (fun _ => true) true Try.f6.params.toList args.toList ds p := hA0
  rw [Try.params6] at hA hval hsz
  obtain ⟨v0, vs0, d0, ds0, p0, q0, hargs, rfl, rfl, h0, r0⟩ := trodAll_cons hA
  obtain ⟨rfl, rfl, rfl⟩ := trodAll_nil r0
  obtain rfl : args = #[v0] := by cases args; simp_all
  obtain ⟨rfl, rfl⟩ := trodVars_none hV
  have t0 := h0
  have lt0 : ∀ x ∈ p0, x.block < W.heap.size := by obtain ⟨m, hm⟩ := t0; exact DataW.trod_lt m _ _ _ hm
  obtain ⟨A0, n0, c0, l0, rfl, s0, m0, x0, g0, z0⟩ := open_evs Try.underlying22 Try.underlying37 ⟨rfl, rfl, rfl⟩ (by kernel_rfl) (by kernel_rfl) Try.underlying3 (hval 0 22 v0 rfl rfl) h0
  have y0 := reach_sl hsz (j := 0) rfl rfl Try.underlying22 (b := 24) (by kernel_rfl) z0
  clear hA0 hval0
  refine (walk W A0 n0 c0 l0 s0 m0 x0 g0).mono fun e W' ⟨he, bel⟩ => ?_
  subst he
  exact ⟨_, rfl, _, _, _, [], _, [], hW', trodAll_mk1 (shut_bool Try.underlying4 _), (trodAll_cons_mk (Below.trod laidOut (by kernel_rfl) (of_decide_eq_true (by kernel_rfl)) t0 bel lt0) trodAll_mk0), rfl, bel.frame _, fun h => by cases h⟩

theorem over : Rows.stampOwnRow.holds Try.pinned (OpenSpec.ofChange Rows.stampOwnSpec) :=
  OpenClaim.holds_of_wide 6 Try.f6 rfl rfl rfl rfl rfl rfl rfl ⟨rfl, rfl, rfl, rfl, rfl⟩ rfl rfl rfl rfl rfl (by kernel_rfl) Try.func6 (by kernel_rfl)
    (of_decide_eq_true (by kernel_rfl)) (by unfold Func.isWrapper; first | (rw [if_pos (by decide +kernel)]; kernel_rfl) | (rw [if_neg (by decide +kernel)]; exact ⟨rfl, rfl⟩))
    (fun os started H enc _ => lifted os started H enc)

theorem proved : Rows.StampOwnSaid := over
#print axioms proved
end Go.Proofs.Ytfmkbjgkicipcaa.LStampOwn

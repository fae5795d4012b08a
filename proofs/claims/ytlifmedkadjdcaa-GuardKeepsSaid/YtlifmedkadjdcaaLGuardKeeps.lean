/- 'deadheatkeep.GuardKeeps' returns true for every input and leaves its arguments as they are. No condition. -/
import Derived.Test.YtlifmedkadjdcaaOpen
import Derived.Test.YtlifmedkadjdcaaKeepGu
set_option linter.all false
set_option maxRecDepth 100000
namespace Go.Proofs.Ytlifmedkadjdcaa.LGuardKeeps
open Go Go.ChangeShapes Go.WideShapes Go.ChangeAt Go.RowKit

theorem sub_sets (f g : Nat → Bool) (h : ∀ q, f q = true → g q = true) : bits .andNot .i64 (hset f) (hset g) = 0 := by
  have D : ∀ a b c d e a' b' c' d' e' : Bool, (a = true → a' = true) → (b = true → b' = true) → (c = true → c' = true) → (d = true → d' = true) → (e = true → e' = true) → bits .andNot .i64 (hs5 a b c d e) (hs5 a' b' c' d' e') = 0 := by decide +kernel
  exact D _ _ _ _ _ _ _ _ _ _ (h 0) (h 1) (h 2) (h 3) (h 4)
theorem sub_all (f : Nat → Bool) : bits .andNot .i64 (hset f) 31 = 0 := sub_sets f (fun _ => true) fun _ _ => rfl
set_option maxHeartbeats 4000000 in
theorem walk (W : World) (A : Option Addr) (n c : Nat) (l : List Ev) (s : Sl W A n l) (m : n ≤ c) (x : c ≤ maxLen) (g : ∀ e ∈ l, EvOk e) :
    Calls Try.prog 7 #[.slice A n c] W fun e w' => e = .returned (.bool true) ∧ Below W.heap.size W w' := by
  unfold maxLen at x
  have hw0 : Bel W W := Bel.refl _
  have HL := Lib.hid s
  have G := grd_gs
  clear s g
  cases h1 : (may l != 0)
  · have HM := Lib.hid (show may l = 0 by simpa using h1)
    have HG := Lib.hid (show gfin l = gG (gdT l l.length) by unfold gfin; rw [if_pos HM.out])
    go_enter Try.func7, Try.ntmps7
    go_wp2_with fail
    refine (guarded_any _).mono ?_
    rintro e1 w1 ⟨rfl, hb1⟩
    have hw1 := hw0.call hb1
    clear hb1
    go_wp2_with fail
    refine (guards_any A n c l _ (HL.out.bel hw1) m).mono ?_
    rintro e2 w2 ⟨rfl, hb2⟩
    have hw2 := hw1.call hb2
    clear hb2
    rw [HG.out]
    go_wp2_with (refine gwld_store TGs _ _ rfl rfl (gG (gdT l l.length)) rfl rfl rfl ?_)
    have HB1 := Lib.hid (gwld_box w2 (gG (gdT l l.length)))
    have HW2 := Lib.hid (hw2.trans (gwld_bel w2 (gG (gdT l l.length))))
    generalize gwld w2 (gG (gdT l l.length)) = wa at *
    clear hw2 hw1 hw0
    go_loopw [20] (fun t wr => ∃ k : Nat, k ≤ 8 ∧ t = .int .i64 k ∧ Bel wa wr) (fun t _ => 8 - (intOf t).toNat)
    case atStart => exact ⟨0, by omega, rfl, Bel.refl _⟩
    case round =>
      obtain ⟨k, hk, rfl, hr⟩ := hrel
      have HR := Lib.hid hr
      clear hr
      by_cases hlt : k < 8
      · have hlt' : (k : Int) < 8 := by omega
        have HC := Lib.hid (show comR l k = hset (comTo l k l.length) ∧ comE l k = 0 by
          unfold comR comE
          rw [if_pos ⟨HM.out, by omega, by omega⟩, if_pos HM.out, if_pos ⟨by omega, by omega⟩]
          exact ⟨rfl, rfl⟩)
        go_wp2_with fail
        refine (common_any A n c l k _ ((HL.out.bel HW2.out).bel HR.out) m).mono ?_
        rintro e3 w3 ⟨rfl, hb3⟩
        rw [HC.out.1, HC.out.2]
        have HR3 := Lib.hid (HR.out.call hb3)
        clear hb3
        have z := (HR3.out.box HB1.out).cell (k * 3 + 2) (ns_get _ (by omega))
        rw [gG_2, lkN_eq] at z
        have fa := sub_sets (comTo l k l.length) (gdT l l.length k).lk (fun q hq => com_keep l k (q := q) l.length hq)
        have fb := sub_all (gdT l l.length k).lk
        clear G
        go_wp2
        go_roundw
        case rel => exact ⟨k + 1, by omega, by go_num, HR3.out⟩
        case measure => simp [intOf]; omega
      · obtain rfl : k = 8 := by omega
        go_wp2
        go_ret
        exact ⟨rfl, HW2.out.trans HR.out⟩
  · have HM := Lib.hid (show may l ≠ 0 by simpa using h1)
    have HG := Lib.hid (show gfin l = fun _ => 0 by unfold gfin; rw [if_neg HM.out])
    go_enter Try.func7, Try.ntmps7
    go_wp2_with fail
    refine (guarded_any _).mono ?_
    rintro e1 w1 ⟨rfl, hb1⟩
    have hw1 := hw0.call hb1
    clear hb1
    go_wp2_with fail
    refine (guards_any A n c l _ (HL.out.bel hw1) m).mono ?_
    rintro e2 w2 ⟨rfl, hb2⟩
    have hw2 := hw1.call hb2
    clear hb2
    rw [HG.out]
    have z1 := gwld_box w2 (fun _ => 0)
    have HW2 := Lib.hid (hw2.trans (gwld_bel w2 (fun _ => 0)))
    have E := eq_gz
    clear hw2 hw1 hw0
    go_wp2_with (first | (refine gwld_store TGs _ _ rfl rfl (fun _ => 0) rfl rfl rfl ?_) | (refine loadB _ _ rfl rfl rfl z1 (TGz _) ?_))
    go_ret
    exact ⟨rfl, HW2.out⟩

set_option maxRecDepth 100000 in
theorem lifted (os : Os) (started : os.Started) (H : Type) (enc : TypeId × Value → H) :
    ReturnsInHanded {} Try.checked os 7 .any (Rows.guardKeepsSpec.pre6 enc Try.prog Try.f7 Rows.guardKeepsRow.domain false) (Rows.guardKeepsSpec.post enc Try.prog Try.f7 false true false false) := by
  refine returnsInHanded_of_change_sized (C := Try.checked) own started (by kernel_rfl) Try.func7
    (ChangeSpec.witness6 (enc := enc) (C := Try.checked) false ⟨#[], #[.slice none 0 0], []⟩ 8 (by kernel_rfl) (by kernel_rfl) (by kernel_rfl) (by kernel_rfl)) ?_
  intro W base args ds gs before hval0 hW hcnd hsz0 _
  have hsz : (DataW.weightsEach Try.prog (Try.f7.params.toList ++ Rows.guardKeepsSpec.plain.varTypes Try.prog) (ds ++ gs)).all (· ≤ reachBytes) = true := hsz0
  clear hsz0
  have hval : ∀ (j : Nat) t v, Try.f7.params[j]? = some t → args[j]? = some v → Value.okWide Try.prog W .any base t v := hval0
  have hW' := hW
  obtain ⟨p, q, hA0, hV, rfl, hfz, hnd⟩ := hW
  have hA : DataW.TrodAll enc Try.prog W 0 (fun _ => true) true Try.f7.params.toList args.toList ds p := hA0
  rw [Try.params7] at hA hval hsz
  obtain ⟨v0, vs0, d0, ds0, p0, q0, hargs, rfl, rfl, h0, r0⟩ := trodAll_cons hA
  obtain ⟨rfl, rfl, rfl⟩ := trodAll_nil r0
  obtain rfl : args = #[v0] := by cases args; simp_all
  obtain ⟨rfl, rfl⟩ := trodVars_none hV
  have t0 := h0
  have lt0 : ∀ x ∈ p0, x.block < W.heap.size := by obtain ⟨m, hm⟩ := t0; exact DataW.trod_lt m _ _ _ hm
  obtain ⟨A0, n0, c0, l0, rfl, s0, m0, x0, g0, z0⟩ := open_evs Try.underlying22 Try.underlying50 ⟨rfl, rfl, rfl⟩ (by kernel_rfl) (by kernel_rfl) Try.underlying3 (hval 0 22 v0 rfl rfl) h0
  have y0 := reach_sl hsz (j := 0) rfl rfl Try.underlying22 (b := 24) (by kernel_rfl) z0
  clear hA0 hval0
  refine (walk W A0 n0 c0 l0 s0 m0 x0 g0).mono fun e W' ⟨he, bel⟩ => ?_
  subst he
  exact ⟨_, rfl, _, _, _, [], _, [], hW', trodAll_mk1 (shut_bool Try.underlying4 _), (trodAll_cons_mk (Below.trod laidOut (by kernel_rfl) (of_decide_eq_true (by kernel_rfl)) t0 bel lt0) trodAll_mk0), rfl, bel.frame _, fun h => by cases h⟩

theorem over : Rows.guardKeepsRow.holds Try.pinned (OpenSpec.ofChange Rows.guardKeepsSpec) :=
  OpenClaim.holds_of_wide 7 Try.f7 rfl rfl rfl rfl rfl rfl rfl ⟨rfl, rfl, rfl, rfl, rfl⟩ rfl rfl rfl rfl rfl (by kernel_rfl) Try.func7 (by kernel_rfl)
    (of_decide_eq_true (by kernel_rfl)) (by unfold Func.isWrapper; first | (rw [if_pos (by decide +kernel)]; kernel_rfl) | (rw [if_neg (by decide +kernel)]; exact ⟨rfl, rfl⟩))
    (fun os started H enc _ => lifted os started H enc)

theorem proved : Rows.GuardKeepsSaid := over
#print axioms proved
end Go.Proofs.Ytlifmedkadjdcaa.LGuardKeeps

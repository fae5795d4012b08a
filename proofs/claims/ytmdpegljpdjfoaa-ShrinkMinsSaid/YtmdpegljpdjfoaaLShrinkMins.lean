/- 'deadheatlaw.ShrinkMins' returns true for every input and leaves its arguments as they are. No condition. -/
import Derived.Test.YtmdpegljpdjfoaaShM
import Derived.Test.YtmdpegljpdjfoaaOpen
import Derived.Test.YtmdpegljpdjfoaaKeepSh
import Derived.Test.YtmdpegljpdjfoaaEqEv
import Derived.Test.YtmdpegljpdjfoaaRfM
set_option linter.all false
set_option maxRecDepth 100000
namespace Go.Proofs.Ytmdpegljpdjfoaa.LShrinkMins
open Go Go.ChangeShapes Go.WideShapes Go.ChangeAt Go.RowKit

theorem min_nil : MinB [] [] 7 := .inr (.inl ⟨by decide +kernel, by decide +kernel, rfl, rfl⟩)
theorem sl_nil (w : World) : Sl w none 0 [] := ⟨rfl, fun h => absurd h (Nat.lt_irrefl 0)⟩
set_option maxHeartbeats 16000000 in
theorem walkH (HMi : MinC) (W : World) (A : Option Addr) (n c : Nat) (l : List Ev) (s : Sl W A n l) (m : n ≤ c) (x : c ≤ maxLen) (_g : ∀ e ∈ l, EvOk e) :
    Calls Try.prog 4 #[.slice A n c] W fun e w' => e = .returned (.bool true) ∧ Below W.heap.size W w' := by
  have HL := Lib.hid s
  have HMX := Lib.hid (And.intro m x)
  have xx : c ≤ 9223372036854775807 := by unfold maxLen at x; omega
  unfold MinC at HMi
  have HM0 := Lib.hid (fun w => HMi none 0 0 [] w (sl_nil w) (Nat.le_refl _) (Nat.zero_le _))
  have HMC := Lib.hid HMi
  clear s m x HMi
  go_enter Try.func4, Try.ntmps4
  go_wp2_with fail
  refine (HMC.out A n c l W HL.out HMX.out.1 HMX.out.2).mono ?_
  rintro e1 w1 ⟨r, cc, hB, v, rfl, ho, hb1⟩
  obtain ⟨A1, d1, rfl, hs1, hn1, hm1⟩ := Sl.own ho
  have hw1 := Bel.of hb1
  go_wp2_with fail
  refine (rmay_any A n c l _ (HL.out.bel hw1.out) HMX.out.1 xx).mono ?_
  rintro e2 w2 ⟨rfl, hb2⟩
  have HW2 := Lib.hid (hw1.call hb2)
  have HS2 := Lib.hid (hs1.bel hb2)
  have HD1 := Lib.hid (And.intro hn1 hm1)
  clear hb1 hb2 hw1 ho hs1 hn1 hm1
  rcases hB with ⟨h1, rfl, rfl⟩ | ⟨h1, h2, rfl, rfl⟩ | ⟨h1, h2, rfl⟩
  · have h9 : (may l == 0) = false := by simpa using h1
    have h8 : ((may l : Int) == may l) = true := by simp
    have h7 : (may l != 0) = true := by simpa using h1
    clear h1
    go_wp2_with fail
    refine (HM0.out _).mono ?_
    rintro e5 w5 ⟨r5, c5, hB5, v5, rfl, _, hb5⟩
    obtain ⟨rfl, rfl⟩ := minB_uniq hB5 min_nil
    have HW5 := Lib.hid (HW2.out.call hb5)
    clear hB5 hb5
    go_wp2
    go_ret
    exact ⟨rfl, HW5.out.out⟩
  · rw [h1]
    have HM := Lib.hid h1
    have HR := Lib.hid h2
    clear h1 h2
    go_wp2_with fail
    refine (races_any A n c l _ (HL.out.bel HW2.out.out) HM.out).mono ?_
    rintro e3 w3 ⟨v3, rfl, ho3, hb3⟩
    rw [HR.out] at ho3
    obtain ⟨A3, d3, rfl, _, _, _⟩ := SlR.own ho3
    have HW3 := Lib.hid (HW2.out.call hb3)
    clear ho3 hb3
    go_wp2_with fail
    refine (HM0.out _).mono ?_
    rintro e5 w5 ⟨r5, c5, hB5, v5, rfl, _, hb5⟩
    obtain ⟨rfl, rfl⟩ := minB_uniq hB5 min_nil
    have HW5 := Lib.hid (HW3.out.call hb5)
    clear hB5 hb5
    go_wp2
    go_ret
    exact ⟨rfl, HW5.out.out⟩
  · rw [h1.1]
    have HM := Lib.hid h1
    have HRD := Lib.hid h2
    have hpos : 0 < (rcs l).length := List.length_pos_iff.2 h1.2
    have hn80 : n ≤ 80 := by rw [← HL.out.1]; exact ((may_iff l).1 h1.1).1
    clear h1 h2
    go_wp2_with fail
    refine (races_any A n c l _ (HL.out.bel HW2.out.out) HM.out.1).mono ?_
    rintro e3 w3 ⟨v3, rfl, ho3, hb3⟩
    obtain ⟨A3, d3, rfl, _, _, _⟩ := SlR.own ho3
    have HW3 := Lib.hid (HW2.out.call hb3)
    have HS3 := Lib.hid (HS2.out.bel hb3)
    generalize (rcs l).length = z at *
    have hz : ((z : Int) == 0) = false := by simp; omega
    clear ho3 hb3 hpos
    go_wp2_with fail
    refine (HM0.out _).mono ?_
    rintro e5 w5 ⟨r5, c5, hB5, v5, rfl, _, hb5⟩
    obtain ⟨rfl, rfl⟩ := minB_uniq hB5 min_nil
    have HW5 := Lib.hid (HW3.out.call hb5)
    have HS5 := Lib.hid (HS3.out.bel hb5)
    clear hB5 hb5
    go_wp2_with fail
    refine (copyev_any A n c l _ (HL.out.bel HW5.out.out) (by omega)).mono ?_
    rintro e6 w6 ⟨v6, rfl, ho6, hb6⟩
    obtain ⟨A6, d6, rfl, hs6, hn6, hm6⟩ := Sl.own ho6
    have HW6 := Lib.hid (HW5.out.call hb6)
    have HS6 := Lib.hid (HS5.out.bel hb6)
    have HC6 := Lib.hid (And.intro hs6 (And.intro hn6 hm6))
    clear ho6 hb6 hs6 hn6 hm6
    go_wp2_with fail
    refine (rmin_any A6 n d6 l _ HC6.out.1 HC6.out.2.1 HC6.out.2.2 hn80).mono ?_
    rintro e7 w7 ⟨r7, A7, d7, rfl, hr7, hs7, hn7, hm7, hb7⟩
    obtain rfl := HRD.out.uniq hr7
    have HW7 := Lib.hid (HW6.out.call hb7)
    have HS7 := Lib.hid (HS6.out.bel hb7)
    have HC7 := Lib.hid (And.intro hs7 (And.intro hn7 hm7))
    clear hr7 hs7 hn7 hm7 hb7
    go_wp2_with fail
    refine (eqev_any A1 A7 _ d1 _ d7 _ _ w7 HS7.out HC7.out.1 HD1.out.1 HC7.out.2.1 HD1.out.2 HC7.out.2.2).mono ?_
    rintro e8 w8 ⟨rfl, hb8⟩
    rw [decide_eq_true rfl]
    have HW8 := Lib.hid (HW7.out.call hb8)
    clear hb8
    go_wp2
    go_ret
    exact ⟨rfl, HW8.out.out⟩
theorem walk (W : World) (A : Option Addr) (n c : Nat) (l : List Ev) (s : Sl W A n l) (m : n ≤ c) (x : c ≤ maxLen) (_g : ∀ e ∈ l, EvOk e) :
    Calls Try.prog 4 #[.slice A n c] W fun e w' => e = .returned (.bool true) ∧ Below W.heap.size W w' := walkH min_any W A n c l s m x _g
set_option maxRecDepth 100000 in
theorem lifted (os : Os) (started : os.Started) (H : Type) (enc : TypeId × Value → H) :
    ReturnsInHanded {} Try.checked os 4 .any (Rows.shrinkMinsSpec.pre6 enc Try.prog Try.f4 Rows.shrinkMinsRow.domain false) (Rows.shrinkMinsSpec.post enc Try.prog Try.f4 false true false false) := by
  refine returnsInHanded_of_change_sized (C := Try.checked) own started (by kernel_rfl) Try.func4
    (ChangeSpec.witness6 (enc := enc) (C := Try.checked) false ⟨#[], #[.slice none 0 0], []⟩ 8 (by kernel_rfl) (by kernel_rfl) (by kernel_rfl) (by kernel_rfl)) ?_
  intro W base args ds gs before hval0 hW hcnd hsz0 _
  have hsz : (DataW.weightsEach Try.prog (Try.f4.params.toList ++ Rows.shrinkMinsSpec.plain.varTypes Try.prog) (ds ++ gs)).all (· ≤ reachBytes) = true := hsz0
  clear hsz0
  have hval : ∀ (j : Nat) t v, Try.f4.params[j]? = some t → args[j]? = some v → Value.okWide Try.prog W .any base t v := hval0
  have hW' := hW
  obtain ⟨p, q, hA0, hV, rfl, hfz, hnd⟩ := hW
  have hA : DataW.TrodAll enc Try.prog W 0 (fun _ => true) true Try.f4.params.toList args.toList ds p := hA0
  rw [Try.params4] at hA hval hsz
  obtain ⟨v0, vs0, d0, ds0, p0, q0, hargs, rfl, rfl, h0, r0⟩ := trodAll_cons hA
  obtain ⟨rfl, rfl, rfl⟩ := trodAll_nil r0
  obtain rfl : args = #[v0] := by cases args; simp_all
  obtain ⟨rfl, rfl⟩ := trodVars_none hV
  have t0 := h0
  have lt0 : ∀ x ∈ p0, x.block < W.heap.size := by obtain ⟨m, hm⟩ := t0; exact DataW.trod_lt m _ _ _ hm
  obtain ⟨A0, n0, c0, l0, rfl, s0, m0, x0, g0, z0⟩ := open_evs Try.underlying22 Try.underlying29 ⟨rfl, rfl, rfl⟩ (by kernel_rfl) (by kernel_rfl) Try.underlying3 (hval 0 22 v0 rfl rfl) h0
  have y0 := reach_sl hsz (j := 0) rfl rfl Try.underlying22 (b := 24) (by kernel_rfl) z0
  clear hA0 hval0
  refine (walk W A0 n0 c0 l0 s0 m0 x0 g0).mono fun e W' ⟨he, bel⟩ => ?_
  subst he
  exact ⟨_, rfl, _, _, _, [], _, [], hW', trodAll_mk1 (shut_bool Try.underlying4 _), (trodAll_cons_mk (Below.trod laidOut (by kernel_rfl) (of_decide_eq_true (by kernel_rfl)) t0 bel lt0) trodAll_mk0), rfl, bel.frame _, fun h => by cases h⟩

theorem over : Rows.shrinkMinsRow.holds Try.pinned (OpenSpec.ofChange Rows.shrinkMinsSpec) :=
  OpenClaim.holds_of_wide 4 Try.f4 rfl rfl rfl rfl rfl rfl rfl ⟨rfl, rfl, rfl, rfl, rfl⟩ rfl rfl rfl rfl rfl (by kernel_rfl) Try.func4 (by kernel_rfl)
    (of_decide_eq_true (by kernel_rfl)) (by unfold Func.isWrapper; first | (rw [if_pos (by decide +kernel)]; kernel_rfl) | (rw [if_neg (by decide +kernel)]; exact ⟨rfl, rfl⟩))
    (fun os started H enc _ => lifted os started H enc)

theorem proved : Rows.ShrinkMinsSaid := over
#print axioms proved
end Go.Proofs.Ytmdpegljpdjfoaa.LShrinkMins

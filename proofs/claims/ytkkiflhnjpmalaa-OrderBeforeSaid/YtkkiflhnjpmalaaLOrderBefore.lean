/- 'deadheatlaw.OrderBefore' returns true for every input and leaves its arguments as they are. No condition. -/
import Derived.Test.YtkkiflhnjpmalaaOpenTr
import Derived.Test.YtkkiflhnjpmalaaRefOr3
set_option linter.all false
set_option maxRecDepth 100000
namespace Go.Proofs.Ytkkiflhnjpmalaa.LOrderBefore
open Go Go.ChangeShapes Go.WideShapes Go.ChangeAt Go.RowKit

set_option maxHeartbeats 4000000 in
theorem walk (W : World) (A : Option Addr) (n c : Nat) (l : List Ev) (s : Sl W A n l) (m : n ≤ c) (x : c ≤ maxLen) (g : ∀ e ∈ l, EvOk e) :
    Calls Try.prog 4 #[.slice A n c] W fun e w' => e = .returned (.bool true) ∧ Below W.heap.size W w' := by
  unfold maxLen at x
  have hw0 : Bel W W := Bel.refl _
  have HL := Lib.hid s
  have HN := Lib.hid s.1
  have HE := Lib.hid (enters_of Try.func19 (by kernel_rfl) rfl)
  clear s g
  cases h1 : (may l != 0)
  · have HM := Lib.hid (show may l = 0 by simpa using h1)
    have HP := Lib.hid (prOf_ok (R := bef) HM.out HN.out)
    have hn80 : n ≤ 80 := by rw [← HN.out]; exact ((may_iff l).1 HM.out).1
    go_enter Try.func4, Try.ntmps4
    go_wp2_with fail
    refine (before_any A n c l _ HL.out).mono ?_
    rintro e1 w1 ⟨v1, rfl, hown1, hb1⟩
    have hw1 := hw0.call hb1
    clear hb1
    obtain ⟨P1, d1, rfl, hs1, hn1, hm1⟩ := SlP.own hown1
    have HS1 := Lib.hid hs1
    have HND := Lib.hid (And.intro hn1 hm1)
    clear hs1 hown1 hn1 hm1
    go_wp2_with fail
    refine (rmay_any A n c l _ (HL.out.bel hw1) m x).mono ?_
    rintro e2 w2 ⟨rfl, hb2⟩
    have HB2 := Lib.hid (Bel.of hb2)
    have hw2 := hw1.call hb2
    clear hb2
    go_wp2_with fail
    refine (ahead_any A n c l _ (HL.out.bel hw2) hn80).mono ?_
    rintro e3 w3 ⟨O, r, rfl, hm3⟩
    have HM3 := Lib.hid hm3
    have HB3 := Lib.hid (Box.new w3 #[.slice (some ⟨O, 0, none⟩) n n] 34)
    have hw3 := (hw2.call hm3.below).alloc (.cells #[.slice (some ⟨O, 0, none⟩) n n] 34)
    have HW3 := Lib.hid hw3
    have hE := HE.out
    have HS3 := Lib.hid (HS1.out.bel (HB2.out.trans ((Bel.of hm3.below).alloc (.cells #[.slice (some ⟨O, 0, none⟩) n n] 34))))
    clear hm3
    go_wp2_with fail
    rw [HM.out]
    refine (lpairs_ok A P1 n c _ d1 l _ _ _ (bef l) _ (HL.out.bel HW3.out) m x HS3.out HND.out.1 HND.out.2 HM.out HE.out (fun a b w4 ha hb _ hbw => obefore1_any _ _ O n r _ _ w4 (hbw.box HB3.out) ((HM3.out.grow ((Bel.refl _).alloc _)).grow hbw) a b ha hb) HP.out).mono ?_
    rintro e4 w4 ⟨rfl, hb4⟩
    have hw4 := HW3.out.call hb4
    go_wp2
    go_ret
    exact ⟨rfl, hw4⟩
  · have hm0 : may l ≠ 0 := by simpa using h1
    have HM := Lib.hid hm0
    have HP := Lib.hid (prOf_no (R := bef) hm0)
    clear hm0
    go_enter Try.func4, Try.ntmps4
    go_wp2_with fail
    refine (before_any A n c l _ HL.out).mono ?_
    rintro e1 w1 ⟨v1, rfl, hown1, hb1⟩
    have hw1 := hw0.call hb1
    clear hb1
    rw [HP.out] at hown1
    obtain ⟨P1, d1, rfl, hs1, hn1, hm1⟩ := SlP.own hown1
    clear hs1 hown1 hn1 hm1
    go_wp2_with fail
    refine (rmay_any A n c l _ (HL.out.bel hw1) m x).mono ?_
    rintro e2 w2 ⟨rfl, hb2⟩
    have hw2 := hw1.call hb2
    clear hb2
    go_wp2_with fail
    refine (lpairs_bad A P1 n c d1 l _ _ (HL.out.bel hw2) m x HM.out).mono ?_
    rintro e3 w3 ⟨rfl, hb3⟩
    have hw3 := hw2.call hb3
    go_wp2
    go_ret
    exact ⟨rfl, hw3⟩

set_option maxRecDepth 100000 in
theorem lifted (os : Os) (started : os.Started) (H : Type) (enc : TypeId × Value → H) :
    ReturnsInHanded {} Try.checked os 4 .any (Rows.orderBeforeSpec.pre6 enc Try.prog Try.f4 Rows.orderBeforeRow.domain false) (Rows.orderBeforeSpec.post enc Try.prog Try.f4 false true false false) := by
  refine returnsInHanded_of_change_sized (C := Try.checked) own started (by kernel_rfl) Try.func4
    (ChangeSpec.witness6 (enc := enc) (C := Try.checked) false ⟨#[], #[.slice none 0 0], []⟩ 8 (by kernel_rfl) (by kernel_rfl) (by kernel_rfl) (by kernel_rfl)) ?_
  intro W base args ds gs before hval0 hW hcnd hsz0 _
  have hsz : (DataW.weightsEach Try.prog (Try.f4.params.toList ++ Rows.orderBeforeSpec.plain.varTypes Try.prog) (ds ++ gs)).all (· ≤ reachBytes) = true := hsz0
  clear hsz0
  have hval : ∀ (j : Nat) t v, Try.f4.params[j]? = some t → args[j]? = some v → Value.okWide Try.prog W .any base t v := hval0
  have hW' := hW
  obtain ⟨p, q, hA0, hV, rfl, hfz, hnd⟩ := hW
  have hA : DataW.TrodAll enc Try.prog W 0 (fun _ => true) true Try.f4.params.toList args.toList ds p := hA0
  rw [Try.params4] at hA hval hsz
  obtain ⟨v0, vs0, d0, ds0, p0, q0, hargs, rfl, rfl, h0, r0⟩ := trodAll_cons hA
  obtain ⟨rfl, rfl, rfl⟩ := trodAll_nil r0
  obtain rfl : args = #[v0] := by cases args; simp_all
  obtain ⟨rfl, rfl⟩ := trodVars_none hV
  have t0 := h0
  have lt0 : ∀ x ∈ p0, x.block < W.heap.size := by obtain ⟨m, hm⟩ := t0; exact DataW.trod_lt m _ _ _ hm
  obtain ⟨A0, n0, c0, l0, rfl, s0, m0, x0, g0, z0⟩ := open_evs Try.underlying22 Try.underlying30 ⟨rfl, rfl, rfl⟩ (by kernel_rfl) (by kernel_rfl) Try.underlying3 (hval 0 22 v0 rfl rfl) h0
  have y0 := reach_sl hsz (j := 0) rfl rfl Try.underlying22 (b := 24) (by kernel_rfl) z0
  clear hA0 hval0
  refine (walk W A0 n0 c0 l0 s0 m0 x0 g0).mono fun e W' ⟨he, bel⟩ => ?_
  subst he
  exact ⟨_, rfl, _, _, _, [], _, [], hW', trodAll_mk1 (shut_bool Try.underlying4 _), (trodAll_cons_mk (Below.trod laidOut (by kernel_rfl) (of_decide_eq_true (by kernel_rfl)) t0 bel lt0) trodAll_mk0), rfl, bel.frame _, fun h => by cases h⟩

theorem over : Rows.orderBeforeRow.holds Try.pinned (OpenSpec.ofChange Rows.orderBeforeSpec) :=
  OpenClaim.holds_of_wide 4 Try.f4 rfl rfl rfl rfl rfl rfl rfl ⟨rfl, rfl, rfl, rfl, rfl⟩ rfl rfl rfl rfl rfl (by kernel_rfl) Try.func4 (by kernel_rfl)
    (of_decide_eq_true (by kernel_rfl)) (by unfold Func.isWrapper; first | (rw [if_pos (by decide +kernel)]; kernel_rfl) | (rw [if_neg (by decide +kernel)]; exact ⟨rfl, rfl⟩))
    (fun os started H enc _ => lifted os started H enc)

theorem proved : Rows.OrderBeforeSaid := over
#print axioms proved
end Go.Proofs.Ytkkiflhnjpmalaa.LOrderBefore

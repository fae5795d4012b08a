/- 'deadheatlaw.OrderDirect' returns true for every input and leaves its arguments as they are. No condition. -/
import Derived.Test.YtkkiflhnjpmalaaOpenTr
import Derived.Test.YtkkiflhnjpmalaaRefOr2
set_option linter.all false
set_option maxRecDepth 100000
namespace Go.Proofs.Ytkkiflhnjpmalaa.LOrderDirect
open Go Go.ChangeShapes Go.WideShapes Go.ChangeAt Go.RowKit

set_option maxHeartbeats 4000000 in
theorem walk (W : World) (A : Option Addr) (n c : Nat) (l : List Ev) (s : Sl W A n l) (m : n ≤ c) (x : c ≤ maxLen) (g : ∀ e ∈ l, EvOk e) :
    Calls Try.prog 3 #[.slice A n c] W fun e w' => e = .returned (.bool true) ∧ Below W.heap.size W w' := by
  unfold maxLen at x
  have hw0 : Bel W (W.alloc (.cells #[.slice A n c] 22)) := (Bel.refl _).alloc _
  have HB0 := Lib.hid (Box.new W #[.slice A n c] 22)
  have HL := Lib.hid (s.bel hw0)
  have HN := Lib.hid s.1
  have HE := Lib.hid (enters_of Try.func14 (by kernel_rfl) rfl)
  clear s g
  generalize hW : W.alloc (.cells #[.slice A n c] 22) = W0 at *
  have c0 := HB0.out.cell 0 (v := .slice A n c) rfl
  cases h1 : (may l != 0)
  · have HM := Lib.hid (show may l = 0 by simpa using h1)
    have HP := Lib.hid (prOf_ok (R := dirB) HM.out HN.out)
    clear h1
    go_enter Try.func3, Try.ntmps3
    go_wp2_with fail
    refine (direct_any A n c l _ HL.out).mono ?_
    rintro e1 w1 ⟨v1, rfl, hown1, hb1⟩
    obtain ⟨P1, d1, rfl, hs1, hn1, hm1⟩ := SlP.own hown1
    have HS1 := Lib.hid hs1
    have HB1 := Lib.hid (HB0.out.below hb1 HB0.out.lt)
    have HL1 := Lib.hid (HL.out.bel hb1)
    have HND := Lib.hid (And.intro hn1 hm1)
    have hw1 := hw0.call hb1
    have c1 := HB1.out.cell 0 (v := .slice A n c) rfl
    have hE := HE.out
    clear hb1 hs1 hown1 hn1 hm1 hw0
    go_wp2_with fail
    rw [HM.out]
    refine (lpairs_ok A P1 n c _ d1 l _ _ _ (dirB l) _ HL1.out m x HS1.out HND.out.1 HND.out.2 HM.out HE.out (fun a b w2 ha hb _ hbw => odirect1_any A n c _ l _ w2 (HL1.out.bel hbw) (hbw.box HB1.out) a b ha hb) HP.out).mono ?_
    rintro e2 w2 ⟨rfl, hb2⟩
    have hw2 := hw1.call hb2
    go_wp2
    go_ret
    exact ⟨rfl, hw2⟩
  · have hm0 : may l ≠ 0 := by simpa using h1
    have HM := Lib.hid hm0
    have HP := Lib.hid (prOf_no (R := dirB) hm0)
    clear h1 hm0
    go_enter Try.func3, Try.ntmps3
    go_wp2_with fail
    refine (direct_any A n c l _ HL.out).mono ?_
    rintro e1 w1 ⟨v1, rfl, hown1, hb1⟩
    rw [HP.out] at hown1
    obtain ⟨P1, d1, rfl, hs1, hn1, hm1⟩ := SlP.own hown1
    have HB1 := Lib.hid (HB0.out.below hb1 HB0.out.lt)
    have HL1 := Lib.hid (HL.out.bel hb1)
    have hw1 := hw0.call hb1
    have c1 := HB1.out.cell 0 (v := .slice A n c) rfl
    clear hb1 hs1 hown1 hn1 hm1 hw0
    go_wp2_with fail
    refine (lpairs_bad A P1 n c d1 l _ _ HL1.out m x HM.out).mono ?_
    rintro e2 w2 ⟨rfl, hb2⟩
    have hw2 := hw1.call hb2
    go_wp2
    go_ret
    exact ⟨rfl, hw2⟩

set_option maxRecDepth 100000 in
theorem lifted (os : Os) (started : os.Started) (H : Type) (enc : TypeId × Value → H) :
    ReturnsInHanded {} Try.checked os 3 .any (Rows.orderDirectSpec.pre6 enc Try.prog Try.f3 Rows.orderDirectRow.domain false) (Rows.orderDirectSpec.post enc Try.prog Try.f3 false true false false) := by
  refine returnsInHanded_of_change_sized (C := Try.checked) own started (by kernel_rfl) Try.func3
    (ChangeSpec.witness6 (enc := enc) (C := Try.checked) false ⟨#[], #[.slice none 0 0], []⟩ 8 (by kernel_rfl) (by kernel_rfl) (by kernel_rfl) (by kernel_rfl)) ?_
  intro W base args ds gs before hval0 hW hcnd hsz0 _
  have hsz : (DataW.weightsEach Try.prog (Try.f3.params.toList ++ Rows.orderDirectSpec.plain.varTypes Try.prog) (ds ++ gs)).all (· ≤ reachBytes) = true := hsz0
  clear hsz0
  have hval : ∀ (j : Nat) t v, Try.f3.params[j]? = some t → args[j]? = some v → Value.okWide Try.prog W .any base t v := hval0
  have hW' := hW
  obtain ⟨p, q, hA0, hV, rfl, hfz, hnd⟩ := hW
  have hA : DataW.TrodAll enc Try.prog W 0 (fun _ => true) true Try.f3.params.toList args.toList ds p := hA0
  rw [Try.params3] at hA hval hsz
  obtain ⟨v0, vs0, d0, ds0, p0, q0, hargs, rfl, rfl, h0, r0⟩ := trodAll_cons hA
  obtain ⟨rfl, rfl, rfl⟩ := trodAll_nil r0
  obtain rfl : args = #[v0] := by cases args; simp_all
  obtain ⟨rfl, rfl⟩ := trodVars_none hV
  have t0 := h0
  have lt0 : ∀ x ∈ p0, x.block < W.heap.size := by obtain ⟨m, hm⟩ := t0; exact DataW.trod_lt m _ _ _ hm
  obtain ⟨A0, n0, c0, l0, rfl, s0, m0, x0, g0, z0⟩ := open_evs Try.underlying22 Try.underlying30 ⟨rfl, rfl, rfl⟩ (by kernel_rfl) (by kernel_rfl) Try.underlying3 (hval 0 22 v0 rfl rfl) h0
  have y0 := reach_sl hsz (j := 0) rfl rfl Try.underlying22 (b := 24) (by kernel_rfl) z0
  clear hA0 hval0
  refine (walk W A0 n0 c0 l0 s0 m0 x0 g0).mono fun e W' ⟨he, bel⟩ => ?_
  subst he
  exact ⟨_, rfl, _, _, _, [], _, [], hW', trodAll_mk1 (shut_bool Try.underlying4 _), (trodAll_cons_mk (Below.trod laidOut (by kernel_rfl) (of_decide_eq_true (by kernel_rfl)) t0 bel lt0) trodAll_mk0), rfl, bel.frame _, fun h => by cases h⟩

theorem over : Rows.orderDirectRow.holds Try.pinned (OpenSpec.ofChange Rows.orderDirectSpec) :=
  OpenClaim.holds_of_wide 3 Try.f3 rfl rfl rfl rfl rfl rfl rfl ⟨rfl, rfl, rfl, rfl, rfl⟩ rfl rfl rfl rfl rfl (by kernel_rfl) Try.func3 (by kernel_rfl)
    (of_decide_eq_true (by kernel_rfl)) (by unfold Func.isWrapper; first | (rw [if_pos (by decide +kernel)]; kernel_rfl) | (rw [if_neg (by decide +kernel)]; exact ⟨rfl, rfl⟩))
    (fun os started H enc _ => lifted os started H enc)

theorem proved : Rows.OrderDirectSaid := over
#print axioms proved
end Go.Proofs.Ytkkiflhnjpmalaa.LOrderDirect

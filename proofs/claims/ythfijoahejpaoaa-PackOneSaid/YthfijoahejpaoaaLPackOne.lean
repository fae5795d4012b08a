/- 'deadheatkeep.PackOne' returns true for every input and leaves its arguments as they are: nothing else is asked. -/
import Derived.Test.YthfijoahejpaoaaOpenTr
import Derived.Test.YthfijoahejpaoaaKeepPk
import Derived.Test.YthfijoahejpaoaaEqEv
set_option linter.all false
set_option maxRecDepth 100000
namespace Go.Proofs.Ythfijoahejpaoaa.LPackOne
open Go Go.ChangeShapes Go.WideShapes Go.ChangeAt Go.RowKit

set_option maxHeartbeats 4000000 in
theorem walk (W : World) (A : Option Addr) (n c : Nat) (l : List Ev) (sl : Sl W A n l) (hnc : n ≤ c) (x : c ≤ maxLen) (g : ∀ e ∈ l, EvOk e)
    (B : Option Addr) (m d : Nat) (k : List Ev) (sk : Sl W B m k) (hmd : m ≤ d) (y : d ≤ maxLen) (g' : ∀ e ∈ k, EvOk e) :
    Calls Try.prog 7 #[.slice A n c, .slice B m d] W fun e w' => e = .returned (.bool true) ∧ Below W.heap.size W w' := by
  have hw0 : Bel W W := Bel.refl _
  have HL := Lib.hid sl
  have HK := Lib.hid sk
  have HC := Lib.hid x
  have HD := Lib.hid y
  unfold maxLen at x y
  clear sl sk g g'
  go_enter Try.func7, Try.ntmps7
  go_wp2_with fail
  refine (packed_any _).mono ?_
  rintro e1 w1 ⟨rfl, hb1⟩
  have hw1 := hw0.call hb1
  clear hb1
  go_wp2_with fail
  refine (ppack_any A n c l _ (HL.out.bel hw1.out) hnc (by omega)).mono ?_
  rintro e2 w2 ⟨rfl, hb2⟩
  have hw2 := hw1.call hb2
  clear hb2
  go_wp2_with fail
  refine (ppack_any B m d k _ (HK.out.bel hw2.out) hmd (by omega)).mono ?_
  rintro e3 w3 ⟨rfl, hb3⟩
  have hw3 := hw2.call hb3
  clear hb3
  cases h1 : (may l != 0)
  · cases h2 : (may k != 0)
    · have hl0 : may l = 0 := by simpa using h1
      have hk0 : may k = 0 := by simpa using h2
      have hcmp : ((str (packOf l)).toList == (str (packOf k)).toList) = decide (l = k) := by
        rw [str_beq, packOf, packOf, if_pos hl0, if_pos hk0, Bool.eq_iff_iff, decide_eq_true_iff, decide_eq_true_iff]
        exact ⟨fun h => packL_inj hl0 hk0 h, fun h => by rw [h]⟩
      clear hl0 hk0
      go_wp2_with fail
      refine (eqev_any A B _ c _ d _ _ _ (HL.out.bel hw3.out) (HK.out.bel hw3.out) hnc hmd HC.out HD.out).mono ?_
      rintro e4 w4 ⟨rfl, hb4⟩
      have hw4 := hw3.call hb4
      clear hb4
      cases hd : decide (l = k)
      all_goals
        rw [hd] at hcmp
        go_wp2
        go_ret
        exact ⟨rfl, hw4⟩
    · go_wp2
      go_ret
      exact ⟨rfl, hw3⟩
  · go_wp2
    go_ret
    exact ⟨rfl, hw3⟩

set_option maxRecDepth 100000 in
theorem lifted (os : Os) (started : os.Started) (H : Type) (enc : TypeId × Value → H) :
    ReturnsInHanded {} Try.checked os 7 .any (Rows.packOneSpec.pre6 enc Try.prog Try.f7 Rows.packOneRow.domain false) (Rows.packOneSpec.post enc Try.prog Try.f7 false true false false) := by
  refine returnsInHanded_of_change_sized (C := Try.checked) own started (by kernel_rfl) Try.func7
    (ChangeSpec.witness6 (enc := enc) (C := Try.checked) false ⟨#[], #[.slice none 0 0, .slice none 0 0], []⟩ 8 (by kernel_rfl) (by kernel_rfl) (by kernel_rfl) (by kernel_rfl)) ?_
  intro W base args ds gs before hval0 hW hcnd hsz0 _
  have hsz : (DataW.weightsEach Try.prog (Try.f7.params.toList ++ Rows.packOneSpec.plain.varTypes Try.prog) (ds ++ gs)).all (· ≤ reachBytes) = true := hsz0
  clear hsz0
  have hval : ∀ (j : Nat) t v, Try.f7.params[j]? = some t → args[j]? = some v → Value.okWide Try.prog W .any base t v := hval0
  have hW' := hW
  obtain ⟨p, q, hA0, hV, rfl, hfz, hnd⟩ := hW
  have hA : DataW.TrodAll enc Try.prog W 0 (fun _ => true) true Try.f7.params.toList args.toList ds p := hA0
  rw [Try.params7] at hA hval hsz
  obtain ⟨v0, vs0, d0, ds0, p0, q0, hargs, rfl, rfl, h0, r0⟩ := trodAll_cons hA
  obtain ⟨v1, vs1, d1, ds1, p1, q1, rfl, rfl, rfl, h1, r1⟩ := trodAll_cons r0
  obtain ⟨rfl, rfl, rfl⟩ := trodAll_nil r1
  obtain rfl : args = #[v0, v1] := by cases args; simp_all
  obtain ⟨rfl, rfl⟩ := trodVars_none hV
  have t0 := h0
  have lt0 : ∀ x ∈ p0, x.block < W.heap.size := by obtain ⟨m, hm⟩ := t0; exact DataW.trod_lt m _ _ _ hm
  have t1 := h1
  have lt1 : ∀ x ∈ p1, x.block < W.heap.size := by obtain ⟨m, hm⟩ := t1; exact DataW.trod_lt m _ _ _ hm
  obtain ⟨A0, n0, c0, l0, rfl, s0, m0, x0, g0, z0⟩ := open_evs Try.underlying22 Try.underlying31 ⟨rfl, rfl, rfl⟩ (by kernel_rfl) (by kernel_rfl) Try.underlying3 (hval 0 22 v0 rfl rfl) h0
  have y0 := reach_sl hsz (j := 0) rfl rfl Try.underlying22 (b := 24) (by kernel_rfl) z0
  obtain ⟨A1, n1, c1, l1, rfl, s1, m1, x1, g1, z1⟩ := open_evs Try.underlying22 Try.underlying31 ⟨rfl, rfl, rfl⟩ (by kernel_rfl) (by kernel_rfl) Try.underlying3 (hval 1 22 v1 rfl rfl) h1
  have y1 := reach_sl hsz (j := 1) rfl rfl Try.underlying22 (b := 24) (by kernel_rfl) z1
  clear hA0 hval0
  refine (walk W A0 n0 c0 l0 s0 m0 x0 g0 A1 n1 c1 l1 s1 m1 x1 g1).mono fun e W' ⟨he, bel⟩ => ?_
  subst he
  exact ⟨_, rfl, _, _, _, [], _, [], hW', trodAll_mk1 (shut_bool Try.underlying4 _), (trodAll_cons_mk (Below.trod laidOut (by kernel_rfl) (of_decide_eq_true (by kernel_rfl)) t0 bel lt0) (trodAll_cons_mk (Below.trod laidOut (by kernel_rfl) (of_decide_eq_true (by kernel_rfl)) t1 bel lt1) trodAll_mk0)), rfl, bel.frame _, fun h => by cases h⟩

theorem over : Rows.packOneRow.holds Try.pinned (OpenSpec.ofChange Rows.packOneSpec) :=
  OpenClaim.holds_of_wide 7 Try.f7 rfl rfl rfl rfl rfl rfl rfl ⟨rfl, rfl, rfl, rfl, rfl⟩ rfl rfl rfl rfl rfl (by kernel_rfl) Try.func7 (by kernel_rfl)
    (of_decide_eq_true (by kernel_rfl)) (by unfold Func.isWrapper; first | (rw [if_pos (by decide +kernel)]; kernel_rfl) | (rw [if_neg (by decide +kernel)]; exact ⟨rfl, rfl⟩))
    (fun os started H enc _ => lifted os started H enc)

theorem proved : Rows.PackOneSaid := over
#print axioms proved
end Go.Proofs.Ythfijoahejpaoaa.LPackOne

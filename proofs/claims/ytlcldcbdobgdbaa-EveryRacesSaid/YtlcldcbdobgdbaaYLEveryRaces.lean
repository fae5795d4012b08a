import Derived.Test.YtlcldcbdobgdbaaYKeepPg
import Derived.Test.YtlcldcbdobgdbaaYWf
import Derived.Test.YtlcldcbdobgdbaaYVr
import Derived.Test.YtlcldcbdobgdbaaYOrder
import Derived.Test.YtlcldcbdobgdbaaYRwl
set_option linter.all false
set_option maxRecDepth 100000
namespace Go.Proofs.Ytlcldcbdobgdbaa.LEveryRaces
open Go Go.ChangeShapes Go.WideShapes Go.ChangeAt Go.RowKit

theorem nil_ev : evC [] = 2 := by decide +kernel
theorem own_pks {w : World} {base : Nat} {v : Value} {ws : List Nat} (h : w.ownsRow base 3 1 v ws.length (intq (pks ws))) : SlI w v (pks ws) := own_int h
theorem pks_same (ws : List Nat) : (pks ws == pks ws) = true := by simp
set_option maxHeartbeats 8000000 in
theorem walk (W : World) (A : Option Addr) (n c : Nat) (l : List (List Ev)) (s : Prg W A n l) (m : n ≤ c) (x : c ≤ maxLen) (_g : ∀ ops ∈ l, ∀ e ∈ ops, EvOk e) :
    Calls Try.prog 5 #[.slice A n c] W fun e w' => e = .returned (.bool true) ∧ Below W.heap.size W w' := by
  have HL := Lib.hid s
  have HM := Lib.hid (And.intro m x)
  clear s m x
  go_enter Try.func5, Try.ntmps5
  go_wp2_with fail
  refine (eraces_any A n c l W HL.out HM.out.1 HM.out.2).mono ?_
  rintro e1 w1 ⟨b1, v1, ws, rfl, hB1, ho1, hb1⟩
  have HW1 := Lib.hid (Bel.of hb1)
  have HB1 := Lib.hid hB1
  have HS1 := Lib.hid (own_pks ho1)
  have HO1 := Lib.hid ho1
  clear hB1 ho1 hb1
  go_wp2_with fail
  refine (eends_any none 0 0 [] _ (Prg.nil _) (Nat.le_refl _) (Nat.zero_le _)).mono ?_
  rintro e4 w4 ⟨v4, xs, rfl, hno, _, _, hb4⟩
  rw [nil_ev]
  have HW4 := Lib.hid (HW1.out.trans (Bel.of hb4))
  have HS4 := Lib.hid (SlI.bel HS1.out (Bel.of hb4))
  clear hb4 hno
  go_wp2_with fail
  refine (recheck_any A n c l _ (HL.out.bel HW4.out) HM.out.1 HM.out.2).mono ?_
  rintro e2 w2 ⟨rfl, hb2⟩
  have HW2 := Lib.hid (HW4.out.trans (Bel.of hb2))
  have HS2 := Lib.hid (SlI.bel HS4.out (Bel.of hb2))
  clear hb2 HS4
  by_cases h0 : evC l = 0
  · have H0 := Lib.hid h0
    rw [h0]
    clear h0
    go_wp2_with fail
    refine (rraces_any A n c l _ (HL.out.bel HW2.out) HM.out.1 HM.out.2 H0.out).mono ?_
    rintro e3 w3 ⟨v3, us, b3, rfl, hB3, hs3, hb3⟩
    have HW3 := Lib.hid (HW2.out.trans (Bel.of hb3))
    have HS3 := Lib.hid (And.intro (SlI.bel HS2.out (Bel.of hb3)) hs3)
    have HE := Lib.hid (show b1 = b3 ∧ ws = us by
      refine racesB_uniq HB1.out ?_
      rcases hB3 with ⟨k1, k2⟩ | ⟨k1, k2, k3⟩
      · exact .inr (.inr ⟨H0.out, k1, k2⟩)
      · exact .inr (.inl ⟨H0.out, k1, k2, k3⟩))
    clear hB3 hs3 hb3
    obtain ⟨rfl, rfl⟩ := HE.out
    clear HE HB1 HO1
    have hbb : (b1 == b1) = true := by simp
    go_wp2_with fail
    refine (eqint_any _ _ _ _ _ HS3.out.1 HS3.out.2).mono ?_
    rintro e5 w5 ⟨rfl, rfl⟩
    rw [pks_same]
    go_wp2
    go_ret
    exact ⟨rfl, HW3.out.out⟩
  · have hq : (evC l != 0) = true := by simpa using h0
    obtain ⟨rfl, rfl⟩ : b1 = false ∧ ws = [] := by
      rcases HB1.out with ⟨_, h2, h3⟩ | ⟨h, _⟩ | ⟨h, _⟩
      · exact ⟨h2, h3⟩
      · exact absurd h h0
      · exact absurd h h0
    obtain ⟨A1, d1, rfl, _, _⟩ := row_slice HO1.out
    have hee : (evC l == evC l) = true := by simp
    clear HB1 h0
    rw [show ([] : List Nat).length = 0 from rfl] at *
    go_wp2
    go_ret
    exact ⟨rfl, HW2.out.out⟩
set_option maxRecDepth 100000 in
theorem lifted (os : Os) (started : os.Started) (H : Type) (enc : TypeId × Value → H) :
    ReturnsInHanded {} Try.checked os 5 .any (Rows.everyRacesSpec.pre6 enc Try.prog Try.f5 Rows.everyRacesRow.domain false) (Rows.everyRacesSpec.post enc Try.prog Try.f5 false true false false) := by
  refine returnsInHanded_of_change_sized (C := Try.checked) own started (by kernel_rfl) Try.func5
    (ChangeSpec.witness6 (enc := enc) (C := Try.checked) false ⟨#[], #[.slice none 0 0], []⟩ 8 (by kernel_rfl) (by kernel_rfl) (by kernel_rfl) (by kernel_rfl)) ?_
  intro W base args ds gs before hval0 hW hcnd hsz0 _
  have hsz : (DataW.weightsEach Try.prog (Try.f5.params.toList ++ Rows.everyRacesSpec.plain.varTypes Try.prog) (ds ++ gs)).all (· ≤ reachBytes) = true := hsz0
  clear hsz0
  have hval : ∀ (j : Nat) t v, Try.f5.params[j]? = some t → args[j]? = some v → Value.okWide Try.prog W .any base t v := hval0
  have hW' := hW
  obtain ⟨p, q, hA0, hV, rfl, hfz, hnd⟩ := hW
  have hA : DataW.TrodAll enc Try.prog W 0 (fun _ => true) true Try.f5.params.toList args.toList ds p := hA0
  rw [Try.params5] at hA hval hsz
  obtain ⟨v0, vs0, d0, ds0, p0, q0, hargs, rfl, rfl, h0, r0⟩ := trodAll_cons hA
  obtain ⟨rfl, rfl, rfl⟩ := trodAll_nil r0
  obtain rfl : args = #[v0] := by cases args; simp_all
  obtain ⟨rfl, rfl⟩ := trodVars_none hV
  have t0 := h0
  have lt0 : ∀ x ∈ p0, x.block < W.heap.size := by obtain ⟨m, hm⟩ := t0; exact DataW.trod_lt m _ _ _ hm
  obtain ⟨A0, n0, c0, l0, rfl, s0, m0, x0, g0⟩ := open_ops Try.underlying22 (by kernel_rfl) Try.underlying57 Try.underlying59 ⟨rfl, rfl, rfl⟩ (by kernel_rfl) (by kernel_rfl) Try.underlying3 (hval 0 22 v0 rfl rfl) h0
  clear hA0 hval0
  refine (walk W A0 n0 c0 l0 s0 m0 x0 g0).mono fun e W' ⟨he, bel⟩ => ?_
  subst he
  exact ⟨_, rfl, _, _, _, [], _, [], hW', trodAll_mk1 (shut_bool Try.underlying4 _), (trodAll_cons_mk (Below.trod laidOut (by kernel_rfl) (of_decide_eq_true (by kernel_rfl)) t0 bel lt0) trodAll_mk0), rfl, bel.frame _, fun h => by cases h⟩

theorem over : Rows.everyRacesRow.holds Try.pinned (OpenSpec.ofChange Rows.everyRacesSpec) :=
  OpenClaim.holds_of_wide 5 Try.f5 rfl rfl rfl rfl rfl rfl rfl ⟨rfl, rfl, rfl, rfl, rfl⟩ rfl rfl rfl rfl rfl (by kernel_rfl) Try.func5 (by kernel_rfl)
    (of_decide_eq_true (by kernel_rfl)) (by unfold Func.isWrapper; first | (rw [if_pos (by decide +kernel)]; kernel_rfl) | (rw [if_neg (by decide +kernel)]; exact ⟨rfl, rfl⟩))
    (fun os started H enc _ => lifted os started H enc)

theorem proved : Rows.EveryRacesSaid := over
#print axioms proved
end Go.Proofs.Ytlcldcbdobgdbaa.LEveryRaces

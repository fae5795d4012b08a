import Derived.Test.YtlcldcbdobgdbaaZKeepPg
import Derived.Test.YtlcldcbdobgdbaaZEv
import Derived.Test.YtlcldcbdobgdbaaZWg
set_option linter.all false
set_option maxRecDepth 100000
namespace Go.Proofs.Ytlcldcbdobgdbaa.LEveryEnds
open Go Go.ChangeShapes Go.WideShapes Go.ChangeAt Go.RowKit

theorem nil_ev : evC [] = 2 := by decide +kernel
set_option maxHeartbeats 8000000 in
theorem walk (W : World) (A : Option Addr) (n c : Nat) (l : List (List Ev)) (s : Prg W A n l) (m : n ≤ c) (x : c ≤ maxLen) (_g : ∀ ops ∈ l, ∀ e ∈ ops, EvOk e) :
    Calls Try.prog 3 #[.slice A n c] W fun e w' => e = .returned (.bool true) ∧ Below W.heap.size W w' := by
  have HL := Lib.hid s
  have HM := Lib.hid (And.intro m x)
  clear s m x
  go_enter Try.func3, Try.ntmps3
  go_wp2_with fail
  refine (eends_any A n c l W HL.out HM.out.1 HM.out.2).mono ?_
  rintro e1 w1 ⟨v1, xs, rfl, hno1, hok1, ho1, hb1⟩
  have HW1 := Lib.hid (Bel.of hb1)
  have HO1 := Lib.hid ho1
  have HOK := Lib.hid (And.intro hno1 hok1)
  clear hno1 hok1 ho1 hb1
  go_wp2_with fail
  refine (eends_any none 0 0 [] _ (Prg.nil _) (Nat.le_refl _) (Nat.zero_le _)).mono ?_
  rintro e4 w4 ⟨v4, ys, rfl, hno, _, _, hb4⟩
  rw [nil_ev]
  have HW4 := Lib.hid (HW1.out.trans (Bel.of hb4))
  have HO4 := Lib.hid (own_bel HO1.out (Bel.of hb4))
  clear hb4 hno HO1
  go_wp2_with fail
  refine (recheck_any A n c l _ (HL.out.bel HW4.out) HM.out.1 HM.out.2).mono ?_
  rintro e2 w2 ⟨rfl, hb2⟩
  have HW2 := Lib.hid (HW4.out.trans (Bel.of hb2))
  have HO2 := Lib.hid (own_bel HO4.out (Bel.of hb2))
  clear hb2 HO4
  by_cases h0 : evC l = 0
  · have H0 := Lib.hid h0
    have HE := Lib.hid (HOK.out.2 h0)
    rw [h0]
    clear h0 HOK
    go_wp2_with fail
    refine (rends_any A n c l _ (HL.out.bel HW2.out) HM.out.1 HM.out.2 H0.out).mono ?_
    rintro e3 w3 ⟨v3, ls, rfl, hok3, ho3, hb3⟩
    obtain rfl : xs = ls.map enA := HE.out.uniq hok3
    have hown := own_bel HO2.out (Bel.of hb3)
    rw [List.length_map, ens_row] at hown
    have HW3 := Lib.hid (HW2.out.trans (Bel.of hb3))
    have HOA := Lib.hid hown
    have HOB := Lib.hid ho3
    clear hok3 hb3 hown ho3
    go_wp2_with fail
    refine (eqend_same HOA.out HOB.out).mono ?_
    rintro e5 w5 ⟨rfl, hb5⟩
    have HW5 := Lib.hid (HW3.out.trans (Bel.of hb5))
    clear hb5
    go_wp2
    go_ret
    exact ⟨rfl, HW5.out.out⟩
  · have hq : (evC l != 0) = true := by simpa using h0
    obtain rfl : xs = [] := HOK.out.1 h0
    obtain ⟨A1, d1, rfl, _, _⟩ := row_slice HO2.out
    have hee : (evC l == evC l) = true := by simp
    clear HOK h0
    rw [show ([] : List (Array Value)).length = 0 from rfl] at *
    go_wp2
    go_ret
    exact ⟨rfl, HW2.out.out⟩
set_option maxRecDepth 100000 in
theorem lifted (os : Os) (started : os.Started) (H : Type) (enc : TypeId × Value → H) :
    ReturnsInHanded {} Try.checked os 3 .any (Rows.everyEndsSpec.pre6 enc Try.prog Try.f3 Rows.everyEndsRow.domain false) (Rows.everyEndsSpec.post enc Try.prog Try.f3 false true false false) := by
  refine returnsInHanded_of_change_sized (C := Try.checked) own started (by kernel_rfl) Try.func3
    (ChangeSpec.witness6 (enc := enc) (C := Try.checked) false ⟨#[], #[.slice none 0 0], []⟩ 8 (by kernel_rfl) (by kernel_rfl) (by kernel_rfl) (by kernel_rfl)) ?_
  intro W base args ds gs before hval0 hW hcnd hsz0 _
  have hsz : (DataW.weightsEach Try.prog (Try.f3.params.toList ++ Rows.everyEndsSpec.plain.varTypes Try.prog) (ds ++ gs)).all (· ≤ reachBytes) = true := hsz0
  clear hsz0
  have hval : ∀ (j : Nat) t v, Try.f3.params[j]? = some t → args[j]? = some v → Value.okWide Try.prog W .any base t v := hval0
  have hW' := hW
  obtain ⟨p, q, hA0, hV, rfl, hfz, hnd⟩ := hW
  have hA : DataW.TrodAll enc Try.prog W 0 (fun _ => true) true Try.f3.params.toList args.toList ds p := hA0
  rw [Try.params3] at hA hval hsz
  obtain ⟨v0, vs0, d0, ds0, p0, q0, hargs, rfl, rfl, h0, r0⟩ := trodAll_cons hA
  obtain ⟨rfl, rfl, rfl⟩ := trodAll_nil r0
  obtain rfl : args = #[v0] := by cases args; simp_all
  obtain ⟨rfl, rfl⟩ := trodVars_none hV
  have t0 := h0
  have lt0 : ∀ x ∈ p0, x.block < W.heap.size := by obtain ⟨m, hm⟩ := t0; exact DataW.trod_lt m _ _ _ hm
  obtain ⟨A0, n0, c0, l0, rfl, s0, m0, x0, g0⟩ := open_ops Try.underlying22 (by kernel_rfl) Try.underlying57 Try.underlying59 ⟨rfl, rfl, rfl⟩ (by kernel_rfl) (by kernel_rfl) Try.underlying3 (hval 0 22 v0 rfl rfl) h0
  clear hA0 hval0
  refine (walk W A0 n0 c0 l0 s0 m0 x0 g0).mono fun e W' ⟨he, bel⟩ => ?_
  subst he
  exact ⟨_, rfl, _, _, _, [], _, [], hW', trodAll_mk1 (shut_bool Try.underlying4 _), (trodAll_cons_mk (Below.trod laidOut (by kernel_rfl) (of_decide_eq_true (by kernel_rfl)) t0 bel lt0) trodAll_mk0), rfl, bel.frame _, fun h => by cases h⟩

theorem over : Rows.everyEndsRow.holds Try.pinned (OpenSpec.ofChange Rows.everyEndsSpec) :=
  OpenClaim.holds_of_wide 3 Try.f3 rfl rfl rfl rfl rfl rfl rfl ⟨rfl, rfl, rfl, rfl, rfl⟩ rfl rfl rfl rfl rfl (by kernel_rfl) Try.func3 (by kernel_rfl)
    (of_decide_eq_true (by kernel_rfl)) (by unfold Func.isWrapper; first | (rw [if_pos (by decide +kernel)]; kernel_rfl) | (rw [if_neg (by decide +kernel)]; exact ⟨rfl, rfl⟩))
    (fun os started H enc _ => lifted os started H enc)

theorem proved : Rows.EveryEndsSaid := over
#print axioms proved
end Go.Proofs.Ytlcldcbdobgdbaa.LEveryEnds

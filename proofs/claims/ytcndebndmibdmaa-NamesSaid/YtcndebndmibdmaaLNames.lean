/- 'deadheatlaw.Names' returns true for every input and leaves its arguments as they are. No condition. -/
import Derived.Test.YtcndebndmibdmaaOpen
import Derived.Test.YtcndebndmibdmaaEqInt
set_option linter.all false
namespace Go.Proofs.Ytcndebndmibdmaa.LNames
open Go Go.ChangeShapes Go.WideShapes Go.ChangeAt Go.RowKit
set_option linter.unusedVariables false

theorem errs_get (k : Nat) (h : k < 12) : (ints [0, 1, 2, 3, 4, 5, 6, 7, 8, 9, 10, 11])[k]? = some (.int .i64 k) := by
  match k, h with
  | 0, _ => rfl
  | 1, _ => rfl
  | 2, _ => rfl
  | 3, _ => rfl
  | 4, _ => rfl
  | 5, _ => rfl
  | 6, _ => rfl
  | 7, _ => rfl
  | 8, _ => rfl
  | 9, _ => rfl
  | 10, _ => rfl
  | 11, _ => rfl

theorem m14 : 14 ≤ maxLen := by unfold maxLen; omega
theorem m28 : 28 ≤ maxLen := by unfold maxLen; omega
def lims : List Int := [6, 8, 5, 4, 80, 1000000, 2000, 12, 1000, 100, 8, 40, 60, 200]
def kins : List Int := [1, 2, 3, 4, 5, 6, 7, 8, 0, 1, 2, 3, 1, 2, 3, 0, 1, 2, 3, 1, 2, 3, 4, 5, 6, 7, 8, 9]

set_option maxHeartbeats 1000000 in
theorem walk (w : World) : Calls Try.prog 3 #[] w fun e w' => e = .returned (.bool true) ∧ Below w.heap.size w w' := by
  go_enter Try.func3, Try.ntmps3
  go_wp2_with fail
  change Code.wp _ _ _ _ (w.alloc (.cells (ints [0, 1, 2, 3, 4, 5, 6, 7, 8, 9, 10, 11]) 22))
  obtain ⟨b1, hB, hs⟩ := boxes1 w (ints [0, 1, 2, 3, 4, 5, 6, 7, 8, 9, 10, 11]) 22
  generalize w.alloc (.cells (ints [0, 1, 2, 3, 4, 5, 6, 7, 8, 9, 10, 11]) 22) = W at *
  have HB := Lib.hid hB
  have HSZ := Lib.hid hs
  clear hB hs
  go_loop [9] (fun i => ∃ k : Nat, k ≤ 12 ∧ i = .int .i64 k) (fun i => 12 - (intOf i).toNat)
  case atStart => exact ⟨0, by omega, rfl⟩
  case round =>
    obtain ⟨k, hk, rfl⟩ := hrel
    by_cases hlt : k < 12
    · have hlt' : (k : Int) < 12 := by omega
      have c1 := b1.cell k (errs_get k hlt)
      go_wp2
      go_round
      case rel => exact ⟨k + 1, by omega, by go_num⟩
      case measure => simp [intOf]; omega
    · clear b1
      go_wp2_with fail
      obtain ⟨d1, d2, d3, hD, hd⟩ := boxes3 W (ints lims) (ints kins) (ints lims) 3 3 3
      have HD := Lib.hid hD
      have e2 := d2
      have S1 := SlI.lit d1 14 rfl m14 14
      have S2 := SlI.lit d3 14 rfl m14 14
      have C1 := eqint_any _ _ lims lims _ S1 S2
      have b1 : (lims == lims) = true := by simp
      rw [b1] at C1
      change Calls _ _ #[.slice (some ⟨W.heap.size, 0, none⟩) 14 14, .slice (some ⟨W.heap.size + 1 + 1, 0, none⟩) 14 14] (((W.alloc (.cells (ints lims) 3)).alloc (.cells (ints kins) 3)).alloc (.cells (ints lims) 3)) _
      refine C1.mono ?_
      rintro e w1 ⟨rfl, rfl⟩
      have d4 := d2.old (.cells (ints kins) 3)
      have d5 := Box.new (((W.alloc (.cells (ints lims) 3)).alloc (.cells (ints kins) 3)).alloc (.cells (ints lims) 3)) (ints kins) 3
      have D4 := Lib.hid d4
      have D5 : Hid (Box ((((W.alloc (.cells (ints lims) 3)).alloc (.cells (ints kins) 3)).alloc (.cells (ints lims) 3)).alloc (.cells (ints kins) 3)) (W.heap.size + 1 + 1 + 1) (ints kins) 3) := by rw [hd] at d5; exact d5
      clear d1 d2 d3 hD hd e2 d4 d5 S1 S2 C1 b1
      go_wp2_with fail
      have S1 := SlI.lit D4.out 28 rfl m28 28
      have S2 := SlI.lit D5.out 28 rfl m28 28
      have C1 := eqint_any _ _ kins kins _ S1 S2
      have b1 : (kins == kins) = true := by simp
      rw [b1] at C1
      change Calls _ _ #[.slice (some ⟨W.heap.size + 1, 0, none⟩) 28 28, .slice (some ⟨W.heap.size + 1 + 1 + 1, 0, none⟩) 28 28] ((((W.alloc (.cells (ints lims) 3)).alloc (.cells (ints kins) 3)).alloc (.cells (ints lims) 3)).alloc (.cells (ints kins) 3)) _
      refine C1.mono ?_
      rintro e w1 ⟨rfl, rfl⟩
      go_wp2
      go_ret
      exact ⟨rfl, (HB.out.trans (HD.out.mono (by have := HSZ.out; omega))).alloc (by have := HSZ.out; simp; omega) _⟩

set_option maxRecDepth 100000 in
theorem lifted (os : Os) (started : os.Started) (H : Type) (enc : TypeId × Value → H) :
    ReturnsInHanded {} Try.checked os 3 .any (Rows.namesSpec.pre6 enc Try.prog Try.f3 Rows.namesRow.domain false) (Rows.namesSpec.post enc Try.prog Try.f3 false true false false) := by
  refine returnsInHanded_of_change (C := Try.checked) own started (by kernel_rfl) Try.func3
    (ChangeSpec.witness6 (enc := enc) (C := Try.checked) false ⟨#[], #[], []⟩ 8 (by kernel_rfl) (by kernel_rfl) (by kernel_rfl) (by kernel_rfl)) ?_
  intro W base args ds gs before hval0 hW hcnd _
  have hval : ∀ (j : Nat) t v, Try.f3.params[j]? = some t → args[j]? = some v → Value.okWide Try.prog W .any base t v := hval0
  have hW' := hW
  obtain ⟨p, q, hA0, hV, rfl, hfz, hnd⟩ := hW
  have hA : DataW.TrodAll enc Try.prog W 0 (fun _ => true) true Try.f3.params.toList args.toList ds p := hA0
  rw [Try.params3] at hA hval
  obtain ⟨hargs, rfl, rfl⟩ := trodAll_nil hA
  obtain rfl : args = #[] := by cases args; simp_all
  obtain ⟨rfl, rfl⟩ := trodVars_none hV
  clear hA0 hval0
  refine (walk  W).mono fun e W' ⟨he, bel⟩ => ?_
  subst he
  exact ⟨_, rfl, _, _, _, [], _, [], hW', trodAll_mk1 (shut_bool Try.underlying4 _), trodAll_mk0, rfl, bel.frame _, fun h => by cases h⟩

theorem over : Rows.namesRow.holds Try.pinned (OpenSpec.ofChange Rows.namesSpec) :=
  OpenClaim.holds_of_wide 3 Try.f3 rfl rfl rfl rfl rfl rfl rfl ⟨rfl, rfl, rfl, rfl, rfl⟩ rfl rfl rfl rfl rfl (by kernel_rfl) Try.func3 (by kernel_rfl)
    (of_decide_eq_true (by kernel_rfl)) (by unfold Func.isWrapper; first | (rw [if_pos (by decide +kernel)]; kernel_rfl) | (rw [if_neg (by decide +kernel)]; exact ⟨rfl, rfl⟩))
    (fun os started H enc _ => lifted os started H enc)

theorem proved : Rows.NamesSaid := over
#print axioms proved
end Go.Proofs.Ytcndebndmibdmaa.LNames

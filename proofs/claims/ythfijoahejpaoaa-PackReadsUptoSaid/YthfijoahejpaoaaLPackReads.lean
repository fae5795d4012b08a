/- 'deadheatlaw.PackReads' returns true, and leaves its argument as it is, for every text of at most 1048576 values and letters: nothing else is asked. -/
import Derived.Test.YthfijoahejpaoaaOpenTr
import Derived.Test.YthfijoahejpaoaaOpenStr
import Derived.Test.YthfijoahejpaoaaRefPk2
import Derived.Test.YthfijoahejpaoaaEqEv
import Derived.Deep.CondSized
set_option linter.all false
set_option maxRecDepth 100000
namespace Go.Proofs.Ythfijoahejpaoaa.LPackReads
open Go Go.ChangeShapes Go.WideShapes Go.ChangeAt Go.RowKit

theorem read_nil : packReadL [] = ([], 4) := by decide +kernel
set_option maxHeartbeats 2000000 in
theorem walk (W : World) (l : List UInt8) (hl : l.length ≤ 140737488351232) (hk : l.length ≤ 1048576) :
    Calls Try.prog 4 #[.string (str l)] W fun e w' => e = .returned (.bool true) ∧ Below W.heap.size W w' := by
  have hw0 : Bel W W := Bel.refl _
  have HL := Lib.hid hk
  have HX := Lib.hid read_nil
  clear hl hk
  go_enter Try.func4, Try.ntmps4
  go_wp2_with fail
  refine (kread_any l (Nat.le_trans HL.out (by decide)) _).mono ?_
  rintro e1 w1 ⟨v1, rfl, hown1, hb1⟩
  have hw1 := hw0.call hb1
  obtain ⟨A1, c1, rfl, hs1, hc1, hm1⟩ := Sl.own hown1
  have HS1 := Lib.hid hs1
  clear hown1 hs1 hb1
  go_wp2_with fail
  refine (krread_any l (Nat.le_trans HL.out (by decide)) _).mono ?_
  rintro e2 w2 ⟨v2, rfl, hown2, hb2⟩
  have hw2 := hw1.call hb2
  obtain ⟨A2, c2, rfl, hs2, hc2, hm2⟩ := Sl.own hown2
  have HS1 := Lib.hid (HS1.out.bel hb2)
  have HS2 := Lib.hid hs2
  clear hown2 hs2 hb2
  go_wp2_with fail
  refine (kread_any [] (by simp) _).mono ?_
  rintro e3 w3 ⟨v3, rfl, hown3, hb3⟩
  rw [HX.out]
  have hw3 := hw2.call hb3
  have HS1 := Lib.hid (HS1.out.bel hb3)
  have HS2 := Lib.hid (HS2.out.bel hb3)
  clear hown3 hb3
  go_wp2_with fail
  refine (eqev_any A1 A2 _ c1 _ c2 _ _ _ HS1.out HS2.out hc1 hc2 hm1 hm2).mono ?_
  rintro e4 w4 ⟨rfl, hb4⟩
  have hw4 := hw3.call hb4
  clear hb4
  rw [decide_eq_true rfl]
  go_wp2
  go_ret
  exact ⟨rfl, hw4⟩

set_option maxRecDepth 100000 in
theorem lifted (os : Os) (started : os.Started) (H : Type) (enc : TypeId × Value → H) (F : Stop.Interp) :
    ReturnsInHanded {} Try.checked os 4 .any ((Rows.OpenSpec.upto Rows.packReadsSpec).pre6 enc Try.prog Try.f4 Rows.packReadsUptoRow.domain false) (((Rows.OpenSpec.upto Rows.packReadsSpec).at F).post enc Try.prog Try.f4 false true false false) := by
  refine returnsInHanded_of_cond_sized (C := Try.checked) (s := Rows.OpenSpec.upto Rows.packReadsSpec) (k := Rows.uptoSmall) rfl own started (by kernel_rfl) Try.func4
    (OpenSpec.witness (enc := enc) (C := Try.checked) (s := Rows.OpenSpec.upto Rows.packReadsSpec) (k := Rows.uptoSmall) rfl false ⟨#[], #[.string ⟨#[]⟩], []⟩ 8 (by kernel_rfl) (by kernel_rfl) (by kernel_rfl)
      (x := ([.lit (.string [])], [], [])) (by kernel_rfl) rfl (by kernel_rfl)) ?_
  intro W base args ds gs before hval0 hW hcnd hk hsz0 _
  have hsz : (DataW.weightsEach Try.prog (Try.f4.params.toList ++ Rows.packReadsSpec.plain.varTypes Try.prog) (ds ++ gs)).all (· ≤ reachBytes) = true := hsz0
  clear hsz0
  have hval : ∀ (j : Nat) t v, Try.f4.params[j]? = some t → args[j]? = some v → Value.okWide Try.prog W .any base t v := hval0
  have hW' := hW
  obtain ⟨p, q, hA0, hV, rfl, hfz, hnd⟩ := hW
  have hA : DataW.TrodAll enc Try.prog W 0 (fun _ => true) true Try.f4.params.toList args.toList ds p := hA0
  rw [Try.params4] at hA hval hsz
  obtain ⟨v0, vs0, d0, ds0, p0, q0, hargs, rfl, rfl, h0, r0⟩ := trodAll_cons hA
  obtain ⟨rfl, rfl, rfl⟩ := trodAll_nil r0
  obtain rfl : args = #[v0] := by cases args; simp_all
  obtain ⟨rfl, rfl⟩ := trodVars_none hV
  have t0 := h0
  have lt0 : ∀ x ∈ p0, x.block < W.heap.size := by obtain ⟨m, hm⟩ := t0; exact DataW.trod_lt m _ _ _ hm
  obtain ⟨l0, rfl, e0, x0⟩ := open_str Try.underlying9 (hval 0 9 v0 rfl rfl) h0
  have y0 : l0.length ≤ 140737488351232 := by subst e0; exact sized_string hsz (j := 0) rfl rfl
  clear hA0 hval0
  have hk := of_decide_eq_true hk
  simp only [Rows.uptoBulkAll, Rows.uptoBulk, e0, List.cons_append, List.nil_append, List.append_nil] at hk
  refine (walk W l0 y0 (by omega)).mono fun e W' ⟨he, bel⟩ => ?_
  subst he
  exact ⟨_, rfl, _, _, _, [], _, [], hW', trodAll_mk1 (shut_bool Try.underlying4 _), (trodAll_cons_mk (Below.trod laidOut (by kernel_rfl) (of_decide_eq_true (by kernel_rfl)) t0 bel lt0) trodAll_mk0), rfl, bel.frame _, fun h => by cases h⟩

theorem over : Rows.packReadsUptoRow.holds Try.pinned (Rows.OpenSpec.upto Rows.packReadsSpec) :=
  OpenClaim.holds_of_cond 4 Try.f4 rfl rfl rfl rfl rfl rfl rfl ⟨rfl, rfl, rfl, rfl, rfl⟩ rfl rfl rfl rfl rfl (by kernel_rfl) Try.func4 (by kernel_rfl)
    (of_decide_eq_true (by kernel_rfl)) (by unfold Func.isWrapper; first | (rw [if_pos (by decide +kernel)]; kernel_rfl) | (rw [if_neg (by decide +kernel)]; exact ⟨rfl, rfl⟩))
    (fun os started H enc _ F => lifted os started H enc F)

theorem proved : Rows.PackReadsUptoSaid := over
#print axioms proved
end Go.Proofs.Ythfijoahejpaoaa.LPackReads

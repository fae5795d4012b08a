/- 'deadheatkeep.FastNone' returns true for every input and leaves its arguments as they are. No condition. -/
import Derived.Test.YtbkciglapambgaaOpen
import Derived.Test.YtbkciglapambgaaKeepFa
import Derived.Test.YtbkciglapambgaaAll
set_option linter.all false
set_option maxRecDepth 100000
namespace Go.Proofs.Ytbkciglapambgaa.LFastNone
open Go Go.ChangeShapes Go.WideShapes Go.ChangeAt Go.RowKit

theorem rcs_nil {l : List Ev} (hm : may l = 0) : rcs l = [] ↔ ∀ j, j < l.length → djK l j = 0 := by
  rw [rcs_ok hm]
  constructor
  · intro h j hj
    rw [djK_min hm hj, h]
    simp [minK, hasK]
  · intro h
    cases hr : rcsA l with
    | nil => rfl
    | cons r rs =>
      have hmem : r ∈ rcsA l := by rw [hr]; simp
      obtain ⟨a, b, _, hb, _⟩ := mem_rcsA hmem
      have hj : r.b < l.length := (List.getElem?_eq_some_iff.1 hb).1
      have hk := rcsA_k hmem
      exact absurd (h r.b hj) (hasK_djK hm hj (q := r.k) hk (by
        unfold hasK
        simp only [List.any_eq_true, Bool.and_eq_true, beq_iff_eq]
        exact ⟨r, hmem, rfl, rfl⟩))
theorem none_iff (l : List Ev) : (fflags l).length = 0 ↔ (rcs l).length = 0 := by
  rw [List.length_eq_zero_iff, List.length_eq_zero_iff]
  by_cases hm : may l = 0
  · rw [rcs_nil hm, fflags_ok hm, gl_nil_iff]
    exact fk_none hm (Nat.le_refl _)
  · rw [fflags_no hm, rcs_no hm]; exact ⟨fun _ => rfl, fun _ => rfl⟩
theorem allx {l : List Ev} (A : Option Addr) (n c : Nat) (w : World) (hl : Sl w A n l) : Calls Try.prog 19 #[.slice A n c] w (AllPost w l) := by
  by_cases hm : may l = 0
  · exact all_ok A n c l w hl hm
  · refine (all_bad A n c l w hl hm).mono ?_
    rintro e w' ⟨rfl, hb⟩
    exact ⟨_, rfl, by rw [rcs_no hm]; exact World.ownsRow_nil _ _ _ _, hb⟩
set_option maxHeartbeats 4000000 in
theorem walk (W : World) (A : Option Addr) (n c : Nat) (l : List Ev) (s : Sl W A n l) (m : n ≤ c) (x : c ≤ maxLen) (g : ∀ e ∈ l, EvOk e) :
    Calls Try.prog 7 #[.slice A n c] W fun e w' => e = .returned (.bool true) ∧ Below W.heap.size W w' := by
  have hw0 : Bel W W := Bel.refl _
  have HL := Lib.hid s
  clear s g x m
  have hiff := none_iff l
  obtain ⟨p, hp⟩ : ∃ p, (fflags l).length = p := ⟨_, rfl⟩
  obtain ⟨q, hq⟩ : ∃ q, (rcs l).length = q := ⟨_, rfl⟩
  rw [hp, hq] at hiff
  have HP := Lib.hid hp
  have HQ := Lib.hid hq
  have h2 : (may l == may l) = true := by simp
  clear hp hq
  by_cases h0 : p = 0
  · obtain rfl : q = 0 := hiff.1 h0
    subst h0
    clear hiff
    go_enter Try.func7, Try.ntmps7
    go_wp2_with fail
    refine (fasted_any _).mono ?_
    rintro e1 w1 ⟨rfl, hb1⟩
    have hw1 := hw0.call hb1
    clear hb1
    go_wp2_with fail
    refine (frun_any A n c l _ (HL.out.bel hw1)).mono ?_
    rintro e2 w2 ⟨v2, rfl, hown2, hb2⟩
    have hw2 := hw1.call hb2
    clear hb2
    rw [HP.out] at hown2
    obtain ⟨A2, c2, rfl, hs2, _⟩ := Sl.own hown2
    clear hown2 hs2
    go_wp2_with fail
    refine (allx A n c _ (HL.out.bel hw2)).mono ?_
    rintro e3 w3 ⟨v3, rfl, hown3, hb3⟩
    have hw3 := hw2.call hb3
    clear hb3
    rw [HQ.out] at hown3
    obtain ⟨A3, c3, rfl, hs3, _⟩ := SlR.own hown3
    clear hown3 hs3
    go_wp2
    go_ret
    exact ⟨rfl, hw3⟩
  · have h0' : ((p : Int) == 0) = false := by simp; omega
    have h1' : ((q : Int) == 0) = false := by simp; omega
    clear hiff h0
    go_enter Try.func7, Try.ntmps7
    go_wp2_with fail
    refine (fasted_any _).mono ?_
    rintro e1 w1 ⟨rfl, hb1⟩
    have hw1 := hw0.call hb1
    clear hb1
    go_wp2_with fail
    refine (frun_any A n c l _ (HL.out.bel hw1)).mono ?_
    rintro e2 w2 ⟨v2, rfl, hown2, hb2⟩
    have hw2 := hw1.call hb2
    clear hb2
    rw [HP.out] at hown2
    obtain ⟨A2, c2, rfl, hs2, _⟩ := Sl.own hown2
    clear hown2 hs2
    go_wp2_with fail
    refine (allx A n c _ (HL.out.bel hw2)).mono ?_
    rintro e3 w3 ⟨v3, rfl, hown3, hb3⟩
    have hw3 := hw2.call hb3
    clear hb3
    rw [HQ.out] at hown3
    obtain ⟨A3, c3, rfl, hs3, _⟩ := SlR.own hown3
    clear hown3 hs3
    go_wp2
    go_ret
    exact ⟨rfl, hw3⟩

set_option maxRecDepth 100000 in
theorem lifted (os : Os) (started : os.Started) (H : Type) (enc : TypeId × Value → H) :
    ReturnsInHanded {} Try.checked os 7 .any (Rows.fastNoneSpec.pre6 enc Try.prog Try.f7 Rows.fastNoneRow.domain false) (Rows.fastNoneSpec.post enc Try.prog Try.f7 false true false false) := by
  refine returnsInHanded_of_change_sized (C := Try.checked) own started (by kernel_rfl) Try.func7
    (ChangeSpec.witness6 (enc := enc) (C := Try.checked) false ⟨#[], #[.slice none 0 0], []⟩ 8 (by kernel_rfl) (by kernel_rfl) (by kernel_rfl) (by kernel_rfl)) ?_
  intro W base args ds gs before hval0 hW hcnd hsz0 _
  have hsz : (DataW.weightsEach Try.prog (Try.f7.params.toList ++ Rows.fastNoneSpec.plain.varTypes Try.prog) (ds ++ gs)).all (· ≤ reachBytes) = true := hsz0
  clear hsz0
  have hval : ∀ (j : Nat) t v, Try.f7.params[j]? = some t → args[j]? = some v → Value.okWide Try.prog W .any base t v := hval0
  have hW' := hW
  obtain ⟨p, q, hA0, hV, rfl, hfz, hnd⟩ := hW
  have hA : DataW.TrodAll enc Try.prog W 0 (fun _ => true) true Try.f7.params.toList args.toList ds p := hA0
  rw [Try.params7] at hA hval hsz
  obtain ⟨v0, vs0, d0, ds0, p0, q0, hargs, rfl, rfl, h0, r0⟩ := trodAll_cons hA
  obtain ⟨rfl, rfl, rfl⟩ := trodAll_nil r0
  obtain rfl : args = #[v0] := by cases args; simp_all
  obtain ⟨rfl, rfl⟩ := trodVars_none hV
  have t0 := h0
  have lt0 : ∀ x ∈ p0, x.block < W.heap.size := by obtain ⟨m, hm⟩ := t0; exact DataW.trod_lt m _ _ _ hm
  obtain ⟨A0, n0, c0, l0, rfl, s0, m0, x0, g0, z0⟩ := open_evs Try.underlying22 Try.underlying50 ⟨rfl, rfl, rfl⟩ (by kernel_rfl) (by kernel_rfl) Try.underlying3 (hval 0 22 v0 rfl rfl) h0
  have y0 := reach_sl hsz (j := 0) rfl rfl Try.underlying22 (b := 24) (by kernel_rfl) z0
  clear hA0 hval0
  refine (walk W A0 n0 c0 l0 s0 m0 x0 g0).mono fun e W' ⟨he, bel⟩ => ?_
  subst he
  exact ⟨_, rfl, _, _, _, [], _, [], hW', trodAll_mk1 (shut_bool Try.underlying4 _), (trodAll_cons_mk (Below.trod laidOut (by kernel_rfl) (of_decide_eq_true (by kernel_rfl)) t0 bel lt0) trodAll_mk0), rfl, bel.frame _, fun h => by cases h⟩

theorem over : Rows.fastNoneRow.holds Try.pinned (OpenSpec.ofChange Rows.fastNoneSpec) :=
  OpenClaim.holds_of_wide 7 Try.f7 rfl rfl rfl rfl rfl rfl rfl ⟨rfl, rfl, rfl, rfl, rfl⟩ rfl rfl rfl rfl rfl (by kernel_rfl) Try.func7 (by kernel_rfl)
    (of_decide_eq_true (by kernel_rfl)) (by unfold Func.isWrapper; first | (rw [if_pos (by decide +kernel)]; kernel_rfl) | (rw [if_neg (by decide +kernel)]; exact ⟨rfl, rfl⟩))
    (fun os started H enc _ => lifted os started H enc)

theorem proved : Rows.FastNoneSaid := over
#print axioms proved
end Go.Proofs.Ytbkciglapambgaa.LFastNone

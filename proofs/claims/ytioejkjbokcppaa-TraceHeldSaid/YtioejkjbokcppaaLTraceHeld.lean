/- 'deadheatlaw.TraceHeld' returns true for every input and leaves its arguments as they are. No condition. -/
import Derived.Test.YtioejkjbokcppaaOpenTr
import Derived.Test.YtioejkjbokcppaaKeepTr
set_option linter.all false
namespace Go.Proofs.Ytioejkjbokcppaa.LTraceHeld
open Go Go.ChangeShapes Go.WideShapes Go.ChangeAt Go.RowKit

set_option maxHeartbeats 2000000 in
theorem walk (W : World) (A : Option Addr) (n c : Nat) (l : List Ev) (s : Sl W A n l) (m : n ≤ c) (x : c ≤ maxLen) (g : ∀ e ∈ l, EvOk e) (t : Int) (kt : In64 t) :
    Calls Try.prog 4 #[.slice A n c, .int .i64 t] W fun e w' => e = .returned (.bool true) ∧ Below W.heap.size W w' := by
  have hw0 : Bel W W := Bel.refl _
  have HS := Lib.hid s
  have HC := Lib.hid check_wrong
  unfold maxLen at x
  clear s g kt
  cases h1 : (may l == 0)
  · have h2 : (may l != 0) = true := by simp only [bne, h1]; rfl
    have HP := Lib.hid (show pheld l t = (0, may l) by unfold pheld; rw [if_neg (by simpa using h1)])
    go_enter Try.func4, Try.ntmps4
    go_wp2_with fail
    refine (held_any A n c l t _ HS.out).mono ?_
    rintro e1 w1 ⟨rfl, hb1⟩
    have hw1 : Bel W w1 := hw0.call hb1
    clear hb1
    rw [HP.out]
    go_wp2_with fail
    refine (rmay_any A n c l _ (HS.out.bel hw1.out) m x).mono ?_
    rintro e2 w2 ⟨rfl, hb2⟩
    have hw2 : Bel W w2 := hw1.call hb2
    clear hb2
    go_wp2_with fail
    refine (wrong_any _).mono ?_
    rintro e3 w3 ⟨A3, c3, rfl, hs3, hc3, hm3, hb3⟩
    have hw3 : Bel W w3 := hw2.call hb3
    clear hb3
    have HS3 := Lib.hid hs3
    clear hs3
    go_wp2_with fail
    refine (check_any A3 1 c3 _ _ HS3.out).mono ?_
    rintro e4 w4 ⟨rfl, hb4⟩
    have hw4 : Bel W w4 := hw3.call hb4
    clear hb4
    rw [HC.out]
    go_wp2
    go_ret
    exact ⟨ret_val (by simp), hw4⟩
  · have H0 := Lib.hid (show may l = 0 by simpa using h1)
    clear h1
    cases h3 : inB t 6
    · have HP := Lib.hid (show pheld l t = (0, 1) by unfold pheld; rw [if_pos H0.out, h3]; rfl)
      have h4 : t < 0 ∨ 5 < t := by
        rcases Int.lt_or_le t 0 with h | h
        · exact .inl h
        · refine .inr ?_
          rcases Int.lt_or_le 5 t with h' | h'
          · exact h'
          · rw [inB_yes h (by omega)] at h3; cases h3
      clear h3
      rcases h4 with h4 | h4
      all_goals
        go_enter Try.func4, Try.ntmps4
        go_wp2_with fail
        refine (held_any A n c l t _ HS.out).mono ?_
        rintro e1 w1 ⟨rfl, hb1⟩
        have hw1 : Bel W w1 := hw0.call hb1
        clear hb1
        rw [HP.out]
        go_wp2_with fail
        refine (rmay_any A n c l _ (HS.out.bel hw1.out) m x).mono ?_
        rintro e2 w2 ⟨rfl, hb2⟩
        have hw2 : Bel W w2 := hw1.call hb2
        clear hb2
        rw [H0.out]
        go_wp2_with fail
        refine (wrong_any _).mono ?_
        rintro e3 w3 ⟨A3, c3, rfl, hs3, hc3, hm3, hb3⟩
        have hw3 : Bel W w3 := hw2.call hb3
        clear hb3
        have HS3 := Lib.hid hs3
        clear hs3
        go_wp2_with fail
        refine (check_any A3 1 c3 _ _ HS3.out).mono ?_
        rintro e4 w4 ⟨rfl, hb4⟩
        have hw4 : Bel W w4 := hw3.call hb4
        clear hb4
        rw [HC.out]
        go_wp2
        go_ret
        exact ⟨ret_val (by simp), hw4⟩
    · have HP := Lib.hid (show pheld l t = (held l t, 0) by unfold pheld; rw [if_pos H0.out, h3]; rfl)
      obtain ⟨h4, h5⟩ := inB_iff.1 h3
      have h6 : t ≤ 5 := by omega
      clear h3
      go_enter Try.func4, Try.ntmps4
      go_wp2_with fail
      refine (held_any A n c l t _ HS.out).mono ?_
      rintro e1 w1 ⟨rfl, hb1⟩
      have hw1 : Bel W w1 := hw0.call hb1
      clear hb1
      rw [HP.out]
      go_wp2_with fail
      refine (rmay_any A n c l _ (HS.out.bel hw1.out) m x).mono ?_
      rintro e2 w2 ⟨rfl, hb2⟩
      have hw2 : Bel W w2 := hw1.call hb2
      clear hb2
      rw [H0.out]
      go_wp2_with fail
      refine (wrong_any _).mono ?_
      rintro e3 w3 ⟨A3, c3, rfl, hs3, hc3, hm3, hb3⟩
      have hw3 : Bel W w3 := hw2.call hb3
      clear hb3
      have HS3 := Lib.hid hs3
      clear hs3
      go_wp2_with fail
      refine (check_any A3 1 c3 _ _ HS3.out).mono ?_
      rintro e4 w4 ⟨rfl, hb4⟩
      have hw4 : Bel W w4 := hw3.call hb4
      clear hb4
      rw [HC.out]
      go_wp2_with fail
      refine (rheld_any A n c l t _ (HS.out.bel hw4.out) (by omega)).mono ?_
      rintro e5 w5 ⟨rfl, hb5⟩
      have hw5 : Bel W w5 := hw4.call hb5
      clear hb5
      go_wp2
      go_ret
      exact ⟨ret_val (by simp), hw5⟩

set_option maxRecDepth 100000 in
theorem lifted (os : Os) (started : os.Started) (H : Type) (enc : TypeId × Value → H) :
    ReturnsInHanded {} Try.checked os 4 .any (Rows.traceHeldSpec.pre6 enc Try.prog Try.f4 Rows.traceHeldRow.domain false) (Rows.traceHeldSpec.post enc Try.prog Try.f4 false true false false) := by
  refine returnsInHanded_of_change_sized (C := Try.checked) own started (by kernel_rfl) Try.func4
    (ChangeSpec.witness6 (enc := enc) (C := Try.checked) false ⟨#[], #[.slice none 0 0, .int .i64 0], []⟩ 8 (by kernel_rfl) (by kernel_rfl) (by kernel_rfl) (by kernel_rfl)) ?_
  intro W base args ds gs before hval0 hW hcnd hsz0 _
  have hsz : (DataW.weightsEach Try.prog (Try.f4.params.toList ++ Rows.traceHeldSpec.plain.varTypes Try.prog) (ds ++ gs)).all (· ≤ reachBytes) = true := hsz0
  clear hsz0
  have hval : ∀ (j : Nat) t v, Try.f4.params[j]? = some t → args[j]? = some v → Value.okWide Try.prog W .any base t v := hval0
  have hW' := hW
  obtain ⟨p, q, hA0, hV, rfl, hfz, hnd⟩ := hW
  have hA : DataW.TrodAll enc Try.prog W 0 (fun _ => true) true Try.f4.params.toList args.toList ds p := hA0
  rw [Try.params4] at hA hval hsz
  obtain ⟨v0, vs0, d0, ds0, p0, q0, hargs, rfl, rfl, h0, r0⟩ := trodAll_cons hA
  obtain ⟨v1, vs1, d1, ds1, p1, q1, rfl, rfl, rfl, h1, r1⟩ := trodAll_cons r0
  obtain ⟨rfl, rfl, rfl⟩ := trodAll_nil r1
  obtain rfl : args = #[v0, v1] := by cases args; simp_all
  obtain ⟨rfl, rfl⟩ := trodVars_none hV
  have t0 := h0
  have lt0 : ∀ x ∈ p0, x.block < W.heap.size := by obtain ⟨m, hm⟩ := t0; exact DataW.trod_lt m _ _ _ hm
  have t1 := h1
  have lt1 : ∀ x ∈ p1, x.block < W.heap.size := by obtain ⟨m, hm⟩ := t1; exact DataW.trod_lt m _ _ _ hm
  obtain ⟨A0, n0, c0, l0, rfl, s0, m0, x0, g0, z0⟩ := open_evs Try.underlying22 Try.underlying36 ⟨rfl, rfl, rfl⟩ (by kernel_rfl) (by kernel_rfl) Try.underlying3 (hval 0 22 v0 rfl rfl) h0
  have y0 := reach_sl hsz (j := 0) rfl rfl Try.underlying22 (b := 24) (by kernel_rfl) z0
  obtain ⟨a1, rfl, _, _, x1⟩ := open_int Try.underlying3 (hval 1 3 v1 rfl rfl) h1
  have k1 := in64_of x1
  clear hA0 hval0
  refine (walk W A0 n0 c0 l0 s0 m0 x0 g0 a1 k1).mono fun e W' ⟨he, bel⟩ => ?_
  subst he
  exact ⟨_, rfl, _, _, _, [], _, [], hW', trodAll_mk1 (shut_bool Try.underlying4 _), (trodAll_cons_mk (Below.trod laidOut (by kernel_rfl) (of_decide_eq_true (by kernel_rfl)) t0 bel lt0) (trodAll_cons_mk (Below.trod laidOut (by kernel_rfl) (of_decide_eq_true (by kernel_rfl)) t1 bel lt1) trodAll_mk0)), rfl, bel.frame _, fun h => by cases h⟩

theorem over : Rows.traceHeldRow.holds Try.pinned (OpenSpec.ofChange Rows.traceHeldSpec) :=
  OpenClaim.holds_of_wide 4 Try.f4 rfl rfl rfl rfl rfl rfl rfl ⟨rfl, rfl, rfl, rfl, rfl⟩ rfl rfl rfl rfl rfl (by kernel_rfl) Try.func4 (by kernel_rfl)
    (of_decide_eq_true (by kernel_rfl)) (by unfold Func.isWrapper; first | (rw [if_pos (by decide +kernel)]; kernel_rfl) | (rw [if_neg (by decide +kernel)]; exact ⟨rfl, rfl⟩))
    (fun os started H enc _ => lifted os started H enc)

theorem proved : Rows.TraceHeldSaid := over
#print axioms proved
end Go.Proofs.Ytioejkjbokcppaa.LTraceHeld

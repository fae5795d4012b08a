/- 'deadheatkeep.TracePrefix' returns true for every input and leaves its arguments as they are. No condition. -/
import Derived.Test.YtioejkjbokcppaaOpenTr
import Derived.Test.YtioejkjbokcppaaKeepTr
import Derived.Test.YtioejkjbokcppaaRest
set_option linter.all false
namespace Go.Proofs.Ytioejkjbokcppaa.LTracePrefix
open Go Go.ChangeShapes Go.WideShapes Go.ChangeAt Go.RowKit

set_option maxHeartbeats 4000000 in
theorem walk (W : World) (A : Option Addr) (n c : Nat) (l : List Ev) (s : Sl W A n l) (m : n ≤ c) (x : c ≤ maxLen) (g : ∀ e ∈ l, EvOk e) (t : Int) (kt : In64 t) :
    Calls Try.prog 6 #[.slice A n c, .int .i64 t] W fun e w' => e = .returned (.bool true) ∧ Below W.heap.size W w' := by
  have hw0 : Bel W W := Bel.refl _
  have HS := Lib.hid s
  unfold maxLen at x
  by_cases h1 : 80 < n
  · have HC := Lib.hid (show check l = (0, 2) by unfold check; rw [if_pos (by rw [s.1]; exact h1)])
    have h1' : (80 : Int) < n := by omega
    clear s g kt
    go_enter Try.func6, Try.ntmps6
    go_wp2_with fail
    refine (traced_any _).mono ?_
    rintro e1 w1 ⟨rfl, hb1⟩
    have hw1 : Bel W w1 := hw0.call hb1
    clear hb1
    go_wp2_with fail
    refine (check_any A n c l _ (HS.out.bel hw1.out)).mono ?_
    rintro e2 w2 ⟨rfl, hb2⟩
    have hw2 : Bel W w2 := hw1.call hb2
    clear hb2
    rw [HC.out]
    go_wp2
    go_ret
    exact ⟨rfl, hw2⟩
  · have hn2 : (check l).2 ≠ 2 := fun h => h1 (by have := check_large.1 h; rw [s.1] at this; exact this)
    by_cases h2 : (check l).2 = 0
    · have HC := Lib.hid (check_ok h2)
      have HM := Lib.hid h2
      have hk0 := Int.emod_nonneg t (show (n : Int) + 1 ≠ 0 by omega)
      have hk1 := Int.emod_lt_of_pos t (show (0 : Int) < n + 1 by omega)
      have HR := Lib.hid (fun w => rest_any t (n + 1) kt (by omega) (by omega) w)
      generalize t % ((n : Int) + 1) = r at *
      obtain ⟨k, rfl⟩ := Int.eq_ofNat_of_zero_le hk0
      have hk : k ≤ n := by omega
      have hkc : (k : Int) ≤ c := by omega
      have hb : (may (l.take k) == 0) = true := by rw [may_take HM.out k]; rfl
      clear s g kt h2 hn2
      go_enter Try.func6, Try.ntmps6
      go_wp2_with fail
      refine (traced_any _).mono ?_
      rintro e1 w1 ⟨rfl, hb1⟩
      have hw1 : Bel W w1 := hw0.call hb1
      clear hb1
      go_wp2_with fail
      refine (check_any A n c l _ (HS.out.bel hw1.out)).mono ?_
      rintro e2 w2 ⟨rfl, hb2⟩
      have hw2 : Bel W w2 := hw1.call hb2
      clear hb2
      rw [HC.out]
      go_wp2_with fail
      refine (HR.out _).mono ?_
      rintro _ _ ⟨rfl, rfl⟩
      go_wp2_with fail
      refine (may_any A k c (l.take k) _ ((HS.out.bel hw2.out).take hk)).mono ?_
      rintro e3 w3 ⟨rfl, hb3⟩
      have hw3 : Bel W w3 := hw2.call hb3
      clear hb3
      go_wp2
      go_ret
      exact ⟨rfl, hw3⟩
    · obtain ⟨h80, i, e, he, hc, hw, hm1, hm2⟩ := check_bad h2 hn2
      have hi : i < n := by rw [← s.1]; exact (List.getElem?_eq_some_iff.1 he).1
      have HC := Lib.hid hc
      have hb1 : (may (l.take i) == 0) = true := by rw [hm1]; rfl
      have hb2 : (may (l.take (i + 1)) == 0) = false := by simpa using hm2
      rw [hc] at hn2 h2
      have hb3 : (wrong (l.take i) e == 2) = false := by simpa using hn2
      have hb4 : (wrong (l.take i) e != 0) = true := by simpa using h2
      have hic : (i : Int) ≤ c := by omega
      have hi' : (i : Int) < n := by omega
      clear s g kt h2 hn2 hc hw hm1 hm2 he h80
      go_enter Try.func6, Try.ntmps6
      go_wp2_with fail
      refine (traced_any _).mono ?_
      rintro e1 w1 ⟨rfl, hb1⟩
      have hw1 : Bel W w1 := hw0.call hb1
      clear hb1
      go_wp2_with fail
      refine (check_any A n c l _ (HS.out.bel hw1.out)).mono ?_
      rintro e2 w2 ⟨rfl, hb2⟩
      have hw2 : Bel W w2 := hw1.call hb2
      clear hb2
      rw [HC.out]
      go_wp2_with fail
      refine (may_any A i c (l.take i) _ ((HS.out.bel hw2.out).take (Nat.le_of_lt hi))).mono ?_
      rintro e3 w3 ⟨rfl, hb3⟩
      have hw3 : Bel W w3 := hw2.call hb3
      clear hb3
      go_wp2_with fail
      refine (may_any A (i + 1) c (l.take (i + 1)) _ ((HS.out.bel hw3.out).take hi)).mono ?_
      rintro e4 w4 ⟨rfl, hb4⟩
      have hw4 : Bel W w4 := hw3.call hb4
      clear hb4
      go_wp2
      go_ret
      exact ⟨rfl, hw4⟩

set_option maxRecDepth 100000 in
theorem lifted (os : Os) (started : os.Started) (H : Type) (enc : TypeId × Value → H) :
    ReturnsInHanded {} Try.checked os 6 .any (Rows.tracePrefixSpec.pre6 enc Try.prog Try.f6 Rows.tracePrefixRow.domain false) (Rows.tracePrefixSpec.post enc Try.prog Try.f6 false true false false) := by
  refine returnsInHanded_of_change_sized (C := Try.checked) own started (by kernel_rfl) Try.func6
    (ChangeSpec.witness6 (enc := enc) (C := Try.checked) false ⟨#[], #[.slice none 0 0, .int .i64 0], []⟩ 8 (by kernel_rfl) (by kernel_rfl) (by kernel_rfl) (by kernel_rfl)) ?_
  intro W base args ds gs before hval0 hW hcnd hsz0 _
  have hsz : (DataW.weightsEach Try.prog (Try.f6.params.toList ++ Rows.tracePrefixSpec.plain.varTypes Try.prog) (ds ++ gs)).all (· ≤ reachBytes) = true := hsz0
  clear hsz0
  have hval : ∀ (j : Nat) t v, Try.f6.params[j]? = some t → args[j]? = some v → Value.okWide Try.prog W .any base t v := hval0
  have hW' := hW
  obtain ⟨p, q, hA0, hV, rfl, hfz, hnd⟩ := hW
  have hA : DataW.TrodAll enc Try.prog W 0 (fun _ => true) true Try.f6.params.toList args.toList ds p := hA0
  rw [Try.params6] at hA hval hsz
  obtain ⟨v0, vs0, d0, ds0, p0, q0, hargs, rfl, rfl, h0, r0⟩ := trodAll_cons hA
  obtain ⟨v1, vs1, d1, ds1, p1, q1, rfl, rfl, rfl, h1, r1⟩ := trodAll_cons r0
  obtain ⟨rfl, rfl, rfl⟩ := trodAll_nil r1
  obtain rfl : args = #[v0, v1] := by cases args; simp_all
  obtain ⟨rfl, rfl⟩ := trodVars_none hV
  have t0 := h0
  have lt0 : ∀ x ∈ p0, x.block < W.heap.size := by obtain ⟨m, hm⟩ := t0; exact DataW.trod_lt m _ _ _ hm
  have t1 := h1
  have lt1 : ∀ x ∈ p1, x.block < W.heap.size := by obtain ⟨m, hm⟩ := t1; exact DataW.trod_lt m _ _ _ hm
  obtain ⟨A0, n0, c0, l0, rfl, s0, m0, x0, g0, z0⟩ := open_evs Try.underlying22 Try.underlying36 ⟨rfl, rfl, rfl⟩ (by kernel_rfl) (by kernel_rfl) Try.underlying3 (hval 0 22 v0 rfl rfl) h0
  have y0 := reach_sl hsz (j := 0) rfl rfl Try.underlying22 (b := 24) (by kernel_rfl) z0
  obtain ⟨a1, rfl, _, _, x1⟩ := open_int Try.underlying3 (hval 1 3 v1 rfl rfl) h1
  have k1 := in64_of x1
  clear hA0 hval0
  refine (walk W A0 n0 c0 l0 s0 m0 x0 g0 a1 k1).mono fun e W' ⟨he, bel⟩ => ?_
  subst he
  exact ⟨_, rfl, _, _, _, [], _, [], hW', trodAll_mk1 (shut_bool Try.underlying4 _), (trodAll_cons_mk (Below.trod laidOut (by kernel_rfl) (of_decide_eq_true (by kernel_rfl)) t0 bel lt0) (trodAll_cons_mk (Below.trod laidOut (by kernel_rfl) (of_decide_eq_true (by kernel_rfl)) t1 bel lt1) trodAll_mk0)), rfl, bel.frame _, fun h => by cases h⟩

theorem over : Rows.tracePrefixRow.holds Try.pinned (OpenSpec.ofChange Rows.tracePrefixSpec) :=
  OpenClaim.holds_of_wide 6 Try.f6 rfl rfl rfl rfl rfl rfl rfl ⟨rfl, rfl, rfl, rfl, rfl⟩ rfl rfl rfl rfl rfl (by kernel_rfl) Try.func6 (by kernel_rfl)
    (of_decide_eq_true (by kernel_rfl)) (by unfold Func.isWrapper; first | (rw [if_pos (by decide +kernel)]; kernel_rfl) | (rw [if_neg (by decide +kernel)]; exact ⟨rfl, rfl⟩))
    (fun os started H enc _ => lifted os started H enc)

theorem proved : Rows.TracePrefixSaid := over
#print axioms proved
end Go.Proofs.Ytioejkjbokcppaa.LTracePrefix

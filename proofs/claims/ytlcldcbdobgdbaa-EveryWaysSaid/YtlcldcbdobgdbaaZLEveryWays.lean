import Derived.Test.YtlcldcbdobgdbaaZKeepPg
import Derived.Test.YtlcldcbdobgdbaaZEv
import Derived.Test.YtlcldcbdobgdbaaZVw
import Derived.Test.YtlcldcbdobgdbaaZOpenEnd
set_option linter.all false
set_option maxRecDepth 100000
namespace Go.Proofs.Ytlcldcbdobgdbaa.LEveryWays
open Go Go.ChangeShapes Go.WideShapes Go.ChangeAt Go.RowKit

theorem nil_ev : evC [] = 2 := by decide +kernel
theorem own_pks {w : World} {base : Nat} {v : Value} {ws : List Nat} (h : w.ownsRow base 3 1 v ws.length (intq (pks ws))) : SlI w v (pks ws) := own_int h
theorem pks_same (ws : List Nat) : (pks ws == pks ws) = true := by simp
set_option maxHeartbeats 8000000 in
theorem walk (W : World) (A : Option Addr) (n c : Nat) (l : List (List Ev)) (s : Prg W A n l) (m : n ≤ c) (x : c ≤ maxLen) (_g : ∀ ops ∈ l, ∀ e ∈ ops, EvOk e) (y : Array Value) (hy : EnF y) :
    Calls Try.prog 4 #[.slice A n c, .agg y] W fun e w' => e = .returned (.bool true) ∧ Below W.heap.size W w' := by
  have HL := Lib.hid s
  have HM := Lib.hid (And.intro m x)
  have HY := Lib.hid hy
  have HSZ := Lib.hid (show 20 = y.size by obtain ⟨_, _, _, _, _, rfl⟩ := hy; rfl)
  have HX := Lib.hid (Box.new W y 33)
  have HWA := Lib.hid ((Bel.refl W).alloc (.cells y 33))
  clear s m x hy
  go_enter Try.func4, Try.ntmps4
  go_wp2_with (first | (refine loadB 33 _ rfl rfl rfl HX.out (HSZ.out ▸ TEnd) ?_))
  refine (eway_any A n c l y _ (HL.out.bel HWA.out) HM.out.1 HM.out.2 HY.out).mono ?_
  rintro e1 w1 ⟨v1, ws, c1, rfl, hB1, ho1, hb1⟩
  have HW1 := Lib.hid (HWA.out.trans (Bel.of hb1))
  have HX1 := Lib.hid ((Bel.of hb1).box HX.out)
  have HB1 := Lib.hid hB1
  have HS1 := Lib.hid (own_pks ho1)
  clear hB1 ho1 hb1 HX HWA
  go_wp2_with fail
  refine (recheck_any A n c l _ (HL.out.bel HW1.out) HM.out.1 HM.out.2).mono ?_
  rintro e2 w2 ⟨rfl, hb2⟩
  have HW2 := Lib.hid (HW1.out.trans (Bel.of hb2))
  have HX2 := Lib.hid ((Bel.of hb2).box HX1.out)
  have HS2 := Lib.hid (SlI.bel HS1.out (Bel.of hb2))
  clear hb2 HX1 HS1
  by_cases h0 : evC l = 0
  · have H0 := Lib.hid h0
    have hq : (evC l == 0) = true := by simpa using h0
    clear h0
    go_wp2_with (first | (refine loadB 33 _ rfl rfl rfl HX2.out (HSZ.out ▸ TEnd) ?_))
    refine (rway_any A n c l y _ (HL.out.bel HW2.out) HM.out.1 HM.out.2 H0.out HY.out).mono ?_
    rintro e3 w3 ⟨v3, us, b3, rfl, hB3, hs3, hb3⟩
    have HW3 := Lib.hid (HW2.out.trans (Bel.of hb3))
    have HS3 := Lib.hid (And.intro (SlI.bel HS2.out (Bel.of hb3)) hs3)
    have HE := Lib.hid (show ws = us ∧ ((b3 = true ∧ c1 = 0) ∨ (b3 = false ∧ c1 = 7)) by
      rcases HB1.out with ⟨h, _⟩ | ⟨_, h1, h2, h3⟩ | ⟨_, h1, h2⟩ <;> rcases hB3 with ⟨k1, k2⟩ | ⟨k1, k2, k3⟩
      · exact absurd H0.out h
      · exact absurd H0.out h
      · exact absurd k2.isEnd h1
      · exact ⟨h2.trans k3.symm, .inr ⟨k1, h3⟩⟩
      · exact ⟨h1.uniq k2, .inl ⟨k1, h2⟩⟩
      · exact absurd h1.isEnd k2)
    clear hB3 hs3 hb3 hq
    obtain ⟨rfl, hbc⟩ := HE.out
    rw [H0.out]
    rcases hbc with ⟨rfl, rfl⟩ | ⟨rfl, rfl⟩
    all_goals
      clear HE HB1
      go_wp2_with fail
      refine (eends_any none 0 0 [] _ (Prg.nil _) (Nat.le_refl _) (Nat.zero_le _)).mono ?_
      rintro e4 w4 ⟨v4, xs, rfl, hno, _, _, hb4⟩
      rw [nil_ev]
      have HW4 := Lib.hid (HW3.out.trans (Bel.of hb4))
      have HS4 := Lib.hid (And.intro (SlI.bel HS3.out.1 (Bel.of hb4)) (SlI.bel HS3.out.2 (Bel.of hb4)))
      clear hb4 hno
      go_wp2_with fail
      refine (eqint_any _ _ _ _ _ HS4.out.1 HS4.out.2).mono ?_
      rintro e5 w5 ⟨rfl, rfl⟩
      rw [pks_same]
      go_wp2
      go_ret
      exact ⟨rfl, HW4.out.out⟩
  · have hq : (evC l == 0) = false := by simpa using h0
    obtain ⟨rfl, rfl⟩ : ws = [] ∧ c1 = evC l := by
      rcases HB1.out with ⟨_, h2, h3⟩ | ⟨h, _⟩ | ⟨h, _⟩
      · exact ⟨h2, h3⟩
      · exact absurd h h0
      · exact absurd h h0
    clear HB1 h0
    go_wp2_with fail
    refine (eends_any none 0 0 [] _ (Prg.nil _) (Nat.le_refl _) (Nat.zero_le _)).mono ?_
    rintro e4 w4 ⟨v4, xs, rfl, hno, _, _, hb4⟩
    rw [nil_ev]
    have HW4 := Lib.hid (HW2.out.trans (Bel.of hb4))
    have HS4 := Lib.hid (SlI.bel HS2.out (Bel.of hb4))
    clear hb4 hno
    go_wp2_with fail
    refine (eqint_any _ _ _ [] _ HS4.out (.inl ⟨rfl, rfl⟩)).mono ?_
    rintro e5 w5 ⟨rfl, rfl⟩
    rw [show (pks [] == []) = true from rfl]
    go_wp2
    go_ret
    exact ⟨rfl, HW4.out.out⟩
set_option maxRecDepth 100000 in
theorem lifted (os : Os) (started : os.Started) (H : Type) (enc : TypeId × Value → H) :
    ReturnsInHanded {} Try.checked os 4 .any (Rows.everyWaysSpec.pre6 enc Try.prog Try.f4 Rows.everyWaysRow.domain false) (Rows.everyWaysSpec.post enc Try.prog Try.f4 false true false false) := by
  refine returnsInHanded_of_change_sized (C := Try.checked) own started (by kernel_rfl) Try.func4
    (ChangeSpec.witness6 (enc := enc) (C := Try.checked) false ⟨#[], #[.slice none 0 0, .agg #[.int .i64 0, .int .i64 0, .int .i64 0, .int .i64 0, .int .i64 0, .int .i64 0, .int .i64 0, .int .i64 0, .int .i64 0, .int .i64 0, .int .i64 0, .int .i64 0, .int .i64 0, .int .i64 0, .int .i64 0, .int .i64 0, .int .i64 0, .int .i64 0, .bool false, .bool false]], []⟩ 8 (by kernel_rfl) (by kernel_rfl) (by kernel_rfl) (by kernel_rfl)) ?_
  intro W base args ds gs before hval0 hW hcnd hsz0 _
  have hsz : (DataW.weightsEach Try.prog (Try.f4.params.toList ++ Rows.everyWaysSpec.plain.varTypes Try.prog) (ds ++ gs)).all (· ≤ reachBytes) = true := hsz0
  clear hsz0
  have hval : ∀ (j : Nat) t v, Try.f4.params[j]? = some t → args[j]? = some v → Value.okWide Try.prog W .any base t v := hval0
  have hW' := hW
  obtain ⟨p, q, hA0, hV, rfl, hfz, hnd⟩ := hW
  have hA : DataW.TrodAll enc Try.prog W 0 (fun _ => true) true Try.f4.params.toList args.toList ds p := hA0
  rw [Try.params4] at hA hval hsz
  obtain ⟨v0, vs0, d0, ds0, p0, q0, hargs, rfl, rfl, h0, r0⟩ := trodAll_cons hA
  obtain ⟨v1, vs1, d1, ds1, p1, q1, rfl, rfl, rfl, h1, r1⟩ := trodAll_cons r0
  obtain ⟨rfl, rfl, rfl⟩ := trodAll_nil r1
  obtain rfl : args = #[v0, v1] := by cases args; simp_all
  obtain ⟨rfl, rfl⟩ := trodVars_none hV
  have t0 := h0
  have lt0 : ∀ x ∈ p0, x.block < W.heap.size := by obtain ⟨m, hm⟩ := t0; exact DataW.trod_lt m _ _ _ hm
  have t1 := h1
  have lt1 : ∀ x ∈ p1, x.block < W.heap.size := by obtain ⟨m, hm⟩ := t1; exact DataW.trod_lt m _ _ _ hm
  obtain ⟨A0, n0, c0, l0, rfl, s0, m0, x0, g0⟩ := open_ops Try.underlying22 (by kernel_rfl) Try.underlying57 Try.underlying59 ⟨rfl, rfl, rfl⟩ (by kernel_rfl) (by kernel_rfl) Try.underlying3 (hval 0 22 v0 rfl rfl) h0
  obtain ⟨a1, rfl, k1⟩ := open_end (hval 1 33 v1 rfl rfl) h1
  clear hA0 hval0
  refine (walk W A0 n0 c0 l0 s0 m0 x0 g0 a1 k1).mono fun e W' ⟨he, bel⟩ => ?_
  subst he
  exact ⟨_, rfl, _, _, _, [], _, [], hW', trodAll_mk1 (shut_bool Try.underlying4 _), (trodAll_cons_mk (Below.trod laidOut (by kernel_rfl) (of_decide_eq_true (by kernel_rfl)) t0 bel lt0) (trodAll_cons_mk (Below.trod laidOut (by kernel_rfl) (of_decide_eq_true (by kernel_rfl)) t1 bel lt1) trodAll_mk0)), rfl, bel.frame _, fun h => by cases h⟩

theorem over : Rows.everyWaysRow.holds Try.pinned (OpenSpec.ofChange Rows.everyWaysSpec) :=
  OpenClaim.holds_of_wide 4 Try.f4 rfl rfl rfl rfl rfl rfl rfl ⟨rfl, rfl, rfl, rfl, rfl⟩ rfl rfl rfl rfl rfl (by kernel_rfl) Try.func4 (by kernel_rfl)
    (of_decide_eq_true (by kernel_rfl)) (by unfold Func.isWrapper; first | (rw [if_pos (by decide +kernel)]; kernel_rfl) | (rw [if_neg (by decide +kernel)]; exact ⟨rfl, rfl⟩))
    (fun os started H enc _ => lifted os started H enc)

theorem proved : Rows.EveryWaysSaid := over
#print axioms proved
end Go.Proofs.Ytlcldcbdobgdbaa.LEveryWays

/- 'deadheatlaw.ProgAlone' returns true for every input and leaves its arguments as they are. No condition. -/
import Derived.Test.YtecdilijcjgjmaaOpenOp
import Derived.Test.YtecdilijcjgjmaaRpA
import Derived.Test.YtecdilijcjgjmaaEqPr
import Derived.Test.YtecdilijcjgjmaaAln
set_option linter.all false
set_option maxRecDepth 100000
namespace Go.Proofs.Ytecdilijcjgjmaa.LProgAlone
open Go Go.ChangeShapes Go.WideShapes Go.ChangeAt Go.RowKit

set_option maxHeartbeats 16000000 in
theorem walkH (HC : CheckC) (HA : AloneC) (W : World) (A : Option Addr) (n c : Nat) (l : List (List Ev)) (s : Prg W A n l) (m : n ≤ c) (x : c ≤ maxLen) (_g : ∀ ops ∈ l, ∀ e ∈ ops, EvOk e) (t : Int) (kt : In64 t) :
    Calls Try.prog 5 #[.slice A n c, .int .i64 t] W fun e w' => e = .returned (.bool true) ∧ Below W.heap.size W w' := by
  have HL := Lib.hid s
  have HM := Lib.hid (And.intro m x)
  have HK := Lib.hid kt
  unfold CheckC at HC
  unfold AloneC at HA
  have H0 := Lib.hid (fun w => HC none 0 0 [] w (Prg.nil w) (Nat.le_refl _) (Nat.zero_le _))
  have H1 := Lib.hid HA
  clear s HC HA kt
  go_enter Try.func5, Try.ntmps5
  go_wp2_with fail
  refine (H1.out A n c l t W HL.out HM.out.1 HM.out.2 HK.out).mono ?_
  rintro e1 w1 ⟨v1, q1, c1, rfl, hB1, ho1, hb1⟩
  have HW1 := Lib.hid (Bel.of hb1)
  obtain ⟨A1, d1, rfl, hs1, hn1, hm1⟩ := SlP.own ho1
  have HS1 := Lib.hid (And.intro hs1 (And.intro hn1 hm1))
  clear hb1 ho1 hs1 hn1 hm1
  go_wp2_with fail
  refine (pchk_any A n c l w1 (HL.out.bel HW1.out) HM.out.1 HM.out.2).mono ?_
  rintro e2 w2 ⟨rfl, hb2⟩
  have HW2 := Lib.hid (HW1.out.call hb2)
  have HS2 := Lib.hid (HS1.out.1.bel (Bel.of hb2))
  have hnx : (n : Int) ≤ c := by omega
  clear hb2
  have HLN := Lib.hid HL.out.1
  have h00 : chkP [] = 2 := by decide
  rcases hB1 with ⟨h1, rfl, rfl⟩ | ⟨h1, h2, rfl, rfl⟩ | ⟨h1, ⟨k, rfl, hk, rfl⟩, rfl⟩
  · have g1 : (chkP l == 0) = false := by simpa using h1
    have g2 : (chkP l != 0) = true := by simpa using h1
    have he : ((chkP l : Int) == chkP l) = true := by simp
    clear h1
    go_wp2_with fail
    refine (H0.out w2).mono ?_
    rintro e3 w3 ⟨rfl, hb3⟩
    have HW3 := Lib.hid (HW2.out.call hb3)
    clear hb3
    go_wp2
    go_ret
    exact ⟨rfl, HW3.out.out⟩
  · rw [HLN.out] at h2
    rw [h1]
    clear h1
    by_cases h3 : t < 0
    · clear h2
      go_wp2_with fail
      refine (H0.out w2).mono ?_
      rintro e3 w3 ⟨rfl, hb3⟩
      have HW3 := Lib.hid (HW2.out.call hb3)
      clear hb3
      go_wp2
      go_ret
      exact ⟨rfl, HW3.out.out⟩
    · have h4 : (n : Int) ≤ t := by omega
      clear h2
      go_wp2_with fail
      refine (H0.out w2).mono ?_
      rintro e3 w3 ⟨rfl, hb3⟩
      have HW3 := Lib.hid (HW2.out.call hb3)
      clear hb3
      go_wp2
      go_ret
      exact ⟨rfl, HW3.out.out⟩
  · rw [HLN.out] at hk
    rw [h1]
    clear h1
    have h3 : ¬ (k : Int) < 0 := by omega
    have h4 : ¬ (n : Int) ≤ k := by omega
    have h5 : (k : Int) < n := by omega
    have h6 : (k : Int) ≤ c := by omega
    obtain ⟨b, off, B, mm, d, rfl, hb, hc, hsl, hmm, hd⟩ := (HL.out.bel HW2.out).at_ hk
    have HO := Lib.hid hsl
    have HD := Lib.hid (And.intro hmm hd)
    clear hsl hmm hd m x
    go_wp2_with fail
    refine (palone_any B mm d (opsP l k) w2 HO.out HD.out.1 (by have := HD.out.2; unfold maxLen at this; omega)).mono ?_
    rintro e3 w3 ⟨v3, rfl, ho3, hb3⟩
    obtain ⟨A3, d3, rfl, hs3, hn3, hm3⟩ := SlP.own ho3
    have HS3 := Lib.hid (And.intro hs3 (And.intro hn3 hm3))
    have HW3 := Lib.hid (HW2.out.call hb3)
    have HS2' := Lib.hid (HS2.out.bel (Bel.of hb3))
    clear hb3 ho3 hs3 hn3 hm3 hc hb
    go_wp2_with fail
    refine (eqpr_any A1 A3 _ d1 _ d3 _ _ w3 HS2'.out HS3.out.1 HS1.out.2.1 HS3.out.2.1 HS1.out.2.2 HS3.out.2.2).mono ?_
    rintro e4 w4 ⟨rfl, hb4⟩
    rw [decide_eq_true rfl]
    have HW4 := Lib.hid (HW3.out.call hb4)
    clear hb4
    go_wp2_with fail
    refine (H0.out w4).mono ?_
    rintro e5 w5 ⟨rfl, hb5⟩
    have HW5 := Lib.hid (HW4.out.call hb5)
    clear hb5
    go_wp2
    go_ret
    exact ⟨rfl, HW5.out.out⟩
set_option maxRecDepth 100000 in
theorem lifted (os : Os) (started : os.Started) (H : Type) (enc : TypeId × Value → H) :
    ReturnsInHanded {} Try.checked os 5 .any (Rows.progAloneSpec.pre6 enc Try.prog Try.f5 Rows.progAloneRow.domain false) (Rows.progAloneSpec.post enc Try.prog Try.f5 false true false false) := by
  refine returnsInHanded_of_change_sized (C := Try.checked) own started (by kernel_rfl) Try.func5
    (ChangeSpec.witness6 (enc := enc) (C := Try.checked) false ⟨#[], #[.slice none 0 0, .int .i64 0], []⟩ 8 (by kernel_rfl) (by kernel_rfl) (by kernel_rfl) (by kernel_rfl)) ?_
  intro W base args ds gs before hval0 hW hcnd hsz0 _
  have hsz : (DataW.weightsEach Try.prog (Try.f5.params.toList ++ Rows.progAloneSpec.plain.varTypes Try.prog) (ds ++ gs)).all (· ≤ reachBytes) = true := hsz0
  clear hsz0
  have hval : ∀ (j : Nat) t v, Try.f5.params[j]? = some t → args[j]? = some v → Value.okWide Try.prog W .any base t v := hval0
  have hW' := hW
  obtain ⟨p, q, hA0, hV, rfl, hfz, hnd⟩ := hW
  have hA : DataW.TrodAll enc Try.prog W 0 (fun _ => true) true Try.f5.params.toList args.toList ds p := hA0
  rw [Try.params5] at hA hval hsz
  obtain ⟨v0, vs0, d0, ds0, p0, q0, hargs, rfl, rfl, h0, r0⟩ := trodAll_cons hA
  obtain ⟨v1, vs1, d1, ds1, p1, q1, rfl, rfl, rfl, h1, r1⟩ := trodAll_cons r0
  obtain ⟨rfl, rfl, rfl⟩ := trodAll_nil r1
  obtain rfl : args = #[v0, v1] := by cases args; simp_all
  obtain ⟨rfl, rfl⟩ := trodVars_none hV
  have t0 := h0
  have lt0 : ∀ x ∈ p0, x.block < W.heap.size := by obtain ⟨m, hm⟩ := t0; exact DataW.trod_lt m _ _ _ hm
  have t1 := h1
  have lt1 : ∀ x ∈ p1, x.block < W.heap.size := by obtain ⟨m, hm⟩ := t1; exact DataW.trod_lt m _ _ _ hm
  obtain ⟨A0, n0, c0, l0, rfl, s0, m0, x0, g0⟩ := open_ops Try.underlying22 (by kernel_rfl) Try.underlying46 Try.underlying55 ⟨rfl, rfl, rfl⟩ (by kernel_rfl) (by kernel_rfl) Try.underlying3 (hval 0 22 v0 rfl rfl) h0
  obtain ⟨a1, rfl, _, _, x1⟩ := open_int Try.underlying3 (hval 1 3 v1 rfl rfl) h1
  have k1 := in64_of x1
  clear hA0 hval0
  refine (walkH pgcheck_any pgalone_any W A0 n0 c0 l0 s0 m0 x0 g0 a1 k1).mono fun e W' ⟨he, bel⟩ => ?_
  subst he
  exact ⟨_, rfl, _, _, _, [], _, [], hW', trodAll_mk1 (shut_bool Try.underlying4 _), (trodAll_cons_mk (Below.trod laidOut (by kernel_rfl) (of_decide_eq_true (by kernel_rfl)) t0 bel lt0) (trodAll_cons_mk (Below.trod laidOut (by kernel_rfl) (of_decide_eq_true (by kernel_rfl)) t1 bel lt1) trodAll_mk0)), rfl, bel.frame _, fun h => by cases h⟩

theorem over : Rows.progAloneRow.holds Try.pinned (OpenSpec.ofChange Rows.progAloneSpec) :=
  OpenClaim.holds_of_wide 5 Try.f5 rfl rfl rfl rfl rfl rfl rfl ⟨rfl, rfl, rfl, rfl, rfl⟩ rfl rfl rfl rfl rfl (by kernel_rfl) Try.func5 (by kernel_rfl)
    (of_decide_eq_true (by kernel_rfl)) (by unfold Func.isWrapper; first | (rw [if_pos (by decide +kernel)]; kernel_rfl) | (rw [if_neg (by decide +kernel)]; exact ⟨rfl, rfl⟩))
    (fun os started H enc _ => lifted os started H enc)

theorem proved : Rows.ProgAloneSaid := over
#print axioms proved
end Go.Proofs.Ytecdilijcjgjmaa.LProgAlone

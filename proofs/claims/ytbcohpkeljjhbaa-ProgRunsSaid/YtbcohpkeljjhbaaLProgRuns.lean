/- 'deadheatlaw.ProgRuns' returns true for every input and leaves its arguments as they are. No condition. -/
import Derived.Test.YtbcohpkeljjhbaaKeepPg
import Derived.Test.YtbcohpkeljjhbaaOpenInts
import Derived.Test.YtbcohpkeljjhbaaRpR
import Derived.Test.YtbcohpkeljjhbaaEqEv
import Derived.Test.YtbcohpkeljjhbaaFo
set_option linter.all false
set_option maxRecDepth 100000
namespace Go.Proofs.Ytbcohpkeljjhbaa.LProgRuns
open Go Go.ChangeShapes Go.WideShapes Go.ChangeAt Go.RowKit

set_option maxHeartbeats 16000000 in
theorem walkH (HC : CheckC) (HR : RunC) (W : World) (A : Option Addr) (n c : Nat) (l : List (List Ev)) (s : Prg W A n l) (m : n ≤ c) (x : c ≤ maxLen) (_g : ∀ ops ∈ l, ∀ e ∈ ops, EvOk e)
    (B : Option Addr) (k d : Nat) (q : List Int) (s1 : SI W B k q) (m1 : k ≤ d) (x1 : d ≤ maxLen) (g1 : ∀ x ∈ q, In64 x) :
    Calls Try.prog 3 #[.slice A n c, .slice B k d] W fun e w' => e = .returned (.bool true) ∧ Below W.heap.size W w' := by
  have HL := Lib.hid s
  have HS := Lib.hid s1
  have HM := Lib.hid (And.intro (And.intro m x) (And.intro m1 x1))
  have HG := Lib.hid g1
  unfold CheckC at HC
  unfold RunC at HR
  have H0 := Lib.hid (fun w => HC none 0 0 [] w (Prg.nil w) (Nat.le_refl _) (Nat.zero_le _))
  have H1 := Lib.hid HR
  clear s m x s1 m1 x1 g1 HC HR
  go_enter Try.func3, Try.ntmps3
  go_wp2_with fail
  refine (H1.out A n c l B k d q W HL.out HM.out.1.1 HM.out.1.2 HS.out HM.out.2.1 HM.out.2.2).mono ?_
  rintro e1 w1 ⟨v1, x1, l1, c1, rfl, hB1, ho1, hb1⟩
  have HW1 := Lib.hid (Bel.of hb1)
  have HB1 := Lib.hid hB1
  have HV := Lib.hid (EnV.run hB1)
  obtain ⟨A1, d1, rfl, hs1, hn1, hm1⟩ := Sl.own ho1
  have HS1 := Lib.hid (And.intro hs1 (And.intro hn1 hm1))
  have HX1 := Lib.hid (enw_box w1 x1)
  have HE1 := Lib.hid (HW1.out.trans (enw_bel w1 x1))
  clear hb1 hB1 ho1 hs1 hn1 hm1
  go_wp2_with (refine enw_store HV.out.ty _ _ rfl rfl HV.out.size HV.out.one rfl rfl rfl ?_)
  refine (prun_any A n c l B k d q _ (HL.out.bel HE1.out) HM.out.1.1 HM.out.1.2 (HS.out.keep HE1.out) HM.out.2.1 HM.out.2.2 HG.out).mono ?_
  rintro e2 w2 ⟨v2, x2, l2, c2, rfl, hB2, ho2, hb2⟩
  obtain ⟨rfl, rfl, rfl⟩ := runB_uniq hB2 HB1.out
  obtain ⟨A2, d2, rfl, hs2, hn2, hm2⟩ := Sl.own ho2
  have HS2 := Lib.hid (And.intro hs2 (And.intro hn2 hm2))
  have HX2 := Lib.hid (((Bel.of hb2).trans (enw_bel w2 x2)).box HX1.out)
  have HY2 := Lib.hid (enw_box w2 x2)
  have HE2 := Lib.hid ((HE1.out.call hb2).trans (enw_bel w2 x2))
  have HS1' := Lib.hid (HS1.out.1.bel (((enw_bel w1 x2).trans (Bel.of hb2)).trans (enw_bel w2 x2)).out)
  have HS2' := Lib.hid (hs2.bel (enw_bel w2 x2).out)
  have hcc : ((c2 : Int) == c2) = true := by simp
  clear hb2 hB2 ho2 hs2 hn2 hm2
  go_wp2_with (first | (refine enw_store HV.out.ty _ _ rfl rfl HV.out.size HV.out.one rfl rfl rfl ?_) | (refine loadB 28 _ rfl rfl rfl HX2.out HV.out.ty ?_) | (refine loadB 28 _ rfl rfl rfl HY2.out HV.out.ty ?_) | (refine eql_step 28 _ _ _ rfl rfl rfl rfl grd_end (HV.out.eq _) ?_))
  refine (eqev_any A1 A2 _ d1 _ d2 _ _ _ HS1'.out HS2'.out HS1.out.2.1 HS2.out.2.1 HS1.out.2.2 HS2.out.2.2).mono ?_
  rintro e3 w3 ⟨rfl, hb3⟩
  rw [decide_eq_true rfl]
  have HE3 := Lib.hid (HE2.out.call hb3)
  clear hb3
  go_wp2_with fail
  refine (H0.out w3).mono ?_
  rintro e4 w4 ⟨rfl, hb4⟩
  have HE4 := Lib.hid (HE3.out.call hb4)
  have h0 : chkP [] = 2 := by decide
  clear hb4
  go_wp2
  go_ret
  exact ⟨rfl, HE4.out.out⟩
set_option maxRecDepth 100000 in
theorem lifted (os : Os) (started : os.Started) (H : Type) (enc : TypeId × Value → H) :
    ReturnsInHanded {} Try.checked os 3 .any (Rows.progRunsSpec.pre6 enc Try.prog Try.f3 Rows.progRunsRow.domain false) (Rows.progRunsSpec.post enc Try.prog Try.f3 false true false false) := by
  refine returnsInHanded_of_change_sized (C := Try.checked) own started (by kernel_rfl) Try.func3
    (ChangeSpec.witness6 (enc := enc) (C := Try.checked) false ⟨#[], #[.slice none 0 0, .slice none 0 0], []⟩ 8 (by kernel_rfl) (by kernel_rfl) (by kernel_rfl) (by kernel_rfl)) ?_
  intro W base args ds gs before hval0 hW hcnd hsz0 _
  have hsz : (DataW.weightsEach Try.prog (Try.f3.params.toList ++ Rows.progRunsSpec.plain.varTypes Try.prog) (ds ++ gs)).all (· ≤ reachBytes) = true := hsz0
  clear hsz0
  have hval : ∀ (j : Nat) t v, Try.f3.params[j]? = some t → args[j]? = some v → Value.okWide Try.prog W .any base t v := hval0
  have hW' := hW
  obtain ⟨p, q, hA0, hV, rfl, hfz, hnd⟩ := hW
  have hA : DataW.TrodAll enc Try.prog W 0 (fun _ => true) true Try.f3.params.toList args.toList ds p := hA0
  rw [Try.params3] at hA hval hsz
  obtain ⟨v0, vs0, d0, ds0, p0, q0, hargs, rfl, rfl, h0, r0⟩ := trodAll_cons hA
  obtain ⟨v1, vs1, d1, ds1, p1, q1, rfl, rfl, rfl, h1, r1⟩ := trodAll_cons r0
  obtain ⟨rfl, rfl, rfl⟩ := trodAll_nil r1
  obtain rfl : args = #[v0, v1] := by cases args; simp_all
  obtain ⟨rfl, rfl⟩ := trodVars_none hV
  have t0 := h0
  have lt0 : ∀ x ∈ p0, x.block < W.heap.size := by obtain ⟨m, hm⟩ := t0; exact DataW.trod_lt m _ _ _ hm
  have t1 := h1
  have lt1 : ∀ x ∈ p1, x.block < W.heap.size := by obtain ⟨m, hm⟩ := t1; exact DataW.trod_lt m _ _ _ hm
  obtain ⟨A0, n0, c0, l0, rfl, s0, m0, x0, g0⟩ := open_ops Try.underlying22 (by kernel_rfl) Try.underlying44 Try.underlying46 ⟨rfl, rfl, rfl⟩ (by kernel_rfl) (by kernel_rfl) Try.underlying3 (hval 0 22 v0 rfl rfl) h0
  obtain ⟨A1, n1, c1, l1, rfl, s1, m1, x1, g1⟩ := open_ints_arg Try.underlying23 Try.underlying3 (by kernel_rfl) (hval 1 23 v1 rfl rfl) h1
  clear hA0 hval0
  refine (walkH pgcheck_any pgrun_c W A0 n0 c0 l0 s0 m0 x0 g0 A1 n1 c1 l1 s1 m1 x1 g1).mono fun e W' ⟨he, bel⟩ => ?_
  subst he
  exact ⟨_, rfl, _, _, _, [], _, [], hW', trodAll_mk1 (shut_bool Try.underlying4 _), (trodAll_cons_mk (Below.trod laidOut (by kernel_rfl) (of_decide_eq_true (by kernel_rfl)) t0 bel lt0) (trodAll_cons_mk (Below.trod laidOut (by kernel_rfl) (of_decide_eq_true (by kernel_rfl)) t1 bel lt1) trodAll_mk0)), rfl, bel.frame _, fun h => by cases h⟩

theorem over : Rows.progRunsRow.holds Try.pinned (OpenSpec.ofChange Rows.progRunsSpec) :=
  OpenClaim.holds_of_wide 3 Try.f3 rfl rfl rfl rfl rfl rfl rfl ⟨rfl, rfl, rfl, rfl, rfl⟩ rfl rfl rfl rfl rfl (by kernel_rfl) Try.func3 (by kernel_rfl)
    (of_decide_eq_true (by kernel_rfl)) (by unfold Func.isWrapper; first | (rw [if_pos (by decide +kernel)]; kernel_rfl) | (rw [if_neg (by decide +kernel)]; exact ⟨rfl, rfl⟩))
    (fun os started H enc _ => lifted os started H enc)

theorem proved : Rows.ProgRunsSaid := over
#print axioms proved
end Go.Proofs.Ytbcohpkeljjhbaa.LProgRuns

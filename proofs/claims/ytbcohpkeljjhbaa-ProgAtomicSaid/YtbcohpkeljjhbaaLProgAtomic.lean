/- 'deadheatkeep.ProgAtomic' returns true for every input and leaves its arguments as they are. No condition. -/
import Derived.Test.YtbcohpkeljjhbaaAd
import Derived.Test.YtbcohpkeljjhbaaOpenInts
import Derived.Test.YtbcohpkeljjhbaaKeepPg
import Derived.Test.YtbcohpkeljjhbaaKeepTw
import Derived.Test.YtbcohpkeljjhbaaAll
import Derived.Test.YtbcohpkeljjhbaaFo
import Derived.Deep.DeepCutAuto
set_option linter.all false
set_option maxRecDepth 100000
namespace Go.Proofs.Ytbcohpkeljjhbaa.LProgAtomic
open Go Go.ChangeShapes Go.WideShapes Go.ChangeAt Go.RowKit

set_option maxHeartbeats 16000000 in
theorem walkH (HR : RunC) (W : World) (B1 : Option Addr) (k1 d1 : Nat) (q1 : List Int) (s1 : SI W B1 k1 q1) (m1 : k1 ≤ d1) (x1 : d1 ≤ maxLen) (g1 : ∀ x ∈ q1, In64 x)
    (B2 : Option Addr) (k2 d2 : Nat) (q2 : List Int) (s2 : SI W B2 k2 q2) (m2 : k2 ≤ d2) (x2 : d2 ≤ maxLen) (_g2 : ∀ x ∈ q2, In64 x) :
    Calls Try.prog 11 #[.slice B1 k1 d1, .slice B2 k2 d2] W fun e w' => e = .returned (.bool true) ∧ Below W.heap.size W w' := by
  have HS1 := Lib.hid (And.intro s1 (And.intro m1 x1))
  have HS2 := Lib.hid (And.intro s2 (And.intro m2 x2))
  have HG1 := Lib.hid g1
  have HRN := Lib.hid (fun w => ran_any HR w)
  unfold RunC at HR
  have H1 := Lib.hid HR
  have hk1 : (k1 : Int) ≤ d1 := by omega
  have hk2 : (k2 : Int) ≤ d2 := by omega
  clear s1 m1 x1 g1 s2 m2 x2 HR
  go_enter Try.func11, Try.ntmps11
  go_wp2_with fail
  refine (HRN.out W).mono ?_
  rintro e0 w0 ⟨rfl, hb0⟩
  have HW0 := Lib.hid (Bel.of hb0)
  clear hb0
  go_wp2_with fail
  rw [show (min (k1 : Int) 5).toNat = min k1 5 by omega]
  obtain ⟨hq5, hqk, hqd⟩ : min k1 5 ≤ 5 ∧ min k1 5 ≤ k1 ∧ min k1 5 ≤ d1 := by omega
  have HQ := Lib.hid (si_take (HS1.out.1.keep HW0.out) hqk)
  generalize min k1 5 = K at *
  have HQG := Lib.hid (show ∀ x ∈ q1.take K, In64 x from fun x hx => HG1.out x (List.mem_of_mem_take hx))
  generalize q1.take K = q at *
  refine (adders_any true B1 K d1 q _ HQ.out hqd HS1.out.2.2 HQG.out hq5).mono ?_
  rintro e1 w1 ⟨A, c, rfl, hp, hn, hc, hb1⟩
  have HQL := Lib.hid (show q.length = K from HQ.out.1)
  have HNL := Lib.hid (show (adN q).length = q.length by simp [adN])
  have HOK := Lib.hid (show OkP (adP (adN q)) from adP_ok (by rw [HNL.out, HQL.out]; exact hq5) adN_b)
  have HP := Lib.hid (show Prg w1 A (q.length + 1) (adP (adN q)) from hp)
  have HNC := Lib.hid (And.intro hn hc)
  have HW1 := Lib.hid (HW0.out.call hb1)
  clear hp hn hc hb1 hqd hq5 hqk HG1
  generalize hns : adN q = ns at *
  generalize q.length + 1 = N1 at *
  go_wp2_with fail
  rw [show (min (k2 : Int) 100).toNat = min k2 100 by omega]
  have HR2 := Lib.hid (si_take (HS2.out.1.keep HW1.out) (show min k2 100 ≤ k2 by omega))
  have HD2 := Lib.hid (show min k2 100 ≤ d2 ∧ min k2 100 ≤ 100 by omega)
  generalize min k2 100 = K2 at *
  generalize q2.take K2 = ts at *
  refine (H1.out A N1 c (adP ns) B2 K2 d2 ts _ HP.out HNC.out.1 HNC.out.2 HR2.out HD2.out.1 HS2.out.2.2).mono ?_
  rintro e2 w2 ⟨v2, y2, l2, c2, rfl, hB2, ho2, hb2⟩
  have HV := Lib.hid (EnV.run hB2)
  obtain ⟨rfl, rfl, rfl⟩ : y2 = endP (adP ns) (runP (adP ns) ts) ∧ l2 = (runP (adP ns) ts).L ∧ c2 = 0 := by
    rcases hB2 with ⟨h1, _⟩ | ⟨_, h1, _⟩ | ⟨_, _, h2, h3, h4⟩
    · exact absurd (chk_ok.2 HOK.out) h1
    · rw [HR2.out.1] at h1; have := HD2.out.2; omega
    · exact ⟨h2, h3, h4⟩
  obtain ⟨A2, e2', rfl, hs2, hn2, hm2⟩ := Sl.own ho2
  have HX := Lib.hid (enw_box w2 (endP (adP ns) (runP (adP ns) ts)))
  have HE := Lib.hid ((HW1.out.call hb2).trans (enw_bel w2 (endP (adP ns) (runP (adP ns) ts))))
  have HT := Lib.hid (hs2.bel (enw_bel w2 (endP (adP ns) (runP (adP ns) ts))).out)
  have HFR := Lib.hid (show rcs (runP (adP ns) ts).L = [] from ad_free HOK.out ts)
  have HMY := Lib.hid (show may (runP (adP ns) ts).L = 0 from (runP_ok HOK.out ts).may HOK.out)
  have HGO := Lib.hid (show doneP (adP ns) (runP (adP ns) ts) = false → goesP (adP ns) (runP (adP ns) ts) = true from ad_goes (ad_run HOK.out ts))
  have HSM := Lib.hid (show doneP (adP ns) (runP (adP ns) ts) = true → (runP (adP ns) ts).mem 0 = ns.sum from ad_sum HOK.out)
  clear hb2 ho2 hs2 hn2 hm2 hB2
  go_wp2_with (refine enw_store HV.out.ty _ _ rfl rfl HV.out.size HV.out.one rfl rfl rfl ?_)
  refine (alle_any A2 _ e2' _ _ HT.out).mono ?_
  rintro e6 w6 ⟨v6, rfl, ho6, hb6⟩
  rw [HMY.out]
  rw [HFR.out] at ho6
  obtain ⟨A6, c6, rfl, _, hn6, hm6⟩ := SlR.own ho6
  have HE6 := Lib.hid (HE.out.call hb6)
  have HX6 := Lib.hid ((Bel.of hb6).box HX.out)
  clear hb6 ho6 hn6 hm6
  have c1 := HX6.out.cell 18 (v := .bool (doneP (adP ns) (runP (adP ns) ts))) rfl
  have c2 := HX6.out.cell 19 (v := .bool (stuckP (adP ns) (runP (adP ns) ts))) rfl
  have c3 := HX6.out.cell 0 (v := .int .i64 ((runP (adP ns) ts).mem 0)) rfl
  have hst : stuckP (adP ns) (runP (adP ns) ts) = false := by
    unfold stuckP
    cases hd : doneP (adP ns) (runP (adP ns) ts)
    · rw [HGO.out hd]; rfl
    · rfl
  rw [hst] at c2
  clear hst
  cases hd : doneP (adP ns) (runP (adP ns) ts)
  · rw [hd] at c1
    clear hd
    go_wp2
    go_ret
    exact ⟨rfl, HE6.out.out⟩
  · rw [hd] at c1
    rw [HSM.out hd] at c3
    clear hd
    go_wp2
    go_ret
    exact ⟨rfl, HE6.out.out⟩
set_option maxRecDepth 100000 in
theorem lifted (os : Os) (started : os.Started) (H : Type) (enc : TypeId × Value → H) :
    ReturnsInHanded {} Try.checked os 11 .any (Rows.progAtomicSpec.pre6 enc Try.prog Try.f11 Rows.progAtomicRow.domain false) (Rows.progAtomicSpec.post enc Try.prog Try.f11 false true false false) := by
  refine returnsInHanded_of_change_sized (C := Try.checked) own started (by kernel_rfl) Try.func11
    (ChangeSpec.witness6 (enc := enc) (C := Try.checked) false ⟨#[], #[.slice none 0 0, .slice none 0 0], []⟩ 8 (by kernel_rfl) (by kernel_rfl) (by kernel_rfl) (by kernel_rfl)) ?_
  intro W base args ds gs before hval0 hW hcnd hsz0 _
  have hsz : (DataW.weightsEach Try.prog (Try.f11.params.toList ++ Rows.progAtomicSpec.plain.varTypes Try.prog) (ds ++ gs)).all (· ≤ reachBytes) = true := hsz0
  clear hsz0
  have hval : ∀ (j : Nat) t v, Try.f11.params[j]? = some t → args[j]? = some v → Value.okWide Try.prog W .any base t v := hval0
  have hW' := hW
  obtain ⟨p, q, hA0, hV, rfl, hfz, hnd⟩ := hW
  have hA : DataW.TrodAll enc Try.prog W 0 (fun _ => true) true Try.f11.params.toList args.toList ds p := hA0
  rw [Try.params11] at hA hval hsz
  obtain ⟨v0, vs0, d0, ds0, p0, q0, hargs, rfl, rfl, h0, r0⟩ := trodAll_cons hA
  obtain ⟨v1, vs1, d1, ds1, p1, q1, rfl, rfl, rfl, h1, r1⟩ := trodAll_cons r0
  obtain ⟨rfl, rfl, rfl⟩ := trodAll_nil r1
  obtain rfl : args = #[v0, v1] := by cases args; simp_all
  obtain ⟨rfl, rfl⟩ := trodVars_none hV
  have t0 := h0
  have lt0 : ∀ x ∈ p0, x.block < W.heap.size := by obtain ⟨m, hm⟩ := t0; exact DataW.trod_lt m _ _ _ hm
  have t1 := h1
  have lt1 : ∀ x ∈ p1, x.block < W.heap.size := by obtain ⟨m, hm⟩ := t1; exact DataW.trod_lt m _ _ _ hm
  obtain ⟨A0, n0, c0, l0, rfl, s0, m0, x0, g0⟩ := open_ints_arg Try.underlying23 Try.underlying3 (by kernel_rfl) (hval 0 23 v0 rfl rfl) h0
  obtain ⟨A1, n1, c1, l1, rfl, s1, m1, x1, g1⟩ := open_ints_arg Try.underlying23 Try.underlying3 (by kernel_rfl) (hval 1 23 v1 rfl rfl) h1
  clear hA0 hval0
  refine (walkH pgrun_c W A0 n0 c0 l0 s0 m0 x0 g0 A1 n1 c1 l1 s1 m1 x1 g1).mono fun e W' ⟨he, bel⟩ => ?_
  subst he
  exact ⟨_, rfl, _, _, _, [], _, [], hW', trodAll_mk1 (shut_bool Try.underlying4 _), (trodAll_cons_mk (Below.trod laidOut (by kernel_rfl) (of_decide_eq_true (by kernel_rfl)) t0 bel lt0) (trodAll_cons_mk (Below.trod laidOut (by kernel_rfl) (of_decide_eq_true (by kernel_rfl)) t1 bel lt1) trodAll_mk0)), rfl, bel.frame _, fun h => by cases h⟩

theorem over : Rows.progAtomicRow.holds Try.pinned (OpenSpec.ofChange Rows.progAtomicSpec) :=
  OpenClaim.holds_of_wide 11 Try.f11 rfl rfl rfl rfl rfl rfl rfl ⟨rfl, rfl, rfl, rfl, rfl⟩ rfl rfl rfl rfl rfl (by kernel_rfl) Try.func11 (by kernel_rfl)
    (of_decide_eq_true (by kernel_rfl)) (by unfold Func.isWrapper; first | (rw [if_pos (by decide +kernel)]; kernel_rfl) | (rw [if_neg (by decide +kernel)]; exact ⟨rfl, rfl⟩))
    (fun os started H enc _ => lifted os started H enc)

theorem proved : Rows.ProgAtomicSaid := over
#print axioms proved
end Go.Proofs.Ytbcohpkeljjhbaa.LProgAtomic

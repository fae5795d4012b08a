/- 'deadheatkeep.ProgFront' returns true for every input and leaves its arguments as they are. No condition. -/
import Derived.Test.YtbcohpkeljjhbaaKeepPg
import Derived.Test.YtbcohpkeljjhbaaOpenInz
import Derived.Test.YtbcohpkeljjhbaaRest
import Derived.Test.YtbcohpkeljjhbaaEqEv
import Derived.Test.YtbcohpkeljjhbaaFo
set_option linter.all false
set_option maxRecDepth 100000
namespace Go.Proofs.Ytbcohpkeljjhbaa.LProgFront
open Go Go.ChangeShapes Go.WideShapes Go.ChangeAt Go.RowKit

set_option maxHeartbeats 16000000 in
theorem walkH (HR : RunC) (W : World) (A : Option Addr) (n c : Nat) (l : List (List Ev)) (s : Prg W A n l) (m : n ≤ c) (x : c ≤ maxLen) (_g : ∀ ops ∈ l, ∀ e ∈ ops, EvOk e)
    (B : Option Addr) (k d : Nat) (q : List Int) (s1 : SI W B k q) (m1 : k ≤ d) (x1 : d ≤ maxLen) (_g1 : ∀ x ∈ q, In64 x) (y1 : k * 8 ≤ 140737488351232) (i : Int) (ki : In64 i) :
    Calls Try.prog 6 #[.slice A n c, .slice B k d, .int .i64 i] W fun e w' => e = .returned (.bool true) ∧ Below W.heap.size W w' := by
  have HL := Lib.hid s
  have HS := Lib.hid s1
  have HM := Lib.hid (And.intro (And.intro m x) (And.intro m1 x1))
  have HRN := Lib.hid (fun w => ran_any HR w)
  unfold RunC at HR
  have H1 := Lib.hid HR
  have hwk : IntKind.i64.wrap ((k : Int) + 1) = (k : Int) + 1 := IntWalk.i64_in _ (by omega)
  have hk63 : (k : Int) + 1 ≤ 9223372036854775807 := by omega
  have HKI := Lib.hid ki
  clear s m x s1 m1 x1 HR ki
  go_enter Try.func6, Try.ntmps6
  go_wp2_with fail
  refine (HRN.out W).mono ?_
  rintro e0 w0 ⟨rfl, hb0⟩
  have HW0 := Lib.hid (Bel.of hb0)
  clear hb0
  go_wp2_with fail
  refine (rest_any i ((k : Int) + 1) HKI.out (by omega) hk63 w0).mono ?_
  rintro e9 w9 ⟨rfl, rfl⟩
  obtain ⟨j, hj⟩ : ∃ j : Nat, i % ((k : Int) + 1) = j := ⟨(i % ((k : Int) + 1)).toNat, by have := Int.emod_nonneg i (show (k : Int) + 1 ≠ 0 by omega); omega⟩
  have hjk : j ≤ k := by have := Int.emod_lt_of_pos i (show (0 : Int) < (k : Int) + 1 by omega); omega
  rw [hj]
  clear hj hwk
  go_wp2_with fail
  refine (H1.out A n c l B k d q w0 (HL.out.bel HW0.out) HM.out.1.1 HM.out.1.2 (HS.out.keep HW0.out) HM.out.2.1 HM.out.2.2).mono ?_
  rintro e1 w1 ⟨v1, y1, l1, c1, rfl, hB1, ho1, hb1⟩
  have HV1 := Lib.hid (EnV.run hB1)
  have HB1 := Lib.hid hB1
  obtain ⟨A1, d1, rfl, hs1, hn1, hm1⟩ := Sl.own ho1
  have HX1 := Lib.hid (enw_box w1 y1)
  have HE1 := Lib.hid ((HW0.out.call hb1).trans (enw_bel w1 y1))
  have HS1 := Lib.hid (And.intro (hs1.bel (enw_bel w1 y1).out) (And.intro hn1 hm1))
  have hjk' : (j : Int) ≤ k := by omega
  have hjd : (j : Int) ≤ d := by have := HM.out.2.1; omega
  clear hb1 ho1 hs1 hn1 hm1 hB1
  go_wp2_with (refine enw_store HV1.out.ty _ _ rfl rfl HV1.out.size HV1.out.one rfl rfl rfl ?_)
  refine (H1.out A n c l B j d (q.take j) _ (HL.out.bel HE1.out) HM.out.1.1 HM.out.1.2 (si_take (HS.out.keep HE1.out) hjk) (by have := HM.out.2.1; omega) HM.out.2.2).mono ?_
  rintro e2 w2 ⟨v2, y2, l2, c2, rfl, hB2, ho2, hb2⟩
  have HV2 := Lib.hid (EnV.run hB2)
  obtain ⟨A2, d2, rfl, hs2, hn2, hm2⟩ := Sl.own ho2
  have HX2 := Lib.hid (enw_box w2 y2)
  have HE2 := Lib.hid ((HE1.out.call hb2).trans (enw_bel w2 y2))
  have HX1' := Lib.hid (((Bel.of hb2).trans (enw_bel w2 y2)).box HX1.out)
  have HS1' := Lib.hid (HS1.out.1.bel ((Bel.of hb2).trans (enw_bel w2 y2)).out)
  have HS2 := Lib.hid (And.intro (hs2.bel (enw_bel w2 y2).out) (And.intro hn2 hm2))
  clear hb2 ho2 hs2 hn2 hm2
  rcases runB_cases HB1.out with ⟨hc1, rfl, rfl⟩ | ⟨rfl, hok, h100, rfl, rfl⟩
  · have h9 : (c1 != 0) = true := by simpa using hc1
    clear hc1 hB2
    go_wp2_with (refine enw_store HV2.out.ty _ _ rfl rfl HV2.out.size HV2.out.one rfl rfl rfl ?_)
    go_ret
    exact ⟨rfl, HE2.out.out⟩
  · rcases runB_cases hB2 with ⟨hc2, _, _⟩ | ⟨rfl, _, _, rfl, rfl⟩
    · exfalso
      rcases hB2 with ⟨h1, _⟩ | ⟨_, h1, _⟩ | ⟨_, _, _, _, h5⟩
      · exact h1 (chk_ok.2 hok)
      · rw [List.length_take] at h1; omega
      · exact hc2 h5
    · obtain ⟨mm, hmm⟩ := run_front l q j
      have HLE := Lib.hid (show (runP l (q.take j)).L.length ≤ (runP l q).L.length by rw [hmm, List.length_append]; omega)
      have HTK := Lib.hid (show (runP l q).L.take (runP l (q.take j)).L.length = (runP l (q.take j)).L by rw [hmm, List.take_left])
      have e18 := HX2.out.cell 18 (v := .bool (doneP l (runP l (q.take j)))) rfl
      have e19 := HX2.out.cell 19 (v := .bool (stuckP l (runP l (q.take j)))) rfl
      have HST := Lib.hid (run_stops l q j)
      clear hmm mm
      generalize hz1 : (runP l q).L.length = z1 at *
      generalize hz2 : (runP l (q.take j)).L.length = z2 at *
      have HZ := Lib.hid (And.intro hz1 hz2)
      clear hz1 hz2
      have hz12 : ¬ (z1 : Int) < z2 := by have := HLE.out; omega
      have hz14 : z2 ≤ d1 := by have := HLE.out; have := HS1.out.2.1; omega
      have HSK := Lib.hid (HS1'.out.take HLE.out)
      rw [HTK.out] at HSK
      clear hB2 hok h100 hjk hjk' hjd hk63
      go_wp2_with (refine enw_store HV2.out.ty _ _ rfl rfl HV2.out.size HV2.out.one rfl rfl rfl ?_)
      refine (eqev_any A2 A1 _ d2 _ d1 _ _ _ HS2.out.1 HSK.out HS2.out.2.1 (by omega) HS2.out.2.2 HS1.out.2.2).mono ?_
      rintro e3 w3 ⟨rfl, hb3⟩
      rw [decide_eq_true rfl]
      have HE3 := Lib.hid (HE2.out.call hb3)
      have f18 := (Bel.of hb3).cell e18
      have f19 := (Bel.of hb3).cell e19
      have HX3 := Lib.hid ((Bel.of hb3).box HX1'.out)
      have HX4 := Lib.hid ((Bel.of hb3).box HX2.out)
      clear hb3 e18 e19
      cases hd : doneP l (runP l (q.take j))
      · cases hs : stuckP l (runP l (q.take j))
        · rw [hd] at f18
          rw [hs] at f19
          clear hd hs
          go_wp2
          go_ret
          exact ⟨rfl, HE3.out.out⟩
        · have hrr := HST.out (.inr hs)
          rw [hrr] at HX3 HZ
          obtain rfl : z1 = z2 := HZ.out.1.symm.trans HZ.out.2
          clear hrr hz12 hz14
          go_wp2_with (first | (refine loadG 28 _ rfl rfl rfl HX3.out HV2.out.ty ?_) | (refine loadG 28 _ rfl rfl rfl HX4.out HV2.out.ty ?_) | (refine eqlG_step 28 _ _ _ rfl rfl rfl rfl grd_end (HV2.out.eq _) ?_))
          go_ret
          exact ⟨rfl, HE3.out.out⟩
      · cases hs : stuckP l (runP l (q.take j))
        · have hrr := HST.out (.inl hd)
          rw [hrr] at HX3 HZ
          obtain rfl : z1 = z2 := HZ.out.1.symm.trans HZ.out.2
          clear hrr hz12 hz14
          go_wp2_with (first | (refine loadG 28 _ rfl rfl rfl HX3.out HV2.out.ty ?_) | (refine loadG 28 _ rfl rfl rfl HX4.out HV2.out.ty ?_) | (refine eqlG_step 28 _ _ _ rfl rfl rfl rfl grd_end (HV2.out.eq _) ?_))
          go_ret
          exact ⟨rfl, HE3.out.out⟩
        · have hrr := HST.out (.inl hd)
          rw [hrr] at HX3 HZ
          obtain rfl : z1 = z2 := HZ.out.1.symm.trans HZ.out.2
          clear hrr hz12 hz14
          go_wp2_with (first | (refine loadG 28 _ rfl rfl rfl HX3.out HV2.out.ty ?_) | (refine loadG 28 _ rfl rfl rfl HX4.out HV2.out.ty ?_) | (refine eqlG_step 28 _ _ _ rfl rfl rfl rfl grd_end (HV2.out.eq _) ?_))
          go_ret
          exact ⟨rfl, HE3.out.out⟩
set_option maxRecDepth 100000 in
theorem lifted (os : Os) (started : os.Started) (H : Type) (enc : TypeId × Value → H) :
    ReturnsInHanded {} Try.checked os 6 .any (Rows.progFrontSpec.pre6 enc Try.prog Try.f6 Rows.progFrontRow.domain false) (Rows.progFrontSpec.post enc Try.prog Try.f6 false true false false) := by
  refine returnsInHanded_of_change_sized (C := Try.checked) own started (by kernel_rfl) Try.func6
    (ChangeSpec.witness6 (enc := enc) (C := Try.checked) false ⟨#[], #[.slice none 0 0, .slice none 0 0, .int .i64 0], []⟩ 8 (by kernel_rfl) (by kernel_rfl) (by kernel_rfl) (by kernel_rfl)) ?_
  intro W base args ds gs before hval0 hW hcnd hsz0 _
  have hsz : (DataW.weightsEach Try.prog (Try.f6.params.toList ++ Rows.progFrontSpec.plain.varTypes Try.prog) (ds ++ gs)).all (· ≤ reachBytes) = true := hsz0
  clear hsz0
  have hval : ∀ (j : Nat) t v, Try.f6.params[j]? = some t → args[j]? = some v → Value.okWide Try.prog W .any base t v := hval0
  have hW' := hW
  obtain ⟨p, q, hA0, hV, rfl, hfz, hnd⟩ := hW
  have hA : DataW.TrodAll enc Try.prog W 0 (fun _ => true) true Try.f6.params.toList args.toList ds p := hA0
  rw [Try.params6] at hA hval hsz
  obtain ⟨v0, vs0, d0, ds0, p0, q0, hargs, rfl, rfl, h0, r0⟩ := trodAll_cons hA
  obtain ⟨v1, vs1, d1, ds1, p1, q1, rfl, rfl, rfl, h1, r1⟩ := trodAll_cons r0
  obtain ⟨v2, vs2, d2, ds2, p2, q2, rfl, rfl, rfl, h2, r2⟩ := trodAll_cons r1
  obtain ⟨rfl, rfl, rfl⟩ := trodAll_nil r2
  obtain rfl : args = #[v0, v1, v2] := by cases args; simp_all
  obtain ⟨rfl, rfl⟩ := trodVars_none hV
  have t0 := h0
  have lt0 : ∀ x ∈ p0, x.block < W.heap.size := by obtain ⟨m, hm⟩ := t0; exact DataW.trod_lt m _ _ _ hm
  have t1 := h1
  have lt1 : ∀ x ∈ p1, x.block < W.heap.size := by obtain ⟨m, hm⟩ := t1; exact DataW.trod_lt m _ _ _ hm
  have t2 := h2
  have lt2 : ∀ x ∈ p2, x.block < W.heap.size := by obtain ⟨m, hm⟩ := t2; exact DataW.trod_lt m _ _ _ hm
  obtain ⟨A0, n0, c0, l0, rfl, s0, m0, x0, g0⟩ := open_ops Try.underlying22 (by kernel_rfl) Try.underlying44 Try.underlying46 ⟨rfl, rfl, rfl⟩ (by kernel_rfl) (by kernel_rfl) Try.underlying3 (hval 0 22 v0 rfl rfl) h0
  obtain ⟨A1, n1, c1, l1, rfl, s1, m1, x1, g1, z1⟩ := open_ints_argz Try.underlying23 Try.underlying3 (by kernel_rfl) (hval 1 23 v1 rfl rfl) h1
  have y1 := reach_sl hsz (j := 1) rfl rfl Try.underlying23 (b := 8) (by kernel_rfl) z1
  obtain ⟨a2, rfl, _, _, x2⟩ := open_int Try.underlying3 (hval 2 3 v2 rfl rfl) h2
  have k2 := in64_of x2
  clear hA0 hval0
  refine (walkH pgrun_c W A0 n0 c0 l0 s0 m0 x0 g0 A1 n1 c1 l1 s1 m1 x1 g1 y1 a2 k2).mono fun e W' ⟨he, bel⟩ => ?_
  subst he
  exact ⟨_, rfl, _, _, _, [], _, [], hW', trodAll_mk1 (shut_bool Try.underlying4 _), (trodAll_cons_mk (Below.trod laidOut (by kernel_rfl) (of_decide_eq_true (by kernel_rfl)) t0 bel lt0) (trodAll_cons_mk (Below.trod laidOut (by kernel_rfl) (of_decide_eq_true (by kernel_rfl)) t1 bel lt1) (trodAll_cons_mk (Below.trod laidOut (by kernel_rfl) (of_decide_eq_true (by kernel_rfl)) t2 bel lt2) trodAll_mk0))), rfl, bel.frame _, fun h => by cases h⟩

theorem over : Rows.progFrontRow.holds Try.pinned (OpenSpec.ofChange Rows.progFrontSpec) :=
  OpenClaim.holds_of_wide 6 Try.f6 rfl rfl rfl rfl rfl rfl rfl ⟨rfl, rfl, rfl, rfl, rfl⟩ rfl rfl rfl rfl rfl (by kernel_rfl) Try.func6 (by kernel_rfl)
    (of_decide_eq_true (by kernel_rfl)) (by unfold Func.isWrapper; first | (rw [if_pos (by decide +kernel)]; kernel_rfl) | (rw [if_neg (by decide +kernel)]; exact ⟨rfl, rfl⟩))
    (fun os started H enc _ => lifted os started H enc)

theorem proved : Rows.ProgFrontSaid := over
#print axioms proved
end Go.Proofs.Ytbcohpkeljjhbaa.LProgFront

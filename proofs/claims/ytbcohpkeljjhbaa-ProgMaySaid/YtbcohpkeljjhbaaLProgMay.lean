/- 'deadheatkeep.ProgMay' returns true for every input and leaves its arguments as they are. No condition. -/
import Derived.Test.YtbcohpkeljjhbaaKeepPg
import Derived.Test.YtbcohpkeljjhbaaOpenInts
import Derived.Test.YtbcohpkeljjhbaaKeepTw
import Derived.Test.YtbcohpkeljjhbaaFo
set_option linter.all false
set_option maxRecDepth 100000
namespace Go.Proofs.Ytbcohpkeljjhbaa.LProgMay
open Go Go.ChangeShapes Go.WideShapes Go.ChangeAt Go.RowKit

theorem not_both (P : List (List Ev)) (s : Ps) : (doneP P s && stuckP P s) = false := by unfold stuckP; cases doneP P s <;> simp
set_option maxHeartbeats 16000000 in
theorem walkH (HR : RunC) (W : World) (A : Option Addr) (n c : Nat) (l : List (List Ev)) (s : Prg W A n l) (m : n ≤ c) (x : c ≤ maxLen) (_g : ∀ ops ∈ l, ∀ e ∈ ops, EvOk e)
    (B : Option Addr) (k d : Nat) (q : List Int) (s1 : SI W B k q) (m1 : k ≤ d) (x1 : d ≤ maxLen) (_g1 : ∀ x ∈ q, In64 x) :
    Calls Try.prog 4 #[.slice A n c, .slice B k d] W fun e w' => e = .returned (.bool true) ∧ Below W.heap.size W w' := by
  have HL := Lib.hid s
  have HS := Lib.hid s1
  have HM := Lib.hid (And.intro (And.intro m x) (And.intro m1 x1))
  have HRN := Lib.hid (fun w => ran_any HR w)
  unfold RunC at HR
  have H1 := Lib.hid HR
  clear s m x s1 m1 x1 HR
  go_enter Try.func4, Try.ntmps4
  go_wp2_with fail
  refine (HRN.out W).mono ?_
  rintro e0 w0 ⟨rfl, hb0⟩
  have HW0 := Lib.hid (Bel.of hb0)
  clear hb0
  go_wp2_with fail
  refine (H1.out A n c l B k d q w0 (HL.out.bel HW0.out) HM.out.1.1 HM.out.1.2 (HS.out.keep HW0.out) HM.out.2.1 HM.out.2.2).mono ?_
  rintro e1 w1 ⟨v1, y1, l1, c1, rfl, hB1, ho1, hb1⟩
  have HV := Lib.hid (EnV.run hB1)
  obtain ⟨A1, d1, rfl, hs1, hn1, hm1⟩ := Sl.own ho1
  have HX1 := Lib.hid (enw_box w1 y1)
  have HE1 := Lib.hid ((HW0.out.call hb1).trans (enw_bel w1 y1))
  have HS1 := Lib.hid (And.intro (hs1.bel (enw_bel w1 y1).out) (And.intro hn1 hm1))
  clear hb1 ho1 hs1 hn1 hm1
  by_cases h0 : c1 = 0
  · obtain ⟨hok, h100, rfl, rfl⟩ : OkP l ∧ q.length ≤ 100 ∧ y1 = endP l (runP l q) ∧ l1 = (runP l q).L := by
      rcases hB1 with ⟨h1, _, _, h4⟩ | ⟨_, _, _, _, h4⟩ | ⟨h1, h2, h3, h4, _⟩
      · exact absurd (h4.symm.trans h0) h1
      · omega
      · exact ⟨chk_ok.1 h1, h2, h3, h4⟩
    have HMY := Lib.hid ((runP_ok hok q).may hok)
    have hle : (((runP l q).L.length : Nat) : Int) ≤ (k : Int) := by have := (picks_len l q ps0).1; have h9 : ps0.L.length = 0 := rfl; have := HS.out.1; unfold runP; omega
    have c18 := HX1.out.cell 18 (v := .bool (doneP l (runP l q))) rfl
    have c19 := HX1.out.cell 19 (v := .bool (stuckP l (runP l q))) rfl
    have HNB := not_both l (runP l q)
    have h9 : (c1 != 0) = false := by simpa using h0
    generalize endP l (runP l q) = y1 at *
    generalize (runP l q).L = l1 at *
    generalize doneP l (runP l q) = dn at *
    generalize stuckP l (runP l q) = st at *
    clear hB1
    subst h0
    go_wp2_with (refine enw_store HV.out.ty _ _ rfl rfl HV.out.size HV.out.one rfl rfl rfl ?_)
    refine (may_any A1 _ d1 l1 _ HS1.out.1).mono ?_
    rintro e2 w2 ⟨rfl, hb2⟩
    have HE2 := Lib.hid (HE1.out.call hb2)
    have e18 := (Bel.of hb2).cell c18
    have e19 := (Bel.of hb2).cell c19
    have hmy : (may l1 == 0) = true := by rw [HMY.out]; rfl
    clear hb2 c18 c19
    cases dn
    · go_wp2
      go_ret
      exact ⟨rfl, HE2.out.out⟩
    · have hst : st = false := by simpa using HNB
      subst hst
      go_wp2
      go_ret
      exact ⟨rfl, HE2.out.out⟩
  · obtain ⟨rfl, rfl⟩ : y1 = end0 ∧ l1 = [] := by
      rcases hB1 with ⟨_, h2, h3, _⟩ | ⟨_, _, h2, h3, _⟩ | ⟨_, _, _, _, h4⟩
      · exact ⟨h2, h3⟩
      · exact ⟨h2, h3⟩
      · exact absurd h4 h0
    have h9 : (c1 != 0) = true := by simpa using h0
    have HQ := Lib.hid (eql_end0 (enw w1 end0))
    clear hB1 h0
    go_wp2_with (first | (refine enw_store HV.out.ty _ _ rfl rfl HV.out.size HV.out.one rfl rfl rfl ?_) | (refine loadB 28 _ rfl rfl rfl HX1.out HV.out.ty ?_) | (refine eql_step 28 _ _ _ rfl rfl (u := end0) (v := end0) rfl rfl grd_end HQ.out ?_))
    go_ret
    exact ⟨rfl, HE1.out.out⟩
set_option maxRecDepth 100000 in
theorem lifted (os : Os) (started : os.Started) (H : Type) (enc : TypeId × Value → H) :
    ReturnsInHanded {} Try.checked os 4 .any (Rows.progMaySpec.pre6 enc Try.prog Try.f4 Rows.progMayRow.domain false) (Rows.progMaySpec.post enc Try.prog Try.f4 false true false false) := by
  refine returnsInHanded_of_change_sized (C := Try.checked) own started (by kernel_rfl) Try.func4
    (ChangeSpec.witness6 (enc := enc) (C := Try.checked) false ⟨#[], #[.slice none 0 0, .slice none 0 0], []⟩ 8 (by kernel_rfl) (by kernel_rfl) (by kernel_rfl) (by kernel_rfl)) ?_
  intro W base args ds gs before hval0 hW hcnd hsz0 _
  have hsz : (DataW.weightsEach Try.prog (Try.f4.params.toList ++ Rows.progMaySpec.plain.varTypes Try.prog) (ds ++ gs)).all (· ≤ reachBytes) = true := hsz0
  clear hsz0
  have hval : ∀ (j : Nat) t v, Try.f4.params[j]? = some t → args[j]? = some v → Value.okWide Try.prog W .any base t v := hval0
  have hW' := hW
  obtain ⟨p, q, hA0, hV, rfl, hfz, hnd⟩ := hW
  have hA : DataW.TrodAll enc Try.prog W 0 (fun _ => true) true Try.f4.params.toList args.toList ds p := hA0
  rw [Try.params4] at hA hval hsz
  obtain ⟨v0, vs0, d0, ds0, p0, q0, hargs, rfl, rfl, h0, r0⟩ := trodAll_cons hA
  obtain ⟨v1, vs1, d1, ds1, p1, q1, rfl, rfl, rfl, h1, r1⟩ := trodAll_cons r0
  obtain ⟨rfl, rfl, rfl⟩ := trodAll_nil r1
  obtain rfl : args = #[v0, v1] := by cases args; simp_all
  obtain ⟨rfl, rfl⟩ := trodVars_none hV
  have t0 := h0
  have lt0 : ∀ x ∈ p0, x.block < W.heap.size := by obtain ⟨m, hm⟩ := t0; exact DataW.trod_lt m _ _ _ hm
  have t1 := h1
  have lt1 : ∀ x ∈ p1, x.block < W.heap.size := by obtain ⟨m, hm⟩ := t1; exact DataW.trod_lt m _ _ _ hm
  obtain ⟨A0, n0, c0, l0, rfl, s0, m0, x0, g0⟩ := open_ops Try.underlying22 (by kernel_rfl) Try.underlying44 Try.underlying46 ⟨rfl, rfl, rfl⟩ (by kernel_rfl) (by kernel_rfl) Try.underlying3 (hval 0 22 v0 rfl rfl) h0
  obtain ⟨A1, n1, c1, l1, rfl, s1, m1, x1, g1⟩ := open_ints_arg Try.underlying23 Try.underlying3 (by kernel_rfl) (hval 1 23 v1 rfl rfl) h1
  clear hA0 hval0
  refine (walkH pgrun_c W A0 n0 c0 l0 s0 m0 x0 g0 A1 n1 c1 l1 s1 m1 x1 g1).mono fun e W' ⟨he, bel⟩ => ?_
  subst he
  exact ⟨_, rfl, _, _, _, [], _, [], hW', trodAll_mk1 (shut_bool Try.underlying4 _), (trodAll_cons_mk (Below.trod laidOut (by kernel_rfl) (of_decide_eq_true (by kernel_rfl)) t0 bel lt0) (trodAll_cons_mk (Below.trod laidOut (by kernel_rfl) (of_decide_eq_true (by kernel_rfl)) t1 bel lt1) trodAll_mk0)), rfl, bel.frame _, fun h => by cases h⟩

theorem over : Rows.progMayRow.holds Try.pinned (OpenSpec.ofChange Rows.progMaySpec) :=
  OpenClaim.holds_of_wide 4 Try.f4 rfl rfl rfl rfl rfl rfl rfl ⟨rfl, rfl, rfl, rfl, rfl⟩ rfl rfl rfl rfl rfl (by kernel_rfl) Try.func4 (by kernel_rfl)
    (of_decide_eq_true (by kernel_rfl)) (by unfold Func.isWrapper; first | (rw [if_pos (by decide +kernel)]; kernel_rfl) | (rw [if_neg (by decide +kernel)]; exact ⟨rfl, rfl⟩))
    (fun os started H enc _ => lifted os started H enc)

theorem proved : Rows.ProgMaySaid := over
#print axioms proved
end Go.Proofs.Ytbcohpkeljjhbaa.LProgMay

import Derived.Test.YticnponenkfneaaZMapInt
import Derived.Test.YticnponenkfneaaZEb
import Derived.Test.YticnponenkfneaaZVr
import Derived.Test.YticnponenkfneaaZShG
import Derived.Test.YticnponenkfneaaZShM
import Derived.Test.YticnponenkfneaaZFastC
import Derived.Test.YticnponenkfneaaZOpenInts
set_option linter.all false
set_option maxRecDepth 100000
namespace Go.Proofs.Yticnponenkfneaa.LTopFound
open Go Go.ChangeShapes Go.WideShapes Go.ChangeAt Go.RowKit

set_option maxHeartbeats 16000000 in
theorem walkH (HW : ∀ w, Calls Try.prog 9 #[] w fun e w' => e = .returned (.bool true) ∧ Below w.heap.size w w') (W : World) (A : Option Addr) (n c : Nat) (l : List (List Ev)) (s : Prg W A n l) (m : n ≤ c) (x : c ≤ maxLen) (_g : ∀ ops ∈ l, ∀ e ∈ ops, EvOk e)
    (B : Option Addr) (k d : Nat) (q : List Int) (s1 : SI W B k q) (m1 : k ≤ d) (x1 : d ≤ maxLen) (_g1 : ∀ x ∈ q, In64 x) :
    Calls Try.prog 4 #[.slice A n c, .slice B k d] W fun e w' => e = .returned (.bool true) ∧ Below W.heap.size W w' := by
  have HL := Lib.hid s
  have HS := Lib.hid s1
  have HM := Lib.hid (And.intro (And.intro m x) (And.intro m1 x1))
  clear s m x s1 m1 x1
  go_enter Try.func4, Try.ntmps4
  go_wp2_with fail
  refine (HW _).mono ?_
  rintro e0 w0 ⟨rfl, hb0⟩
  have HW0 := Lib.hid (Bel.of hb0)
  clear hb0
  go_wp2_with fail
  refine (eraces_any A n c l w0 (HL.out.bel HW0.out) HM.out.1.1 HM.out.1.2).mono ?_
  rintro e1 w1 ⟨b1, v1, ws, rfl, hB1, ho1, hb1⟩
  obtain ⟨A1, d1, rfl, hs1, hn1, hm1⟩ := row_si ho1
  have HW1 := Lib.hid (HW0.out.trans (Bel.of hb1))
  have HB1 := Lib.hid hB1
  have HS1 := Lib.hid (And.intro hs1 (And.intro hn1 hm1))
  clear ho1 hb1 hB1 hs1 hn1 hm1
  by_cases h0 : evC l = 0
  · have HE0 := Lib.hid h0
    rw [h0]
    cases b1
    · obtain ⟨rfl, hno⟩ : ws = [] ∧ ∀ ts, rcs (runP l ts).L = [] := by
        rcases HB1.out with ⟨h, _⟩ | ⟨_, _, h2, h3⟩ | ⟨_, h, _⟩
        · exact absurd h0 h
        · exact ⟨h2, h3⟩
        · cases h
      have HNO := Lib.hid hno
      clear hno HB1 h0
      go_wp2_with fail
      refine (pgrun_c A n c l B k d q _ (HL.out.bel HW1.out) HM.out.1.1 HM.out.1.2 (HS.out.keep HW1.out) HM.out.2.1 HM.out.2.2).mono ?_
      rintro e2 w2 ⟨v2, x2, l2, c2, rfl, hB2, ho2, hb2⟩
      have HV2 := Lib.hid (EnV.run hB2)
      have HB2 := Lib.hid hB2
      obtain ⟨A2, k2, rfl, hs2, hn2, hm2⟩ := Sl.own ho2
      have HE2 := Lib.hid ((HW1.out.call hb2).trans (enw_bel w2 x2))
      have HT2 := Lib.hid (And.intro (hs2.bel (enw_bel w2 x2).out) (And.intro hn2 hm2))
      clear hb2 ho2 hs2 hn2 hm2 hB2
      go_wp2_with (refine enw_store HV2.out.ty _ _ rfl rfl HV2.out.size HV2.out.one rfl rfl rfl ?_)
      refine (frun_any A2 _ k2 _ _ HT2.out.1).mono ?_
      rintro e3 w3 ⟨v3, rfl, ho3, hb3⟩
      obtain ⟨A3, k3, rfl, _, hn3, hm3⟩ := Sl.own ho3
      have HE3 := Lib.hid (HE2.out.call hb3)
      have HT3 := Lib.hid (HT2.out.1.bel hb3)
      clear hb3 ho3 hn3 hm3
      rcases runB_cases HB2.out with ⟨hc2, rfl, rfl⟩ | ⟨rfl, hok, h100, rfl, rfl⟩
      · have h9 : (c2 != 0) = true := by simpa using hc2
        clear hc2
        go_wp2
        go_ret
        exact ⟨rfl, HE3.out.out⟩
      · have hmy : may (runP l q).L = 0 := (runP_ok hok q).may hok
        have hff : fflags (runP l q).L = [] := (flags_nil hmy).2 (HNO.out q)
        have HMY := Lib.hid hmy
        rw [hmy, hff]
        clear hmy hff hok h100
        go_wp2_with fail
        refine (min_any A2 _ k2 _ _ HT3.out HT2.out.2.1 HT2.out.2.2).mono ?_
        rintro e4 w4 ⟨r4, c4, hB4, hO4⟩
        have hc4 : c4 = 7 ∧ r4 = [] := by
          rcases hB4 with ⟨h, _⟩ | ⟨_, _, h1, h2⟩ | ⟨h, _⟩
          · exact absurd HMY.out h
          · exact ⟨h2, h1⟩
          · exact absurd (HNO.out q) h.2
        obtain ⟨rfl, rfl⟩ := hc4
        obtain ⟨v4, rfl, ho4, hb4⟩ := hO4
        obtain ⟨A4, k4, rfl, _, _, _⟩ := Sl.own ho4
        have HE4 := Lib.hid (HE3.out.call hb4)
        clear hB4 ho4 hb4
        go_wp2
        go_ret
        exact ⟨rfl, HE4.out.out⟩
    · have hbest : IsBest l ws := by
        rcases HB1.out with ⟨h, _⟩ | ⟨_, h, _⟩ | ⟨_, _, h⟩
        · exact absurd h0 h
        · cases h
        · exact h
      have HBT := Lib.hid hbest
      clear HB1 h0 hbest
      go_wp2_with fail
      refine (pgrun_c A n c l A1 ws.length d1 (pks ws) _ (HL.out.bel HW1.out) HM.out.1.1 HM.out.1.2 HS1.out.1 HS1.out.2.1 HS1.out.2.2).mono ?_
      rintro e2 w2 ⟨v2, x2, l2, c2, rfl, hB2, ho2, hb2⟩
      have HV2 := Lib.hid (EnV.run hB2)
      obtain ⟨rfl, rfl, rfl⟩ := runB_way HE0.out HBT.out.vl hB2
      have hok := evC_ok HE0.out
      have hmy : may (goS l ps0 ws).L = 0 := (go_ok hok HBT.out.vl).may hok
      have hne : rcs (goS l ps0 ws).L ≠ [] := HBT.out.race
      have hff : 0 < (fflags (goS l ps0 ws).L).length := Nat.pos_of_ne_zero fun h => hne ((flags_nil hmy).1 (List.eq_nil_of_length_eq_zero h))
      obtain ⟨A2, k2, rfl, hs2, hn2, hm2⟩ := Sl.own ho2
      have HE2 := Lib.hid ((HW1.out.call hb2).trans (enw_bel w2 (endP l (goS l ps0 ws))))
      have HT2 := Lib.hid (And.intro (hs2.bel (enw_bel w2 (endP l (goS l ps0 ws))).out) (And.intro hn2 hm2))
      have HMY := Lib.hid (And.intro hmy hne)
      have HFF := Lib.hid hff
      clear hb2 ho2 hs2 hn2 hm2 hB2 hok hmy hne hff
      go_wp2_with (refine enw_store HV2.out.ty _ _ rfl rfl HV2.out.size HV2.out.one rfl rfl rfl ?_)
      refine (frun_any A2 _ k2 _ _ HT2.out.1).mono ?_
      rintro e3 w3 ⟨v3, rfl, ho3, hb3⟩
      rw [HMY.out.1]
      obtain ⟨A3, k3, rfl, _, hn3, hm3⟩ := Sl.own ho3
      have HE3 := Lib.hid (HE2.out.call hb3)
      have HT3 := Lib.hid (HT2.out.1.bel hb3)
      obtain ⟨nf, hnf⟩ : ∃ nf, (fflags (goS l ps0 ws).L).length = nf := ⟨_, rfl⟩
      rw [hnf] at hn3 HFF ⊢
      have hnfI : (0 : Int) < nf := by have := HFF.out; omega
      have hnfk : (nf : Int) ≤ k3 := by omega
      clear hb3 ho3 hm3 hnf
      go_wp2_with fail
      refine (min_any A2 _ k2 _ _ HT3.out HT2.out.2.1 HT2.out.2.2).mono ?_
      rintro e4 w4 ⟨r4, c4, hB4, hO4⟩
      obtain ⟨rfl, hred⟩ : c4 = 0 ∧ Red (goS l ps0 ws).L 0 r4 := by
        rcases hB4 with ⟨h, _⟩ | ⟨_, h, _⟩ | ⟨_, h1, h2⟩
        · exact absurd HMY.out.1 h
        · exact absurd h HMY.out.2
        · exact ⟨h2, h1⟩
      obtain ⟨hok4, f, hfl, hfk⟩ := min_flags HMY.out hred
      have hpos : 0 < r4.length := Nat.pos_of_ne_zero fun h => by
        have h1 := hok4.2
        rw [List.eq_nil_of_length_eq_zero h] at h1
        exact h1 (by decide +kernel)
      obtain ⟨v4, rfl, ho4, hb4⟩ := hO4
      obtain ⟨A4, k4, rfl, hs4, hn4, hm4⟩ := Sl.own ho4
      have HE4 := Lib.hid (HE3.out.call hb4)
      have HT4 := Lib.hid hs4
      have HFL := Lib.hid (And.intro hok4.1 hfl)
      have hl80 : r4.length ≤ 80 := ((may_iff r4).1 hok4.1).1
      clear hB4 hred hok4 hfl ho4 hb4 hs4 hm4
      go_wp2_with fail
      refine (frun_any A4 _ k4 _ _ HT4.out).mono ?_
      rintro e5 w5 ⟨v5, rfl, ho5, hb5⟩
      rw [HFL.out.1]
      rw [HFL.out.2] at ho5
      obtain ⟨g5, k5, rfl, _, hn5, hm5, hc5⟩ := row_cells ho5 (by simp)
      have c5 := hc5 0 (.int .i64 ((r4.length - 1 : Nat) : Int)) (by rw [← hfk]; rfl)
      have HE5 := Lib.hid (HE4.out.call hb5)
      obtain ⟨nr, hnr⟩ : ∃ nr, r4.length = nr := ⟨_, rfl⟩
      rw [hnr] at c5 hn4 hl80 hpos ⊢
      have hsub : ((nr - 1 : Nat) : Int) = (nr : Int) - 1 := by omega
      rw [hsub] at c5
      have hnrI : (1 : Int) ≤ nr := by omega
      have hnr8 : (nr : Int) ≤ 80 := by omega
      rw [show ([f] : List Ev).length = 1 from rfl] at hn5 ⊢
      have hk5 : (1 : Int) ≤ k5 := by omega
      clear hsub hpos hl80 hn4 hnr hfk hc5 ho5 hb5 hn5 hm5
      go_wp2
      go_ret
      exact ⟨rfl, HE5.out.out⟩
  · have hne : (evC l != 0) = true := by simpa using h0
    obtain ⟨rfl, rfl⟩ : b1 = false ∧ ws = [] := by
      rcases HB1.out with ⟨_, h2, h3⟩ | ⟨h, _⟩ | ⟨h, _⟩
      · exact ⟨h2, h3⟩
      · exact absurd h h0
      · exact absurd h h0
    clear HB1 h0
    rw [show ([] : List Nat).length = 0 from rfl] at *
    go_wp2
    go_ret
    exact ⟨rfl, HW1.out.out⟩
set_option maxRecDepth 100000 in
theorem lifted (os : Os) (started : os.Started) (H : Type) (enc : TypeId × Value → H) :
    ReturnsInHanded {} Try.checked os 4 .any (Rows.topFoundSpec.pre6 enc Try.prog Try.f4 Rows.topFoundRow.domain false) (Rows.topFoundSpec.post enc Try.prog Try.f4 false true false false) := by
  refine returnsInHanded_of_change_sized (C := Try.checked) own started (by kernel_rfl) Try.func4
    (ChangeSpec.witness6 (enc := enc) (C := Try.checked) false ⟨#[], #[.slice none 0 0, .slice none 0 0], []⟩ 8 (by kernel_rfl) (by kernel_rfl) (by kernel_rfl) (by kernel_rfl)) ?_
  intro W base args ds gs before hval0 hW hcnd hsz0 _
  have hsz : (DataW.weightsEach Try.prog (Try.f4.params.toList ++ Rows.topFoundSpec.plain.varTypes Try.prog) (ds ++ gs)).all (· ≤ reachBytes) = true := hsz0
  clear hsz0
  have hval : ∀ (j : Nat) t v, Try.f4.params[j]? = some t → args[j]? = some v → Value.okWide Try.prog W .any base t v := hval0
  have hW' := hW
  obtain ⟨p, q, hA0, hV, rfl, hfz, hnd⟩ := hW
  have hA : DataW.TrodAll enc Try.prog W 0 (fun _ => true) true Try.f4.params.toList args.toList ds p := hA0
  rw [Try.params4] at hA hval hsz
  obtain ⟨v0, vs0, d0, ds0, p0, q0, hargs, rfl, rfl, h0, r0⟩ := trodAll_cons hA
  obtain ⟨v1, vs1, d1, ds1, p1, q1, rfl, rfl, rfl, h1, r1⟩ := trodAll_cons r0
  obtain ⟨rfl, rfl, rfl⟩ := trodAll_nil r1
  obtain rfl : args = #[v0, v1] := by cases args; simp_all
  obtain ⟨rfl, rfl⟩ := trodVars_none hV
  have t0 := h0
  have lt0 : ∀ x ∈ p0, x.block < W.heap.size := by obtain ⟨m, hm⟩ := t0; exact DataW.trod_lt m _ _ _ hm
  have t1 := h1
  have lt1 : ∀ x ∈ p1, x.block < W.heap.size := by obtain ⟨m, hm⟩ := t1; exact DataW.trod_lt m _ _ _ hm
  obtain ⟨A0, n0, c0, l0, rfl, s0, m0, x0, g0⟩ := open_ops Try.underlying22 (by kernel_rfl) Try.underlying58 Try.underlying98 ⟨rfl, rfl, rfl⟩ (by kernel_rfl) (by kernel_rfl) Try.underlying3 (hval 0 22 v0 rfl rfl) h0
  obtain ⟨A1, n1, c1, l1, rfl, s1, m1, x1, g1⟩ := open_ints_arg Try.underlying36 Try.underlying3 (by kernel_rfl) (hval 1 36 v1 rfl rfl) h1
  clear hA0 hval0
  refine (walkH works_any W A0 n0 c0 l0 s0 m0 x0 g0 A1 n1 c1 l1 s1 m1 x1 g1).mono fun e W' ⟨he, bel⟩ => ?_
  subst he
  exact ⟨_, rfl, _, _, _, [], _, [], hW', trodAll_mk1 (shut_bool Try.underlying4 _), (trodAll_cons_mk (Below.trod laidOut (by kernel_rfl) (of_decide_eq_true (by kernel_rfl)) t0 bel lt0) (trodAll_cons_mk (Below.trod laidOut (by kernel_rfl) (of_decide_eq_true (by kernel_rfl)) t1 bel lt1) trodAll_mk0)), rfl, bel.frame _, fun h => by cases h⟩

theorem over : Rows.topFoundRow.holds Try.pinned (OpenSpec.ofChange Rows.topFoundSpec) :=
  OpenClaim.holds_of_wide 4 Try.f4 rfl rfl rfl rfl rfl rfl rfl ⟨rfl, rfl, rfl, rfl, rfl⟩ rfl rfl rfl rfl rfl (by kernel_rfl) Try.func4 (by kernel_rfl)
    (of_decide_eq_true (by kernel_rfl)) (by unfold Func.isWrapper; first | (rw [if_pos (by decide +kernel)]; kernel_rfl) | (rw [if_neg (by decide +kernel)]; exact ⟨rfl, rfl⟩))
    (fun os started H enc _ => lifted os started H enc)

theorem proved : Rows.TopFoundSaid := over
#print axioms proved
end Go.Proofs.Yticnponenkfneaa.LTopFound

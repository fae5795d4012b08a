/- 'deadheatkeep.RingOrdered' returns true for every input and leaves its argument as it is. No condition. -/
import Derived.Test.YtoaehoildnanpaaOpen
import Derived.Test.YtoaehoildnanpaaKeepRf
set_option linter.all false
set_option maxRecDepth 100000
namespace Go.Proofs.Ytoaehoildnanpaa.LRingOrdered
open Go Go.ChangeShapes Go.WideShapes Go.ChangeAt Go.RowKit

theorem all_upto {l : List Ev} {i : Nat} (h : ∀ j, j < i → UpAt l j) (hk : UpAt l i) : ∀ j, j < i + 1 → UpAt l j := all_succ h hk
set_option maxHeartbeats 8000000 in
theorem walk (W : World) (A : Option Addr) (n c : Nat) (l : List Ev) (s : Sl W A n l) (m : n ≤ c) (x : c ≤ maxLen) (_g : ∀ e ∈ l, EvOk e) :
    Calls Try.prog 10 #[.slice A n c] W fun e w' => e = .returned (.bool true) ∧ Below W.heap.size W w' := by
  unfold maxLen at x
  have hw0 : Bel W W := Bel.refl _
  have HL := Lib.hid s
  have HN := Lib.hid s.1
  clear s
  cases h1 : (may l != 0)
  · have HM := Lib.hid (show may l = 0 by simpa using h1)
    have hlen2 := edL_len l
    clear h1
    go_enter Try.func10, Try.ntmps10
    go_wp2_with fail
    refine (ringed_any ring_any _).mono ?_
    rintro e1 w1 ⟨rfl, hb1⟩
    have hw1 := hw0.call hb1
    clear hb1
    go_wp2_with fail
    refine (graph_q A n c l _ (HL.out.bel hw1) m x HM.out).mono ?_
    rintro e2 w2 ⟨A3, c3, rfl, hs3, hn3, hm3, hb2⟩
    have hw2 := hw1.call hb2
    clear hb2
    have HS3 := Lib.hid hs3
    have HQ3 := Lib.hid (And.intro hn3 hm3)
    have HW2 := Lib.hid hw2
    have HIN := Lib.hid (edL_in l)
    have HUP := Lib.hid (fun (h : ∀ i, i < n → UpAt l i) (r : List Nat) (hr : RingOk (Pq (edL l)) r) => up_ring (l := l) (by rw [HN.out]; exact h) hr)
    clear hs3 hn3 hm3 hw0 hw1 hw2
    generalize edL l = q at *
    generalize hq : q.length = nq at *
    clear hq
    go_wp2
    go_loopw [25] (fun t wr => ∃ j : Nat, j ≤ n ∧ t = .int .i64 j ∧ (∀ i, i < j → UpAt l i) ∧ Bel w2 wr) (fun t _ => n - (intOf t).toNat)
    case atStart => exact ⟨0, by omega, rfl, fun i h => by omega, Bel.refl _⟩
    case round =>
      obtain ⟨i, hi, rfl, hd, hbr⟩ := hrel
      have HD := Lib.hid hd
      have HB := Lib.hid hbr
      clear hd hbr
      by_cases hlt : i < n
      · obtain ⟨bb, off, e, rfl, hbb, he, hrg⟩ := (HL.out.bel (HW2.out.trans HB.out)).at_ hlt
        have hlt' : (i : Int) < n := by omega
        have hic : (i : Int) ≤ c := by omega
        have hR := Lib.hid hrg
        have HE := Lib.hid he
        have HW1 := Lib.hid (ewld_below wr e 47)
        have HB2 := Lib.hid (HB.out.trans HW1.out)
        obtain ⟨c0, c1, c2⟩ := ewld_cells wr e 47
        have F := Lib.hid (And.intro (fun (w' : World) (h : Bel (ewld wr e 47) w') => h.cell c0) (And.intro (fun (w' : World) (h : Bel (ewld wr e 47) w') => h.cell c1) (fun (w' : World) (h : Bel (ewld wr e 47) w') => h.cell c2)))
        clear hrg he hbb c1 c2
        cases h1 : (e.k == 3)
        · have HU := Lib.hid (show UpAt l i from fun e' o he' hk _ _ => by rw [HE.out] at he'; cases he'; rw [hk] at h1; cases h1)
          go_wp2_with (first | (refine load_ev T36 _ rfl rfl rfl hR.out ?_) | (refine ewld_store T36 _ _ rfl rfl _ rfl rfl rfl ?_))
          go_roundw
          case rel => exact ⟨i + 1, by omega, by go_num, all_upto HD.out HU.out, HB2.out⟩
          case measure => simp [intOf]; omega
        · have hk3 : e.k = 3 := eq_of_beq h1
          have hiv := wrong_isEv (((may_iff l).1 HM.out).2 i e HE.out)
          have ht := isEv_t hiv
          have ho := isEv_o hiv
          rw [hk3] at ho
          obtain ⟨o, hoe⟩ := Int.eq_ofNat_of_zero_le ho.1
          have ho5 : o < 5 := by have := ho.2; rw [hoe] at this; simp [nobj] at this; omega
          have HOE := Lib.hid hoe
          have HSL := Lib.hid (show Sl (ewld wr e 47) (some ⟨bb, off, none⟩) i (l.take i) from (HL.out.bel (HW2.out.trans HB2.out)).take (by omega))
          have HPH := Lib.hid (show ∀ w', Bel (ewld wr e 47) w' → Calls Try.prog 28 #[.slice (some ⟨bb, off, none⟩) i c, .int .i64 e.t] w' fun e' w2 => e' = .returned (.tuple #[.int .i64 (held (l.take i) e.t), .int .i64 0]) ∧ Below w'.heap.size w' w2 by
            intro w' hw'
            have h := held_any (some ⟨bb, off, none⟩) i c (l.take i) e.t w' (HSL.out.bel hw')
            have e9 : pheld (l.take i) e.t = (held (l.take i) e.t, 0) := by unfold pheld; rw [if_pos (may_take HM.out i), inB_yes ht.1 ht.2]; rfl
            rw [e9] at h
            exact h)
          have HUI := Lib.hid (show held (l.take i) e.t / 2 ^ o = 0 → UpAt l i from fun h e' o' he' _ ho' _ => by
            rw [HE.out] at he'; cases he'
            obtain rfl : o = o' := by rw [hoe] at ho'; omega
            exact h)
          have ho' : (o : Int) < 64 := by omega
          clear hk3 hiv ht ho hoe ho5
          go_wp2_with (first | (refine load_ev T36 _ rfl rfl rfl hR.out ?_) | (refine ewld_store T36 _ _ rfl rfl _ rfl rfl rfl ?_))
          (refine region_bel (by kernel_rfl) (by kernel_rfl) ?_; (repeat (first | ((with_reducible refine BigFrame.wpQuiet_skip ?_ ?_); exact rfl; simp only [Act.put, Act.eval, List.setIfInBounds_toArray, List.set_cons_zero, List.set_cons_succ, Array.getD_eq_getD_getElem?, List.getElem?_toArray, List.getElem?_cons_zero, List.getElem?_cons_succ, Option.getD_some]) | (refine q_move _ rfl rfl ?_; simp only [Act.put, Act.eval, List.setIfInBounds_toArray, List.set_cons_zero, List.set_cons_succ, Array.getD_eq_getD_getElem?, List.getElem?_toArray, List.getElem?_cons_zero, List.getElem?_cons_succ, Option.getD_some]) | (refine q_assign _ rfl rfl ?_; simp only [Act.put, Act.eval, List.setIfInBounds_toArray, List.set_cons_zero, List.set_cons_succ, Array.getD_eq_getD_getElem?, List.getElem?_toArray, List.getElem?_cons_zero, List.getElem?_cons_succ, Option.getD_some]) | (refine q_any rfl ?_; apply Exists.intro; refine ⟨fun w hw => ?_, ?_⟩; (have fct0 := F.out.1 w hw; have fct1 := F.out.2.1 w hw; have fct2 := F.out.2.2 w hw; go_simp; first | exact ⟨rfl, rfl⟩ | rfl | (go_at_call 28; (with_reducible refine (HPH.out w hw).mono ?_); rintro e w' ⟨rfl, hb⟩; exact ⟨rfl, hw.call hb⟩)); simp only [Act.put, Act.eval, List.setIfInBounds_toArray, List.set_cons_zero, List.set_cons_succ, Array.getD_eq_getD_getElem?, List.getElem?_toArray, List.getElem?_cons_zero, List.getElem?_cons_succ, Option.getD_some]))); refine wpQuiet_nil ?_; intro w2 hw2)
          have HB3 := Lib.hid (HB2.out.trans hw2)
          have co := F.out.2.2 _ hw2
          rw [HOE.out] at co
          rw [show (e.k != 3) = false by rw [bne, h1]; rfl]
          clear hw2 F HPH c0 h1
          generalize held (l.take i) e.t = hd at *
          by_cases hz : hd / 2 ^ o = 0
          · have hz' : (hd / 2 ^ o != 0) = false := by simpa using hz
            have HU := Lib.hid (HUI.out hz)
            go_wp2
            go_roundw
            case rel => exact ⟨i + 1, by omega, by go_num, all_upto HD.out HU.out, HB3.out⟩
            case measure => simp [intOf]; omega
          · have hz' : (hd / 2 ^ o != 0) = true := by simpa using hz
            go_wp2
            go_ret
            exact ⟨rfl, (HW2.out.trans HB3.out).out⟩
      · obtain rfl : i = n := by omega
        have HR := Lib.hid (HUP.out HD.out)
        go_wp2_with fail
        refine (ring_any A3 nq c3 q wr (HS3.out.bel HB.out) HQ3.out.1 HQ3.out.2).mono ?_
        rintro e w4 ⟨v4, r4, c4, rfl, hB4, hs4, hb4⟩
        obtain ⟨rfl, hR4⟩ := ringB_in HIN.out hB4
        obtain rfl := HR.out r4 hR4
        obtain ⟨A4, n4, d4, rfl, hs4, hm4⟩ := hs4.form
        have hn4 : n4 = 0 := hs4.1.symm
        subst hn4
        have HW4 := Lib.hid ((HW2.out.trans HB.out).call hb4)
        clear hB4 hs4 hb4 hR4 hm4
        go_wp2
        go_ret
        exact ⟨rfl, HW4.out⟩
  · have HM := Lib.hid (show may l ≠ 0 by simpa using h1)
    go_enter Try.func10, Try.ntmps10
    go_wp2_with fail
    refine (ringed_any ring_any _).mono ?_
    rintro e1 w1 ⟨rfl, hb1⟩
    have hw1 := hw0.call hb1
    clear hb1
    go_wp2_with fail
    refine (graph_no A n c l _ (HL.out.bel hw1) m x HM.out).mono ?_
    rintro e2 w2 ⟨rfl, hb2⟩
    have hw2 := hw1.call hb2
    clear hb2
    go_wp2
    go_ret
    exact ⟨rfl, hw2⟩

set_option maxRecDepth 100000 in
theorem lifted (os : Os) (started : os.Started) (H : Type) (enc : TypeId × Value → H) :
    ReturnsInHanded {} Try.checked os 10 .any (Rows.ringOrderedSpec.pre6 enc Try.prog Try.f10 Rows.ringOrderedRow.domain false) (Rows.ringOrderedSpec.post enc Try.prog Try.f10 false true false false) := by
  refine returnsInHanded_of_change_sized (C := Try.checked) own started (by kernel_rfl) Try.func10
    (ChangeSpec.witness6 (enc := enc) (C := Try.checked) false ⟨#[], #[.slice none 0 0], []⟩ 8 (by kernel_rfl) (by kernel_rfl) (by kernel_rfl) (by kernel_rfl)) ?_
  intro W base args ds gs before hval0 hW hcnd hsz0 _
  have hsz : (DataW.weightsEach Try.prog (Try.f10.params.toList ++ Rows.ringOrderedSpec.plain.varTypes Try.prog) (ds ++ gs)).all (· ≤ reachBytes) = true := hsz0
  clear hsz0
  have hval : ∀ (j : Nat) t v, Try.f10.params[j]? = some t → args[j]? = some v → Value.okWide Try.prog W .any base t v := hval0
  have hW' := hW
  obtain ⟨p, q, hA0, hV, rfl, hfz, hnd⟩ := hW
  have hA : DataW.TrodAll enc Try.prog W 0 (fun _ => true) true Try.f10.params.toList args.toList ds p := hA0
  rw [Try.params10] at hA hval hsz
  obtain ⟨v0, vs0, d0, ds0, p0, q0, hargs, rfl, rfl, h0, r0⟩ := trodAll_cons hA
  obtain ⟨rfl, rfl, rfl⟩ := trodAll_nil r0
  obtain rfl : args = #[v0] := by cases args; simp_all
  obtain ⟨rfl, rfl⟩ := trodVars_none hV
  have t0 := h0
  have lt0 : ∀ x ∈ p0, x.block < W.heap.size := by obtain ⟨m, hm⟩ := t0; exact DataW.trod_lt m _ _ _ hm
  obtain ⟨A0, n0, c0, l0, rfl, s0, m0, x0, g0, z0⟩ := open_evs Try.underlying22 Try.underlying47 ⟨rfl, rfl, rfl⟩ (by kernel_rfl) (by kernel_rfl) Try.underlying3 (hval 0 22 v0 rfl rfl) h0
  have y0 := reach_sl hsz (j := 0) rfl rfl Try.underlying22 (b := 24) (by kernel_rfl) z0
  clear hA0 hval0
  refine (walk W A0 n0 c0 l0 s0 m0 x0 g0).mono fun e W' ⟨he, bel⟩ => ?_
  subst he
  exact ⟨_, rfl, _, _, _, [], _, [], hW', trodAll_mk1 (shut_bool Try.underlying4 _), (trodAll_cons_mk (Below.trod laidOut (by kernel_rfl) (of_decide_eq_true (by kernel_rfl)) t0 bel lt0) trodAll_mk0), rfl, bel.frame _, fun h => by cases h⟩

theorem over : Rows.ringOrderedRow.holds Try.pinned (OpenSpec.ofChange Rows.ringOrderedSpec) :=
  OpenClaim.holds_of_wide 10 Try.f10 rfl rfl rfl rfl rfl rfl rfl ⟨rfl, rfl, rfl, rfl, rfl⟩ rfl rfl rfl rfl rfl (by kernel_rfl) Try.func10 (by kernel_rfl)
    (of_decide_eq_true (by kernel_rfl)) (by unfold Func.isWrapper; first | (rw [if_pos (by decide +kernel)]; kernel_rfl) | (rw [if_neg (by decide +kernel)]; exact ⟨rfl, rfl⟩))
    (fun os started H enc _ => lifted os started H enc)

theorem proved : Rows.RingOrderedSaid := over
#print axioms proved
end Go.Proofs.Ytoaehoildnanpaa.LRingOrdered

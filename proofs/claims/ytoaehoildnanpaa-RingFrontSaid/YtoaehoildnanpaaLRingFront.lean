/- 'deadheatkeep.RingFront' returns true for every input and leaves its arguments as they are. No condition. -/
import Derived.Test.YtoaehoildnanpaaOpen
import Derived.Test.YtoaehoildnanpaaKeepRf
set_option linter.all false
set_option maxRecDepth 100000
namespace Go.Proofs.Ytoaehoildnanpaa.LRingFront
open Go Go.ChangeShapes Go.WideShapes Go.ChangeAt Go.RowKit

set_option maxHeartbeats 8000000 in
theorem walk (W : World) (A : Option Addr) (n c : Nat) (l : List Ev) (s : Sl W A n l) (m : n ≤ c) (x : c ≤ maxLen) (_g : ∀ e ∈ l, EvOk e) (t : Int) (kt : In64 t) :
    Calls Try.prog 9 #[.slice A n c, .int .i64 t] W fun e w' => e = .returned (.bool true) ∧ Below W.heap.size W w' := by
  unfold maxLen at x
  have hw0 : Bel W W := Bel.refl _
  have HL := Lib.hid s
  have HN := Lib.hid s.1
  clear s
  cases h1 : (may l == 0)
  · clear kt
    go_enter Try.func9, Try.ntmps9
    go_wp2_with fail
    refine (ringed_any ring_any _).mono ?_
    rintro e1 w1 ⟨rfl, hb1⟩
    have hw1 := hw0.call hb1
    clear hb1
    go_wp2_with fail
    refine (may_any A n c l _ (HL.out.bel hw1)).mono ?_
    rintro e2 w2 ⟨rfl, hb2⟩
    have hw2 := hw1.call hb2
    clear hb2
    go_wp2
    go_ret
    exact ⟨rfl, hw2⟩
  · have hm := eq_of_beq h1
    have HM := Lib.hid hm
    have hn80 : n ≤ 80 := by rw [← HN.out]; exact ((may_iff l).1 hm).1
    have hk0 := Int.emod_nonneg t (show (n : Int) + 1 ≠ 0 by omega)
    have hk1 := Int.emod_lt_of_pos t (show (0 : Int) < n + 1 by omega)
    have HRT := Lib.hid (fun w => rest_any t (n + 1) kt (by omega) (by omega) w)
    clear kt hm
    generalize t % ((n : Int) + 1) = t' at *
    obtain ⟨k, rfl⟩ := Int.eq_ofNat_of_zero_le hk0
    have hk : k ≤ n := by omega
    have hkc : (k : Int) ≤ c := by omega
    have HMK := Lib.hid (may_take HM.out k)
    have HSUB := Lib.hid (edL_take (l := l) k)
    have hlen := edL_len (l.take k)
    have hlen2 := edL_len l
    clear hk0 hk1 h1
    go_enter Try.func9, Try.ntmps9
    go_wp2_with fail
    refine (ringed_any ring_any _).mono ?_
    rintro e1 w1 ⟨rfl, hb1⟩
    have hw1 := hw0.call hb1
    clear hb1
    go_wp2_with fail
    refine (may_any A n c l _ (HL.out.bel hw1)).mono ?_
    rintro e2 w2 ⟨rfl, hb2⟩
    have hw2 := hw1.call hb2
    clear hb2
    rw [HM.out]
    go_wp2_with fail
    refine (HRT.out _).mono ?_
    rintro _ _ ⟨rfl, rfl⟩
    go_wp2_with fail
    refine (graph_q A n c l _ (HL.out.bel hw2) m x HM.out).mono ?_
    rintro e3 w3 ⟨A3, c3, rfl, hs3, hn3, hm3, hb3⟩
    have hw3 := hw2.call hb3
    clear hb3
    have HS3 := Lib.hid hs3
    have HL3 := Lib.hid (HL.out.bel hw3)
    clear hs3 hm3
    go_wp2_with fail
    refine (graph_q A k c (l.take k) _ (HL3.out.take hk) (by omega) x HMK.out).mono ?_
    rintro e4 w4 ⟨A4, c4, rfl, hs4, hn4, hm4, hb4⟩
    have hw4 := hw3.call hb4
    replace HS3 := Lib.hid (HS3.out.bel (Bel.of hb4))
    clear hb4
    have HS4 := Lib.hid hs4
    have HW4 := Lib.hid hw4
    clear hs4 hw0 hw1 hw2 hw3 hw4
    generalize edL l = q at *
    generalize edL (l.take k) = p at *
    generalize hp : p.length = np at *
    generalize hq : q.length = nq at *
    unfold maxLen at hm4
    clear hp hq
    go_wp2
    go_loopw [35] (fun t wr => ∃ j : Nat, j ≤ np ∧ t = .int .i64 j ∧ Bel w4 wr) (fun t _ => np - (intOf t).toNat)
    case atStart => exact ⟨0, by omega, rfl, Bel.refl _⟩
    case round =>
      obtain ⟨j, hj, rfl, hbr⟩ := hrel
      have HB := Lib.hid hbr
      clear hbr
      by_cases hlt : j < np
      · obtain ⟨bb, off, e, rfl, hbb, he, hrg⟩ := (HS4.out.bel HB.out).at_ hlt
        have hlt' : (j : Int) < np := by omega
        have hic : (j : Int) ≤ c4 := by omega
        have HRG := Lib.hid hrg
        have HX := Lib.hid (qwld_box wr e 31)
        have HB1 := Lib.hid (HB.out.trans (qwld_below wr e 31))
        have HIN := Lib.hid (decide_eq_true (HSUB.out e (List.mem_of_getElem? he)))
        clear hrg he hbb
        go_wp2_with (first | (refine load_qr TPr _ rfl rfl rfl HRG.out ?_) | (refine qwld_store TPr _ _ rfl rfl _ rfl rfl rfl ?_) | (refine loadB _ _ rfl rfl rfl HX.out TPr ?_) | (go_at_call 24; (with_reducible refine (hasp_any A3 nq c3 q e _ (HS3.out.bel HB1.out) (by omega)).mono ?_); rintro e9 w9 ⟨rfl, hb9⟩; rw [HIN.out]; have HB9 := Lib.hid (HB1.out.trans (Bel.of hb9)); clear hb9))
        go_roundw
        case rel => exact ⟨j + 1, by omega, by go_num, HB9.out⟩
        case measure => simp [intOf]; omega
      · obtain rfl : j = np := by omega
        go_wp2
        go_ret
        exact ⟨rfl, (HW4.out.trans HB.out).out⟩

set_option maxRecDepth 100000 in
theorem lifted (os : Os) (started : os.Started) (H : Type) (enc : TypeId × Value → H) :
    ReturnsInHanded {} Try.checked os 9 .any (Rows.ringFrontSpec.pre6 enc Try.prog Try.f9 Rows.ringFrontRow.domain false) (Rows.ringFrontSpec.post enc Try.prog Try.f9 false true false false) := by
  refine returnsInHanded_of_change_sized (C := Try.checked) own started (by kernel_rfl) Try.func9
    (ChangeSpec.witness6 (enc := enc) (C := Try.checked) false ⟨#[], #[.slice none 0 0, .int .i64 0], []⟩ 8 (by kernel_rfl) (by kernel_rfl) (by kernel_rfl) (by kernel_rfl)) ?_
  intro W base args ds gs before hval0 hW hcnd hsz0 _
  have hsz : (DataW.weightsEach Try.prog (Try.f9.params.toList ++ Rows.ringFrontSpec.plain.varTypes Try.prog) (ds ++ gs)).all (· ≤ reachBytes) = true := hsz0
  clear hsz0
  have hval : ∀ (j : Nat) t v, Try.f9.params[j]? = some t → args[j]? = some v → Value.okWide Try.prog W .any base t v := hval0
  have hW' := hW
  obtain ⟨p, q, hA0, hV, rfl, hfz, hnd⟩ := hW
  have hA : DataW.TrodAll enc Try.prog W 0 (fun _ => true) true Try.f9.params.toList args.toList ds p := hA0
  rw [Try.params9] at hA hval hsz
  obtain ⟨v0, vs0, d0, ds0, p0, q0, hargs, rfl, rfl, h0, r0⟩ := trodAll_cons hA
  obtain ⟨v1, vs1, d1, ds1, p1, q1, rfl, rfl, rfl, h1, r1⟩ := trodAll_cons r0
  obtain ⟨rfl, rfl, rfl⟩ := trodAll_nil r1
  obtain rfl : args = #[v0, v1] := by cases args; simp_all
  obtain ⟨rfl, rfl⟩ := trodVars_none hV
  have t0 := h0
  have lt0 : ∀ x ∈ p0, x.block < W.heap.size := by obtain ⟨m, hm⟩ := t0; exact DataW.trod_lt m _ _ _ hm
  have t1 := h1
  have lt1 : ∀ x ∈ p1, x.block < W.heap.size := by obtain ⟨m, hm⟩ := t1; exact DataW.trod_lt m _ _ _ hm
  obtain ⟨A0, n0, c0, l0, rfl, s0, m0, x0, g0, z0⟩ := open_evs Try.underlying22 Try.underlying47 ⟨rfl, rfl, rfl⟩ (by kernel_rfl) (by kernel_rfl) Try.underlying3 (hval 0 22 v0 rfl rfl) h0
  have y0 := reach_sl hsz (j := 0) rfl rfl Try.underlying22 (b := 24) (by kernel_rfl) z0
  obtain ⟨a1, rfl, _, _, x1⟩ := open_int Try.underlying3 (hval 1 3 v1 rfl rfl) h1
  have k1 := in64_of x1
  clear hA0 hval0
  refine (walk W A0 n0 c0 l0 s0 m0 x0 g0 a1 k1).mono fun e W' ⟨he, bel⟩ => ?_
  subst he
  exact ⟨_, rfl, _, _, _, [], _, [], hW', trodAll_mk1 (shut_bool Try.underlying4 _), (trodAll_cons_mk (Below.trod laidOut (by kernel_rfl) (of_decide_eq_true (by kernel_rfl)) t0 bel lt0) (trodAll_cons_mk (Below.trod laidOut (by kernel_rfl) (of_decide_eq_true (by kernel_rfl)) t1 bel lt1) trodAll_mk0)), rfl, bel.frame _, fun h => by cases h⟩

theorem over : Rows.ringFrontRow.holds Try.pinned (OpenSpec.ofChange Rows.ringFrontSpec) :=
  OpenClaim.holds_of_wide 9 Try.f9 rfl rfl rfl rfl rfl rfl rfl ⟨rfl, rfl, rfl, rfl, rfl⟩ rfl rfl rfl rfl rfl (by kernel_rfl) Try.func9 (by kernel_rfl)
    (of_decide_eq_true (by kernel_rfl)) (by unfold Func.isWrapper; first | (rw [if_pos (by decide +kernel)]; kernel_rfl) | (rw [if_neg (by decide +kernel)]; exact ⟨rfl, rfl⟩))
    (fun os started H enc _ => lifted os started H enc)

theorem proved : Rows.RingFrontSaid := over
#print axioms proved
end Go.Proofs.Ytoaehoildnanpaa.LRingFront

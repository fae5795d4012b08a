/- 'deadheatlaw.GuardCommon' returns true for every input and leaves its arguments as they are. No condition. -/
import Derived.Test.YtlifmedkadjdcaaOpen
import Derived.Test.YtlifmedkadjdcaaGuE
import Derived.Test.YtlifmedkadjdcaaRefG
import Derived.Test.YtlifmedkadjdcaaRefTr
set_option linter.all false
set_option maxRecDepth 100000
namespace Go.Proofs.Ytlifmedkadjdcaa.LGuardCommon
open Go Go.ChangeShapes Go.WideShapes Go.ChangeAt Go.RowKit

theorem gcwld_store {P : Program} {ops : Array Oper} {rest : List Oper} {o : Oper} {a : Act} {w' w : World} {Q : Exit → Act → World → Prop} {ty : TypeId} (hT : RowTy P ty 8) (x y : Operand) (ho : o.op = .store ty x y) (hgd : o.guard = none) (g c : Nat → Nat)
    (hw : w' = ((w.alloc (.cells (ns 24 fun _ => 0) 25)).alloc (.cells (ns 8 fun _ => 0) 32)).setRow w.heap.size (ns 24 g)) (hx : a.eval x = .pointer (some ⟨w.heap.size + 1, 0, none⟩)) (hy : a.eval y = .agg (ns 8 c)) (h : wpList P ops Q rest (a.put o.dst undef) (gcwld w g c)) : wpList P ops Q (o :: rest) a w' := by
  subst hw
  obtain ⟨b1, b2, hB, hs⟩ := boxes2 w (ns 24 fun _ => 0) (ns 8 fun _ => 0) 25 32
  exact storeB ty x y ho hgd hx hy (b2.setRow_ne w.heap.size (ns 24 g) (by omega)) (by rw [ns_size, ns_size]) (by rw [ns_size]; exact hT) (gns_all _ _) h
set_option maxHeartbeats 4000000 in
theorem badlo (W : World) (A : Option Addr) (n c : Nat) (l : List Ev) (s : Sl W A n l) (m : n ≤ c) (x : c ≤ 9223372036854775807) (t : Int) (hm : may l = 0) (hx : t < 0) :
    Calls Try.prog 5 #[.slice A n c, .int .i64 t] W fun e w' => e = .returned (.bool true) ∧ Below W.heap.size W w' := by
  have hw0 : Bel W W := Bel.refl _
  have HL := Lib.hid s
  have HMW := Lib.hid (show may [⟨0, 0, 0⟩] = 1 by decide +kernel)
  clear s
  have HR := Lib.hid (show comR l t = 0 by unfold comR; rw [if_neg (by omega)])
  have HE := Lib.hid (show comE l t = 1 by unfold comE; rw [if_pos hm, if_neg (by omega)])
  have HM := Lib.hid hm
  clear hm
  go_enter Try.func5, Try.ntmps5
  go_wp2_with fail
  refine (common_any A n c l t _ HL.out m).mono ?_
  rintro e1 w1 ⟨rfl, hb1⟩
  have hw1 := hw0.call hb1
  clear hb1
  rw [HR.out, HE.out]
  go_wp2_with fail
  refine (rmay_any A n c l _ (HL.out.bel hw1) m x).mono ?_
  rintro e2 w2 ⟨rfl, hb2⟩
  have hw2 := hw1.call hb2
  clear hb2
  rw [HM.out]
  go_wp2_with fail
  refine (wrong_any _).mono ?_
  rintro e3 w3 ⟨A2, c2, rfl, hs2, hd2, hd2', hb3⟩
  have hw3 := hw2.call hb3
  clear hb3
  go_wp2_with fail
  refine (guards_any A2 1 c2 _ _ hs2 hd2).mono ?_
  rintro e4 w4 ⟨rfl, hb4⟩
  have hw4 := hw3.call hb4
  clear hb4
  clear hs2 hd2 hd2'
  rw [HMW.out]
  go_wp2_with (refine gwld_store TGs _ _ rfl rfl (gfin [⟨0, 0, 0⟩]) rfl rfl rfl ?_)
  go_ret
  exact ⟨rfl, hw4.trans (gwld_bel w4 (gfin [⟨0, 0, 0⟩]))⟩

set_option maxHeartbeats 4000000 in
theorem badhi (W : World) (A : Option Addr) (n c : Nat) (l : List Ev) (s : Sl W A n l) (m : n ≤ c) (x : c ≤ 9223372036854775807) (t : Int) (hm : may l = 0) (hx0 : 0 ≤ t) (hx : 7 < t) :
    Calls Try.prog 5 #[.slice A n c, .int .i64 t] W fun e w' => e = .returned (.bool true) ∧ Below W.heap.size W w' := by
  have hw0 : Bel W W := Bel.refl _
  have HL := Lib.hid s
  have HMW := Lib.hid (show may [⟨0, 0, 0⟩] = 1 by decide +kernel)
  clear s
  have HR := Lib.hid (show comR l t = 0 by unfold comR; rw [if_neg (by omega)])
  have HE := Lib.hid (show comE l t = 1 by unfold comE; rw [if_pos hm, if_neg (by omega)])
  have HM := Lib.hid hm
  clear hm
  go_enter Try.func5, Try.ntmps5
  go_wp2_with fail
  refine (common_any A n c l t _ HL.out m).mono ?_
  rintro e1 w1 ⟨rfl, hb1⟩
  have hw1 := hw0.call hb1
  clear hb1
  rw [HR.out, HE.out]
  go_wp2_with fail
  refine (rmay_any A n c l _ (HL.out.bel hw1) m x).mono ?_
  rintro e2 w2 ⟨rfl, hb2⟩
  have hw2 := hw1.call hb2
  clear hb2
  rw [HM.out]
  go_wp2_with fail
  refine (wrong_any _).mono ?_
  rintro e3 w3 ⟨A2, c2, rfl, hs2, hd2, hd2', hb3⟩
  have hw3 := hw2.call hb3
  clear hb3
  go_wp2_with fail
  refine (guards_any A2 1 c2 _ _ hs2 hd2).mono ?_
  rintro e4 w4 ⟨rfl, hb4⟩
  have hw4 := hw3.call hb4
  clear hb4
  clear hs2 hd2 hd2'
  rw [HMW.out]
  go_wp2_with (refine gwld_store TGs _ _ rfl rfl (gfin [⟨0, 0, 0⟩]) rfl rfl rfl ?_)
  go_ret
  exact ⟨rfl, hw4.trans (gwld_bel w4 (gfin [⟨0, 0, 0⟩]))⟩

set_option maxHeartbeats 4000000 in
theorem bad (W : World) (A : Option Addr) (n c : Nat) (l : List Ev) (s : Sl W A n l) (m : n ≤ c) (x : c ≤ 9223372036854775807) (t : Int) (hm : may l ≠ 0) :
    Calls Try.prog 5 #[.slice A n c, .int .i64 t] W fun e w' => e = .returned (.bool true) ∧ Below W.heap.size W w' := by
  have hw0 : Bel W W := Bel.refl _
  have HL := Lib.hid s
  have HMW := Lib.hid (show may [⟨0, 0, 0⟩] = 1 by decide +kernel)
  clear s
  have HR := Lib.hid (show comR l t = 0 by unfold comR; rw [if_neg (fun h => hm h.1)])
  have HE := Lib.hid (show comE l t = may l by unfold comE; rw [if_neg hm])
  have h1 : (may l != 0) = true := by simp [hm]
  have h2 : (may l == 0) = false := by simp [hm]
  clear hm
  go_enter Try.func5, Try.ntmps5
  go_wp2_with fail
  refine (common_any A n c l t _ HL.out m).mono ?_
  rintro e1 w1 ⟨rfl, hb1⟩
  have hw1 := hw0.call hb1
  clear hb1
  rw [HR.out, HE.out]
  go_wp2_with fail
  refine (rmay_any A n c l _ (HL.out.bel hw1) m x).mono ?_
  rintro e2 w2 ⟨rfl, hb2⟩
  have hw2 := hw1.call hb2
  clear hb2
  go_wp2_with fail
  refine (wrong_any _).mono ?_
  rintro e3 w3 ⟨A2, c2, rfl, hs2, hd2, hd2', hb3⟩
  have hw3 := hw2.call hb3
  clear hb3
  go_wp2_with fail
  refine (guards_any A2 1 c2 _ _ hs2 hd2).mono ?_
  rintro e4 w4 ⟨rfl, hb4⟩
  have hw4 := hw3.call hb4
  clear hb4
  clear hs2 hd2 hd2'
  rw [HMW.out]
  go_wp2_with (refine gwld_store TGs _ _ rfl rfl (gfin [⟨0, 0, 0⟩]) rfl rfl rfl ?_)
  go_ret
  exact ⟨rfl, hw4.trans (gwld_bel w4 (gfin [⟨0, 0, 0⟩]))⟩

set_option maxHeartbeats 4000000 in
theorem good (W : World) (A : Option Addr) (n c : Nat) (l : List Ev) (s : Sl W A n l) (m : n ≤ c) (x : c ≤ 9223372036854775807) (t : Int) (hm : may l = 0) (y : Nat) (hx : t = (y : Int)) (hx8 : y < 8) :
    Calls Try.prog 5 #[.slice A n c, .int .i64 t] W fun e w' => e = .returned (.bool true) ∧ Below W.heap.size W w' := by
  have hw0 : Bel W W := Bel.refl _
  have HL := Lib.hid s
  have HMW := Lib.hid (show may [⟨0, 0, 0⟩] = 1 by decide +kernel)
  clear s
  have hy0 : (0 : Int) ≤ (y : Int) := by omega
  have hy7 : (y : Int) ≤ 7 := by omega
  have hy8 : (y : Int) < 8 := by omega
  subst hx
  have HR := Lib.hid (show comR l y = hset (comTo l y l.length) by unfold comR; rw [if_pos ⟨hm, by omega, by omega⟩]; rfl)
  have HE := Lib.hid (show comE l y = 0 by unfold comE; rw [if_pos hm, if_pos ⟨by omega, by omega⟩])
  have HM := Lib.hid hm
  clear hm
  go_enter Try.func5, Try.ntmps5
  go_wp2_with fail
  refine (common_any A n c l (y : Int) _ HL.out m).mono ?_
  rintro e1 w1 ⟨rfl, hb1⟩
  have hw1 := hw0.call hb1
  clear hb1
  rw [HR.out, HE.out]
  go_wp2_with fail
  refine (rmay_any A n c l _ (HL.out.bel hw1) m x).mono ?_
  rintro e2 w2 ⟨rfl, hb2⟩
  have hw2 := hw1.call hb2
  clear hb2
  rw [HM.out]
  go_wp2_with fail
  refine (wrong_any _).mono ?_
  rintro e3 w3 ⟨A2, c2, rfl, hs2, hd2, hd2', hb3⟩
  have hw3 := hw2.call hb3
  clear hb3
  go_wp2_with fail
  refine (guards_any A2 1 c2 _ _ hs2 hd2).mono ?_
  rintro e4 w4 ⟨rfl, hb4⟩
  have hw4 := hw3.call hb4
  clear hb4
  clear hs2 hd2 hd2'
  rw [HMW.out]
  go_wp2_with (refine gwld_store TGs _ _ rfl rfl (gfin [⟨0, 0, 0⟩]) rfl rfl rfl ?_)
  have HW4 := Lib.hid (hw4.trans (gwld_bel w4 (gfin [⟨0, 0, 0⟩])))
  generalize gwld w4 (gfin [⟨0, 0, 0⟩]) = wb at *
  refine (rguards_any A n c l _ (HL.out.bel HW4.out) m HM.out).mono ?_
  rintro e5 w5 ⟨v5, rfl, hown5, hb5⟩
  have hw5 := HW4.out.call hb5
  clear hown5 hb5
  obtain ⟨b1, b2, hB, hs⟩ := boxes2 w5 (ns 24 fun _ => 0) (ns 8 fun _ => 0) 25 32
  have z2 := (gcwld_box2 w5 (gG (gdT l l.length)) (cmN l l.length)).cell y (ns_get _ hx8)
  rw [show ((cmN l l.length y : Nat) : Int) = hset (comTo l y l.length) from lkN_eq _] at z2
  have HW6 := Lib.hid (hw5.trans (gcwld_bel w5 (gG (gdT l l.length)) (cmN l l.length)))
  clear hB hs hx8 b2
  go_wp2_with (first | (refine storeB _ _ _ rfl rfl rfl rfl b1 (by rw [ns_size, ns_size]) (TGz _) (gns_all _ _) ?_) | (refine gcwld_store TI8 _ _ rfl rfl (gG (gdT l l.length)) (cmN l l.length) rfl rfl rfl ?_))
  go_ret
  exact ⟨rfl, HW6.out⟩

theorem walk (W : World) (A : Option Addr) (n c : Nat) (l : List Ev) (s : Sl W A n l) (m : n ≤ c) (x : c ≤ maxLen) (g : ∀ e ∈ l, EvOk e) (t : Int) (kt : In64 t) :
    Calls Try.prog 5 #[.slice A n c, .int .i64 t] W fun e w' => e = .returned (.bool true) ∧ Below W.heap.size W w' := by
  unfold maxLen at x
  by_cases hm : may l = 0
  · by_cases h0 : t < 0
    · exact badlo W A n c l s m x t hm h0
    · by_cases h7 : 7 < t
      · exact badhi W A n c l s m x t hm (by omega) h7
      · obtain ⟨y, hy⟩ := Int.eq_ofNat_of_zero_le (show 0 ≤ t by omega)
        exact good W A n c l s m x t hm y hy (by omega)
  · exact bad W A n c l s m x t hm

set_option maxRecDepth 100000 in
theorem lifted (os : Os) (started : os.Started) (H : Type) (enc : TypeId × Value → H) :
    ReturnsInHanded {} Try.checked os 5 .any (Rows.guardCommonSpec.pre6 enc Try.prog Try.f5 Rows.guardCommonRow.domain false) (Rows.guardCommonSpec.post enc Try.prog Try.f5 false true false false) := by
  refine returnsInHanded_of_change_sized (C := Try.checked) own started (by kernel_rfl) Try.func5
    (ChangeSpec.witness6 (enc := enc) (C := Try.checked) false ⟨#[], #[.slice none 0 0, .int .i64 0], []⟩ 8 (by kernel_rfl) (by kernel_rfl) (by kernel_rfl) (by kernel_rfl)) ?_
  intro W base args ds gs before hval0 hW hcnd hsz0 _
  have hsz : (DataW.weightsEach Try.prog (Try.f5.params.toList ++ Rows.guardCommonSpec.plain.varTypes Try.prog) (ds ++ gs)).all (· ≤ reachBytes) = true := hsz0
  clear hsz0
  have hval : ∀ (j : Nat) t v, Try.f5.params[j]? = some t → args[j]? = some v → Value.okWide Try.prog W .any base t v := hval0
  have hW' := hW
  obtain ⟨p, q, hA0, hV, rfl, hfz, hnd⟩ := hW
  have hA : DataW.TrodAll enc Try.prog W 0 (fun _ => true) true Try.f5.params.toList args.toList ds p := hA0
  rw [Try.params5] at hA hval hsz
  obtain ⟨v0, vs0, d0, ds0, p0, q0, hargs, rfl, rfl, h0, r0⟩ := trodAll_cons hA
  obtain ⟨v1, vs1, d1, ds1, p1, q1, rfl, rfl, rfl, h1, r1⟩ := trodAll_cons r0
  obtain ⟨rfl, rfl, rfl⟩ := trodAll_nil r1
  obtain rfl : args = #[v0, v1] := by cases args; simp_all
  obtain ⟨rfl, rfl⟩ := trodVars_none hV
  have t0 := h0
  have lt0 : ∀ x ∈ p0, x.block < W.heap.size := by obtain ⟨m, hm⟩ := t0; exact DataW.trod_lt m _ _ _ hm
  have t1 := h1
  have lt1 : ∀ x ∈ p1, x.block < W.heap.size := by obtain ⟨m, hm⟩ := t1; exact DataW.trod_lt m _ _ _ hm
  obtain ⟨A0, n0, c0, l0, rfl, s0, m0, x0, g0, z0⟩ := open_evs Try.underlying22 Try.underlying50 ⟨rfl, rfl, rfl⟩ (by kernel_rfl) (by kernel_rfl) Try.underlying3 (hval 0 22 v0 rfl rfl) h0
  have y0 := reach_sl hsz (j := 0) rfl rfl Try.underlying22 (b := 24) (by kernel_rfl) z0
  obtain ⟨a1, rfl, _, _, x1⟩ := open_int Try.underlying3 (hval 1 3 v1 rfl rfl) h1
  have k1 := in64_of x1
  clear hA0 hval0
  refine (walk W A0 n0 c0 l0 s0 m0 x0 g0 a1 k1).mono fun e W' ⟨he, bel⟩ => ?_
  subst he
  exact ⟨_, rfl, _, _, _, [], _, [], hW', trodAll_mk1 (shut_bool Try.underlying4 _), (trodAll_cons_mk (Below.trod laidOut (by kernel_rfl) (of_decide_eq_true (by kernel_rfl)) t0 bel lt0) (trodAll_cons_mk (Below.trod laidOut (by kernel_rfl) (of_decide_eq_true (by kernel_rfl)) t1 bel lt1) trodAll_mk0)), rfl, bel.frame _, fun h => by cases h⟩

theorem over : Rows.guardCommonRow.holds Try.pinned (OpenSpec.ofChange Rows.guardCommonSpec) :=
  OpenClaim.holds_of_wide 5 Try.f5 rfl rfl rfl rfl rfl rfl rfl ⟨rfl, rfl, rfl, rfl, rfl⟩ rfl rfl rfl rfl rfl (by kernel_rfl) Try.func5 (by kernel_rfl)
    (of_decide_eq_true (by kernel_rfl)) (by unfold Func.isWrapper; first | (rw [if_pos (by decide +kernel)]; kernel_rfl) | (rw [if_neg (by decide +kernel)]; exact ⟨rfl, rfl⟩))
    (fun os started H enc _ => lifted os started H enc)

theorem proved : Rows.GuardCommonSaid := over
#print axioms proved
end Go.Proofs.Ytlifmedkadjdcaa.LGuardCommon

/- 'deadheatlaw.FullLast' returns true for every input and leaves its arguments as they are. No condition. -/
import Derived.Test.YtnjaeampnakbbaaOpen
import Derived.Test.YtnjaeampnakbbaaFull11
import Derived.Test.YtnjaeampnakbbaaRefF2
import Derived.Test.YtnjaeampnakbbaaRefTr2
set_option linter.all false
set_option maxRecDepth 100000
namespace Go.Proofs.Ytnjaeampnakbbaa.LFullLast
open Go Go.ChangeShapes Go.WideShapes Go.ChangeAt Go.RowKit

theorem same (a : Nat → Int) (w : World) : (binOp .eql 30 (.agg (clk a)) (.agg (clk a))).run Try.prog w = .ok (.bool true) w := by
  have h := eqlC a a w
  rwa [(eqc_iff a a).2 fun _ _ => rfl] at h
theorem zero (w : World) : (binOp .eql 30 (.agg #[.int .i64 0, .int .i64 0, .int .i64 0, .int .i64 0, .int .i64 0, .int .i64 0]) (.agg #[.int .i64 0, .int .i64 0, .int .i64 0, .int .i64 0, .int .i64 0, .int .i64 0])).run Try.prog w = .ok (.bool true) w := same (fun _ => 0) w
set_option maxHeartbeats 4000000 in
theorem bad1 (W : World) (A : Option Addr) (n c : Nat) (l : List Ev) (s : Sl W A n l) (m : n ≤ c) (x : c ≤ 9223372036854775807) (t : Int) (hm : may l = 0) (hok : ¬ (may l = 0 ∧ 0 ≤ t ∧ t < 8)) (hx : t < 0 ∨ 0 ≤ t ∧ 7 < t) :
    Calls Try.prog 4 #[.slice A n c, .int .i64 t] W fun e w' => e = .returned (.bool true) ∧ Below W.heap.size W w' := by
  have hw0 : Bel W W := Bel.refl _
  have HL := Lib.hid s
  have HMW := Lib.hid (show may [⟨0, 0, 0⟩] = 1 by decide +kernel)
  have G := grdC
  clear s
  have HR := Lib.hid (show ∀ q, lastR l q t = fun _ => 0 from fun q => by unfold lastR; rw [if_neg hok])
  have HE := Lib.hid (show lastE l t = 1 by unfold lastE; rw [if_pos hm, if_neg (fun h => hok ⟨hm, h⟩)])
  have HM := Lib.hid hm
  clear hm hok
  rcases hx with hx | ⟨hx0, hx⟩
  · skip
    go_enter Try.func4, Try.ntmps4
    go_wp2_with fail
    refine (last_any A n c l t _ HL.out).mono ?_
    rintro e1 w1 ⟨rfl, hb1⟩
    have hw1 := hw0.call hb1
    clear hb1
    rw [HR.out, HR.out, HE.out]
    obtain ⟨b1, b2, hB, hs⟩ := boxes2 w1 #[.int .i64 0, .int .i64 0, .int .i64 0, .int .i64 0, .int .i64 0, .int .i64 0] #[.int .i64 0, .int .i64 0, .int .i64 0, .int .i64 0, .int .i64 0, .int .i64 0] 30 30
    have HB2 := Lib.hid (show Bel w1 _ from below_setRow' (below_setRow' hB w1.heap.size (clk (ck fun _ => 0)) (Nat.le_refl _)) (w1.heap.size + 1) (clk (ck fun _ => 0)) (by omega))
    have b2' := b2.setRow_ne w1.heap.size (clk (ck fun _ => 0)) (by omega)
    have HX1 := Lib.hid ((b1.setRow (clk (ck fun _ => 0))).setRow_ne (w1.heap.size + 1) (clk (ck fun _ => 0)) (by omega))
    have HX2 := Lib.hid (b2'.setRow (clk (ck fun _ => 0)))
    clear hB hs
    go_wp2_with (first | (refine storeB _ _ _ rfl rfl rfl rfl b1 rfl ck28 (clk_all _) ?_) | (refine storeB _ _ _ rfl rfl rfl rfl b2' rfl ck28 (clk_all _) ?_))
    generalize hW2 : (((w1.alloc (.cells #[.int .i64 0, .int .i64 0, .int .i64 0, .int .i64 0, .int .i64 0, .int .i64 0] 30)).alloc (.cells #[.int .i64 0, .int .i64 0, .int .i64 0, .int .i64 0, .int .i64 0, .int .i64 0] 30)).setRow w1.heap.size (clk (ck fun _ => 0))).setRow (w1.heap.size + 1) (clk (ck fun _ => 0)) = w2 at *
    have hw2 := hw1.trans HB2.out
    clear hW2 b1 b2 b2'
    refine (rmay_any A n c l _ (HL.out.bel hw2) m x).mono ?_
    rintro e3 w3 ⟨rfl, hb3⟩
    have hw3 := hw2.call hb3
    replace HX1 := Lib.hid (HX1.out.bel (Bel.of hb3))
    replace HX2 := Lib.hid (HX2.out.bel (Bel.of hb3))
    clear hb3
    rw [HM.out]
    go_wp2_with fail
    refine (wrong_any _).mono ?_
    rintro e4 w4 ⟨A2, c2, rfl, hs2, hd2, hd2', hb4⟩
    have hw4 := hw3.call hb4
    replace HX1 := Lib.hid (HX1.out.bel (Bel.of hb4))
    replace HX2 := Lib.hid (HX2.out.bel (Bel.of hb4))
    clear hb4
    go_wp2_with fail
    refine (run_any A2 1 c2 _ _ hs2).mono ?_
    rintro e5 w5 ⟨v3, rfl, hown3, hb5⟩
    have hw5 := hw4.call hb5
    replace HX1 := Lib.hid (HX1.out.bel (Bel.of hb5))
    replace HX2 := Lib.hid (HX2.out.bel (Bel.of hb5))
    clear hb5
    clear hown3 hs2 hd2 hd2'
    rw [HMW.out]
    have z1 : Box w5 w1.heap.size #[.int .i64 0, .int .i64 0, .int .i64 0, .int .i64 0, .int .i64 0, .int .i64 0] 30 := HX1.out
    have z2 : Box w5 (w1.heap.size + 1) #[.int .i64 0, .int .i64 0, .int .i64 0, .int .i64 0, .int .i64 0, .int .i64 0] 30 := HX2.out
    have E := zero
    go_wp2_with (first | (refine loadB _ _ rfl rfl rfl z1 ck28 ?_) | (refine loadG _ _ rfl rfl rfl z2 ck28 ?_))
    go_ret
    exact ⟨rfl, hw5⟩
  · skip
    go_enter Try.func4, Try.ntmps4
    go_wp2_with fail
    refine (last_any A n c l t _ HL.out).mono ?_
    rintro e1 w1 ⟨rfl, hb1⟩
    have hw1 := hw0.call hb1
    clear hb1
    rw [HR.out, HR.out, HE.out]
    obtain ⟨b1, b2, hB, hs⟩ := boxes2 w1 #[.int .i64 0, .int .i64 0, .int .i64 0, .int .i64 0, .int .i64 0, .int .i64 0] #[.int .i64 0, .int .i64 0, .int .i64 0, .int .i64 0, .int .i64 0, .int .i64 0] 30 30
    have HB2 := Lib.hid (show Bel w1 _ from below_setRow' (below_setRow' hB w1.heap.size (clk (ck fun _ => 0)) (Nat.le_refl _)) (w1.heap.size + 1) (clk (ck fun _ => 0)) (by omega))
    have b2' := b2.setRow_ne w1.heap.size (clk (ck fun _ => 0)) (by omega)
    have HX1 := Lib.hid ((b1.setRow (clk (ck fun _ => 0))).setRow_ne (w1.heap.size + 1) (clk (ck fun _ => 0)) (by omega))
    have HX2 := Lib.hid (b2'.setRow (clk (ck fun _ => 0)))
    clear hB hs
    go_wp2_with (first | (refine storeB _ _ _ rfl rfl rfl rfl b1 rfl ck28 (clk_all _) ?_) | (refine storeB _ _ _ rfl rfl rfl rfl b2' rfl ck28 (clk_all _) ?_))
    generalize hW2 : (((w1.alloc (.cells #[.int .i64 0, .int .i64 0, .int .i64 0, .int .i64 0, .int .i64 0, .int .i64 0] 30)).alloc (.cells #[.int .i64 0, .int .i64 0, .int .i64 0, .int .i64 0, .int .i64 0, .int .i64 0] 30)).setRow w1.heap.size (clk (ck fun _ => 0))).setRow (w1.heap.size + 1) (clk (ck fun _ => 0)) = w2 at *
    have hw2 := hw1.trans HB2.out
    clear hW2 b1 b2 b2'
    refine (rmay_any A n c l _ (HL.out.bel hw2) m x).mono ?_
    rintro e3 w3 ⟨rfl, hb3⟩
    have hw3 := hw2.call hb3
    replace HX1 := Lib.hid (HX1.out.bel (Bel.of hb3))
    replace HX2 := Lib.hid (HX2.out.bel (Bel.of hb3))
    clear hb3
    rw [HM.out]
    go_wp2_with fail
    refine (wrong_any _).mono ?_
    rintro e4 w4 ⟨A2, c2, rfl, hs2, hd2, hd2', hb4⟩
    have hw4 := hw3.call hb4
    replace HX1 := Lib.hid (HX1.out.bel (Bel.of hb4))
    replace HX2 := Lib.hid (HX2.out.bel (Bel.of hb4))
    clear hb4
    go_wp2_with fail
    refine (run_any A2 1 c2 _ _ hs2).mono ?_
    rintro e5 w5 ⟨v3, rfl, hown3, hb5⟩
    have hw5 := hw4.call hb5
    replace HX1 := Lib.hid (HX1.out.bel (Bel.of hb5))
    replace HX2 := Lib.hid (HX2.out.bel (Bel.of hb5))
    clear hb5
    clear hown3 hs2 hd2 hd2'
    rw [HMW.out]
    have z1 : Box w5 w1.heap.size #[.int .i64 0, .int .i64 0, .int .i64 0, .int .i64 0, .int .i64 0, .int .i64 0] 30 := HX1.out
    have z2 : Box w5 (w1.heap.size + 1) #[.int .i64 0, .int .i64 0, .int .i64 0, .int .i64 0, .int .i64 0, .int .i64 0] 30 := HX2.out
    have E := zero
    go_wp2_with (first | (refine loadB _ _ rfl rfl rfl z1 ck28 ?_) | (refine loadG _ _ rfl rfl rfl z2 ck28 ?_))
    go_ret
    exact ⟨rfl, hw5⟩
set_option maxHeartbeats 4000000 in
theorem bad2 (W : World) (A : Option Addr) (n c : Nat) (l : List Ev) (s : Sl W A n l) (m : n ≤ c) (x : c ≤ 9223372036854775807) (t : Int) (hm : may l ≠ 0) :
    Calls Try.prog 4 #[.slice A n c, .int .i64 t] W fun e w' => e = .returned (.bool true) ∧ Below W.heap.size W w' := by
  have hw0 : Bel W W := Bel.refl _
  have HL := Lib.hid s
  have HMW := Lib.hid (show may [⟨0, 0, 0⟩] = 1 by decide +kernel)
  have G := grdC
  clear s
  have HR := Lib.hid (show ∀ q, lastR l q t = fun _ => 0 from fun q => by unfold lastR; rw [if_neg (fun h => hm h.1)])
  have HE := Lib.hid (show lastE l t = may l by unfold lastE; rw [if_neg hm])
  have h1 : (may l != 0) = true := by simp [hm]
  have h2 : (may l == 0) = false := by simp [hm]
  clear hm
  go_enter Try.func4, Try.ntmps4
  go_wp2_with fail
  refine (last_any A n c l t _ HL.out).mono ?_
  rintro e1 w1 ⟨rfl, hb1⟩
  have hw1 := hw0.call hb1
  clear hb1
  rw [HR.out, HR.out, HE.out]
  obtain ⟨b1, b2, hB, hs⟩ := boxes2 w1 #[.int .i64 0, .int .i64 0, .int .i64 0, .int .i64 0, .int .i64 0, .int .i64 0] #[.int .i64 0, .int .i64 0, .int .i64 0, .int .i64 0, .int .i64 0, .int .i64 0] 30 30
  have HB2 := Lib.hid (show Bel w1 _ from below_setRow' (below_setRow' hB w1.heap.size (clk (ck fun _ => 0)) (Nat.le_refl _)) (w1.heap.size + 1) (clk (ck fun _ => 0)) (by omega))
  have b2' := b2.setRow_ne w1.heap.size (clk (ck fun _ => 0)) (by omega)
  have HX1 := Lib.hid ((b1.setRow (clk (ck fun _ => 0))).setRow_ne (w1.heap.size + 1) (clk (ck fun _ => 0)) (by omega))
  have HX2 := Lib.hid (b2'.setRow (clk (ck fun _ => 0)))
  clear hB hs
  go_wp2_with (first | (refine storeB _ _ _ rfl rfl rfl rfl b1 rfl ck28 (clk_all _) ?_) | (refine storeB _ _ _ rfl rfl rfl rfl b2' rfl ck28 (clk_all _) ?_))
  generalize hW2 : (((w1.alloc (.cells #[.int .i64 0, .int .i64 0, .int .i64 0, .int .i64 0, .int .i64 0, .int .i64 0] 30)).alloc (.cells #[.int .i64 0, .int .i64 0, .int .i64 0, .int .i64 0, .int .i64 0, .int .i64 0] 30)).setRow w1.heap.size (clk (ck fun _ => 0))).setRow (w1.heap.size + 1) (clk (ck fun _ => 0)) = w2 at *
  have hw2 := hw1.trans HB2.out
  clear hW2 b1 b2 b2'
  refine (rmay_any A n c l _ (HL.out.bel hw2) m x).mono ?_
  rintro e3 w3 ⟨rfl, hb3⟩
  have hw3 := hw2.call hb3
  replace HX1 := Lib.hid (HX1.out.bel (Bel.of hb3))
  replace HX2 := Lib.hid (HX2.out.bel (Bel.of hb3))
  clear hb3
  go_wp2_with fail
  refine (wrong_any _).mono ?_
  rintro e4 w4 ⟨A2, c2, rfl, hs2, hd2, hd2', hb4⟩
  have hw4 := hw3.call hb4
  replace HX1 := Lib.hid (HX1.out.bel (Bel.of hb4))
  replace HX2 := Lib.hid (HX2.out.bel (Bel.of hb4))
  clear hb4
  go_wp2_with fail
  refine (run_any A2 1 c2 _ _ hs2).mono ?_
  rintro e5 w5 ⟨v3, rfl, hown3, hb5⟩
  have hw5 := hw4.call hb5
  replace HX1 := Lib.hid (HX1.out.bel (Bel.of hb5))
  replace HX2 := Lib.hid (HX2.out.bel (Bel.of hb5))
  clear hb5
  clear hown3 hs2 hd2 hd2'
  rw [HMW.out]
  have z1 : Box w5 w1.heap.size #[.int .i64 0, .int .i64 0, .int .i64 0, .int .i64 0, .int .i64 0, .int .i64 0] 30 := HX1.out
  have z2 : Box w5 (w1.heap.size + 1) #[.int .i64 0, .int .i64 0, .int .i64 0, .int .i64 0, .int .i64 0, .int .i64 0] 30 := HX2.out
  have E := zero
  go_wp2_with (first | (refine loadB _ _ rfl rfl rfl z1 ck28 ?_) | (refine loadG _ _ rfl rfl rfl z2 ck28 ?_))
  go_ret
  exact ⟨rfl, hw5⟩
set_option maxHeartbeats 4000000 in
theorem walk (W : World) (A : Option Addr) (n c : Nat) (l : List Ev) (s : Sl W A n l) (m : n ≤ c) (x : c ≤ maxLen) (g : ∀ e ∈ l, EvOk e) (t : Int) (kt : In64 t) :
    Calls Try.prog 4 #[.slice A n c, .int .i64 t] W fun e w' => e = .returned (.bool true) ∧ Below W.heap.size W w' := by
  unfold maxLen at x
  have hw0 : Bel W W := Bel.refl _
  have HL := Lib.hid s
  have HMW := Lib.hid (show may [⟨0, 0, 0⟩] = 1 by decide +kernel)
  have G := grdC
  have s0 := s
  clear s g kt
  by_cases hok : may l = 0 ∧ 0 ≤ t ∧ t < 8
  · obtain ⟨hm, h0, h8⟩ := hok
    obtain ⟨t, rfl⟩ := Int.eq_ofNat_of_zero_le h0
    have HM := Lib.hid hm
    have HR := Lib.hid (show ∀ q, lastR l q (t : Int) = rwF l q l.length t from fun q => by unfold lastR; rw [if_pos ⟨hm, h0, h8⟩]; rfl)
    have HE := Lib.hid (show lastE l (t : Int) = 0 by unfold lastE; rw [if_pos hm, if_pos ⟨h0, h8⟩])
    have h7 : (t : Int) ≤ 7 := by omega
    clear hm
    go_enter Try.func4, Try.ntmps4
    go_wp2_with fail
    refine (last_any A n c l t _ HL.out).mono ?_
    rintro e1 w1 ⟨rfl, hb1⟩
    have hw1 := hw0.call hb1
    clear hb1
    rw [HR.out, HR.out, HE.out]
    obtain ⟨b1, b2, hB, hs⟩ := boxes2 w1 #[.int .i64 0, .int .i64 0, .int .i64 0, .int .i64 0, .int .i64 0, .int .i64 0] #[.int .i64 0, .int .i64 0, .int .i64 0, .int .i64 0, .int .i64 0, .int .i64 0] 30 30
    have HB2 := Lib.hid (show Bel w1 _ from below_setRow' (below_setRow' hB w1.heap.size (clk (ck (rwF l 1 l.length t))) (Nat.le_refl _)) (w1.heap.size + 1) (clk (ck (rwF l 2 l.length t))) (by omega))
    have b2' := b2.setRow_ne w1.heap.size (clk (ck (rwF l 1 l.length t))) (by omega)
    have HX1 := Lib.hid ((b1.setRow (clk (ck (rwF l 1 l.length t)))).setRow_ne (w1.heap.size + 1) (clk (ck (rwF l 2 l.length t))) (by omega))
    have HX2 := Lib.hid (b2'.setRow (clk (ck (rwF l 2 l.length t))))
    clear hB hs
    go_wp2_with (first | (refine storeB _ _ _ rfl rfl rfl rfl b1 rfl ck28 (clk_all _) ?_) | (refine storeB _ _ _ rfl rfl rfl rfl b2' rfl ck28 (clk_all _) ?_))
    generalize hW2 : (((w1.alloc (.cells #[.int .i64 0, .int .i64 0, .int .i64 0, .int .i64 0, .int .i64 0, .int .i64 0] 30)).alloc (.cells #[.int .i64 0, .int .i64 0, .int .i64 0, .int .i64 0, .int .i64 0, .int .i64 0] 30)).setRow w1.heap.size (clk (ck (rwF l 1 l.length t)))).setRow (w1.heap.size + 1) (clk (ck (rwF l 2 l.length t))) = w2 at *
    have hw2 := hw1.trans HB2.out
    clear hW2 b1 b2 b2'
    refine (rmay_any A n c l _ (HL.out.bel hw2) m x).mono ?_
    rintro e3 w3 ⟨rfl, hb3⟩
    have hw3 := hw2.call hb3
    replace HX1 := Lib.hid (HX1.out.bel (Bel.of hb3))
    replace HX2 := Lib.hid (HX2.out.bel (Bel.of hb3))
    clear hb3
    rw [HM.out]
    go_wp2_with fail
    refine (wrong_any _).mono ?_
    rintro e4 w4 ⟨A2, c2, rfl, hs2, hd2, hd2', hb4⟩
    have hw4 := hw3.call hb4
    replace HX1 := Lib.hid (HX1.out.bel (Bel.of hb4))
    replace HX2 := Lib.hid (HX2.out.bel (Bel.of hb4))
    clear hb4
    go_wp2_with fail
    refine (run_any A2 1 c2 _ _ hs2).mono ?_
    rintro e5 w5 ⟨v3, rfl, hown3, hb5⟩
    have hw5 := hw4.call hb5
    replace HX1 := Lib.hid (HX1.out.bel (Bel.of hb5))
    replace HX2 := Lib.hid (HX2.out.bel (Bel.of hb5))
    clear hb5
    clear hown3 hs2 hd2 hd2'
    rw [HMW.out]
    go_wp2_with fail
    refine (rfull_any A n c l t _ (HL.out.bel hw5) HM.out (by omega)).mono ?_
    rintro e6 w6 ⟨v6, rfl, hown6, hb6⟩
    have hw6 := hw5.call hb6
    replace HX1 := Lib.hid (HX1.out.bel (Bel.of hb6))
    replace HX2 := Lib.hid (HX2.out.bel (Bel.of hb6))
    clear hb6
    clear hown6
    obtain ⟨b1, b2, hB, hs⟩ := boxes2 w6 #[.int .i64 0, .int .i64 0, .int .i64 0, .int .i64 0, .int .i64 0, .int .i64 0] #[.int .i64 0, .int .i64 0, .int .i64 0, .int .i64 0, .int .i64 0, .int .i64 0] 30 30
    have HB7 := Lib.hid (show Bel w6 _ from below_setRow' (below_setRow' hB w6.heap.size (clk (ck (rwF l 1 l.length t))) (Nat.le_refl _)) (w6.heap.size + 1) (clk (ck (rwF l 2 l.length t))) (by omega))
    have b2' := b2.setRow_ne w6.heap.size (clk (ck (rwF l 1 l.length t))) (by omega)
    have y1 := (b1.setRow (clk (ck (rwF l 1 l.length t)))).setRow_ne (w6.heap.size + 1) (clk (ck (rwF l 2 l.length t))) (by omega)
    have y2 := b2'.setRow (clk (ck (rwF l 2 l.length t)))
    have z1 := HX1.out.bel HB7.out
    have z2 := HX2.out.bel HB7.out
    have E1 := same (ck (rwF l 1 l.length t))
    have E2 := same (ck (rwF l 2 l.length t))
    have hw7 := Lib.hid (hw6.trans HB7.out)
    clear hB hs hw6 hw5 hw4 hw3 hw2 hw1 hw0
    go_wp2_with (first | (refine storeB _ _ _ rfl rfl rfl rfl b1 rfl ck28 (clk_all _) ?_) | (refine storeB _ _ _ rfl rfl rfl rfl b2' rfl ck28 (clk_all _) ?_) | (refine loadB _ _ rfl rfl rfl z1 ck28 ?_) | (refine loadB _ _ rfl rfl rfl y1 ck28 ?_) | (refine loadG _ _ rfl rfl rfl z2 ck28 ?_) | (refine loadG _ _ rfl rfl rfl y2 ck28 ?_))
    go_ret
    exact ⟨rfl, hw7.out⟩
  · by_cases hm : may l = 0
    · have hx : ¬ (0 ≤ t ∧ t < 8) := fun h => hok ⟨hm, h⟩
      by_cases h0 : t < 0
      · exact bad1 W A n c l s0 m x t hm hok (.inl h0)
      · exact bad1 W A n c l s0 m x t hm hok (.inr ⟨by omega, by omega⟩)
    · exact bad2 W A n c l s0 m x t hm

set_option maxRecDepth 100000 in
theorem lifted (os : Os) (started : os.Started) (H : Type) (enc : TypeId × Value → H) :
    ReturnsInHanded {} Try.checked os 4 .any (Rows.fullLastSpec.pre6 enc Try.prog Try.f4 Rows.fullLastRow.domain false) (Rows.fullLastSpec.post enc Try.prog Try.f4 false true false false) := by
  refine returnsInHanded_of_change_sized (C := Try.checked) own started (by kernel_rfl) Try.func4
    (ChangeSpec.witness6 (enc := enc) (C := Try.checked) false ⟨#[], #[.slice none 0 0, .int .i64 0], []⟩ 8 (by kernel_rfl) (by kernel_rfl) (by kernel_rfl) (by kernel_rfl)) ?_
  intro W base args ds gs before hval0 hW hcnd hsz0 _
  have hsz : (DataW.weightsEach Try.prog (Try.f4.params.toList ++ Rows.fullLastSpec.plain.varTypes Try.prog) (ds ++ gs)).all (· ≤ reachBytes) = true := hsz0
  clear hsz0
  have hval : ∀ (j : Nat) t v, Try.f4.params[j]? = some t → args[j]? = some v → Value.okWide Try.prog W .any base t v := hval0
  have hW' := hW
  obtain ⟨p, q, hA0, hV, rfl, hfz, hnd⟩ := hW
  have hA : DataW.TrodAll enc Try.prog W 0 (fun _ => true) true Try.f4.params.toList args.toList ds p := hA0
  rw [Try.params4] at hA hval hsz
  obtain ⟨v0, vs0, d0, ds0, p0, q0, hargs, rfl, rfl, h0, r0⟩ := trodAll_cons hA
  obtain ⟨v1, vs1, d1, ds1, p1, q1, rfl, rfl, rfl, h1, r1⟩ := trodAll_cons r0
  obtain ⟨rfl, rfl, rfl⟩ := trodAll_nil r1
  obtain rfl : args = #[v0, v1] := by cases args; simp_all
  obtain ⟨rfl, rfl⟩ := trodVars_none hV
  have t0 := h0
  have lt0 : ∀ x ∈ p0, x.block < W.heap.size := by obtain ⟨m, hm⟩ := t0; exact DataW.trod_lt m _ _ _ hm
  have t1 := h1
  have lt1 : ∀ x ∈ p1, x.block < W.heap.size := by obtain ⟨m, hm⟩ := t1; exact DataW.trod_lt m _ _ _ hm
  obtain ⟨A0, n0, c0, l0, rfl, s0, m0, x0, g0, z0⟩ := open_evs Try.underlying22 Try.underlying45 ⟨rfl, rfl, rfl⟩ (by kernel_rfl) (by kernel_rfl) Try.underlying3 (hval 0 22 v0 rfl rfl) h0
  have y0 := reach_sl hsz (j := 0) rfl rfl Try.underlying22 (b := 24) (by kernel_rfl) z0
  obtain ⟨a1, rfl, _, _, x1⟩ := open_int Try.underlying3 (hval 1 3 v1 rfl rfl) h1
  have k1 := in64_of x1
  clear hA0 hval0
  refine (walk W A0 n0 c0 l0 s0 m0 x0 g0 a1 k1).mono fun e W' ⟨he, bel⟩ => ?_
  subst he
  exact ⟨_, rfl, _, _, _, [], _, [], hW', trodAll_mk1 (shut_bool Try.underlying4 _), (trodAll_cons_mk (Below.trod laidOut (by kernel_rfl) (of_decide_eq_true (by kernel_rfl)) t0 bel lt0) (trodAll_cons_mk (Below.trod laidOut (by kernel_rfl) (of_decide_eq_true (by kernel_rfl)) t1 bel lt1) trodAll_mk0)), rfl, bel.frame _, fun h => by cases h⟩

theorem over : Rows.fullLastRow.holds Try.pinned (OpenSpec.ofChange Rows.fullLastSpec) :=
  OpenClaim.holds_of_wide 4 Try.f4 rfl rfl rfl rfl rfl rfl rfl ⟨rfl, rfl, rfl, rfl, rfl⟩ rfl rfl rfl rfl rfl (by kernel_rfl) Try.func4 (by kernel_rfl)
    (of_decide_eq_true (by kernel_rfl)) (by unfold Func.isWrapper; first | (rw [if_pos (by decide +kernel)]; kernel_rfl) | (rw [if_neg (by decide +kernel)]; exact ⟨rfl, rfl⟩))
    (fun os started H enc _ => lifted os started H enc)

theorem proved : Rows.FullLastSaid := over
#print axioms proved
end Go.Proofs.Ytnjaeampnakbbaa.LFullLast

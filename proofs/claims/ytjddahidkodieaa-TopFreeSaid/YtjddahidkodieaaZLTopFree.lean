import Derived.Deep.DeepCutAuto
import Derived.Test.YtjddahidkodieaaZKeepPg
import Derived.Test.YtjddahidkodieaaZOpenInts
import Derived.Test.YtjddahidkodieaaZEqInt
import Derived.Test.YtjddahidkodieaaZOrder
import Derived.Test.YtjddahidkodieaaZAll
import Derived.Test.YtjddahidkodieaaZEqEv
import Derived.Test.YtjddahidkodieaaZSl
import Derived.Test.YtjddahidkodieaaZSyn
import Derived.Test.YtjddahidkodieaaZGt
import Derived.Test.YtjddahidkodieaaZFo
import Derived.Test.YtjddahidkodieaaZKeepTp
set_option linter.all false
set_option maxRecDepth 100000
namespace Go.Proofs.Ytjddahidkodieaa.LTopFree
open Go Go.ChangeShapes Go.WideShapes Go.ChangeAt Go.RowKit

theorem sy_acq {l m : List Ev} (hl : may l = 0) (hm : may m = 0) (h : ∀ j, j < 9 → syE l j = syE m j) (o : Int) : l.filter (acqB o) = m.filter (acqB o) := by
  by_cases ho : 0 ≤ o ∧ o < 5
  · have := h o.toNat (by omega)
    unfold syE at this
    rw [if_pos (by omega), if_pos (by omega), show ((o.toNat : Nat) : Int) = o by omega] at this
    exact this
  · have hn : ∀ k, may k = 0 → k.filter (acqB o) = [] := fun k hk => by
      rw [List.filter_eq_nil_iff]
      intro e he hq
      obtain ⟨i, hi⟩ := List.mem_iff_getElem?.1 he
      have h1 := isEv_o (wrong_isEv (wrong_at hk hi))
      unfold acqB at hq
      simp only [Bool.and_eq_true, decide_eq_true_iff] at hq
      have h2 := (nobj_at (k := e.k)).2.1 (.inl hq.1)
      omega
    rw [hn l hl, hn m hm]
theorem sy_sig {l m : List Ev} (hl : may l = 0) (hm : may m = 0) (h : ∀ j, j < 9 → syE l j = syE m j) (o : Int) : l.filter (sigB o) = m.filter (sigB o) := by
  by_cases ho : 0 ≤ o ∧ o < 4
  · have := h (5 + o.toNat) (by omega)
    unfold syE at this
    rw [if_neg (by omega), if_neg (by omega), show ((5 + o.toNat - 5 : Nat) : Int) = o by omega] at this
    exact this
  · have hn : ∀ k, may k = 0 → k.filter (sigB o) = [] := fun k hk => by
      rw [List.filter_eq_nil_iff]
      intro e he hq
      obtain ⟨i, hi⟩ := List.mem_iff_getElem?.1 he
      have h1 := isEv_o (wrong_isEv (wrong_at hk hi))
      unfold sigB at hq
      simp only [Bool.and_eq_true, decide_eq_true_iff] at hq
      have h2 := (nobj_at (k := e.k)).2.2.2 hq.1
      omega
    rw [hn l hl, hn m hm]
theorem sy_all {w : World} {l : List Ev} {r : Nat → Value} (h : ∀ j, j < 9 → ∃ A n c, r j = .slice A n c ∧ Sl w A n (syE l j) ∧ n ≤ c ∧ c ≤ maxLen) : (vs 9 r).all (·.oneCell') = true := by
  rw [Array.all_eq_true_iff_forall_mem]
  intro v hv
  simp only [vs, List.mem_toArray, List.mem_map] at hv
  obtain ⟨j, hj, rfl⟩ := hv
  obtain ⟨A, n, c, h1, _⟩ := h j (List.mem_range.1 hj)
  rw [h1]; rfl
set_option maxHeartbeats 16000000 in
theorem walkH (HR : RunC) (HW : ∀ w, Calls Try.prog 10 #[] w fun e w' => e = .returned (.bool true) ∧ Below w.heap.size w w') (W : World) (A : Option Addr) (n c : Nat) (l : List (List Ev)) (s : Prg W A n l) (m : n ≤ c) (x : c ≤ maxLen) (_g : ∀ ops ∈ l, ∀ e ∈ ops, EvOk e)
    (B1 : Option Addr) (k1 d1 : Nat) (q1 : List Int) (s1 : SI W B1 k1 q1) (m1 : k1 ≤ d1) (x1 : d1 ≤ maxLen) (_g1 : ∀ x ∈ q1, In64 x)
    (B2 : Option Addr) (k2 d2 : Nat) (q2 : List Int) (s2 : SI W B2 k2 q2) (m2 : k2 ≤ d2) (x2 : d2 ≤ maxLen) (_g2 : ∀ x ∈ q2, In64 x) :
    Calls Try.prog 5 #[.slice A n c, .slice B1 k1 d1, .slice B2 k2 d2] W fun e w' => e = .returned (.bool true) ∧ Below W.heap.size W w' := by
  have HL := Lib.hid s
  have HM := Lib.hid (And.intro m x)
  have HS1 := Lib.hid (And.intro s1 (And.intro m1 x1))
  have HS2 := Lib.hid (And.intro s2 (And.intro m2 x2))
  have HRN := Lib.hid HW
  clear HW
  unfold RunC at HR
  have H1 := Lib.hid HR
  clear s m x HR s1 m1 x1 s2 m2 x2
  go_enter Try.func5, Try.ntmps5
  go_wp2_with fail
  refine (HRN.out W).mono ?_
  rintro e0 w0 ⟨rfl, hb0⟩
  have HW0 := Lib.hid (Bel.of hb0)
  clear hb0
  go_wp2_with fail
  refine (H1.out A n c l B1 k1 d1 q1 _ (HL.out.bel HW0.out) HM.out.1 HM.out.2 (HS1.out.1.keep HW0.out) HS1.out.2.1 HS1.out.2.2).mono ?_
  rintro e1 w1 ⟨v1, y1, l1, c1, rfl, hB1, ho1, hb1⟩
  have HV1 := Lib.hid (EnV.run hB1)
  have HB1 := Lib.hid hB1
  obtain ⟨A1, e1', rfl, hs1, hn1, hm1⟩ := Sl.own ho1
  have HX1 := Lib.hid (enw_box w1 y1)
  have HE1 := Lib.hid ((HW0.out.call hb1).trans (enw_bel w1 y1))
  have HU1 := Lib.hid ((Bel.of hb1).trans (enw_bel w1 y1))
  have HT1 := Lib.hid (And.intro (hs1.bel (enw_bel w1 y1).out) (And.intro hn1 hm1))
  clear hb1 ho1 hs1 hn1 hm1 hB1
  go_wp2_with (refine enw_store HV1.out.ty _ _ rfl rfl HV1.out.size HV1.out.one rfl rfl rfl ?_)
  refine (H1.out A n c l B2 k2 d2 q2 _ (HL.out.bel HE1.out) HM.out.1 HM.out.2 (HS2.out.1.keep HE1.out) HS2.out.2.1 HS2.out.2.2).mono ?_
  rintro e2 w2 ⟨v2, y2, l2, c2, rfl, hB2, ho2, hb2⟩
  have HV2 := Lib.hid (EnV.run hB2)
  have HB2 := Lib.hid hB2
  obtain ⟨A2, e2', rfl, hs2, hn2, hm2⟩ := Sl.own ho2
  have HX2 := Lib.hid (enw_box w2 y2)
  have HE2 := Lib.hid ((HE1.out.call hb2).trans (enw_bel w2 y2))
  have HU2 := Lib.hid ((Bel.of hb2).trans (enw_bel w2 y2))
  have HT2 := Lib.hid (And.intro (hs2.bel (enw_bel w2 y2).out) (And.intro hn2 hm2))
  clear hb2 ho2 hs2 hn2 hm2 hB2
  have HX1' := Lib.hid (HU2.out.box HX1.out)
  have HT1' := Lib.hid (HT1.out.1.bel HU2.out.out)
  have HL1 := Lib.hid (show (may l1 = 0 ∨ l1 = []) from by
    rcases runB_cases HB1.out with ⟨_, _, h⟩ | ⟨_, h, _, _, h5⟩
    · exact .inr h
    · exact .inl (by rw [h5]; exact (runP_ok h q1).may h))
  have HML := Lib.hid (show may l1 = 0 by rcases HL1.out with h | h; exact h; rw [h]; rfl)
  go_wp2_with (refine enw_store HV2.out.ty _ _ rfl rfl HV2.out.size HV2.out.one rfl rfl rfl ?_)
  refine (alle_any A1 _ e1' _ _ HT1'.out).mono ?_
  rintro e6 w6 ⟨v6, rfl, ho6, hb6⟩
  rw [HML.out]
  obtain ⟨A6, c6, rfl, _, hn6, hm6⟩ := SlR.own ho6
  have HE6 := Lib.hid (HE2.out.call hb6)
  have HU6 := Lib.hid (Bel.of hb6)
  have HX16 := Lib.hid (HU6.out.box HX1'.out)
  have HX26 := Lib.hid (HU6.out.box HX2.out)
  have HT16 := Lib.hid (HT1'.out.bel HU6.out.out)
  have HT26 := Lib.hid (HT2.out.1.bel HU6.out.out)
  clear hb6 ho6 hn6 hm6
  rcases runB_cases HB1.out with ⟨hc1, rfl, rfl⟩ | ⟨rfl, hok, h100, rfl, rfl⟩
  · have h9 : (c1 != 0) = true := by simpa using hc1
    clear hc1
    go_wp2
    go_ret
    exact ⟨rfl, HE6.out.out⟩
  rcases runB_cases HB2.out with ⟨hc2, rfl, rfl⟩ | ⟨rfl, _, h100', rfl, rfl⟩
  · have h9 : (c2 != 0) = true := by simpa using hc2
    clear hc2
    go_wp2
    go_ret
    exact ⟨rfl, HE6.out.out⟩
  have c1d := HX16.out.cell 18 (v := .bool (doneP l (runP l q1))) rfl
  have c2d := HX26.out.cell 18 (v := .bool (doneP l (runP l q2))) rfl
  clear h100 h100'
  have HOK := Lib.hid hok
  clear hok
  cases hd1 : doneP l (runP l q1)
  · rw [hd1] at c1d
    clear hd1
    go_wp2
    go_ret
    exact ⟨rfl, HE6.out.out⟩
  cases hd2 : doneP l (runP l q2)
  · rw [hd2] at c2d
    clear hd2
    go_wp2
    go_ret
    exact ⟨rfl, HE6.out.out⟩
  rw [hd1] at c1d
  rw [hd2] at c2d
  have HD := Lib.hid (And.intro hd1 hd2)
  clear hd1 hd2
  have HM1 := Lib.hid ((runP_ok HOK.out q1).may HOK.out)
  have HM2 := Lib.hid ((runP_ok HOK.out q2).may HOK.out)
  have HQQ := Lib.hid (fun h => end_same HOK.out HD.out.1 HD.out.2 h)
  have HTF := Lib.hid (fun hr hac hsg hf => top_free HOK.out HD.out.1 HD.out.2 hr hac hsg hf)
  by_cases hr0 : (rcs (runP l q1).L).length = 0
  · have HR0 := Lib.hid (List.eq_nil_of_length_eq_zero hr0)
    rw [hr0]
    clear hr0
    have HQE := Lib.hid (show Eqv (runP l q1).L (runP l q2).L → endP l (runP l q1) = endP l (runP l q2) from HQQ.out)
    have HN1 := Lib.hid (show (runP l q1).L.length ≤ 80 from ((may_iff _).1 HM1.out).1)
    clear HQQ HD HL1 HML HB1 HB2
    generalize (runP l q1).L = la at *
    generalize (runP l q2).L = lb at *
    generalize endP l (runP l q1) = ya at *
    generalize endP l (runP l q2) = yb at *
    go_wp2_with fail
    refine (syncs_any A1 _ e1' la w6 HT16.out HT1.out.2.1 HT1.out.2.2 HM1.out).mono ?_
    rintro e7 w7 ⟨r7, rfl, hr7, hb7⟩
    have HU7 := Lib.hid (Bel.of hb7)
    have HR7 := Lib.hid hr7
    clear hr7 hb7 c1d c2d
    go_wp2_with fail
    refine (syncs_any A2 _ e2' lb w7 (HT26.out.bel HU7.out.out) HT2.out.2.1 HT2.out.2.2 HM2.out).mono ?_
    rintro e8 w8 ⟨r8, rfl, hr8, hb8⟩
    have HU8 := Lib.hid (Bel.of hb8)
    have HR8 := Lib.hid hr8
    clear hr8 hb8
    have HA1 := Lib.hid (show Box ((w8.alloc (.cells (vs 9 fun _ => .slice none 0 0) 57)).alloc (.cells (vs 9 fun _ => .slice none 0 0) 57)) w8.heap.size (vs 9 fun _ => .slice none 0 0) 57 from (Box.new w8 _ _).old _)
    have HA2 := Lib.hid (show Box (((w8.alloc (.cells (vs 9 fun _ => .slice none 0 0) 57)).alloc (.cells (vs 9 fun _ => .slice none 0 0) 57)).setRow w8.heap.size (vs 9 r7)) (w8.heap.size + 1) (vs 9 fun _ => .slice none 0 0) 57 by
      have h := Box.new (w8.alloc (.cells (vs 9 fun _ => .slice none 0 0) 57)) (vs 9 fun _ => .slice none 0 0) 57
      rw [World.size_alloc] at h
      exact h.setRow_ne _ _ (by omega))
    have HTY := Lib.hid (fun r : Nat → Value => (show RowTy Try.prog 57 (vs 9 r).size by rw [vs_size]; exact TS9))
    have HO7 := Lib.hid (sy_all HR7.out)
    have HO8 := Lib.hid (sy_all HR8.out)
    go_upto_region 9 with (first | (refine storeB 57 _ _ rfl rfl rfl rfl HA1.out (by rw [vs_size, vs_size]) (HTY.out _) HO7.out ?_) | (refine storeB 57 _ _ rfl rfl rfl rfl HA2.out (by rw [vs_size, vs_size]) (HTY.out _) HO8.out ?_))
    change Code.wp _ _ _ _ ((((w8.alloc (.cells (vs 9 fun _ => .slice none 0 0) 57)).alloc (.cells (vs 9 fun _ => .slice none 0 0) 57)).setRow w8.heap.size (vs 9 r7)).setRow (w8.heap.size + 1) (vs 9 r8))
    have HB8 := Lib.hid (show Bel w8 ((((w8.alloc (.cells (vs 9 fun _ => .slice none 0 0) 57)).alloc (.cells (vs 9 fun _ => .slice none 0 0) 57)).setRow w8.heap.size (vs 9 r7)).setRow (w8.heap.size + 1) (vs 9 r8)) from ((((Bel.refl w8).alloc _).alloc _).setRow w8.heap.size (Nat.le_refl _) _).setRow (w8.heap.size + 1) (Nat.le_succ _) _)
    have HS1 := Lib.hid (show Box ((((w8.alloc (.cells (vs 9 fun _ => .slice none 0 0) 57)).alloc (.cells (vs 9 fun _ => .slice none 0 0) 57)).setRow w8.heap.size (vs 9 r7)).setRow (w8.heap.size + 1) (vs 9 r8)) w8.heap.size (vs 9 r7) 57 from ((HA1.out.setRow _).setRow_ne _ _ (by omega)))
    have HS2 := Lib.hid (show Box ((((w8.alloc (.cells (vs 9 fun _ => .slice none 0 0) 57)).alloc (.cells (vs 9 fun _ => .slice none 0 0) 57)).setRow w8.heap.size (vs 9 r7)).setRow (w8.heap.size + 1) (vs 9 r8)) (w8.heap.size + 1) (vs 9 r8) 57 from HA2.out.setRow _)
    clear HA1 HA2 HO7 HO8 HTY
    generalize ((((w8.alloc (.cells (vs 9 fun _ => .slice none 0 0) 57)).alloc (.cells (vs 9 fun _ => .slice none 0 0) 57)).setRow w8.heap.size (vs 9 r7)).setRow (w8.heap.size + 1) (vs 9 r8)) = wS at *
    generalize w8.heap.size = T1 at *
    generalize T1 + 1 = T2 at *
    have HUS := Lib.hid ((HU7.out.trans HU8.out).trans HB8.out)
    have HES := Lib.hid (HE6.out.trans HUS.out)
    have HXA := Lib.hid (HUS.out.box HX16.out)
    have HXB := Lib.hid (HUS.out.box HX26.out)
    have HLA := Lib.hid (HT16.out.bel HUS.out.out)
    have HLB := Lib.hid (HT26.out.bel HUS.out.out)
    have HBS7 := Lib.hid (HU8.out.trans HB8.out)
    go_wp2
    go_loopw [70] (fun t wr => ∃ i : Nat, i ≤ 9 ∧ t = .int .i64 i ∧ (∀ j, j < i → syE la j = syE lb j) ∧ Bel wS wr) (fun t _ => 9 - (intOf t).toNat)
    case atStart => exact ⟨0, by omega, rfl, fun j hj => by omega, Bel.refl _⟩
    case round =>
      obtain ⟨i, hi, rfl, hj, hbr⟩ := hrel
      have HJ := Lib.hid hj
      have HBR := Lib.hid hbr
      clear hj hbr
      by_cases hlt : i < 9
      · obtain ⟨P1, n7, c7, h71, h72, h73, h74⟩ := HR7.out i hlt
        obtain ⟨P2, n8, c8, h81, h82, h83, h84⟩ := HR8.out i hlt
        have hlt' : (i : Int) < 9 := by omega
        have F := fun (w9 : World) (h9 : Bel wr w9) => And.intro ((h9.box (HBR.out.box HS1.out)).cell i ((vs_get r7 hlt).trans (by rw [h71]))) ((h9.box (HBR.out.box HS2.out)).cell i ((vs_get r8 hlt).trans (by rw [h81])))
        have HF := Lib.hid F
        have H72 := Lib.hid (h72.bel (HBS7.out.trans HBR.out).out)
        have H82 := Lib.hid (h82.bel (HB8.out.trans HBR.out).out)
        have HNN := Lib.hid (And.intro (And.intro h73 h74) (And.intro h83 h84))
        clear F h71 h72 h73 h74 h81 h82 h83 h84
        cases hq : decide (syE la i = syE lb i)
        · go_wp2
          (refine region_bel (by kernel_rfl) (by kernel_rfl) ?_; (repeat (first | ((with_reducible refine BigFrame.wpQuiet_skip ?_ ?_); exact rfl; simp only [Act.put, Act.eval, List.setIfInBounds_toArray, List.set_cons_zero, List.set_cons_succ, Array.getD_eq_getD_getElem?, List.getElem?_toArray, List.getElem?_cons_zero, List.getElem?_cons_succ, Option.getD_some]) | (refine q_move _ rfl rfl ?_; simp only [Act.put, Act.eval, List.setIfInBounds_toArray, List.set_cons_zero, List.set_cons_succ, Array.getD_eq_getD_getElem?, List.getElem?_toArray, List.getElem?_cons_zero, List.getElem?_cons_succ, Option.getD_some]) | (refine q_assign _ rfl rfl ?_; simp only [Act.put, Act.eval, List.setIfInBounds_toArray, List.set_cons_zero, List.set_cons_succ, Array.getD_eq_getD_getElem?, List.getElem?_toArray, List.getElem?_cons_zero, List.getElem?_cons_succ, Option.getD_some]) | (refine q_any rfl ?_; apply Exists.intro; refine ⟨fun w hw => ?_, ?_⟩; (have fct0 := HF.out w hw; go_simp; first | exact ⟨rfl, rfl⟩ | rfl | (go_at_call 19; (with_reducible refine (eqev_any P1 P2 n7 c7 n8 c8 _ _ _ (H72.out.bel hw.out) (H82.out.bel hw.out) HNN.out.1.1 HNN.out.2.1 HNN.out.1.2 HNN.out.2.2).mono ?_); rintro e w' ⟨rfl, hb⟩; exact ⟨rfl, hw.call hb⟩)); simp only [Act.put, Act.eval, List.setIfInBounds_toArray, List.set_cons_zero, List.set_cons_succ, Array.getD_eq_getD_getElem?, List.getElem?_toArray, List.getElem?_cons_zero, List.getElem?_cons_succ, Option.getD_some]))); refine wpQuiet_nil ?_; intro w2 hw2)
          rw [hq]
          clear hq
          go_wp2
          go_ret
          exact ⟨rfl, ((HES.out.trans HBR.out).trans hw2).out⟩
        · have HN := Lib.hid (show ∀ j, j < i + 1 → syE la j = syE lb j from fun j hj => by
            rcases Nat.lt_succ_iff_lt_or_eq.1 hj with h | rfl
            · exact HJ.out j h
            · exact of_decide_eq_true hq)
          go_wp2
          (refine region_bel (by kernel_rfl) (by kernel_rfl) ?_; (repeat (first | ((with_reducible refine BigFrame.wpQuiet_skip ?_ ?_); exact rfl; simp only [Act.put, Act.eval, List.setIfInBounds_toArray, List.set_cons_zero, List.set_cons_succ, Array.getD_eq_getD_getElem?, List.getElem?_toArray, List.getElem?_cons_zero, List.getElem?_cons_succ, Option.getD_some]) | (refine q_move _ rfl rfl ?_; simp only [Act.put, Act.eval, List.setIfInBounds_toArray, List.set_cons_zero, List.set_cons_succ, Array.getD_eq_getD_getElem?, List.getElem?_toArray, List.getElem?_cons_zero, List.getElem?_cons_succ, Option.getD_some]) | (refine q_assign _ rfl rfl ?_; simp only [Act.put, Act.eval, List.setIfInBounds_toArray, List.set_cons_zero, List.set_cons_succ, Array.getD_eq_getD_getElem?, List.getElem?_toArray, List.getElem?_cons_zero, List.getElem?_cons_succ, Option.getD_some]) | (refine q_any rfl ?_; apply Exists.intro; refine ⟨fun w hw => ?_, ?_⟩; (have fct0 := HF.out w hw; go_simp; first | exact ⟨rfl, rfl⟩ | rfl | (go_at_call 19; (with_reducible refine (eqev_any P1 P2 n7 c7 n8 c8 _ _ _ (H72.out.bel hw.out) (H82.out.bel hw.out) HNN.out.1.1 HNN.out.2.1 HNN.out.1.2 HNN.out.2.2).mono ?_); rintro e w' ⟨rfl, hb⟩; exact ⟨rfl, hw.call hb⟩)); simp only [Act.put, Act.eval, List.setIfInBounds_toArray, List.set_cons_zero, List.set_cons_succ, Array.getD_eq_getD_getElem?, List.getElem?_toArray, List.getElem?_cons_zero, List.getElem?_cons_succ, Option.getD_some]))); refine wpQuiet_nil ?_; intro w2 hw2)
          rw [hq]
          clear hq
          have HB2 := Lib.hid (HBR.out.trans hw2)
          clear hw2
          go_wp2
          go_roundw
          case rel => exact ⟨i + 1, by omega, by go_num, HN.out, HB2.out⟩
          case measure => simp [intOf]; omega
      · have hlt' : ¬ (i : Int) < 9 := by omega
        have HSY := Lib.hid (show ∀ j, j < 9 → syE la j = syE lb j from fun j hj => HJ.out j (by omega))
        clear hlt hi
        have hn1 := HN1.out
        generalize hNA : la.length = NA at *
        have HNA := Lib.hid hNA
        clear hNA
        go_wp2
        generalize hws : wr = wQ at *
        clear hws
        go_loopw [84] (fun t wr => ∃ i : Nat, i ≤ NA ∧ t = .int .i64 i ∧ (∀ u ∈ la.take i, u.k = 5 → u ∈ lb) ∧ Bel wS wr) (fun t _ => NA - (intOf t).toNat)
        case atStart => exact ⟨0, by omega, rfl, fun u hu => by simp at hu, HBR.out⟩
        case round =>
          obtain ⟨i, hi, rfl, hu, hbr⟩ := hrel
          have HU := Lib.hid hu
          have HBX := Lib.hid hbr
          clear hu hbr
          by_cases hlt : i < NA
          · obtain ⟨bb, oo, e, rfl, hbb, he, hrg⟩ := (HLA.out.bel HBX.out.out).at_ hlt
            have hlt' : (i : Int) < NA := by omega
            have hie : (i : Int) ≤ e1' := by have := HT1.out.2.1; omega
            have hR := Lib.hid hrg
            have HTK := Lib.hid (show la.take (i + 1) = la.take i ++ [e] from take_snoc he)
            have HXE := Lib.hid (ewld_box wr e 54)
            have HB9 := Lib.hid (HBX.out.trans (Bel.of (ewld_below wr e 54)))
            have HI := Lib.hid hlt
            clear hrg he hbb
            go_upto_region 18 with (first | (refine load_ev T36 _ rfl rfl rfl hR.out ?_) | (refine ewld_store T36 _ _ rfl rfl _ rfl rfl rfl ?_))
            generalize ewld wr e 54 = w9 at *
            generalize wr.heap.size = X at *
            have c0 := HXE.out.cell 0 (v := .int .i64 e.k) rfl
            by_cases h5 : e.k = 5
            · have h5' : (e.k == 5) = true := by simpa using h5
              have H5 := Lib.hid h5
              clear h5
              go_wp2_with (first | (refine loadG 54 _ rfl rfl rfl HXE.out T36 ?_))
              refine (hasev_any A2 _ e2' lb e w9 (HLB.out.bel HB9.out.out) (by have := HM2.out; have := ((may_iff _).1 this).1; omega)).mono ?_
              rintro e10 w10 ⟨rfl, hb10⟩
              have HB10 := Lib.hid (HB9.out.trans (Bel.of hb10))
              clear hb10 c0
              cases hm : decide (e ∈ lb)
              · clear hm
                go_wp2
                go_ret
                exact ⟨rfl, (HES.out.trans HB10.out).out⟩
              · have HN := Lib.hid (show ∀ u ∈ la.take (i + 1), u.k = 5 → u ∈ lb from fun u hu hk => by
                  rw [HTK.out, List.mem_append, List.mem_singleton] at hu
                  rcases hu with hu | rfl
                  · exact HU.out u hu hk
                  · exact of_decide_eq_true hm)
                clear hm
                go_wp2
                go_roundw
                case rel => exact ⟨i + 1, HI.out, by go_num, HN.out, HB10.out⟩
                case measure => have := HI.out; simp [intOf]; omega
            · have h5' : (e.k == 5) = false := by simpa using h5
              have HN := Lib.hid (show ∀ u ∈ la.take (i + 1), u.k = 5 → u ∈ lb from fun u hu hk => by
                rw [HTK.out, List.mem_append, List.mem_singleton] at hu
                rcases hu with hu | rfl
                · exact HU.out u hu hk
                · exact absurd hk h5)
              clear h5
              go_wp2_with ((with_reducible refine Go.wpList_skip ?_ ?_); exact rfl; simp only [Act.put, Act.eval, List.setIfInBounds_toArray, List.set_cons_zero, List.set_cons_succ, Array.getD_eq_getD_getElem?, List.getElem?_toArray, List.getElem?_cons_zero, List.getElem?_cons_succ, Option.getD_some])
              go_roundw
              case rel => exact ⟨i + 1, HI.out, by go_num, HN.out, HB9.out⟩
              case measure => have := HI.out; simp [intOf]; omega
          · obtain rfl : i = NA := by omega
            have hfk : ∀ u ∈ la, u.k = 5 → u ∈ lb := fun u hu => HU.out u (by rw [← HNA.out, List.take_length]; exact hu)
            have hee := HQE.out (HTF.out HR0.out (fun o => sy_acq HM1.out HM2.out HSY.out o) (fun o => sy_sig HM1.out HM2.out HSY.out o) hfk)
            have HX3 := Lib.hid (HBX.out.box HXA.out)
            have HX4 := Lib.hid (HBX.out.box HXB.out)
            rw [hee] at HX3
            clear hee hfk
            go_wp2_with (first | (refine loadB 49 _ rfl rfl rfl HX3.out HV2.out.ty ?_) | (refine loadB 49 _ rfl rfl rfl HX4.out HV2.out.ty ?_) | (refine eql_step 49 _ _ _ rfl rfl rfl rfl grd_end (HV2.out.eq _) ?_))
            go_ret
            exact ⟨rfl, (HES.out.trans HBX.out).out⟩
  · have hr1 : (0 : Int) < ((rcs (runP l q1).L).length : Nat) := by omega
    generalize (rcs (runP l q1).L).length = nr at *
    clear hr0
    go_wp2
    go_ret
    exact ⟨rfl, HE6.out.out⟩
set_option maxRecDepth 100000 in
theorem lifted (os : Os) (started : os.Started) (H : Type) (enc : TypeId × Value → H) :
    ReturnsInHanded {} Try.checked os 5 .any (Rows.topFreeSpec.pre6 enc Try.prog Try.f5 Rows.topFreeRow.domain false) (Rows.topFreeSpec.post enc Try.prog Try.f5 false true false false) := by
  refine returnsInHanded_of_change_sized (C := Try.checked) own started (by kernel_rfl) Try.func5
    (ChangeSpec.witness6 (enc := enc) (C := Try.checked) false ⟨#[], #[.slice none 0 0, .slice none 0 0, .slice none 0 0], []⟩ 8 (by kernel_rfl) (by kernel_rfl) (by kernel_rfl) (by kernel_rfl)) ?_
  intro W base args ds gs before hval0 hW hcnd hsz0 _
  have hsz : (DataW.weightsEach Try.prog (Try.f5.params.toList ++ Rows.topFreeSpec.plain.varTypes Try.prog) (ds ++ gs)).all (· ≤ reachBytes) = true := hsz0
  clear hsz0
  have hval : ∀ (j : Nat) t v, Try.f5.params[j]? = some t → args[j]? = some v → Value.okWide Try.prog W .any base t v := hval0
  have hW' := hW
  obtain ⟨p, q, hA0, hV, rfl, hfz, hnd⟩ := hW
  have hA : DataW.TrodAll enc Try.prog W 0 (fun _ => true) true Try.f5.params.toList args.toList ds p := hA0
  rw [Try.params5] at hA hval hsz
  obtain ⟨v0, vs0, d0, ds0, p0, q0, hargs, rfl, rfl, h0, r0⟩ := trodAll_cons hA
  obtain ⟨v1, vs1, d1, ds1, p1, q1, rfl, rfl, rfl, h1, r1⟩ := trodAll_cons r0
  obtain ⟨v2, vs2, d2, ds2, p2, q2, rfl, rfl, rfl, h2, r2⟩ := trodAll_cons r1
  obtain ⟨rfl, rfl, rfl⟩ := trodAll_nil r2
  obtain rfl : args = #[v0, v1, v2] := by cases args; simp_all
  obtain ⟨rfl, rfl⟩ := trodVars_none hV
  have t0 := h0
  have lt0 : ∀ x ∈ p0, x.block < W.heap.size := by obtain ⟨m, hm⟩ := t0; exact DataW.trod_lt m _ _ _ hm
  have t1 := h1
  have lt1 : ∀ x ∈ p1, x.block < W.heap.size := by obtain ⟨m, hm⟩ := t1; exact DataW.trod_lt m _ _ _ hm
  have t2 := h2
  have lt2 : ∀ x ∈ p2, x.block < W.heap.size := by obtain ⟨m, hm⟩ := t2; exact DataW.trod_lt m _ _ _ hm
  obtain ⟨A0, n0, c0, l0, rfl, s0, m0, x0, g0⟩ := open_ops Try.underlying44 (by kernel_rfl) Try.underlying61 Try.underlying63 ⟨rfl, rfl, rfl⟩ (by kernel_rfl) (by kernel_rfl) Try.underlying3 (hval 0 44 v0 rfl rfl) h0
  obtain ⟨A1, n1, c1, l1, rfl, s1, m1, x1, g1⟩ := open_ints_arg Try.underlying23 Try.underlying3 (by kernel_rfl) (hval 1 23 v1 rfl rfl) h1
  obtain ⟨A2, n2, c2, l2, rfl, s2, m2, x2, g2⟩ := open_ints_arg Try.underlying23 Try.underlying3 (by kernel_rfl) (hval 2 23 v2 rfl rfl) h2
  clear hA0 hval0
  refine (walkH pgrun_c works_any W A0 n0 c0 l0 s0 m0 x0 g0 A1 n1 c1 l1 s1 m1 x1 g1 A2 n2 c2 l2 s2 m2 x2 g2).mono fun e W' ⟨he, bel⟩ => ?_
  subst he
  exact ⟨_, rfl, _, _, _, [], _, [], hW', trodAll_mk1 (shut_bool Try.underlying4 _), (trodAll_cons_mk (Below.trod laidOut (by kernel_rfl) (of_decide_eq_true (by kernel_rfl)) t0 bel lt0) (trodAll_cons_mk (Below.trod laidOut (by kernel_rfl) (of_decide_eq_true (by kernel_rfl)) t1 bel lt1) (trodAll_cons_mk (Below.trod laidOut (by kernel_rfl) (of_decide_eq_true (by kernel_rfl)) t2 bel lt2) trodAll_mk0))), rfl, bel.frame _, fun h => by cases h⟩

theorem over : Rows.topFreeRow.holds Try.pinned (OpenSpec.ofChange Rows.topFreeSpec) :=
  OpenClaim.holds_of_wide 5 Try.f5 rfl rfl rfl rfl rfl rfl rfl ⟨rfl, rfl, rfl, rfl, rfl⟩ rfl rfl rfl rfl rfl (by kernel_rfl) Try.func5 (by kernel_rfl)
    (of_decide_eq_true (by kernel_rfl)) (by unfold Func.isWrapper; first | (rw [if_pos (by decide +kernel)]; kernel_rfl) | (rw [if_neg (by decide +kernel)]; exact ⟨rfl, rfl⟩))
    (fun os started H enc _ => lifted os started H enc)

theorem proved : Rows.TopFreeSaid := over
#print axioms proved
end Go.Proofs.Ytjddahidkodieaa.LTopFree

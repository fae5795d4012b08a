/- 'deadheatkeep.OrderFront' returns true for every input and leaves its arguments as they are. No condition. -/
import Derived.Test.YtkkiflhnjpmalaaOpenTr
import Derived.Test.YtkkiflhnjpmalaaKeepOr
import Derived.Test.YtkkiflhnjpmalaaRest
import Derived.Test.YtkkiflhnjpmalaaRefTr2
import Derived.Deep.DeepCutAuto
set_option linter.all false
set_option maxRecDepth 100000
namespace Go.Proofs.Ytkkiflhnjpmalaa.LOrderFront
open Go Go.ChangeShapes Go.WideShapes Go.ChangeAt Go.RowKit

set_option maxHeartbeats 16000000 in
theorem walk (W : World) (A : Option Addr) (n c : Nat) (l : List Ev) (s : Sl W A n l) (m : n ≤ c) (x : c ≤ maxLen) (g : ∀ e ∈ l, EvOk e) (t : Int) (kt : In64 t) (i : Int) (ki : In64 i) (j : Int) (kj : In64 j) :
    Calls Try.prog 10 #[.slice A n c, .int .i64 t, .int .i64 i, .int .i64 j] W fun e w' => e = .returned (.bool true) ∧ Below W.heap.size W w' := by
  unfold maxLen at x
  have hw0 : Bel W W := Bel.refl _
  have HL := Lib.hid s
  have HN := Lib.hid s.1
  clear s g
  cases h1 : (may l == 0)
  · clear kt ki kj
    go_enter Try.func10, Try.ntmps10
    go_wp2_with fail
    refine (ordered_any _).mono ?_
    rintro e1 w1 ⟨rfl, hb1⟩
    have hw1 := hw0.call hb1
    clear hb1
    go_wp2_with fail
    refine (may_any A n c l _ (HL.out.bel hw1)).mono ?_
    rintro e2 w2 ⟨rfl, hb2⟩
    have hw2 := hw1.call hb2
    clear hb2
    go_wp2
    go_ret
    exact ⟨rfl, hw2⟩
  · have hm := eq_of_beq h1
    have HM := Lib.hid hm
    have hn80 : n ≤ 80 := by rw [← HN.out]; exact ((may_iff l).1 hm).1
    clear hm
    by_cases h0 : n = 0
    · subst h0
      clear kt ki kj
      go_enter Try.func10, Try.ntmps10
      go_wp2_with fail
      refine (ordered_any _).mono ?_
      rintro e1 w1 ⟨rfl, hb1⟩
      have hw1 := hw0.call hb1
      clear hb1
      go_wp2_with fail
      refine (may_any A 0 c l _ (HL.out.bel hw1)).mono ?_
      rintro e2 w2 ⟨rfl, hb2⟩
      have hw2 := hw1.call hb2
      clear hb2
      go_wp2
      go_ret
      exact ⟨rfl, hw2⟩
    · have hk0 := Int.emod_nonneg t (show (n : Int) + 1 ≠ 0 by omega)
      have hk1 := Int.emod_lt_of_pos t (show (0 : Int) < n + 1 by omega)
      have hi0 := Int.emod_nonneg i (show (n : Int) ≠ 0 by omega)
      have hi1 := Int.emod_lt_of_pos i (show (0 : Int) < n by omega)
      have hj0 := Int.emod_nonneg j (show (n : Int) ≠ 0 by omega)
      have hj1 := Int.emod_lt_of_pos j (show (0 : Int) < n by omega)
      have HRT := Lib.hid (fun w => rest_any t (n + 1) kt (by omega) (by omega) w)
      have HRI := Lib.hid (fun w => rest_any i n ki (by omega) (by omega) w)
      have HRJ := Lib.hid (fun w => rest_any j n kj (by omega) (by omega) w)
      clear kt ki kj
      generalize t % ((n : Int) + 1) = t' at *
      generalize i % (n : Int) = i' at *
      generalize j % (n : Int) = j' at *
      obtain ⟨k, rfl⟩ := Int.eq_ofNat_of_zero_le hk0
      obtain ⟨p, rfl⟩ := Int.eq_ofNat_of_zero_le hi0
      obtain ⟨q, rfl⟩ := Int.eq_ofNat_of_zero_le hj0
      have hk : k ≤ n := by omega
      have hkc : (k : Int) ≤ c := by omega
      have hne : ((n : Int) == 0) = false := by simpa using h0
      have HLE := Lib.hid (show leadE l p q = 0 by
        unfold leadE; rw [if_neg (by rw [HM.out]; decide), if_pos (by unfold inBoth; rw [HN.out, inB_yes (by omega) hi1, inB_yes (by omega) hj1]; rfl)])
      have HLV := Lib.hid (show leadV l p q = bef l p q by
        unfold leadV; rw [if_neg (by rw [HM.out]; decide), if_pos (by unfold inBoth; rw [HN.out, inB_yes (by omega) hi1, inB_yes (by omega) hj1]; rfl)]; rfl)
      have HK := Lib.hid hk
      clear hk0 hk1 hi0 hi1 hj0 hj1 h0 hk
      go_enter Try.func10, Try.ntmps10
      go_wp2_with fail
      refine (ordered_any _).mono ?_
      rintro e1 w1 ⟨rfl, hb1⟩
      have hw1 := hw0.call hb1
      clear hb1
      go_wp2_with fail
      refine (may_any A n c l _ (HL.out.bel hw1)).mono ?_
      rintro e2 w2 ⟨rfl, hb2⟩
      have hw2 := hw1.call hb2
      clear hb2
      go_wp2_with fail
      refine (HRT.out _).mono ?_
      rintro _ _ ⟨rfl, rfl⟩
      go_wp2_with fail
      refine (HRI.out _).mono ?_
      rintro _ _ ⟨rfl, rfl⟩
      go_wp2_with fail
      refine (HRJ.out _).mono ?_
      rintro _ _ ⟨rfl, rfl⟩
      go_wp2
      clear hw0 hw1
      go_cut [9, 10] (fun s9 s10 wx => ∃ B F : Nat, s9 = .map (some B) ∧ s10 = .map (some F) ∧ MapB wx B (prsA (bef l) l.length) ∧ MapB wx F (prsA (bef (l.take k)) (l.take k).length) ∧ Bel W wx)
      case first =>
        refine region_grow (by kernel_rfl) ?_
        (repeat (first | (refine wpG_go 0 (by simp only [List.getElem?_toArray, List.getElem?_cons_zero, List.getElem?_cons_succ] <;> rfl) (by decide +kernel) (by decide +kernel) (by kernel_rfl) (by rfl) (by exact fun _ _ _ _ h => h) (Nat.le_refl _) ?_; apply Exists.intro; refine ⟨fun w1 h1 => ?_, ?_⟩; (first | exact g_move _ rfl | exact g_assign _ rfl | (go_simp; first | exact ⟨rfl, rfl⟩ | rfl)); simp only [Act.put, Act.eval, List.setIfInBounds_toArray, List.set_cons_zero, List.set_cons_succ, Array.getD_eq_getD_getElem?, List.getElem?_toArray, List.getElem?_cons_zero, List.getElem?_cons_succ, Option.getD_some]) | (refine wpG_go 2 (by simp only [List.getElem?_toArray, List.getElem?_cons_zero, List.getElem?_cons_succ] <;> rfl) (by decide +kernel) (by decide +kernel) (by kernel_rfl) (by rfl) (by exact fun _ _ _ _ h => h) (Nat.le_refl _) ?_; apply Exists.intro; refine ⟨fun w1 h1 => ?_, ?_⟩; (first | exact g_move _ rfl | exact g_assign _ rfl | (go_simp; first | exact ⟨rfl, rfl⟩ | rfl)); simp only [Act.put, Act.eval, List.setIfInBounds_toArray, List.set_cons_zero, List.set_cons_succ, Array.getD_eq_getD_getElem?, List.getElem?_toArray, List.getElem?_cons_zero, List.getElem?_cons_succ, Option.getD_some]) | (refine wpG_go 3 (by simp only [List.getElem?_toArray, List.getElem?_cons_zero, List.getElem?_cons_succ] <;> rfl) (by decide +kernel) (by decide +kernel) (by kernel_rfl) (by rfl) (by exact fun _ _ _ _ h => h) (Nat.le_refl _) ?_; apply Exists.intro; refine ⟨fun w1 h1 => ?_, ?_⟩; (first | exact g_move _ rfl | exact g_assign _ rfl | (go_simp; first | exact ⟨rfl, rfl⟩ | rfl)); simp only [Act.put, Act.eval, List.setIfInBounds_toArray, List.set_cons_zero, List.set_cons_succ, Array.getD_eq_getD_getElem?, List.getElem?_toArray, List.getElem?_cons_zero, List.getElem?_cons_succ, Option.getD_some]) | (refine wpG_go 4 (by simp only [List.getElem?_toArray, List.getElem?_cons_zero, List.getElem?_cons_succ] <;> rfl) (by decide +kernel) (by decide +kernel) (by kernel_rfl) (by rfl) (by exact fun _ _ _ _ h => h) (Nat.le_refl _) ?_; apply Exists.intro; refine ⟨fun w1 h1 => ?_, ?_⟩; (first | exact g_move _ rfl | exact g_assign _ rfl | (go_simp; first | exact ⟨rfl, rfl⟩ | rfl)); simp only [Act.put, Act.eval, List.setIfInBounds_toArray, List.set_cons_zero, List.set_cons_succ, Array.getD_eq_getD_getElem?, List.getElem?_toArray, List.getElem?_cons_zero, List.getElem?_cons_succ, Option.getD_some]) | (refine wpG_skip 0 (by simp only [List.getElem?_toArray, List.getElem?_cons_zero, List.getElem?_cons_succ] <;> rfl) (by decide +kernel) (by decide +kernel) (by kernel_rfl) (by rfl) (by exact fun _ _ _ _ h => h) (Nat.le_refl _) ?_; simp only [Act.put, Act.eval, List.setIfInBounds_toArray, List.set_cons_zero, List.set_cons_succ, Array.getD_eq_getD_getElem?, List.getElem?_toArray, List.getElem?_cons_zero, List.getElem?_cons_succ, Option.getD_some]) | (refine wpG_skip 2 (by simp only [List.getElem?_toArray, List.getElem?_cons_zero, List.getElem?_cons_succ] <;> rfl) (by decide +kernel) (by decide +kernel) (by kernel_rfl) (by rfl) (by exact fun _ _ _ _ h => h) (Nat.le_refl _) ?_; simp only [Act.put, Act.eval, List.setIfInBounds_toArray, List.set_cons_zero, List.set_cons_succ, Array.getD_eq_getD_getElem?, List.getElem?_toArray, List.getElem?_cons_zero, List.getElem?_cons_succ, Option.getD_some]) | (refine wpG_skip 3 (by simp only [List.getElem?_toArray, List.getElem?_cons_zero, List.getElem?_cons_succ] <;> rfl) (by decide +kernel) (by decide +kernel) (by kernel_rfl) (by rfl) (by exact fun _ _ _ _ h => h) (Nat.le_refl _) ?_; simp only [Act.put, Act.eval, List.setIfInBounds_toArray, List.set_cons_zero, List.set_cons_succ, Array.getD_eq_getD_getElem?, List.getElem?_toArray, List.getElem?_cons_zero, List.getElem?_cons_succ, Option.getD_some]) | (refine wpG_skip 4 (by simp only [List.getElem?_toArray, List.getElem?_cons_zero, List.getElem?_cons_succ] <;> rfl) (by decide +kernel) (by decide +kernel) (by kernel_rfl) (by rfl) (by exact fun _ _ _ _ h => h) (Nat.le_refl _) ?_; simp only [Act.put, Act.eval, List.setIfInBounds_toArray, List.set_cons_zero, List.set_cons_succ, Array.getD_eq_getD_getElem?, List.getElem?_toArray, List.getElem?_cons_zero, List.getElem?_cons_succ, Option.getD_some])))
        have HW2 := Lib.hid hw2
        clear hw2
        (refine wpG_one 1 (by decide +kernel) ?_; intro wa hwa; refine op_wanted (by simp only [List.getElem?_toArray, List.getElem?_cons_zero, List.getElem?_cons_succ] <;> rfl) rfl ?_)
        go_simp
        refine (kahead_any A n c l _ (HL.out.bel (HW2.out.trans hwa)) HM.out).mono ?_
        rintro e3 wb ⟨B, rfl, hmb, hbb⟩
        refine ⟨hbb.mono hwa.size, ?_⟩
        have HB := Lib.hid (HW2.out.trans (hwa.trans hbb))
        have hN : w2.heap.size ≤ wb.heap.size := (hwa.trans hbb).size
        have HMB := Lib.hid hmb
        clear hmb hbb hwa
        (refine wpG_one 5 (by decide +kernel) ?_; intro wc hwc; refine op_wanted (by simp only [List.getElem?_toArray, List.getElem?_cons_zero, List.getElem?_cons_succ] <;> rfl) rfl ?_)
        go_simp
        refine (kahead_any A k c (l.take k) _ ((HL.out.bel (HB.out.trans hwc)).take HK.out) (may_take HM.out k)).mono ?_
        rintro e5 wd ⟨F, rfl, hmf, hbf⟩
        refine ⟨hbf.mono (Nat.le_trans hN hwc.size), ?_⟩
        have HD := Lib.hid (HB.out.trans (hwc.trans hbf))
        have hN2 : w2.heap.size ≤ wd.heap.size := Nat.le_trans hN (hwc.trans hbf).size
        have HMF := Lib.hid hmf
        have HMB2 := Lib.hid (HMB.out.bel (hwc.trans hbf))
        clear hmf hbf hwc
        (repeat (first | (refine wpG_go 6 (by simp only [List.getElem?_toArray, List.getElem?_cons_zero, List.getElem?_cons_succ] <;> rfl) (by decide +kernel) (by decide +kernel) (by kernel_rfl) (by rfl) (by exact fun _ _ _ _ h => h) hN2 ?_; apply Exists.intro; refine ⟨fun w1 h1 => ?_, ?_⟩; (first | exact g_move _ rfl | exact g_assign _ rfl | (go_simp; first | exact ⟨rfl, rfl⟩ | rfl)); simp only [Act.put, Act.eval, List.setIfInBounds_toArray, List.set_cons_zero, List.set_cons_succ, Array.getD_eq_getD_getElem?, List.getElem?_toArray, List.getElem?_cons_zero, List.getElem?_cons_succ, Option.getD_some]) | (refine wpG_go 7 (by simp only [List.getElem?_toArray, List.getElem?_cons_zero, List.getElem?_cons_succ] <;> rfl) (by decide +kernel) (by decide +kernel) (by kernel_rfl) (by rfl) (by exact fun _ _ _ _ h => h) hN2 ?_; apply Exists.intro; refine ⟨fun w1 h1 => ?_, ?_⟩; (first | exact g_move _ rfl | exact g_assign _ rfl | (go_simp; first | exact ⟨rfl, rfl⟩ | rfl)); simp only [Act.put, Act.eval, List.setIfInBounds_toArray, List.set_cons_zero, List.set_cons_succ, Array.getD_eq_getD_getElem?, List.getElem?_toArray, List.getElem?_cons_zero, List.getElem?_cons_succ, Option.getD_some]) | (refine wpG_skip 6 (by simp only [List.getElem?_toArray, List.getElem?_cons_zero, List.getElem?_cons_succ] <;> rfl) (by decide +kernel) (by decide +kernel) (by kernel_rfl) (by rfl) (by exact fun _ _ _ _ h => h) hN2 ?_; simp only [Act.put, Act.eval, List.setIfInBounds_toArray, List.set_cons_zero, List.set_cons_succ, Array.getD_eq_getD_getElem?, List.getElem?_toArray, List.getElem?_cons_zero, List.getElem?_cons_succ, Option.getD_some]) | (refine wpG_skip 7 (by simp only [List.getElem?_toArray, List.getElem?_cons_zero, List.getElem?_cons_succ] <;> rfl) (by decide +kernel) (by decide +kernel) (by kernel_rfl) (by rfl) (by exact fun _ _ _ _ h => h) hN2 ?_; simp only [Act.put, Act.eval, List.setIfInBounds_toArray, List.set_cons_zero, List.set_cons_succ, Array.getD_eq_getD_getElem?, List.getElem?_toArray, List.getElem?_cons_zero, List.getElem?_cons_succ, Option.getD_some])))
        (refine wpG_done (by decide +kernel) ?_ _; intro we hwe; try simp only [Act.put, Act.eval, List.setIfInBounds_toArray, List.set_cons_zero, List.set_cons_succ, Array.getD_eq_getD_getElem?, List.getElem?_toArray, List.getElem?_cons_zero, List.getElem?_cons_succ, Option.getD_some])
        have HX := Lib.hid (And.intro (HMB2.out.bel hwe) (And.intro (HMF.out.bel hwe) (HD.out.trans hwe)))
        clear hwe
        go_wp2
        go_meet
        case rel => exact ⟨_, _, rfl, rfl, HX.out⟩
      case rest =>
        obtain ⟨B, F, rfl, rfl, hmb, hmf, hbw⟩ := hcut
        have HLKB := Lib.hid (fun (w : World) (h : MapB w B (prsA (bef l) l.length)) (a b : Nat) => look_bef h a b)
        have HLKF := Lib.hid (fun (w : World) (h : MapB w F (prsA (bef (l.take k)) (l.take k).length)) (a b : Nat) => look_bef h a b)
        have HINB := Lib.hid (fun (p : Nat × Nat) (h : p ∈ prsA (bef l) l.length) => (mem_prsA.1 h).2.2)
        have HINF := Lib.hid (fun (p : Nat × Nat) (h : p ∈ prsA (bef (l.take k)) (l.take k).length) => (mem_prsA.1 h).2.2)
        generalize prsA (bef l) l.length = ps at *
        generalize prsA (bef (l.take k)) (l.take k).length = fs at *
        have HMB := Lib.hid hmb
        have HMF := Lib.hid hmf
        have HBW := Lib.hid hbw
        have H0 := Lib.hid (show Itr (wc.alloc (.mapIter (some B) ps.length #[] ps.length)) wc.heap.size B (prM ps) ps.length #[] from ⟨heap_alloc_new wc _, (heap_alloc_old _ _ hmb.lt).trans hmb⟩)
        have HB0 := Lib.hid ((Bel.refl wc).alloc (.mapIter (some B) ps.length #[] ps.length))
        clear hmb hmf hbw
        go_wp2_with (refine rangeNew Try.underlying42 _ rfl rfl rfl HMB.out ?_)
        go_frame
        go_loopw [46] (fun _ wr => ∃ seen, Itr wr wc.heap.size B (prM ps) ps.length seen ∧ Bel wc wr) (fun _ wr => wr.rangeLeft B wc.heap.size)
        case atStart => exact ⟨#[], H0.out, HB0.out⟩
        case round =>
          obtain ⟨seen, hI, hbr⟩ := hrel
          have HI := Lib.hid hI
          have HB := Lib.hid hbr
          clear hI hbr H0 HB0
          go_wp2_with (refine nextMap _ rfl rfl rfl HI.out (prM_old ps) ?_ ?_)
          · intro hall
            have HMB1 := Lib.hid (HMB.out.bel HB.out)
            have HMF1 := Lib.hid (HMF.out.bel HB.out)
            have HW1 := Lib.hid (HBW.out.trans HB.out)
            have H1 := Lib.hid (show Itr (wr.alloc (.mapIter (some F) fs.length #[] fs.length)) wr.heap.size F (prM fs) fs.length #[] from ⟨heap_alloc_new wr _, (heap_alloc_old _ _ HMF1.out.lt).trans HMF1.out⟩)
            have HB1 := Lib.hid ((Bel.refl wr).alloc (.mapIter (some F) fs.length #[] fs.length))
            clear hall HI
            go_wp2_with (refine rangeNew Try.underlying42 _ rfl rfl rfl HMF1.out ?_)
            go_frame
            go_loopw [62] (fun _ wr1 => ∃ seen, Itr wr1 wr.heap.size F (prM fs) fs.length seen ∧ Bel wr wr1) (fun _ wr1 => wr1.rangeLeft F wr.heap.size)
            case atStart => exact ⟨#[], H1.out, HB1.out⟩
            case round =>
              obtain ⟨seen, hI, hbr⟩ := hrel
              have HI := Lib.hid hI
              have HB2 := Lib.hid hbr
              clear hI hbr H1 HB1
              go_wp2_with (refine nextMap _ rfl rfl rfl HI.out (prM_old fs) ?_ ?_)
              · intro hall
                have HW2 := Lib.hid (HW1.out.trans HB2.out)
                have HMB2 := Lib.hid (HMB1.out.bel HB2.out)
                clear hall HI
                go_wp2_with fail
                refine (leads_any A n c l p q _ (HL.out.bel HW2.out)).mono ?_
                rintro e6 w6 ⟨rfl, hb6⟩
                have L := HLKB.out _ (HMB2.out.bel hb6) p q
                have HW6 := Lib.hid (HW2.out.call hb6)
                clear hb6
                rw [HLE.out, HLV.out]
                go_wp2
                go_ret
                exact ⟨ret_val (by simp), HW6.out⟩
              · intro e kv vv w4 he hkv hvv hI2 hg hlt
                obtain ⟨r, b, rfl, hr⟩ := prM_in he
                obtain rfl : Value.agg (prv r) = kv := hkv
                obtain rfl : Value.bool true = vv := hvv
                have HE := Lib.hid he
                have HI2 := Lib.hid hI2
                have HLT := Lib.hid hlt
                have HB4 := Lib.hid (Bel.of (HB2.out.out.grown hg HB2.out.size (by intro j hj; cases hj; exact Nat.le_refl _)))
                have hP := HINF.out r hr
                have hr2 : r.2 < k := by have := (bef_lt hP).2; rw [List.length_take] at this; omega
                rw [bef_take hr2] at hP
                have hX := pwld_box w4 r 45
                have HX := Lib.hid hX
                have HG5 := Lib.hid (pwld_below w4 r 45)
                have L : (Instr.lookup 42 (.map (some B)) (.agg (prv r)) false).run Try.prog (pwld w4 r 45) = .ok (.bool (bef l r.1 r.2)) (pwld w4 r 45) := HLKB.out _ (HMB1.out.bel (HB4.out.trans HG5.out)) r.1 r.2
                rw [hP] at L
                clear he hI2 hlt hg hr hX hP hr2
                go_wp2_with (first | (refine entryMap _ rfl rfl rfl HI2.out HE.out (prM_nodup fs) (kv := .agg (prv r)) (vv := .bool true) rfl rfl ?_) | (refine pwld_store TPr _ _ rfl rfl _ rfl rfl rfl ?_) | (refine loadB _ _ rfl rfl rfl HX.out TPr ?_))
                go_roundw
                case rel => exact ⟨_, HI2.out.grown HG5.out, HB4.out.trans HG5.out⟩
                case measure => rw [(HI2.out.grown HG5.out).left, HI.out.left]; exact HLT.out
          · intro e kv vv w4 he hkv hvv hI2 hg hlt
            obtain ⟨r, b, rfl, hr⟩ := prM_in he
            obtain rfl : Value.agg (prv r) = kv := hkv
            obtain rfl : Value.bool true = vv := hvv
            have HE := Lib.hid he
            have HI2 := Lib.hid hI2
            have HLT := Lib.hid hlt
            have HB4 := Lib.hid (Bel.of (HB.out.out.grown hg HB.out.size (by intro j hj; cases hj; exact Nat.le_refl _)))
            have hP := HINB.out r hr
            have hX := pwld_box w4 r 45
            have HX := Lib.hid hX
            have c1 := hX.cell 1 (v := .int .i64 r.2) rfl
            have HG5 := Lib.hid (pwld_below w4 r 45)
            have L : (Instr.lookup 42 (.map (some F)) (.agg (prv r)) false).run Try.prog (pwld w4 r 45) = .ok (.bool (bef (l.take k) r.1 r.2)) (pwld w4 r 45) := HLKF.out _ (HMF.out.bel (HB4.out.trans HG5.out)) r.1 r.2
            by_cases hr2 : r.2 < k
            · have hr2' : (r.2 : Int) < k := by omega
              rw [bef_take hr2, hP] at L
              clear he hI2 hlt hg hr hX hP
              go_wp2_with (first | (refine entryMap _ rfl rfl rfl HI2.out HE.out (prM_nodup ps) (kv := .agg (prv r)) (vv := .bool true) rfl rfl ?_) | (refine pwld_store TPr _ _ rfl rfl _ rfl rfl rfl ?_) | (refine loadG _ _ rfl rfl rfl HX.out TPr ?_))
              go_roundw
              case rel => exact ⟨_, HI2.out.grown HG5.out, HB4.out.trans HG5.out⟩
              case measure => rw [(HI2.out.grown HG5.out).left, HI.out.left]; exact HLT.out
            · have hr2' : ¬ (r.2 : Int) < k := by omega
              clear he hI2 hlt hg hr hX hP L
              go_wp2_with (first | (refine entryMap _ rfl rfl rfl HI2.out HE.out (prM_nodup ps) (kv := .agg (prv r)) (vv := .bool true) rfl rfl ?_) | (refine pwld_store TPr _ _ rfl rfl _ rfl rfl rfl ?_))
              go_roundw
              case rel => exact ⟨_, HI2.out.grown HG5.out, HB4.out.trans HG5.out⟩
              case measure => rw [(HI2.out.grown HG5.out).left, HI.out.left]; exact HLT.out

set_option maxRecDepth 100000 in
theorem lifted (os : Os) (started : os.Started) (H : Type) (enc : TypeId × Value → H) :
    ReturnsInHanded {} Try.checked os 10 .any (Rows.orderFrontSpec.pre6 enc Try.prog Try.f10 Rows.orderFrontRow.domain false) (Rows.orderFrontSpec.post enc Try.prog Try.f10 false true false false) := by
  refine returnsInHanded_of_change_sized (C := Try.checked) own started (by kernel_rfl) Try.func10
    (ChangeSpec.witness6 (enc := enc) (C := Try.checked) false ⟨#[], #[.slice none 0 0, .int .i64 0, .int .i64 0, .int .i64 0], []⟩ 8 (by kernel_rfl) (by kernel_rfl) (by kernel_rfl) (by kernel_rfl)) ?_
  intro W base args ds gs before hval0 hW hcnd hsz0 _
  have hsz : (DataW.weightsEach Try.prog (Try.f10.params.toList ++ Rows.orderFrontSpec.plain.varTypes Try.prog) (ds ++ gs)).all (· ≤ reachBytes) = true := hsz0
  clear hsz0
  have hval : ∀ (j : Nat) t v, Try.f10.params[j]? = some t → args[j]? = some v → Value.okWide Try.prog W .any base t v := hval0
  have hW' := hW
  obtain ⟨p, q, hA0, hV, rfl, hfz, hnd⟩ := hW
  have hA : DataW.TrodAll enc Try.prog W 0 (fun _ => true) true Try.f10.params.toList args.toList ds p := hA0
  rw [Try.params10] at hA hval hsz
  obtain ⟨v0, vs0, d0, ds0, p0, q0, hargs, rfl, rfl, h0, r0⟩ := trodAll_cons hA
  obtain ⟨v1, vs1, d1, ds1, p1, q1, rfl, rfl, rfl, h1, r1⟩ := trodAll_cons r0
  obtain ⟨v2, vs2, d2, ds2, p2, q2, rfl, rfl, rfl, h2, r2⟩ := trodAll_cons r1
  obtain ⟨v3, vs3, d3, ds3, p3, q3, rfl, rfl, rfl, h3, r3⟩ := trodAll_cons r2
  obtain ⟨rfl, rfl, rfl⟩ := trodAll_nil r3
  obtain rfl : args = #[v0, v1, v2, v3] := by cases args; simp_all
  obtain ⟨rfl, rfl⟩ := trodVars_none hV
  have t0 := h0
  have lt0 : ∀ x ∈ p0, x.block < W.heap.size := by obtain ⟨m, hm⟩ := t0; exact DataW.trod_lt m _ _ _ hm
  have t1 := h1
  have lt1 : ∀ x ∈ p1, x.block < W.heap.size := by obtain ⟨m, hm⟩ := t1; exact DataW.trod_lt m _ _ _ hm
  have t2 := h2
  have lt2 : ∀ x ∈ p2, x.block < W.heap.size := by obtain ⟨m, hm⟩ := t2; exact DataW.trod_lt m _ _ _ hm
  have t3 := h3
  have lt3 : ∀ x ∈ p3, x.block < W.heap.size := by obtain ⟨m, hm⟩ := t3; exact DataW.trod_lt m _ _ _ hm
  obtain ⟨A0, n0, c0, l0, rfl, s0, m0, x0, g0, z0⟩ := open_evs Try.underlying22 Try.underlying30 ⟨rfl, rfl, rfl⟩ (by kernel_rfl) (by kernel_rfl) Try.underlying3 (hval 0 22 v0 rfl rfl) h0
  have y0 := reach_sl hsz (j := 0) rfl rfl Try.underlying22 (b := 24) (by kernel_rfl) z0
  obtain ⟨a1, rfl, _, _, x1⟩ := open_int Try.underlying3 (hval 1 3 v1 rfl rfl) h1
  have k1 := in64_of x1
  obtain ⟨a2, rfl, _, _, x2⟩ := open_int Try.underlying3 (hval 2 3 v2 rfl rfl) h2
  have k2 := in64_of x2
  obtain ⟨a3, rfl, _, _, x3⟩ := open_int Try.underlying3 (hval 3 3 v3 rfl rfl) h3
  have k3 := in64_of x3
  clear hA0 hval0
  refine (walk W A0 n0 c0 l0 s0 m0 x0 g0 a1 k1 a2 k2 a3 k3).mono fun e W' ⟨he, bel⟩ => ?_
  subst he
  exact ⟨_, rfl, _, _, _, [], _, [], hW', trodAll_mk1 (shut_bool Try.underlying4 _), (trodAll_cons_mk (Below.trod laidOut (by kernel_rfl) (of_decide_eq_true (by kernel_rfl)) t0 bel lt0) (trodAll_cons_mk (Below.trod laidOut (by kernel_rfl) (of_decide_eq_true (by kernel_rfl)) t1 bel lt1) (trodAll_cons_mk (Below.trod laidOut (by kernel_rfl) (of_decide_eq_true (by kernel_rfl)) t2 bel lt2) (trodAll_cons_mk (Below.trod laidOut (by kernel_rfl) (of_decide_eq_true (by kernel_rfl)) t3 bel lt3) trodAll_mk0)))), rfl, bel.frame _, fun h => by cases h⟩

theorem over : Rows.orderFrontRow.holds Try.pinned (OpenSpec.ofChange Rows.orderFrontSpec) :=
  OpenClaim.holds_of_wide 10 Try.f10 rfl rfl rfl rfl rfl rfl rfl ⟨rfl, rfl, rfl, rfl, rfl⟩ rfl rfl rfl rfl rfl (by kernel_rfl) Try.func10 (by kernel_rfl)
    (of_decide_eq_true (by kernel_rfl)) (by unfold Func.isWrapper; first | (rw [if_pos (by decide +kernel)]; kernel_rfl) | (rw [if_neg (by decide +kernel)]; exact ⟨rfl, rfl⟩))
    (fun os started H enc _ => lifted os started H enc)

theorem proved : Rows.OrderFrontSaid := over
#print axioms proved
end Go.Proofs.Ytkkiflhnjpmalaa.LOrderFront

/- Contracts of the package race: conflict; the library's Contains over a row of the call's own. | Contracts of the package race: All. -/
import Derived.Test.YtmdpegljpdjfoaaRr
import Derived.Test.YtmdpegljpdjfoaaPred
import Derived.Test.YtmdpegljpdjfoaaShelf
set_option linter.all false
set_option maxRecDepth 100000
namespace Go.Proofs.Ytmdpegljpdjfoaa
open Go Go.RowKit

set_option maxHeartbeats 4000000 in
theorem conf_any (a b : Ev) (w : World) : Calls Try.prog 33 #[.agg (evv a), .agg (evv b)] w fun e w' => e = .returned (.int .i64 (conf a b)) ∧ Below w.heap.size w w' := by
  obtain ⟨b1, b2, hB, hs⟩ := boxes2 w (evv a) (evv b) 29 29
  generalize hW : ((w.alloc (.cells (evv a) 29)).alloc (.cells (evv b) 29)) = W at *
  have HB := Lib.hid hB
  clear hB hs
  have c0 := b1.cell 0 (v := .int .i64 a.k) rfl
  have c2 := b1.cell 2 (v := .int .i64 a.o) rfl
  have d0 := b2.cell 0 (v := .int .i64 b.k) rfl
  have d2 := b2.cell 2 (v := .int .i64 b.o) rfl
  clear b1 b2
  cases h1 : (a.o != b.o)
  · have ho : a.o = b.o := by simpa using h1
    cases h2 : (a.k == 2)
    · have k2 : ¬ a.k = 2 := by simpa using h2
      cases h3 : (a.k == 1)
      · have k3 : ¬ a.k = 1 := by simpa using h3
        have HV := Lib.hid (show conf a b = 0 by simp [conf, ho, k2, k3])
        clear ho k2 k3
        go_enter Try.func33, Try.ntmps33
        go_wp2
        go_ret
        exact ⟨by rw [HV.out]; rfl, HB.out⟩
      · have k3 : a.k = 1 := by simpa using h3
        cases h4 : (b.k == 2)
        · have k4 : ¬ b.k = 2 := by simpa using h4
          have HV := Lib.hid (show conf a b = 0 by simp [conf, ho, k3, k4])
          clear ho k2 k3 k4
          go_enter Try.func33, Try.ntmps33
          go_wp2
          go_ret
          exact ⟨by rw [HV.out]; rfl, HB.out⟩
        · have k4 : b.k = 2 := by simpa using h4
          have HV := Lib.hid (show conf a b = 3 by simp [conf, ho, k3, k4])
          clear ho k2 k3 k4
          go_enter Try.func33, Try.ntmps33
          go_wp2
          go_ret
          exact ⟨by rw [HV.out]; rfl, HB.out⟩
    · have k2 : a.k = 2 := by simpa using h2
      have h3 : (a.k == 1) = false := by rw [k2]; rfl
      cases h4 : (b.k == 2)
      · have k4 : ¬ b.k = 2 := by simpa using h4
        cases h5 : (b.k == 1)
        · have k5 : ¬ b.k = 1 := by simpa using h5
          have HV := Lib.hid (show conf a b = 0 by simp [conf, ho, k2, k4, k5])
          clear ho k2 k4 k5
          go_enter Try.func33, Try.ntmps33
          go_wp2
          go_ret
          exact ⟨by rw [HV.out]; rfl, HB.out⟩
        · have k5 : b.k = 1 := by simpa using h5
          have HV := Lib.hid (show conf a b = 2 by simp [conf, ho, k2, k5])
          clear ho k2 k4 k5
          go_enter Try.func33, Try.ntmps33
          go_wp2
          go_ret
          exact ⟨by rw [HV.out]; rfl, HB.out⟩
      · have k4 : b.k = 2 := by simpa using h4
        have HV := Lib.hid (show conf a b = 1 by simp [conf, ho, k2, k4])
        clear ho k2 k4
        go_enter Try.func33, Try.ntmps33
        go_wp2
        go_ret
        exact ⟨by rw [HV.out]; rfl, HB.out⟩
  · have ho : ¬ a.o = b.o := by simpa using h1
    have HV := Lib.hid (show conf a b = 0 by simp [conf, ho])
    clear ho
    go_enter Try.func33, Try.ntmps33
    go_wp2
    go_ret
    exact ⟨by rw [HV.out]; rfl, HB.out⟩
/-- A row of the call's own, looked through. -/
theorem contains_any (v : Value) (ns : List Nat) (a : Nat) (base : Nat) (w : World) (h : w.ownsRow base 3 1 v ns.length (il ns)) (hn : ns.length ≤ 1000000) :
    Calls Try.prog 34 #[v, .int .i64 a] w fun e w' => e = .returned (.bool (decide (a ∈ ns))) ∧ w = w' := by
  rcases h.2 with ⟨rfl, h0⟩ | ⟨g, cap, cur, rfl, hg, hh, hnc, hc, hs, ht⟩
  · have : ns = [] := List.eq_nil_of_length_eq_zero h0
    subst this
    refine (Try.slices_Contains_int_empty none 0 a w).mono ?_
    rintro e w' ⟨rfl, rfl⟩
    exact ⟨rfl, rfl⟩
  · have hb : Box w g cur 3 := hh
    refine (Try.slices_Contains_int g 0 ns.length cap (ns.map fun (x : Nat) => (x : Int)) a w (by simp) (by omega) ?_).mono ?_
    · intro j hj
      rw [List.length_map] at hj
      rw [Nat.zero_add]
      refine hb.cell j ?_
      have h1 : (il ns)[j]? = some (.int .i64 ((ns.map fun (x : Nat) => (x : Int)).getD j 0)) := by simp [il, hj]
      rw [← ht, List.getElem?_take] at h1
      split at h1
      · simpa using h1
      · cases h1
    · rintro e w' ⟨rfl, rfl⟩
      refine ⟨?_, rfl⟩
      congr 2
      rw [List.take_of_length_le (by simp), Bool.eq_iff_iff]
      simp only [List.contains_iff_mem, List.mem_map, decide_eq_true_eq]
      exact ⟨fun ⟨x, h1, h2⟩ => (by omega : x = a) ▸ h1, fun h => ⟨a, h, rfl⟩⟩
end Go.Proofs.Ytmdpegljpdjfoaa
namespace Go.Proofs.Ytmdpegljpdjfoaa
open Go Go.RowKit

def AllPost (w : World) (l : List Ev) (e : Ending) (w' : World) : Prop :=
  ∃ v, e = .returned (.tuple #[v, .int .i64 (may l)]) ∧ w'.ownsRow w.heap.size 41 4 v (rcs l).length (rcc (rcs l)) ∧ Below w.heap.size w w'
theorem pred_mem (l : List Ev) (a b : Nat) : decide (a ∈ predOf (prsA (bef l) l.length) b) = bef l a b := by
  rw [← mem_bef, Bool.eq_iff_iff, decide_eq_true_iff, decide_eq_true_iff, mem_predOf]
set_option maxHeartbeats 4000000 in
theorem all_bad (A : Option Addr) (n c : Nat) (l : List Ev) (w : World) (hl : Sl w A n l) (hm : may l ≠ 0) :
    Calls Try.prog 19 #[.slice A n c] w fun e w' => e = .returned (.tuple #[.slice none 0 0, .int .i64 (may l)]) ∧ Below w.heap.size w w' := by
  have hw0 := Bel.refl w
  have HL := Lib.hid hl
  have h1 : (may l != 0) = true := by simpa using hm
  clear hl
  go_enter Try.func19, Try.ntmps19
  go_wp2_with fail
  refine (before_any A n c l _ HL.out).mono ?_
  rintro e1 w1 ⟨v1, rfl, hown1, hb1⟩
  have hw1 := hw0.call hb1
  clear hb1
  clear hown1
  go_wp2
  go_ret2
  exact ⟨rfl, hw1⟩
set_option maxHeartbeats 16000000 in
theorem all_ok (A : Option Addr) (n c : Nat) (l : List Ev) (w : World) (hl : Sl w A n l) (hm : may l = 0) : Calls Try.prog 19 #[.slice A n c] w (AllPost w l) := by
  have hw0 := Bel.refl w
  have HL := Lib.hid hl
  have HM := Lib.hid hm
  have HN := Lib.hid hl.1
  have hn80 : n ≤ 80 := by rw [← hl.1]; exact ((may_iff l).1 hm).1
  have HP := Lib.hid (prOf_ok (R := bef) hm rfl)
  have hln : (prsA (bef l) l.length).length ≤ 6480 := prs_small ((may_iff l).1 hm).1 (Nat.le_refl _) (Nat.zero_le _)
  have HPM := Lib.hid (pred_mem l)
  obtain ⟨i0, hi0, hz0, hz1, hz2⟩ := info_parts rc_info
  have J := Lib.hid (And.intro hi0 (And.intro hz0 (And.intro hz1 hz2)))
  clear hi0 hz0 hz1 hz2 hl hm
  go_enter Try.func19, Try.ntmps19
  go_wp2_with fail
  refine (before_any A n c l _ HL.out).mono ?_
  rintro e1 w1 ⟨v1, rfl, hown1, hb1⟩
  have hw1 := hw0.call hb1
  clear hb1
  rw [HM.out]
  rw [HP.out] at hown1
  generalize prsA (bef l) l.length = ps at *
  obtain ⟨A1, c1, rfl, hs1, hn1, hm1⟩ := SlP.own hown1
  have HS1 := Lib.hid hs1
  clear hs1 hown1 hn1 hm1
  have HLN := Lib.hid hln
  clear hln
  go_wp2_with fail
  refine (pred_any A1 ps.length c1 ps _ HS1.out HLN.out).mono ?_
  rintro e2 wp ⟨M, ks, vs, rfl, hpre2, hb2⟩
  have HW2 := Lib.hid (hw1.call hb2)
  have HPR := Lib.hid hpre2
  have HQ := Lib.hid (fun (b : Nat) => Nat.le_trans (predOf_len ps b) (Nat.le_trans HLN.out (by decide : 6480 ≤ 1000000)))
  have H0 := Lib.hid (RcR.mk (World.ownsRow_nil _ _ _ _) (Bel.refl wp) : RcR wp l n 0 0 (.slice none 0 0) wp)
  clear hb2 hpre2 hw1 hw0
  go_wp2
  go_loopw [7, 23] (fun v t23 wr => ∃ i : Nat, i ≤ n ∧ t23 = .int .i64 i ∧ RcR wp l n i 0 v wr) (fun _ t23 _ => n - (intOf t23).toNat)
  case atStart => exact ⟨0, by omega, rfl, H0.out⟩
  case round =>
    obtain ⟨i, hi, rfl, hr⟩ := hrel
    have HR := Lib.hid hr
    clear hr H0
    by_cases hlt : i < n
    · have hlt' : (i : Int) < n := by omega
      obtain ⟨bb, off, ea, rfl, hbb, hea, hra⟩ := HL.out.at_ hlt
      have HEA := Lib.hid hea
      have HRA := Lib.hid (fun (w' : World) (h : Bel w w') => rangeAt_below h.out hbb hra)
      have H1 := Lib.hid (HR.out.to (rcTo_low (l := l) (n := n) (i := i) (j := i + 1) (Nat.le_refl _)))
      clear hea hra
      go_wp2
      go_loopw [7, 9] (fun v t9 wr => ∃ j : Nat, i < j ∧ j ≤ n ∧ t9 = .int .i64 j ∧ RcR wp l n i j v wr) (fun _ t9 _ => n - (intOf t9).toNat)
      case atStart => exact ⟨i + 1, by omega, by omega, by go_num, H1.out⟩
      case round =>
        obtain ⟨j, hij, hj, rfl, hr⟩ := hrel
        have HR2 := Lib.hid hr
        clear hr H1 HR
        by_cases hlj : j < n
        · have hlj' : (j : Int) < n := by omega
          obtain ⟨eb, heb⟩ := HL.out.get hlj
          have HRB := Lib.hid (fun (w' : World) (h : Bel w w') => rangeAt_below h.out hbb (HL.out.rng hlj heb).2)
          have HRC := Lib.hid (racB_at HEA.out heb hij)
          have HOF := Lib.hid (rcOf_at HEA.out heb)
          have hbw := HW2.out.trans HR2.out.below
          have HRA2 := Lib.hid (fun (w' : World) (h : Bel wr w') => HRA.out w' (hbw.trans h))
          have HRB2 := Lib.hid (fun (w' : World) (h : Bel wr w') => HRB.out w' (hbw.trans h))
          have hi0 : (0 : Int) ≤ (i : Int) := by omega
          have hj0 : (0 : Int) ≤ (j : Int) := by omega
          clear heb hbw
          go_wp2
          (refine region_bel (by kernel_rfl) (by kernel_rfl) ?_; (repeat (first | ((with_reducible refine BigFrame.wpQuiet_skip ?_ ?_); exact rfl; simp only [Act.put, Act.eval, List.setIfInBounds_toArray, List.set_cons_zero, List.set_cons_succ, Array.getD_eq_getD_getElem?, List.getElem?_toArray, List.getElem?_cons_zero, List.getElem?_cons_succ, Option.getD_some]) | (refine q_move _ rfl rfl ?_; simp only [Act.put, Act.eval, List.setIfInBounds_toArray, List.set_cons_zero, List.set_cons_succ, Array.getD_eq_getD_getElem?, List.getElem?_toArray, List.getElem?_cons_zero, List.getElem?_cons_succ, Option.getD_some]) | (refine q_assign _ rfl rfl ?_; simp only [Act.put, Act.eval, List.setIfInBounds_toArray, List.set_cons_zero, List.set_cons_succ, Array.getD_eq_getD_getElem?, List.getElem?_toArray, List.getElem?_cons_zero, List.getElem?_cons_succ, Option.getD_some]) | (refine q_load_mid _ _ rfl rfl rfl HRA2.out T36 (evv ea) rfl ?_; simp only [Act.put, Act.eval, List.setIfInBounds_toArray, List.set_cons_zero, List.set_cons_succ, Array.getD_eq_getD_getElem?, List.getElem?_toArray, List.getElem?_cons_zero, List.getElem?_cons_succ, Option.getD_some]) | (refine q_load_mid _ _ rfl rfl rfl HRB2.out T36 (evv eb) rfl ?_; simp only [Act.put, Act.eval, List.setIfInBounds_toArray, List.set_cons_zero, List.set_cons_succ, Array.getD_eq_getD_getElem?, List.getElem?_toArray, List.getElem?_cons_zero, List.getElem?_cons_succ, Option.getD_some]) | (refine q_any rfl ?_; apply Exists.intro; refine ⟨fun w hw => ?_, ?_⟩; (go_simp; first | exact ⟨rfl, rfl⟩ | rfl | (go_at_call 33; (with_reducible refine (conf_any ea eb _).mono ?_); rintro e w' ⟨rfl, hb⟩; exact ⟨rfl, hw.call hb⟩)); simp only [Act.put, Act.eval, List.setIfInBounds_toArray, List.set_cons_zero, List.set_cons_succ, Array.getD_eq_getD_getElem?, List.getElem?_toArray, List.getElem?_cons_zero, List.getElem?_cons_succ, Option.getD_some]))); refine wpQuiet_nil ?_; intro w2 hw2)
          have HR3 := Lib.hid (HR2.out.bel hw2)
          have HPR3 := Lib.hid (HPR.out.bel (HR2.out.below.trans hw2))
          have e1 : w2.cell? ⟨bb, off + i * 3 + 2, none⟩ = some (.int .i64 ea.o) := (HRA2.out w2 hw2) 2 _ rfl
          cases hk : (conf ea eb != 0)
          · have HS := Lib.hid (HR3.out.to (rcTo_no (l := l) (n := n) (i := i) (j := j) (by rw [HRC.out, decide_eq_false (by simpa using hk)]; rfl)))
            clear hw2 hi0 hj0
            go_wp2
            go_roundw
            case rel => exact ⟨j + 1, by omega, by omega, by go_num, HS.out⟩
            case measure => simp [intOf]; omega
          · have L := HPR3.out.look j
            have HCN := Lib.hid ((contains_any (vs j) (predOf ps j) i _ w2 (HPR3.out.row j) (HQ.out j)).mono fun e w' (h : e = .returned (.bool (decide (i ∈ predOf ps j))) ∧ w2 = w') => (show e = .returned (.bool (bef l i j)) ∧ w2 = w' from by rw [← HPM.out i j]; exact h))
            generalize vs j = vj at *
            cases hb : bef l i j
            · have hracB : racB l i j = true := by rw [HRC.out, hb, decide_eq_true (by simpa using hk)]; rfl
              have HYES := Lib.hid (rcTo_yes (n := n) hracB HOF.out)
              rw [hb] at HCN
              clear hracB hb hw2
              have HA := Lib.hid (own_alloc HR3.out.own (.cells (rcv ⟨i, j, ea.o, conf ea eb⟩) 41))
              have HNW := Lib.hid (Box.news (l := rcl ⟨i, j, ea.o, conf ea eb⟩) (Box.new w2 (rcv ⟨i, j, ea.o, conf ea eb⟩) 41))
              have HSZ := Lib.hid (HR3.out.below.alloc (.cells (rcv ⟨i, j, ea.o, conf ea eb⟩) 41)).size
              have HLE := Lib.hid (rcTo_small (l := l) hn80 hi hj)
              go_wp2_with (first | (go_at_call 34; (with_reducible refine HCN.out.mono ?_); rintro e w' ⟨rfl, rfl⟩) | (refine buildr 33 _ rfl rfl 41 i0 Try.underlying33 J.out.1 J.out.2.1 J.out.2.2.1 ⟨i, j, ea.o, conf ea eb⟩ rfl ?_) | (at_builtin; refine wpList_append_own_at _ rfl (.tmp 53) (.tmp 63) _ rfl wp.heap.size 41 i0 _ 4 32 Try.underlying33 J.out.1 J.out.2.1 J.out.2.2.1 J.out.2.2.2 rfl (by omega) _ (rcTo l n i j).length _ rfl HA.out ⟨w2.heap.size, 0, none⟩ 1 1 (rcl ⟨i, j, ea.o, conf ea eb⟩) rfl rfl HNW.out (rcl_one _) (by have := HLE.out; unfold maxLen; omega) (by have := HLE.out; omega) HSZ.out ?_; intro v7 w7 hown7 hg7 hn7 hat7))
              refine ⟨⟨j + 1, by omega, by omega, by go_num, ⟨?_, (HR3.out.below.alloc _).out.grown hg7 HSZ.out (own_block_ge HA.out)⟩⟩, by simp [intOf]; omega⟩
              rw [HYES.out, List.length_append, rcc_append]
              exact hown7
            · have HS := Lib.hid (HR3.out.to (rcTo_no (l := l) (n := n) (i := i) (j := j) (by rw [HRC.out, hb]; simp)))
              rw [hb] at HCN
              clear hw2 hb
              go_wp2_with (first | (go_at_call 34; (with_reducible refine HCN.out.mono ?_); rintro e w' ⟨rfl, rfl⟩))
              go_roundw
              case rel => exact ⟨j + 1, by omega, by omega, by go_num, HS.out⟩
              case measure => simp [intOf]; omega
        · obtain rfl : j = n := by omega
          have HS := Lib.hid (HR2.out.to (rcTo_next l j i))
          go_wp2
          go_roundw
          case rel => exact ⟨i + 1, by omega, by go_num, HS.out⟩
          case measure => simp [intOf]; omega
    · obtain rfl : i = n := by omega
      have HS := Lib.hid (HR.out.to (i' := i) (j' := 0) rfl)
      have HALL := Lib.hid (show rcTo l i i 0 = rcs l by rw [rcTo_all HN.out, rcs_ok HM.out])
      go_wp2
      go_ret2
      exact ⟨_, by rw [HM.out]; rfl, by rw [← HALL.out]; exact HW2.out.own HS.out.own, HW2.out.trans HS.out.below⟩
end Go.Proofs.Ytmdpegljpdjfoaa

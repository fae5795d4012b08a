import Derived.Deep.DeepCutAuto
import Derived.Test.YtlcldcbdobgdbaaYRr
import Derived.Test.YtlcldcbdobgdbaaYAhead2
import Derived.Test.YtlcldcbdobgdbaaRows
import Derived.WalkKit
import Derived.WalkSpells
import Derived.WalkLawsBesides
import Derived.BigQuiet
import Derived.Deep.RegionHeld3
import Derived.Lib.Hide
import Derived.Test.YtlcldcbdobgdbaaYBase
set_option linter.all false
set_option maxRecDepth 100000
namespace Go.Proofs.Ytlcldcbdobgdbaa
open Go Go.RowKit

def RacesPost (w : World) (l : List Ev) (e : Ending) (w' : World) : Prop :=
  ∃ v, e = .returned v ∧ w'.ownsRow w.heap.size 109 4 v (rcs l).length (rcc (rcs l)) ∧ Below w.heap.size w w'
theorem isEv_k {e : Ev} (h : isEv e = true) : 1 ≤ e.k ∧ e.k ≤ 8 := by
  have := isEv_o h
  unfold nobj at this
  split at this
  · omega
  · split at this
    · omega
    · split at this
      · omega
      · split at this <;> omega
theorem conf_high {a b : Ev} (h : 2 < a.k ∨ 2 < b.k) : conf a b = 0 := by
  unfold conf
  split
  · rfl
  · repeat' split
    all_goals first | rfl | omega
theorem conf_far {a b : Ev} (h : a.o ≠ b.o) : conf a b = 0 := by unfold conf; rw [if_pos h]
set_option maxHeartbeats 16000000 in
theorem races_any (A : Option Addr) (n c : Nat) (l : List Ev) (w : World) (hl : Sl w A n l) (hm : may l = 0) : Calls Try.prog 53 #[.slice A n c] w (RacesPost w l) := by
  have hw0 := Bel.refl w
  have HL := Lib.hid hl
  have HM := Lib.hid hm
  have HN := Lib.hid hl.1
  have hn80 : n ≤ 80 := by rw [← hl.1]; exact ((may_iff l).1 hm).1
  obtain ⟨i0, hi0, hz0, hz1, hz2⟩ := info_parts rc_info
  have J := Lib.hid (And.intro hi0 (And.intro hz0 (And.intro hz1 hz2)))
  clear hi0 hz0 hz1 hz2 hl hm
  go_enter Try.func53, Try.ntmps53
  go_wp2_with fail
  refine (ahead_any A n c l _ HL.out hn80).mono ?_
  rintro e1 w1 ⟨O, r, rfl, hm1⟩
  have HM1 := Lib.hid hm1
  have HW1 := Lib.hid (hw0.call hm1.below)
  have H0 := Lib.hid (RcR.mk (World.ownsRow_nil _ _ _ _) (Bel.refl w1) : RcR w1 l n 0 0 (.slice none 0 0) w1)
  clear hm1 hw0
  go_wp2
  go_loopw [4, 14] (fun v t14 wr => ∃ i : Nat, i ≤ n ∧ t14 = .int .i64 i ∧ RcR w1 l n i 0 v wr) (fun _ t14 _ => n - (intOf t14).toNat)
  case atStart => exact ⟨0, by omega, rfl, H0.out⟩
  case round =>
    obtain ⟨i, hi, rfl, hr⟩ := hrel
    have HR := Lib.hid hr
    clear hr H0
    by_cases hlt : i < n
    · have hlt' : (i : Int) < n := by omega
      obtain ⟨bb, off, ea, rfl, hbb, hea, hra⟩ := HL.out.at_ hlt
      obtain ⟨ek, et, eo⟩ := ea
      have HEA := Lib.hid hea
      have hR := Lib.hid (rangeAt_below (HW1.out.trans HR.out.below).out hbb hra)
      have HKA := Lib.hid (isEv_k (wrong_isEv (wrong_at HM.out hea)))
      have HRX := Lib.hid (HR.out.bel (ewld_below wr ⟨ek, et, eo⟩ 107))
      have HXA := Lib.hid (ewld_box wr ⟨ek, et, eo⟩ 107)
      have HVA := Lib.hid (show u4.ownBlock ≠ some wr.heap.size from fun e => by have := (own_lt HR.out.own e).2; omega)
      clear hea hra
      go_wp2_with (first | (refine load_ev T36 _ rfl rfl rfl hR.out ?_) | (refine ewld_store T36 _ _ rfl rfl _ rfl rfl rfl ?_))
      generalize ewld wr ⟨ek, et, eo⟩ 107 = w3 at *
      generalize wr.heap.size = XA at *
      go_loopw [4, 21] (fun v t21 wr => ∃ j : Nat, j ≤ n ∧ t21 = .int .i64 j ∧ RcR w1 l n i j v wr ∧ Box wr XA (evv ⟨ek, et, eo⟩) 107 ∧ v.ownBlock ≠ some XA) (fun _ t21 _ => n - (intOf t21).toNat)
      case atStart => exact ⟨0, by omega, rfl, HRX.out, HXA.out, HVA.out⟩
      case round =>
        obtain ⟨j, hj, rfl, hr, hbw, hva⟩ := hrel
        have HR2 := Lib.hid hr
        have HB3 := Lib.hid hbw
        have HV3 := Lib.hid hva
        clear hr HR HRX hbw hva HXA HVA
        by_cases hlj : j < n
        · have hlj' : (j : Int) < n := by omega
          obtain ⟨eb, heb⟩ := HL.out.get hlj
          obtain ⟨fk, ft, fo⟩ := eb
          have hbw := HW1.out.trans HR2.out.below
          clear hR
          have hR := Lib.hid (rangeAt_below hbw.out hbb (HL.out.rng hlj heb).2)
          have HKB := Lib.hid (isEv_k (wrong_isEv (wrong_at HM.out heb)))
          have hbx := ewld_below wr ⟨fk, ft, fo⟩ 107
          have HR3 := Lib.hid (HR2.out.bel hbx)
          have HB4 := Lib.hid (Bel.box (Bel.of hbx) HB3.out)
          obtain ⟨d0, _, d2⟩ := ewld_cells wr ⟨fk, ft, fo⟩ 107
          have HM3 := Lib.hid (HM1.out.grow (HR2.out.below.trans hbx))
          have c0 := HB4.out.cell 0 (v := .int .i64 ek) rfl
          have c2 := HB4.out.cell 2 (v := .int .i64 eo) rfl
          have HNO := Lib.hid (fun (h : racB l i j = false) => And.intro (HR3.out.to (rcTo_no (l := l) (n := n) (i := i) (j := j) h)) (And.intro HB4.out HV3.out))
          have HRC := Lib.hid (fun (h : i < j) => racB_at HEA.out heb h)
          have HOF := Lib.hid (rcOf_at HEA.out heb)
          clear heb hbx hbw
          go_upto_region 9 with (first | (refine load_ev T36 _ rfl rfl rfl hR.out ?_) | (refine ewld_store T36 _ _ rfl rfl _ rfl rfl rfl ?_))
          generalize ewld wr ⟨fk, ft, fo⟩ 107 = w4 at *
          generalize wr.heap.size = XB at *
          by_cases hij : i < j
          · have hij' : (i : Int) < j := by omega
            by_cases ha : 2 < ek
            · have HS := Lib.hid (HNO.out (by rw [HRC.out hij, conf_high (.inl ha)]; simp))
              clear HNO HRC HOF HM3 
              go_wp2
              go_roundw
              case rel => exact ⟨j + 1, by omega, by go_num, HS.out⟩
              case measure => simp [intOf]; omega
            · by_cases hb : 2 < fk
              · have HS := Lib.hid (HNO.out (by rw [HRC.out hij, conf_high (.inr hb)]; simp))
                clear HNO HRC HOF HM3 
                go_wp2
                go_roundw
                case rel => exact ⟨j + 1, by omega, by go_num, HS.out⟩
                case measure => simp [intOf]; omega
              · by_cases ho : eo = fo
                · subst ho
                  obtain hka : ek = 1 ∨ ek = 2 := by have h : 1 ≤ ek := HKA.out.1; omega
                  obtain hkb : fk = 1 ∨ fk = 2 := by have h : 1 ≤ fk := HKB.out.1; omega
                  have hi0 : (0 : Int) ≤ (i : Int) := by omega
                  have hj0 : (0 : Int) ≤ (j : Int) := by omega
                  have r0 := HM3.out.rowc hlt (Nat.le_refl _)
                  have r1 := HM3.out.cell hlt hlj
                  clear ha hb HKA HKB
                  rcases hka with rfl | rfl <;> rcases hkb with rfl | rfl
                  · have HS := Lib.hid (HNO.out (by rw [HRC.out hij]; simp [conf]))
                    clear HNO HRC HOF HM3 r0 r1
                    go_wp2
                    go_roundw
                    case rel => exact ⟨j + 1, by omega, by go_num, HS.out⟩
                    case measure => simp [intOf]; omega
                  · cases hq : bef l i j
                    · rw [hq] at r1
                      have hyes : racB l i j = true := by rw [HRC.out hij, hq]; simp [conf]
                      have HYES := Lib.hid (rcTo_yes (n := n) (r := ⟨i, j, eo, 3⟩) hyes (by rw [HOF.out]; simp [conf]))
                      clear HNO HRC HOF HM3 hyes hq
                      have HA := Lib.hid (own_alloc HR3.out.own (.cells (rcv ⟨i, j, eo, 3⟩) 109))
                      have HNW := Lib.hid (Box.news (l := rcl ⟨i, j, eo, 3⟩) (Box.new w4 (rcv ⟨i, j, eo, 3⟩) 109))
                      have HSZ := Lib.hid (HR3.out.below.alloc (.cells (rcv ⟨i, j, eo, 3⟩) 109)).size
                      have HLE := Lib.hid (rcTo_small (l := l) hn80 hi hj)
                      go_wp2_with (first | (refine buildr 53 _ rfl rfl 109 i0 Try.underlying53 J.out.1 J.out.2.1 J.out.2.2.1 ⟨i, j, eo, 3⟩ rfl ?_) | (at_builtin; refine wpList_append_own_at _ rfl (.tmp 69) (.tmp 76) _ rfl w1.heap.size 109 i0 _ 4 32 Try.underlying53 J.out.1 J.out.2.1 J.out.2.2.1 J.out.2.2.2 rfl (by omega) _ (rcTo l n i j).length _ rfl HA.out ⟨w4.heap.size, 0, none⟩ 1 1 (rcl ⟨i, j, eo, 3⟩) rfl rfl HNW.out (rcl_one _) (by have := HLE.out; unfold maxLen; omega) (by have := HLE.out; omega) HSZ.out ?_; intro v7 w7 hown7 hg7 hn7 hat7))
                      refine ⟨⟨j + 1, by omega, by go_num, ⟨?_, (HR3.out.below.alloc _).out.grown hg7 HSZ.out (own_block_ge HA.out)⟩, ?_, ?_⟩, by simp [intOf]; omega⟩
                      · rw [HYES.out, List.length_append, rcc_append]; exact hown7
                      · exact (HB4.out.old _).grown hg7 (fun e => HV3.out e.symm)
                      · rcases hat7 with h | h
                        · rw [h]; exact HV3.out
                        · rw [h]; intro e; have h1 := Option.some.inj e; have h2 := HB4.out.lt; simp at h1; omega
                    · rw [hq] at r1
                      have HS := Lib.hid (HNO.out (by rw [HRC.out hij, hq]; simp))
                      clear HNO HRC HOF HM3 hq
                      go_wp2
                      go_roundw
                      case rel => exact ⟨j + 1, by omega, by go_num, HS.out⟩
                      case measure => simp [intOf]; omega
                  · cases hq : bef l i j
                    · rw [hq] at r1
                      have hyes : racB l i j = true := by rw [HRC.out hij, hq]; simp [conf]
                      have HYES := Lib.hid (rcTo_yes (n := n) (r := ⟨i, j, eo, 2⟩) hyes (by rw [HOF.out]; simp [conf]))
                      clear HNO HRC HOF HM3 hyes hq
                      have HA := Lib.hid (own_alloc HR3.out.own (.cells (rcv ⟨i, j, eo, 2⟩) 109))
                      have HNW := Lib.hid (Box.news (l := rcl ⟨i, j, eo, 2⟩) (Box.new w4 (rcv ⟨i, j, eo, 2⟩) 109))
                      have HSZ := Lib.hid (HR3.out.below.alloc (.cells (rcv ⟨i, j, eo, 2⟩) 109)).size
                      have HLE := Lib.hid (rcTo_small (l := l) hn80 hi hj)
                      go_wp2_with (first | (refine buildr 53 _ rfl rfl 109 i0 Try.underlying53 J.out.1 J.out.2.1 J.out.2.2.1 ⟨i, j, eo, 2⟩ rfl ?_) | (at_builtin; refine wpList_append_own_at _ rfl (.tmp 69) (.tmp 76) _ rfl w1.heap.size 109 i0 _ 4 32 Try.underlying53 J.out.1 J.out.2.1 J.out.2.2.1 J.out.2.2.2 rfl (by omega) _ (rcTo l n i j).length _ rfl HA.out ⟨w4.heap.size, 0, none⟩ 1 1 (rcl ⟨i, j, eo, 2⟩) rfl rfl HNW.out (rcl_one _) (by have := HLE.out; unfold maxLen; omega) (by have := HLE.out; omega) HSZ.out ?_; intro v7 w7 hown7 hg7 hn7 hat7))
                      refine ⟨⟨j + 1, by omega, by go_num, ⟨?_, (HR3.out.below.alloc _).out.grown hg7 HSZ.out (own_block_ge HA.out)⟩, ?_, ?_⟩, by simp [intOf]; omega⟩
                      · rw [HYES.out, List.length_append, rcc_append]; exact hown7
                      · exact (HB4.out.old _).grown hg7 (fun e => HV3.out e.symm)
                      · rcases hat7 with h | h
                        · rw [h]; exact HV3.out
                        · rw [h]; intro e; have h1 := Option.some.inj e; have h2 := HB4.out.lt; simp at h1; omega
                    · rw [hq] at r1
                      have HS := Lib.hid (HNO.out (by rw [HRC.out hij, hq]; simp))
                      clear HNO HRC HOF HM3 hq
                      go_wp2
                      go_roundw
                      case rel => exact ⟨j + 1, by omega, by go_num, HS.out⟩
                      case measure => simp [intOf]; omega
                  · cases hq : bef l i j
                    · rw [hq] at r1
                      have hyes : racB l i j = true := by rw [HRC.out hij, hq]; simp [conf]
                      have HYES := Lib.hid (rcTo_yes (n := n) (r := ⟨i, j, eo, 1⟩) hyes (by rw [HOF.out]; simp [conf]))
                      clear HNO HRC HOF HM3 hyes hq
                      have HA := Lib.hid (own_alloc HR3.out.own (.cells (rcv ⟨i, j, eo, 1⟩) 109))
                      have HNW := Lib.hid (Box.news (l := rcl ⟨i, j, eo, 1⟩) (Box.new w4 (rcv ⟨i, j, eo, 1⟩) 109))
                      have HSZ := Lib.hid (HR3.out.below.alloc (.cells (rcv ⟨i, j, eo, 1⟩) 109)).size
                      have HLE := Lib.hid (rcTo_small (l := l) hn80 hi hj)
                      go_wp2_with (first | (refine buildr 53 _ rfl rfl 109 i0 Try.underlying53 J.out.1 J.out.2.1 J.out.2.2.1 ⟨i, j, eo, 1⟩ rfl ?_) | (at_builtin; refine wpList_append_own_at _ rfl (.tmp 69) (.tmp 76) _ rfl w1.heap.size 109 i0 _ 4 32 Try.underlying53 J.out.1 J.out.2.1 J.out.2.2.1 J.out.2.2.2 rfl (by omega) _ (rcTo l n i j).length _ rfl HA.out ⟨w4.heap.size, 0, none⟩ 1 1 (rcl ⟨i, j, eo, 1⟩) rfl rfl HNW.out (rcl_one _) (by have := HLE.out; unfold maxLen; omega) (by have := HLE.out; omega) HSZ.out ?_; intro v7 w7 hown7 hg7 hn7 hat7))
                      refine ⟨⟨j + 1, by omega, by go_num, ⟨?_, (HR3.out.below.alloc _).out.grown hg7 HSZ.out (own_block_ge HA.out)⟩, ?_, ?_⟩, by simp [intOf]; omega⟩
                      · rw [HYES.out, List.length_append, rcc_append]; exact hown7
                      · exact (HB4.out.old _).grown hg7 (fun e => HV3.out e.symm)
                      · rcases hat7 with h | h
                        · rw [h]; exact HV3.out
                        · rw [h]; intro e; have h1 := Option.some.inj e; have h2 := HB4.out.lt; simp at h1; omega
                    · rw [hq] at r1
                      have HS := Lib.hid (HNO.out (by rw [HRC.out hij, hq]; simp))
                      clear HNO HRC HOF HM3 hq
                      go_wp2
                      go_roundw
                      case rel => exact ⟨j + 1, by omega, by go_num, HS.out⟩
                      case measure => simp [intOf]; omega
                · have ho' : (eo != fo) = true := by simpa using ho
                  have HS := Lib.hid (HNO.out (by rw [HRC.out hij, conf_far ho]; simp))
                  clear HNO HRC HOF HM3 ho
                  go_wp2
                  go_roundw
                  case rel => exact ⟨j + 1, by omega, by go_num, HS.out⟩
                  case measure => simp [intOf]; omega
          · have hij' : (j : Int) ≤ i := by omega
            have HS := Lib.hid (HNO.out (racB_up l i j (by omega)))
            clear HNO HRC HOF HM3 
            go_wp2
            go_roundw
            case rel => exact ⟨j + 1, by omega, by go_num, HS.out⟩
            case measure => simp [intOf]; omega
        · obtain rfl : j = n := by omega
          have HS := Lib.hid (HR2.out.to (rcTo_next l j i))
          go_wp2
          go_roundw
          case rel => exact ⟨i + 1, by omega, by go_num, HS.out⟩
          case measure => simp [intOf]; omega
    · obtain rfl : i = n := by omega
      have HALL := Lib.hid (show rcTo l i i 0 = rcs l by rw [rcTo_all HN.out, rcs_ok HM.out])
      go_wp2
      go_ret
      exact ⟨_, rfl, by rw [← HALL.out]; exact HW1.out.own HR.out.own, HW1.out.trans HR.out.below⟩
end Go.Proofs.Ytlcldcbdobgdbaa
set_option linter.all false
set_option maxRecDepth 100000
namespace Go.Proofs.Ytlcldcbdobgdbaa
open Go.RowKit

end Go.Proofs.Ytlcldcbdobgdbaa
namespace Go.Proofs.Ytlcldcbdobgdbaa
open Go.RowKit

end Go.Proofs.Ytlcldcbdobgdbaa

/- The map of all pairs of which one is ahead: ahead, look-ups. -/
import Derived.Test.YtdgoeibaekkhmaaPrMap
import Derived.Test.YtdgoeibaekkhmaaOrder2
import Derived.Test.YtdgoeibaekkhmaaLst
set_option linter.all false
set_option maxRecDepth 100000
namespace Go.Proofs.Ytdgoeibaekkhmaa
open Go Go.RowKit

theorem may_two : may twoL = 0 := by decide +kernel
theorem prOf_two : prOf bef twoL = [(0, 1), (0, 2)] := by rw [prOf_ok may_two (n := 3) rfl]; exact prsA_two
/-- A map of all the pairs of which one is before the other. -/
def AheadPost (w : World) (l : List Ev) (e : Ending) (w' : World) : Prop := ∃ B, e = .returned (.map (some B)) ∧ MapB w' B (prsA (bef l) l.length) ∧ Below w.heap.size w w'
structure FillR (w : World) (B : Nat) (ps : List (Nat × Nat)) (wr : World) : Prop where
  map : MapB wr B ps
  ge : w.heap.size ≤ B
  below : Bel w wr
set_option maxHeartbeats 4000000 in
theorem kahead_any (A : Option Addr) (n c : Nat) (l : List Ev) (w : World) (hl : Sl w A n l) (hm : may l = 0) : Calls Try.prog 24 #[.slice A n c] w (AheadPost w l) := by
  have hw0 := Bel.refl w
  have HL := Lib.hid hl
  have HM := Lib.hid hm
  have HP := Lib.hid (prOf_ok (R := bef) hm rfl)
  have HND := Lib.hid (prsA_nodup (bef l) l.length)
  have hmm := @run_makeMap Try.prog
  have hln : (prsA (bef l) l.length).length ≤ 6480 := prs_small ((may_iff l).1 hm).1 (Nat.le_refl _) (Nat.zero_le _)
  clear hl hm
  go_enter Try.func24, Try.ntmps24
  go_wp2_with fail
  refine (before_any A n c l _ HL.out).mono ?_
  rintro e1 w1 ⟨v1, rfl, hown1, hb1⟩
  have hw1 := hw0.call hb1
  clear hb1
  rw [HM.out]
  rw [HP.out] at hown1
  generalize hps : prsA (bef l) l.length = ps at *
  have HPS := Lib.hid hps
  clear hps
  obtain ⟨A1, c1, rfl, hs1, hn1, hm1⟩ := SlP.own hown1
  have HS1 := Lib.hid hs1
  have H0 := Lib.hid (FillR.mk (show MapB (w1.alloc (.map #[] 0)) w1.heap.size [] from heap_alloc_new w1 _) (Nat.le_refl _) ((Bel.refl w1).alloc _) : FillR w1 w1.heap.size (ps.take 0) (w1.alloc (.map #[] 0)))
  generalize hm' : ps.length = m at *
  clear hs1 hown1 hn1 hm1
  have HW1 := Lib.hid hw1
  clear hw1 hw0
  go_wp2
  go_loopw [18] (fun t18 wr => ∃ i : Nat, i ≤ m ∧ t18 = .int .i64 i ∧ FillR w1 w1.heap.size (ps.take i) wr) (fun t18 _ => m - (intOf t18).toNat)
  case atStart => exact ⟨0, by omega, rfl, H0.out⟩
  case round =>
    obtain ⟨i, hi, rfl, hr⟩ := hrel
    have HR := Lib.hid hr
    clear hr H0
    by_cases hlt : i < m
    · have hlt' : (i : Int) < m := by omega
      obtain ⟨bb, off, p, rfl, hbb, hp, hrg⟩ := HS1.out.at_ hlt
      have hR := Lib.hid (rangeAt_below HR.out.below.out hbb hrg)
      have HE := Lib.hid (ptake_snoc hp)
      have HX := Lib.hid (pwld_box wr p 49)
      have HM2 := Lib.hid (HR.out.map.bel (pwld_below wr p 49))
      have HBW := Lib.hid (HR.out.below.trans (pwld_below wr p 49))
      have HNI := Lib.hid (show p ∉ ps.take i from fun hin => by
        obtain ⟨j, hj, hje⟩ := List.mem_iff_getElem.1 hin
        rw [List.length_take] at hj
        rw [List.getElem_take] at hje
        obtain ⟨h1a, h1b⟩ := List.getElem?_eq_some_iff.1 hp
        exact List.pairwise_iff_getElem.1 HND.out j i (by omega) h1a (by omega) (by rw [hje, h1b]))
      clear hp hrg
      go_wp2_with (first | (refine load_pr TPr _ rfl rfl rfl hR.out ?_) | (refine pwld_store TPr _ _ rfl rfl _ rfl rfl rfl ?_) | (refine loadB _ _ rfl rfl rfl HX.out TPr ?_) | (refine updPr _ _ _ rfl rfl rfl rfl rfl HM2.out HNI.out ?_))
      go_roundw
      case rel => exact ⟨i + 1, by omega, by go_num, by rw [HE.out]; exact mset_map _ HM2.out.lt, Nat.le_refl _, below_mset HBW.out.out (Nat.le_refl _) _⟩
      case measure => simp [intOf]; omega
    · obtain rfl : i = m := by omega
      have HT := Lib.hid (ptake_all HS1.out)
      go_wp2
      go_ret
      exact ⟨_, rfl, by have := HR.out.map; rw [HT.out] at this; rw [HPS.out]; exact this, HW1.out.trans HR.out.below⟩
theorem mem_bef (l : List Ev) (a b : Nat) : decide ((a, b) ∈ prsA (bef l) l.length) = bef l a b := by
  rw [Bool.eq_iff_iff, decide_eq_true_iff, mem_prsA]
  exact ⟨fun h => h.2.2, fun h => ⟨by have := bef_lt h; omega, (bef_lt h).2, h⟩⟩
/-- A look-up in the map of all pairs. -/
theorem look_bef {w : World} {B : Nat} {l : List Ev} (h : MapB w B (prsA (bef l) l.length)) (a b : Nat) :
    (Instr.lookup 46 (.map (some B)) (.agg #[.int .i64 a, .int .i64 b]) false).run Try.prog w = .ok (.bool (bef l a b)) w := by
  rw [← mem_bef]; exact run_look_pr h (a, b)
end Go.Proofs.Ytdgoeibaekkhmaa

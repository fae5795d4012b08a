/- The laws' own: swapped, swaps: over a contract of the package swap. -/
import Derived.Test.YtjlomojhbjpdfaaSwC
import Derived.Test.YtjlomojhbjpdfaaEqEv
import Derived.Test.YtjlomojhbjpdfaaKeepTw
import Derived.Test.YtjlomojhbjpdfaaEqInt
set_option linter.all false
set_option maxRecDepth 100000
namespace Go.Proofs.Ytjlomojhbjpdfaa
open Go Go.RowKit

def swpL : List Ev := [⟨5, 0, 1⟩, ⟨1, 0, 1⟩, ⟨1, 1, 0⟩]
def swpM : List Ev := [⟨5, 0, 1⟩, ⟨1, 1, 0⟩, ⟨1, 0, 1⟩]
theorem swp_at : SwAt 1 swpL swpM := ⟨[⟨5, 0, 1⟩], ⟨1, 0, 1⟩, ⟨1, 1, 0⟩, [], rfl, rfl, rfl, by decide⟩
theorem swp_uniq {r : List Ev} {c : Int} (h : SwB swpL 1 r c) : r = swpM ∧ c = 0 :=
  swB_uniq h (.inr (.inr (.inr ⟨by decide +kernel, ⟨1, rfl, swp_at⟩, rfl⟩)))
set_option maxHeartbeats 8000000 in
theorem swapped_any (HS : SwapC) (HA : ApartC) (w : World) : Calls Try.prog 25 #[] w fun e w' => e = .returned (.bool true) ∧ Below w.heap.size w w' := by
  have HSC := Lib.hid HS
  unfold ApartC at HA
  have HAC := Lib.hid HA
  have HX := Lib.hid (Box.new w (evc swpL).toArray 23)
  have HW := Lib.hid ((Bel.refl w).alloc (.cells (evc swpL).toArray 23))
  clear HS HA
  go_enter Try.func25, Try.ntmps25
  go_wp2_with fail
  refine (HSC.out (some ⟨w.heap.size, 0, none⟩) 3 3 swpL 1 _ (Sl.box HX.out 3 rfl) (by omega) (by simp [maxLen]) (by unfold In64; decide)).mono ?_
  rintro e w1 ⟨r, c, hB, A1, n1, d1, rfl, hs1, hn1, hd1, hb1⟩
  obtain ⟨rfl, rfl⟩ := swp_uniq hB
  obtain rfl : 3 = n1 := hs1.1
  have HW1 := Lib.hid (HW.out.call hb1)
  have HL := Lib.hid ((Sl.box HX.out 3 rfl).bel (Bel.of hb1))
  obtain ⟨b1, o1, x1, rfl, g1, e1, r1⟩ := hs1.at_ (show 1 < 3 by omega)
  obtain rfl : ⟨1, 1, 0⟩ = x1 := by simpa [swpM] using e1
  obtain ⟨b2, o2, x2, e9, g2, e2, r2⟩ := HL.out.at_ (show 2 < 3 by omega)
  obtain rfl : ⟨1, 1, 0⟩ = x2 := by simpa [swpL] using e2
  cases e9
  obtain ⟨b3, o3, x3, e9, g3, e3, r3⟩ := HL.out.at_ (show 1 < 3 by omega)
  obtain rfl : ⟨1, 0, 1⟩ = x3 := by simpa [swpL] using e3
  cases e9
  have R1 := Lib.hid (fun (w' : World) (h : Bel w1 w') => rangeAt_below h.out g1 r1)
  have R2 := Lib.hid (fun (w' : World) (h : Bel w1 w') => rangeAt_below h.out g2 r2)
  have R3 := Lib.hid (fun (w' : World) (h : Bel w1 w') => rangeAt_below h.out g3 r3)
  have EQ := eql_ev ⟨1, 1, 0⟩ ⟨1, 1, 0⟩
  rw [decide_eq_true rfl] at EQ
  have GR := grd_ev
  have HD := Lib.hid (show (!dep ⟨1, 0, 1⟩ ⟨1, 1, 0⟩) = true by decide)
  clear hB hs1 hn1 hb1 e1 e2 e3 r1 r2 r3
  go_wp2
  (refine region_bel (by kernel_rfl) (by kernel_rfl) ?_; (repeat (first | ((with_reducible refine BigFrame.wpQuiet_skip ?_ ?_); exact rfl; simp only [Act.put, Act.eval, List.setIfInBounds_toArray, List.set_cons_zero, List.set_cons_succ, Array.getD_eq_getD_getElem?, List.getElem?_toArray, List.getElem?_cons_zero, List.getElem?_cons_succ, Option.getD_some]) | (refine q_move _ rfl rfl ?_; simp only [Act.put, Act.eval, List.setIfInBounds_toArray, List.set_cons_zero, List.set_cons_succ, Array.getD_eq_getD_getElem?, List.getElem?_toArray, List.getElem?_cons_zero, List.getElem?_cons_succ, Option.getD_some]) | (refine q_assign _ rfl rfl ?_; simp only [Act.put, Act.eval, List.setIfInBounds_toArray, List.set_cons_zero, List.set_cons_succ, Array.getD_eq_getD_getElem?, List.getElem?_toArray, List.getElem?_cons_zero, List.getElem?_cons_succ, Option.getD_some]) | (refine q_load_mid _ _ rfl rfl rfl R1.out T36 (evv ⟨1, 1, 0⟩) rfl ?_; simp only [Act.put, Act.eval, List.setIfInBounds_toArray, List.set_cons_zero, List.set_cons_succ, Array.getD_eq_getD_getElem?, List.getElem?_toArray, List.getElem?_cons_zero, List.getElem?_cons_succ, Option.getD_some]) | (refine q_load_mid _ _ rfl rfl rfl R2.out T36 (evv ⟨1, 1, 0⟩) rfl ?_; simp only [Act.put, Act.eval, List.setIfInBounds_toArray, List.set_cons_zero, List.set_cons_succ, Array.getD_eq_getD_getElem?, List.getElem?_toArray, List.getElem?_cons_zero, List.getElem?_cons_succ, Option.getD_some]) | (refine q_load_mid _ _ rfl rfl rfl R3.out T36 (evv ⟨1, 0, 1⟩) rfl ?_; simp only [Act.put, Act.eval, List.setIfInBounds_toArray, List.set_cons_zero, List.set_cons_succ, Array.getD_eq_getD_getElem?, List.getElem?_toArray, List.getElem?_cons_zero, List.getElem?_cons_succ, Option.getD_some]) | (refine q_any rfl ?_; apply Exists.intro; refine ⟨fun w hw => ?_, ?_⟩; (go_simp; first | exact ⟨rfl, rfl⟩ | rfl | (go_at_call 15; (with_reducible refine (HAC.out ⟨1, 0, 1⟩ ⟨1, 1, 0⟩ _).mono ?_); rintro e w' ⟨rfl, hb⟩; exact ⟨rfl, hw.call hb⟩)); simp only [Act.put, Act.eval, List.setIfInBounds_toArray, List.set_cons_zero, List.set_cons_succ, Array.getD_eq_getD_getElem?, List.getElem?_toArray, List.getElem?_cons_zero, List.getElem?_cons_succ, Option.getD_some]))); refine wpQuiet_nil ?_; intro w2 hw2)
  have HW2 := Lib.hid (HW1.out.trans hw2)
  clear hw2
  go_wp2
  go_ret
  exact ⟨by rw [HD.out]; rfl, HW2.out⟩
def SwsPost (w : World) (l : List Ev) (n : Nat) (e : Ending) (w' : World) : Prop :=
  ∃ m A d, e = .returned (.slice A n d) ∧ Eqv l m ∧ Sl w' A n m ∧ n ≤ d ∧ d ≤ maxLen ∧ Below w.heap.size w w'
def SwsR (w : World) (l : List Ev) (n : Nat) (v : Value) (wr : World) : Prop := ∃ m A d, v = .slice A n d ∧ Eqv l m ∧ Sl wr A n m ∧ n ≤ d ∧ d ≤ maxLen ∧ Bel w wr
set_option maxHeartbeats 8000000 in
theorem swaps_any (HS : SwapC) (A : Option Addr) (n c : Nat) (l : List Ev) (B : Option Addr) (nb d : Nat) (js : List Int) (w : World) (hl : Sl w A n l) (hnc : n ≤ c) (hc : c ≤ maxLen) (hj : SI w B nb js) (hnb : nb ≤ d) (hd : d ≤ maxLen) (h64 : ∀ x ∈ js, In64 x) (hm : may l = 0) :
    Calls Try.prog 27 #[.slice A n c, .slice B nb d] w (SwsPost w l n) := by
  have HSC := Lib.hid HS
  have hn80 : n ≤ 80 := by rw [← hl.1]; exact ((may_iff l).1 hm).1
  have H0 := Lib.hid (show SwsR w l n (.slice A n c) w from ⟨l, A, c, rfl, .refl _, hl, hnc, hc, Bel.refl _⟩)
  have HJ := Lib.hid hj
  have H64 := Lib.hid h64
  have HM := Lib.hid hm
  unfold maxLen at hd
  clear HS hl hj h64 hm hnc hc
  go_enter Try.func27, Try.ntmps27
  go_wp2
  go_loopw [0, 11] (fun v t wr => ∃ j : Nat, j ≤ nb ∧ t = .int .i64 j ∧ SwsR w l n v wr) (fun _ t _ => nb - (intOf t).toNat)
  case atStart => exact ⟨0, by omega, rfl, H0.out⟩
  case round =>
    obtain ⟨j, hj, rfl, m, A1, d1, rfl, he, hs, hn1, hd1, hb⟩ := hrel
    have HE := Lib.hid he
    have HSl := Lib.hid hs
    have HD := Lib.hid (And.intro hn1 hd1)
    have HB := Lib.hid hb
    clear he hs hd1 hb H0
    by_cases hlt : j < nb
    · obtain ⟨b, o, rfl, hcell⟩ := HJ.out.2 (by omega)
      have cj := HB.out.cell (hcell j hlt)
      have hx64 : In64 (js[j]?.getD 0) := H64.out _ (by
        have h1 : j < js.length := by rw [HJ.out.1]; exact hlt
        rw [List.getElem?_eq_getElem h1]; exact List.getElem_mem h1)
      generalize js[j]?.getD 0 = x at *
      have hlt' : (j : Int) < nb := by omega
      have HX := Lib.hid hx64
      have hw1 : IntKind.i64.wrap ((n : Int) - 1) = (n : Int) - 1 := IntWalk.i64_in _ (by omega)
      clear hcell hx64
      by_cases hmx : (1 : Int) < (n : Int) - 1
      · have HP := Lib.hid (HSC.out A1 n d1 m (x % ((n : Int) - 1)) wr HSl.out HD.out.1 HD.out.2 (by unfold In64; have := Int.emod_nonneg x (show (((n : Int) - 1) : Int) ≠ 0 by omega); have := Int.emod_lt_of_pos x (show (0 : Int) < ((n : Int) - 1) by omega); omega))
        go_wp2_with fail
        refine (rest_any x ((n : Int) - 1) HX.out (by omega) (by omega) _).mono ?_
        rintro e w' ⟨rfl, rfl⟩
        go_wp2_with fail
        refine HP.out.mono ?_
        rintro e w2 ⟨r, cc, hB, A2, n2, d2, rfl, hs2, hn2, hd2, hb2⟩
        have HB2 := Lib.hid (HB.out.call hb2)
        by_cases hcc : cc = 0
        · obtain ⟨_, k, _, hat⟩ := swB_ok hB hcc
          have HE2 := Lib.hid (Eqv.step HE.out hat.sw)
          have hn2' : n2 = n := by rw [← hs2.1, ← hat.sw.length, HSl.out.1]
          subst hn2'
          have HS2 := Lib.hid hs2
          have HD2 := Lib.hid (And.intro hn2 hd2)
          clear hB hs2 hn2 hd2 hb2 hat
          subst hcc
          go_wp2
          go_roundw
          case rel => exact ⟨j + 1, by omega, by go_num, r, A2, d2, rfl, HE2.out, HS2.out, HD2.out.1, HD2.out.2, HB2.out⟩
          case measure => simp [intOf]; omega
        · have hcc' : (cc == 0) = false := by simpa using hcc
          have HS2 := Lib.hid (HSl.out.bel (Bel.of hb2))
          clear hB hs2 hn2 hd2 hb2
          go_wp2
          go_roundw
          case rel => exact ⟨j + 1, by omega, by go_num, m, A1, d1, rfl, HE.out, HS2.out, HD.out.1, HD.out.2, HB2.out⟩
          case measure => simp [intOf]; omega
      · have HP := Lib.hid (HSC.out A1 n d1 m 0 wr HSl.out HD.out.1 HD.out.2 (by unfold In64; omega))
        have HRT := Lib.hid (show ∀ w, Calls Try.prog 35 #[.int .i64 x, .int .i64 1] w fun e w' => e = .returned (.int .i64 0) ∧ w = w' from fun w => by
          have h9 := rest_any x 1 HX.out (by omega) (by omega) w
          rwa [Int.emod_one] at h9)
        go_wp2_with fail
        refine (HRT.out _).mono ?_
        rintro e w' ⟨rfl, rfl⟩
        go_wp2_with fail
        refine HP.out.mono ?_
        rintro e w2 ⟨r, cc, hB, A2, n2, d2, rfl, hs2, hn2, hd2, hb2⟩
        have HB2 := Lib.hid (HB.out.call hb2)
        by_cases hcc : cc = 0
        · obtain ⟨_, k, _, hat⟩ := swB_ok hB hcc
          have HE2 := Lib.hid (Eqv.step HE.out hat.sw)
          have hn2' : n2 = n := by rw [← hs2.1, ← hat.sw.length, HSl.out.1]
          subst hn2'
          have HS2 := Lib.hid hs2
          have HD2 := Lib.hid (And.intro hn2 hd2)
          clear hB hs2 hn2 hd2 hb2 hat
          subst hcc
          go_wp2
          go_roundw
          case rel => exact ⟨j + 1, by omega, by go_num, r, A2, d2, rfl, HE2.out, HS2.out, HD2.out.1, HD2.out.2, HB2.out⟩
          case measure => simp [intOf]; omega
        · have hcc' : (cc == 0) = false := by simpa using hcc
          have HS2 := Lib.hid (HSl.out.bel (Bel.of hb2))
          clear hB hs2 hn2 hd2 hb2
          go_wp2
          go_roundw
          case rel => exact ⟨j + 1, by omega, by go_num, m, A1, d1, rfl, HE.out, HS2.out, HD.out.1, HD.out.2, HB2.out⟩
          case measure => simp [intOf]; omega
    · obtain rfl : j = nb := by omega
      go_wp2
      go_ret
      exact ⟨m, A1, d1, rfl, HE.out, HSl.out, HD.out.1, HD.out.2, HB.out⟩
end Go.Proofs.Ytjlomojhbjpdfaa

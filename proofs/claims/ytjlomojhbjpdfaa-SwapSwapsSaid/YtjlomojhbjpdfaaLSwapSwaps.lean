/- 'deadheatlaw.SwapSwaps' returns true for every input and leaves its arguments as they are. No condition. -/
import Derived.Test.YtjlomojhbjpdfaaOpen
import Derived.Test.YtjlomojhbjpdfaaSwU
import Derived.Test.YtjlomojhbjpdfaaSwS
import Derived.Test.YtjlomojhbjpdfaaSwC
import Derived.Test.YtjlomojhbjpdfaaSwR
import Derived.Test.YtjlomojhbjpdfaaRfL
import Derived.Test.YtjlomojhbjpdfaaGrow
set_option linter.all false
set_option maxRecDepth 100000
namespace Go.Proofs.Ytjlomojhbjpdfaa.LSwapSwaps
open Go Go.ChangeShapes Go.WideShapes Go.ChangeAt Go.RowKit

theorem swB_bad {r : List Ev} {c : Int} (h : SwB [⟨0, 0, 0⟩] 0 r c) : r = [] ∧ c = 1 := by
  have h1 : may [⟨0, 0, 0⟩] = 1 := by decide +kernel
  rcases h with ⟨_, h2, h3⟩ | ⟨h2, _⟩ | ⟨h2, _⟩ | ⟨h2, _⟩
  · exact ⟨h2, h3.trans h1⟩
  all_goals (rw [h1] at h2; cases h2)
set_option maxHeartbeats 16000000 in
theorem walkH (HS : SwapC) (HA : ApartC) (W : World) (A : Option Addr) (n c : Nat) (l : List Ev) (s : Sl W A n l) (m : n ≤ c) (x : c ≤ maxLen) (_g : ∀ e ∈ l, EvOk e) (i : Int) (ki : In64 i) :
    Calls Try.prog 4 #[.slice A n c, .int .i64 i] W fun e w' => e = .returned (.bool true) ∧ Below W.heap.size W w' := by
  have HL := Lib.hid s
  have HMX := Lib.hid (And.intro m x)
  have HSC := Lib.hid HS
  have HK := Lib.hid ki
  have HA3 := Lib.hid (show ∀ w, Calls Try.prog 15 #[.agg #[.int .i64 1, .int .i64 0, .int .i64 0], .agg #[.int .i64 1, .int .i64 1, .int .i64 0]] w fun e w' => e = .returned (.bool true) ∧ Below w.heap.size w w' from fun w => HA ⟨1, 0, 0⟩ ⟨1, 1, 0⟩ w)
  have xx : c ≤ 9223372036854775807 := by unfold maxLen at x; omega
  clear s m x HS HA ki
  go_enter Try.func4, Try.ntmps4
  go_wp2_with fail
  refine (HSC.out A n c l i W HL.out HMX.out.1 HMX.out.2 HK.out).mono ?_
  rintro e w1 ⟨r, cc, hB, A1, n1, d1, rfl, hs1, hn1, hd1, hb1⟩
  have hw1 := Bel.of hb1
  go_wp2_with fail
  refine (rmay_any A n c l _ (HL.out.bel hw1) HMX.out.1 xx).mono ?_
  rintro e2 w2 ⟨rfl, hb2⟩
  have hw2 := hw1.call hb2
  have HW2 := Lib.hid hw2
  have HS2 := Lib.hid (hs1.bel (Bel.of hb2))
  have HD1 := Lib.hid (And.intro hn1 hd1)
  clear hb1 hb2 hw1 hw2 hs1 hn1 hd1
  rcases hB with ⟨h1, rfl, rfl⟩ | ⟨h1, h2, rfl, rfl⟩ | ⟨h1, ⟨k, rfl, h3, h4⟩, rfl, rfl⟩ | ⟨h1, ⟨k, rfl, hat⟩, rfl⟩
  · have hn0 : n1 = 0 := HS2.out.1.symm
    subst hn0
    have h9 : (may l != 0) = true := by simpa using h1
    have HWX := Lib.hid HW2.out
    clear h1
    go_wp2_with fail
    refine (wrong_any _).mono ?_
    rintro e5 w5 ⟨A5, c5, rfl, hs5, hd5, hd5', hb5⟩
    have hw5 := HWX.out.call hb5
    go_wp2_with fail
    refine (HSC.out A5 1 c5 _ 0 w5 hs5 hd5 (by unfold maxLen; omega) (by unfold In64; decide)).mono ?_
    rintro e6 w6 ⟨r6, c6, hB6, A6, n6, d6, rfl, hs6, hn6, hd6, hb6⟩
    obtain ⟨rfl, rfl⟩ := swB_bad hB6
    have HW6 := Lib.hid (hw5.call hb6)
    have HL6 := Lib.hid (And.intro (Bel.of hb5) (Bel.of hb6))
    clear hB6 hs5 hd5 hd5' hb5 hs6 hn6 hd6 hb6 hw5
    go_wp2_with fail
    refine (HA3.out _).mono ?_
    rintro e7 w7 ⟨rfl, hb7⟩
    have HW7 := Lib.hid (HW6.out.call hb7)
    clear hb7
    go_wp2
    go_ret
    exact ⟨rfl, HW7.out⟩
  · have hn0 : n1 = 0 := HS2.out.1.symm
    subst hn0
    have HM := Lib.hid h1
    have HWX := Lib.hid HW2.out
    have hnn : (l.length : Int) = n := by rw [HL.out.1]
    rw [hnn] at h2
    have hn80 : n ≤ 80 := by rw [← HL.out.1]; exact ((may_iff l).1 h1).1
    have hwn : IntKind.i64.wrap ((n : Int) - 2) = (n : Int) - 2 := IntWalk.i64_in _ (by omega)
    rw [HM.out]
    clear h1 hnn
    by_cases h5 : i < 0
    · clear h2
      go_wp2_with fail
      refine (wrong_any _).mono ?_
      rintro e5 w5 ⟨A5, c5, rfl, hs5, hd5, hd5', hb5⟩
      have hw5 := HWX.out.call hb5
      go_wp2_with fail
      refine (HSC.out A5 1 c5 _ 0 w5 hs5 hd5 (by unfold maxLen; omega) (by unfold In64; decide)).mono ?_
      rintro e6 w6 ⟨r6, c6, hB6, A6, n6, d6, rfl, hs6, hn6, hd6, hb6⟩
      obtain ⟨rfl, rfl⟩ := swB_bad hB6
      have HW6 := Lib.hid (hw5.call hb6)
      have HL6 := Lib.hid (And.intro (Bel.of hb5) (Bel.of hb6))
      clear hB6 hs5 hd5 hd5' hb5 hs6 hn6 hd6 hb6 hw5
      go_wp2_with fail
      refine (HA3.out _).mono ?_
      rintro e7 w7 ⟨rfl, hb7⟩
      have HW7 := Lib.hid (HW6.out.call hb7)
      clear hb7
      go_wp2
      go_ret
      exact ⟨rfl, HW7.out⟩
    · have h6 : (n : Int) - 2 < i := by omega
      clear h2
      go_wp2_with fail
      refine (wrong_any _).mono ?_
      rintro e5 w5 ⟨A5, c5, rfl, hs5, hd5, hd5', hb5⟩
      have hw5 := HWX.out.call hb5
      go_wp2_with fail
      refine (HSC.out A5 1 c5 _ 0 w5 hs5 hd5 (by unfold maxLen; omega) (by unfold In64; decide)).mono ?_
      rintro e6 w6 ⟨r6, c6, hB6, A6, n6, d6, rfl, hs6, hn6, hd6, hb6⟩
      obtain ⟨rfl, rfl⟩ := swB_bad hB6
      have HW6 := Lib.hid (hw5.call hb6)
      have HL6 := Lib.hid (And.intro (Bel.of hb5) (Bel.of hb6))
      clear hB6 hs5 hd5 hd5' hb5 hs6 hn6 hd6 hb6 hw5
      go_wp2_with fail
      refine (HA3.out _).mono ?_
      rintro e7 w7 ⟨rfl, hb7⟩
      have HW7 := Lib.hid (HW6.out.call hb7)
      clear hb7
      go_wp2
      go_ret
      exact ⟨rfl, HW7.out⟩
  · have hn0 : n1 = 0 := HS2.out.1.symm
    subst hn0
    rw [HL.out.1] at h3
    have HM := Lib.hid h1
    have HWX0 := Lib.hid HW2.out
    have hn80 : n ≤ 80 := by rw [← HL.out.1]; exact ((may_iff l).1 h1).1
    have hwn : IntKind.i64.wrap ((n : Int) - 2) = (n : Int) - 2 := IntWalk.i64_in _ (by omega)
    have hw3 : IntKind.i64.wrap ((k : Int) + 1) = (k : Int) + 1 := IntWalk.i64_in _ (by omega)
    have hw4 : IntKind.i64.wrap (k : Int) = (k : Int) := IntWalk.i64_in _ (by omega)
    have h5 : ¬ (k : Int) < 0 := by omega
    have h6 : ¬ (n : Int) - 2 < (k : Int) := by omega
    have h7 : (k : Int) < n := by omega
    have h8 : (k : Int) + 1 < n := by omega
    obtain ⟨b, o, ea, rfl, g1, he, r1⟩ := (HL.out.bel HW2.out).at_ (show k < n by omega)
    obtain ⟨b', o', eb, e9, g2, hf, r2⟩ := (HL.out.bel HW2.out).at_ (show k + 1 < n by omega)
    cases e9
    have R1 := Lib.hid (fun (w' : World) (h : Bel w2 w') => rangeAt_below h.out g1 r1)
    have R2 := Lib.hid (fun (w' : World) (h : Bel w2 w') => rangeAt_below h.out g2 r2)
    have HRA := Lib.hid (fun w => refapart_any ea eb w)
    have hd : dep ea eb = true := by
      rw [evZ_at he, evZ_at hf] at h4; exact h4
    have HRB := HRA.out
    rw [hd] at HRB
    have HRC := Lib.hid HRB
    rw [HM.out]
    clear h1 h3 h4 he hf r1 r2 g1 g2 HRB hd
    go_wp2
    (refine region_bel (by kernel_rfl) (by kernel_rfl) ?_; (repeat (first | ((with_reducible refine BigFrame.wpQuiet_skip ?_ ?_); exact rfl; simp only [Act.put, Act.eval, List.setIfInBounds_toArray, List.set_cons_zero, List.set_cons_succ, Array.getD_eq_getD_getElem?, List.getElem?_toArray, List.getElem?_cons_zero, List.getElem?_cons_succ, Option.getD_some]) | (refine q_move _ rfl rfl ?_; simp only [Act.put, Act.eval, List.setIfInBounds_toArray, List.set_cons_zero, List.set_cons_succ, Array.getD_eq_getD_getElem?, List.getElem?_toArray, List.getElem?_cons_zero, List.getElem?_cons_succ, Option.getD_some]) | (refine q_assign _ rfl rfl ?_; simp only [Act.put, Act.eval, List.setIfInBounds_toArray, List.set_cons_zero, List.set_cons_succ, Array.getD_eq_getD_getElem?, List.getElem?_toArray, List.getElem?_cons_zero, List.getElem?_cons_succ, Option.getD_some]) | (refine q_load_mid _ _ rfl rfl rfl R1.out T36 (evv ea) rfl ?_; simp only [Act.put, Act.eval, List.setIfInBounds_toArray, List.set_cons_zero, List.set_cons_succ, Array.getD_eq_getD_getElem?, List.getElem?_toArray, List.getElem?_cons_zero, List.getElem?_cons_succ, Option.getD_some]) | (refine q_load_mid _ _ rfl rfl rfl R2.out T36 (evv eb) rfl ?_; simp only [Act.put, Act.eval, List.setIfInBounds_toArray, List.set_cons_zero, List.set_cons_succ, Array.getD_eq_getD_getElem?, List.getElem?_toArray, List.getElem?_cons_zero, List.getElem?_cons_succ, Option.getD_some]) | (refine q_any rfl ?_; apply Exists.intro; refine ⟨fun w hw => ?_, ?_⟩; (go_simp; first | exact ⟨rfl, rfl⟩ | rfl | (go_at_call 16; (with_reducible refine (HRC.out _).mono ?_); rintro e w' ⟨rfl, hb⟩; exact ⟨rfl, hw.call hb⟩)); simp only [Act.put, Act.eval, List.setIfInBounds_toArray, List.set_cons_zero, List.set_cons_succ, Array.getD_eq_getD_getElem?, List.getElem?_toArray, List.getElem?_cons_zero, List.getElem?_cons_succ, Option.getD_some]))); refine wpQuiet_nil ?_; intro w2 hw2)
    have HWX := Lib.hid (HWX0.out.trans hw2)
    go_wp2_with fail
    refine (wrong_any _).mono ?_
    rintro e5 w5 ⟨A5, c5, rfl, hs5, hd5, hd5', hb5⟩
    have hw5 := HWX.out.call hb5
    go_wp2_with fail
    refine (HSC.out A5 1 c5 _ 0 w5 hs5 hd5 (by unfold maxLen; omega) (by unfold In64; decide)).mono ?_
    rintro e6 w6 ⟨r6, c6, hB6, A6, n6, d6, rfl, hs6, hn6, hd6, hb6⟩
    obtain ⟨rfl, rfl⟩ := swB_bad hB6
    have HW6 := Lib.hid (hw5.call hb6)
    have HL6 := Lib.hid (And.intro (Bel.of hb5) (Bel.of hb6))
    clear hB6 hs5 hd5 hd5' hb5 hs6 hn6 hd6 hb6 hw5
    go_wp2_with fail
    refine (HA3.out _).mono ?_
    rintro e7 w7 ⟨rfl, hb7⟩
    have HW7 := Lib.hid (HW6.out.call hb7)
    clear hb7
    go_wp2
    go_ret
    exact ⟨rfl, HW7.out⟩
  · have h3 : k + 1 < n := by have := hat.lt; rwa [HL.out.1] at this
    have hnn : n1 = n := by rw [← HS2.out.1, ← hat.sw.length, HL.out.1]
    subst hnn
    have HM := Lib.hid h1
    have HWX0 := Lib.hid HW2.out
    have hn80 : n1 ≤ 80 := by rw [← HL.out.1]; exact ((may_iff l).1 h1).1
    have hwn : IntKind.i64.wrap ((n1 : Int) - 2) = (n1 : Int) - 2 := IntWalk.i64_in _ (by omega)
    have hw3 : IntKind.i64.wrap ((k : Int) + 1) = (k : Int) + 1 := IntWalk.i64_in _ (by omega)
    have hw4 : IntKind.i64.wrap (k : Int) = (k : Int) := IntWalk.i64_in _ (by omega)
    have h5 : ¬ (k : Int) < 0 := by omega
    have h6 : ¬ (n1 : Int) - 2 < (k : Int) := by omega
    have h7 : (k : Int) < n1 := by omega
    have h8 : (k : Int) + 1 < n1 := by omega
    obtain ⟨b, o, ea, rfl, g1, he, r1⟩ := (HL.out.bel HW2.out).at_ (show k < n1 by omega)
    obtain ⟨b', o', eb, e9, g2, hf, r2⟩ := (HL.out.bel HW2.out).at_ (show k + 1 < n1 by omega)
    cases e9
    have R1 := Lib.hid (fun (w' : World) (h : Bel w2 w') => rangeAt_below h.out g1 r1)
    have R2 := Lib.hid (fun (w' : World) (h : Bel w2 w') => rangeAt_below h.out g2 r2)
    have HRA := Lib.hid (fun w => refapart_any ea eb w)
    have hd : dep ea eb = false := hat.dep he hf
    have HRB := HRA.out
    rw [hd] at HRB
    have HRC := Lib.hid HRB
    have HAT := Lib.hid hat
    have HE1 := Lib.hid he
    have HE2 := Lib.hid hf
    rw [HM.out]
    have HG1 := Lib.hid g1
    clear h1 h3 he hf r1 r2 g1 g2 HRB hd hat
    go_wp2
    (refine region_bel (by kernel_rfl) (by kernel_rfl) ?_; (repeat (first | ((with_reducible refine BigFrame.wpQuiet_skip ?_ ?_); exact rfl; simp only [Act.put, Act.eval, List.setIfInBounds_toArray, List.set_cons_zero, List.set_cons_succ, Array.getD_eq_getD_getElem?, List.getElem?_toArray, List.getElem?_cons_zero, List.getElem?_cons_succ, Option.getD_some]) | (refine q_move _ rfl rfl ?_; simp only [Act.put, Act.eval, List.setIfInBounds_toArray, List.set_cons_zero, List.set_cons_succ, Array.getD_eq_getD_getElem?, List.getElem?_toArray, List.getElem?_cons_zero, List.getElem?_cons_succ, Option.getD_some]) | (refine q_assign _ rfl rfl ?_; simp only [Act.put, Act.eval, List.setIfInBounds_toArray, List.set_cons_zero, List.set_cons_succ, Array.getD_eq_getD_getElem?, List.getElem?_toArray, List.getElem?_cons_zero, List.getElem?_cons_succ, Option.getD_some]) | (refine q_load_mid _ _ rfl rfl rfl R1.out T36 (evv ea) rfl ?_; simp only [Act.put, Act.eval, List.setIfInBounds_toArray, List.set_cons_zero, List.set_cons_succ, Array.getD_eq_getD_getElem?, List.getElem?_toArray, List.getElem?_cons_zero, List.getElem?_cons_succ, Option.getD_some]) | (refine q_load_mid _ _ rfl rfl rfl R2.out T36 (evv eb) rfl ?_; simp only [Act.put, Act.eval, List.setIfInBounds_toArray, List.set_cons_zero, List.set_cons_succ, Array.getD_eq_getD_getElem?, List.getElem?_toArray, List.getElem?_cons_zero, List.getElem?_cons_succ, Option.getD_some]) | (refine q_any rfl ?_; apply Exists.intro; refine ⟨fun w hw => ?_, ?_⟩; (go_simp; first | exact ⟨rfl, rfl⟩ | rfl | (go_at_call 16; (with_reducible refine (HRC.out _).mono ?_); rintro e w' ⟨rfl, hb⟩; exact ⟨rfl, hw.call hb⟩)); simp only [Act.put, Act.eval, List.setIfInBounds_toArray, List.set_cons_zero, List.set_cons_succ, Array.getD_eq_getD_getElem?, List.getElem?_toArray, List.getElem?_cons_zero, List.getElem?_cons_succ, Option.getD_some]))); refine wpQuiet_nil ?_; intro w2 hw2)
    have HWX := Lib.hid (HWX0.out.trans hw2)
    have HB2 := Lib.hid hw2
    clear hw2
    go_wp2_with fail
    refine (wrong_any _).mono ?_
    rintro e5 w5 ⟨A5, c5, rfl, hs5, hd5, hd5', hb5⟩
    have hw5 := HWX.out.call hb5
    go_wp2_with fail
    refine (HSC.out A5 1 c5 _ 0 w5 hs5 hd5 (by unfold maxLen; omega) (by unfold In64; decide)).mono ?_
    rintro e6 w6 ⟨r6, c6, hB6, A6, n6, d6, rfl, hs6, hn6, hd6, hb6⟩
    obtain ⟨rfl, rfl⟩ := swB_bad hB6
    have HW6 := Lib.hid (hw5.call hb6)
    have HL6 := Lib.hid (And.intro (Bel.of hb5) (Bel.of hb6))
    clear hB6 hs5 hd5 hd5' hb5 hs6 hn6 hd6 hb6 hw5
    have HB6 := Lib.hid (HB2.out.trans (Bel.trans HL6.out.1 HL6.out.2))
    go_wp2_with fail
    refine (copyev_any (some ⟨b, o, none⟩) n1 c l _ (HL.out.bel HW6.out) (by omega)).mono ?_
    rintro e8 w8 ⟨v8, rfl, ho8, hb8⟩
    obtain ⟨g, cap, cur, rfl, hg, hcap, hcm, hbox, hrow⟩ := own_rows ho8 (by omega)
    have HW8 := Lib.hid (HW6.out.call hb8)
    have HB68 := Lib.hid (Bel.of hb8)
    have HB8 := Lib.hid (HB6.out.call hb8)
    have HBX := Lib.hid hbox
    have HRW := Lib.hid hrow
    have hGL := Lib.hid (Box.lt hbox)
    have hkc : (k : Int) ≤ cap := by omega
    have h90 : (0 : Int) ≤ (k : Int) + 1 := by omega
    have HGE := Lib.hid hg
    have HBG := Lib.hid (show b < g from Nat.lt_of_lt_of_le (HG1.out) (Nat.le_trans HB6.out.size hg))
    have RA := Lib.hid (R1.out _ HB8.out)
    have RB := Lib.hid (R2.out _ HB8.out)
    clear ho8 hb8 hbox hrow hg
    go_wp2
    refine region_growN g (by kernel_rfl) ?_
    have FA := fun (w1 : World) (h1 : Below g w8 w1) => rangeAt_below h1 HBG.out RA.out
    have FB := fun (w1 : World) (h1 : Below g w8 w1) => rangeAt_below h1 HBG.out RB.out
    (repeat (first | (refine wpG_go 0 (by simp only [List.getElem?_toArray, List.getElem?_cons_zero, List.getElem?_cons_succ] <;> rfl) (by decide +kernel) (by decide +kernel) (by kernel_rfl) (by rfl) (by exact fun _ _ _ _ h => h) (Nat.le_of_lt hGL.out) ?_; apply Exists.intro; refine ⟨fun w1 h1 => ?_, ?_⟩; (first | exact g_move _ rfl | exact g_assign _ rfl | exact g_load_mid _ _ rfl rfl (FA w1 h1) T36 (evv ea) rfl | exact g_load_mid _ _ rfl rfl (FB w1 h1) T36 (evv eb) rfl | (go_simp; first | exact ⟨rfl, rfl⟩ | rfl)); simp only [Act.put, Act.eval, List.setIfInBounds_toArray, List.set_cons_zero, List.set_cons_succ, Array.getD_eq_getD_getElem?, List.getElem?_toArray, List.getElem?_cons_zero, List.getElem?_cons_succ, Option.getD_some]) | (refine wpG_go 1 (by simp only [List.getElem?_toArray, List.getElem?_cons_zero, List.getElem?_cons_succ] <;> rfl) (by decide +kernel) (by decide +kernel) (by kernel_rfl) (by rfl) (by exact fun _ _ _ _ h => h) (Nat.le_of_lt hGL.out) ?_; apply Exists.intro; refine ⟨fun w1 h1 => ?_, ?_⟩; (first | exact g_move _ rfl | exact g_assign _ rfl | exact g_load_mid _ _ rfl rfl (FA w1 h1) T36 (evv ea) rfl | exact g_load_mid _ _ rfl rfl (FB w1 h1) T36 (evv eb) rfl | (go_simp; first | exact ⟨rfl, rfl⟩ | rfl)); simp only [Act.put, Act.eval, List.setIfInBounds_toArray, List.set_cons_zero, List.set_cons_succ, Array.getD_eq_getD_getElem?, List.getElem?_toArray, List.getElem?_cons_zero, List.getElem?_cons_succ, Option.getD_some]) | (refine wpG_go 2 (by simp only [List.getElem?_toArray, List.getElem?_cons_zero, List.getElem?_cons_succ] <;> rfl) (by decide +kernel) (by decide +kernel) (by kernel_rfl) (by rfl) (by exact fun _ _ _ _ h => h) (Nat.le_of_lt hGL.out) ?_; apply Exists.intro; refine ⟨fun w1 h1 => ?_, ?_⟩; (first | exact g_move _ rfl | exact g_assign _ rfl | exact g_load_mid _ _ rfl rfl (FA w1 h1) T36 (evv ea) rfl | exact g_load_mid _ _ rfl rfl (FB w1 h1) T36 (evv eb) rfl | (go_simp; first | exact ⟨rfl, rfl⟩ | rfl)); simp only [Act.put, Act.eval, List.setIfInBounds_toArray, List.set_cons_zero, List.set_cons_succ, Array.getD_eq_getD_getElem?, List.getElem?_toArray, List.getElem?_cons_zero, List.getElem?_cons_succ, Option.getD_some]) | (refine wpG_go 3 (by simp only [List.getElem?_toArray, List.getElem?_cons_zero, List.getElem?_cons_succ] <;> rfl) (by decide +kernel) (by decide +kernel) (by kernel_rfl) (by rfl) (by exact fun _ _ _ _ h => h) (Nat.le_of_lt hGL.out) ?_; apply Exists.intro; refine ⟨fun w1 h1 => ?_, ?_⟩; (first | exact g_move _ rfl | exact g_assign _ rfl | exact g_load_mid _ _ rfl rfl (FA w1 h1) T36 (evv ea) rfl | exact g_load_mid _ _ rfl rfl (FB w1 h1) T36 (evv eb) rfl | (go_simp; first | exact ⟨rfl, rfl⟩ | rfl)); simp only [Act.put, Act.eval, List.setIfInBounds_toArray, List.set_cons_zero, List.set_cons_succ, Array.getD_eq_getD_getElem?, List.getElem?_toArray, List.getElem?_cons_zero, List.getElem?_cons_succ, Option.getD_some]) | (refine wpG_go 4 (by simp only [List.getElem?_toArray, List.getElem?_cons_zero, List.getElem?_cons_succ] <;> rfl) (by decide +kernel) (by decide +kernel) (by kernel_rfl) (by rfl) (by exact fun _ _ _ _ h => h) (Nat.le_of_lt hGL.out) ?_; apply Exists.intro; refine ⟨fun w1 h1 => ?_, ?_⟩; (first | exact g_move _ rfl | exact g_assign _ rfl | exact g_load_mid _ _ rfl rfl (FA w1 h1) T36 (evv ea) rfl | exact g_load_mid _ _ rfl rfl (FB w1 h1) T36 (evv eb) rfl | (go_simp; first | exact ⟨rfl, rfl⟩ | rfl)); simp only [Act.put, Act.eval, List.setIfInBounds_toArray, List.set_cons_zero, List.set_cons_succ, Array.getD_eq_getD_getElem?, List.getElem?_toArray, List.getElem?_cons_zero, List.getElem?_cons_succ, Option.getD_some]) | (refine wpG_go 5 (by simp only [List.getElem?_toArray, List.getElem?_cons_zero, List.getElem?_cons_succ] <;> rfl) (by decide +kernel) (by decide +kernel) (by kernel_rfl) (by rfl) (by exact fun _ _ _ _ h => h) (Nat.le_of_lt hGL.out) ?_; apply Exists.intro; refine ⟨fun w1 h1 => ?_, ?_⟩; (first | exact g_move _ rfl | exact g_assign _ rfl | exact g_load_mid _ _ rfl rfl (FA w1 h1) T36 (evv ea) rfl | exact g_load_mid _ _ rfl rfl (FB w1 h1) T36 (evv eb) rfl | (go_simp; first | exact ⟨rfl, rfl⟩ | rfl)); simp only [Act.put, Act.eval, List.setIfInBounds_toArray, List.set_cons_zero, List.set_cons_succ, Array.getD_eq_getD_getElem?, List.getElem?_toArray, List.getElem?_cons_zero, List.getElem?_cons_succ, Option.getD_some]) | (refine wpG_go 6 (by simp only [List.getElem?_toArray, List.getElem?_cons_zero, List.getElem?_cons_succ] <;> rfl) (by decide +kernel) (by decide +kernel) (by kernel_rfl) (by rfl) (by exact fun _ _ _ _ h => h) (Nat.le_of_lt hGL.out) ?_; apply Exists.intro; refine ⟨fun w1 h1 => ?_, ?_⟩; (first | exact g_move _ rfl | exact g_assign _ rfl | exact g_load_mid _ _ rfl rfl (FA w1 h1) T36 (evv ea) rfl | exact g_load_mid _ _ rfl rfl (FB w1 h1) T36 (evv eb) rfl | (go_simp; first | exact ⟨rfl, rfl⟩ | rfl)); simp only [Act.put, Act.eval, List.setIfInBounds_toArray, List.set_cons_zero, List.set_cons_succ, Array.getD_eq_getD_getElem?, List.getElem?_toArray, List.getElem?_cons_zero, List.getElem?_cons_succ, Option.getD_some]) | (refine wpG_go 7 (by simp only [List.getElem?_toArray, List.getElem?_cons_zero, List.getElem?_cons_succ] <;> rfl) (by decide +kernel) (by decide +kernel) (by kernel_rfl) (by rfl) (by exact fun _ _ _ _ h => h) (Nat.le_of_lt hGL.out) ?_; apply Exists.intro; refine ⟨fun w1 h1 => ?_, ?_⟩; (first | exact g_move _ rfl | exact g_assign _ rfl | exact g_load_mid _ _ rfl rfl (FA w1 h1) T36 (evv ea) rfl | exact g_load_mid _ _ rfl rfl (FB w1 h1) T36 (evv eb) rfl | (go_simp; first | exact ⟨rfl, rfl⟩ | rfl)); simp only [Act.put, Act.eval, List.setIfInBounds_toArray, List.set_cons_zero, List.set_cons_succ, Array.getD_eq_getD_getElem?, List.getElem?_toArray, List.getElem?_cons_zero, List.getElem?_cons_succ, Option.getD_some]) | (refine wpG_go 8 (by simp only [List.getElem?_toArray, List.getElem?_cons_zero, List.getElem?_cons_succ] <;> rfl) (by decide +kernel) (by decide +kernel) (by kernel_rfl) (by rfl) (by exact fun _ _ _ _ h => h) (Nat.le_of_lt hGL.out) ?_; apply Exists.intro; refine ⟨fun w1 h1 => ?_, ?_⟩; (first | exact g_move _ rfl | exact g_assign _ rfl | exact g_load_mid _ _ rfl rfl (FA w1 h1) T36 (evv ea) rfl | exact g_load_mid _ _ rfl rfl (FB w1 h1) T36 (evv eb) rfl | (go_simp; first | exact ⟨rfl, rfl⟩ | rfl)); simp only [Act.put, Act.eval, List.setIfInBounds_toArray, List.set_cons_zero, List.set_cons_succ, Array.getD_eq_getD_getElem?, List.getElem?_toArray, List.getElem?_cons_zero, List.getElem?_cons_succ, Option.getD_some]) | (refine wpG_go 9 (by simp only [List.getElem?_toArray, List.getElem?_cons_zero, List.getElem?_cons_succ] <;> rfl) (by decide +kernel) (by decide +kernel) (by kernel_rfl) (by rfl) (by exact fun _ _ _ _ h => h) (Nat.le_of_lt hGL.out) ?_; apply Exists.intro; refine ⟨fun w1 h1 => ?_, ?_⟩; (first | exact g_move _ rfl | exact g_assign _ rfl | exact g_load_mid _ _ rfl rfl (FA w1 h1) T36 (evv ea) rfl | exact g_load_mid _ _ rfl rfl (FB w1 h1) T36 (evv eb) rfl | (go_simp; first | exact ⟨rfl, rfl⟩ | rfl)); simp only [Act.put, Act.eval, List.setIfInBounds_toArray, List.set_cons_zero, List.set_cons_succ, Array.getD_eq_getD_getElem?, List.getElem?_toArray, List.getElem?_cons_zero, List.getElem?_cons_succ, Option.getD_some]) | (refine wpG_go 10 (by simp only [List.getElem?_toArray, List.getElem?_cons_zero, List.getElem?_cons_succ] <;> rfl) (by decide +kernel) (by decide +kernel) (by kernel_rfl) (by rfl) (by exact fun _ _ _ _ h => h) (Nat.le_of_lt hGL.out) ?_; apply Exists.intro; refine ⟨fun w1 h1 => ?_, ?_⟩; (first | exact g_move _ rfl | exact g_assign _ rfl | exact g_load_mid _ _ rfl rfl (FA w1 h1) T36 (evv ea) rfl | exact g_load_mid _ _ rfl rfl (FB w1 h1) T36 (evv eb) rfl | (go_simp; first | exact ⟨rfl, rfl⟩ | rfl)); simp only [Act.put, Act.eval, List.setIfInBounds_toArray, List.set_cons_zero, List.set_cons_succ, Array.getD_eq_getD_getElem?, List.getElem?_toArray, List.getElem?_cons_zero, List.getElem?_cons_succ, Option.getD_some]) | (refine wpG_go 11 (by simp only [List.getElem?_toArray, List.getElem?_cons_zero, List.getElem?_cons_succ] <;> rfl) (by decide +kernel) (by decide +kernel) (by kernel_rfl) (by rfl) (by exact fun _ _ _ _ h => h) (Nat.le_of_lt hGL.out) ?_; apply Exists.intro; refine ⟨fun w1 h1 => ?_, ?_⟩; (first | exact g_move _ rfl | exact g_assign _ rfl | exact g_load_mid _ _ rfl rfl (FA w1 h1) T36 (evv ea) rfl | exact g_load_mid _ _ rfl rfl (FB w1 h1) T36 (evv eb) rfl | (go_simp; first | exact ⟨rfl, rfl⟩ | rfl)); simp only [Act.put, Act.eval, List.setIfInBounds_toArray, List.set_cons_zero, List.set_cons_succ, Array.getD_eq_getD_getElem?, List.getElem?_toArray, List.getElem?_cons_zero, List.getElem?_cons_succ, Option.getD_some]) | (refine wpG_go 12 (by simp only [List.getElem?_toArray, List.getElem?_cons_zero, List.getElem?_cons_succ] <;> rfl) (by decide +kernel) (by decide +kernel) (by kernel_rfl) (by rfl) (by exact fun _ _ _ _ h => h) (Nat.le_of_lt hGL.out) ?_; apply Exists.intro; refine ⟨fun w1 h1 => ?_, ?_⟩; (first | exact g_move _ rfl | exact g_assign _ rfl | exact g_load_mid _ _ rfl rfl (FA w1 h1) T36 (evv ea) rfl | exact g_load_mid _ _ rfl rfl (FB w1 h1) T36 (evv eb) rfl | (go_simp; first | exact ⟨rfl, rfl⟩ | rfl)); simp only [Act.put, Act.eval, List.setIfInBounds_toArray, List.set_cons_zero, List.set_cons_succ, Array.getD_eq_getD_getElem?, List.getElem?_toArray, List.getElem?_cons_zero, List.getElem?_cons_succ, Option.getD_some]) | (refine wpG_go 13 (by simp only [List.getElem?_toArray, List.getElem?_cons_zero, List.getElem?_cons_succ] <;> rfl) (by decide +kernel) (by decide +kernel) (by kernel_rfl) (by rfl) (by exact fun _ _ _ _ h => h) (Nat.le_of_lt hGL.out) ?_; apply Exists.intro; refine ⟨fun w1 h1 => ?_, ?_⟩; (first | exact g_move _ rfl | exact g_assign _ rfl | exact g_load_mid _ _ rfl rfl (FA w1 h1) T36 (evv ea) rfl | exact g_load_mid _ _ rfl rfl (FB w1 h1) T36 (evv eb) rfl | (go_simp; first | exact ⟨rfl, rfl⟩ | rfl)); simp only [Act.put, Act.eval, List.setIfInBounds_toArray, List.set_cons_zero, List.set_cons_succ, Array.getD_eq_getD_getElem?, List.getElem?_toArray, List.getElem?_cons_zero, List.getElem?_cons_succ, Option.getD_some]) | (refine wpG_go 14 (by simp only [List.getElem?_toArray, List.getElem?_cons_zero, List.getElem?_cons_succ] <;> rfl) (by decide +kernel) (by decide +kernel) (by kernel_rfl) (by rfl) (by exact fun _ _ _ _ h => h) (Nat.le_of_lt hGL.out) ?_; apply Exists.intro; refine ⟨fun w1 h1 => ?_, ?_⟩; (first | exact g_move _ rfl | exact g_assign _ rfl | exact g_load_mid _ _ rfl rfl (FA w1 h1) T36 (evv ea) rfl | exact g_load_mid _ _ rfl rfl (FB w1 h1) T36 (evv eb) rfl | (go_simp; first | exact ⟨rfl, rfl⟩ | rfl)); simp only [Act.put, Act.eval, List.setIfInBounds_toArray, List.set_cons_zero, List.set_cons_succ, Array.getD_eq_getD_getElem?, List.getElem?_toArray, List.getElem?_cons_zero, List.getElem?_cons_succ, Option.getD_some]) | (refine wpG_go 16 (by simp only [List.getElem?_toArray, List.getElem?_cons_zero, List.getElem?_cons_succ] <;> rfl) (by decide +kernel) (by decide +kernel) (by kernel_rfl) (by rfl) (by exact fun _ _ _ _ h => h) (Nat.le_of_lt hGL.out) ?_; apply Exists.intro; refine ⟨fun w1 h1 => ?_, ?_⟩; (first | exact g_move _ rfl | exact g_assign _ rfl | exact g_load_mid _ _ rfl rfl (FA w1 h1) T36 (evv ea) rfl | exact g_load_mid _ _ rfl rfl (FB w1 h1) T36 (evv eb) rfl | (go_simp; first | exact ⟨rfl, rfl⟩ | rfl)); simp only [Act.put, Act.eval, List.setIfInBounds_toArray, List.set_cons_zero, List.set_cons_succ, Array.getD_eq_getD_getElem?, List.getElem?_toArray, List.getElem?_cons_zero, List.getElem?_cons_succ, Option.getD_some]) | (refine wpG_skip 0 (by simp only [List.getElem?_toArray, List.getElem?_cons_zero, List.getElem?_cons_succ] <;> rfl) (by decide +kernel) (by decide +kernel) (by kernel_rfl) (by rfl) (by exact fun _ _ _ _ h => h) (Nat.le_of_lt hGL.out) ?_; simp only [Act.put, Act.eval, List.setIfInBounds_toArray, List.set_cons_zero, List.set_cons_succ, Array.getD_eq_getD_getElem?, List.getElem?_toArray, List.getElem?_cons_zero, List.getElem?_cons_succ, Option.getD_some]) | (refine wpG_skip 1 (by simp only [List.getElem?_toArray, List.getElem?_cons_zero, List.getElem?_cons_succ] <;> rfl) (by decide +kernel) (by decide +kernel) (by kernel_rfl) (by rfl) (by exact fun _ _ _ _ h => h) (Nat.le_of_lt hGL.out) ?_; simp only [Act.put, Act.eval, List.setIfInBounds_toArray, List.set_cons_zero, List.set_cons_succ, Array.getD_eq_getD_getElem?, List.getElem?_toArray, List.getElem?_cons_zero, List.getElem?_cons_succ, Option.getD_some]) | (refine wpG_skip 2 (by simp only [List.getElem?_toArray, List.getElem?_cons_zero, List.getElem?_cons_succ] <;> rfl) (by decide +kernel) (by decide +kernel) (by kernel_rfl) (by rfl) (by exact fun _ _ _ _ h => h) (Nat.le_of_lt hGL.out) ?_; simp only [Act.put, Act.eval, List.setIfInBounds_toArray, List.set_cons_zero, List.set_cons_succ, Array.getD_eq_getD_getElem?, List.getElem?_toArray, List.getElem?_cons_zero, List.getElem?_cons_succ, Option.getD_some]) | (refine wpG_skip 3 (by simp only [List.getElem?_toArray, List.getElem?_cons_zero, List.getElem?_cons_succ] <;> rfl) (by decide +kernel) (by decide +kernel) (by kernel_rfl) (by rfl) (by exact fun _ _ _ _ h => h) (Nat.le_of_lt hGL.out) ?_; simp only [Act.put, Act.eval, List.setIfInBounds_toArray, List.set_cons_zero, List.set_cons_succ, Array.getD_eq_getD_getElem?, List.getElem?_toArray, List.getElem?_cons_zero, List.getElem?_cons_succ, Option.getD_some]) | (refine wpG_skip 4 (by simp only [List.getElem?_toArray, List.getElem?_cons_zero, List.getElem?_cons_succ] <;> rfl) (by decide +kernel) (by decide +kernel) (by kernel_rfl) (by rfl) (by exact fun _ _ _ _ h => h) (Nat.le_of_lt hGL.out) ?_; simp only [Act.put, Act.eval, List.setIfInBounds_toArray, List.set_cons_zero, List.set_cons_succ, Array.getD_eq_getD_getElem?, List.getElem?_toArray, List.getElem?_cons_zero, List.getElem?_cons_succ, Option.getD_some]) | (refine wpG_skip 5 (by simp only [List.getElem?_toArray, List.getElem?_cons_zero, List.getElem?_cons_succ] <;> rfl) (by decide +kernel) (by decide +kernel) (by kernel_rfl) (by rfl) (by exact fun _ _ _ _ h => h) (Nat.le_of_lt hGL.out) ?_; simp only [Act.put, Act.eval, List.setIfInBounds_toArray, List.set_cons_zero, List.set_cons_succ, Array.getD_eq_getD_getElem?, List.getElem?_toArray, List.getElem?_cons_zero, List.getElem?_cons_succ, Option.getD_some]) | (refine wpG_skip 6 (by simp only [List.getElem?_toArray, List.getElem?_cons_zero, List.getElem?_cons_succ] <;> rfl) (by decide +kernel) (by decide +kernel) (by kernel_rfl) (by rfl) (by exact fun _ _ _ _ h => h) (Nat.le_of_lt hGL.out) ?_; simp only [Act.put, Act.eval, List.setIfInBounds_toArray, List.set_cons_zero, List.set_cons_succ, Array.getD_eq_getD_getElem?, List.getElem?_toArray, List.getElem?_cons_zero, List.getElem?_cons_succ, Option.getD_some]) | (refine wpG_skip 7 (by simp only [List.getElem?_toArray, List.getElem?_cons_zero, List.getElem?_cons_succ] <;> rfl) (by decide +kernel) (by decide +kernel) (by kernel_rfl) (by rfl) (by exact fun _ _ _ _ h => h) (Nat.le_of_lt hGL.out) ?_; simp only [Act.put, Act.eval, List.setIfInBounds_toArray, List.set_cons_zero, List.set_cons_succ, Array.getD_eq_getD_getElem?, List.getElem?_toArray, List.getElem?_cons_zero, List.getElem?_cons_succ, Option.getD_some]) | (refine wpG_skip 8 (by simp only [List.getElem?_toArray, List.getElem?_cons_zero, List.getElem?_cons_succ] <;> rfl) (by decide +kernel) (by decide +kernel) (by kernel_rfl) (by rfl) (by exact fun _ _ _ _ h => h) (Nat.le_of_lt hGL.out) ?_; simp only [Act.put, Act.eval, List.setIfInBounds_toArray, List.set_cons_zero, List.set_cons_succ, Array.getD_eq_getD_getElem?, List.getElem?_toArray, List.getElem?_cons_zero, List.getElem?_cons_succ, Option.getD_some]) | (refine wpG_skip 9 (by simp only [List.getElem?_toArray, List.getElem?_cons_zero, List.getElem?_cons_succ] <;> rfl) (by decide +kernel) (by decide +kernel) (by kernel_rfl) (by rfl) (by exact fun _ _ _ _ h => h) (Nat.le_of_lt hGL.out) ?_; simp only [Act.put, Act.eval, List.setIfInBounds_toArray, List.set_cons_zero, List.set_cons_succ, Array.getD_eq_getD_getElem?, List.getElem?_toArray, List.getElem?_cons_zero, List.getElem?_cons_succ, Option.getD_some]) | (refine wpG_skip 10 (by simp only [List.getElem?_toArray, List.getElem?_cons_zero, List.getElem?_cons_succ] <;> rfl) (by decide +kernel) (by decide +kernel) (by kernel_rfl) (by rfl) (by exact fun _ _ _ _ h => h) (Nat.le_of_lt hGL.out) ?_; simp only [Act.put, Act.eval, List.setIfInBounds_toArray, List.set_cons_zero, List.set_cons_succ, Array.getD_eq_getD_getElem?, List.getElem?_toArray, List.getElem?_cons_zero, List.getElem?_cons_succ, Option.getD_some]) | (refine wpG_skip 11 (by simp only [List.getElem?_toArray, List.getElem?_cons_zero, List.getElem?_cons_succ] <;> rfl) (by decide +kernel) (by decide +kernel) (by kernel_rfl) (by rfl) (by exact fun _ _ _ _ h => h) (Nat.le_of_lt hGL.out) ?_; simp only [Act.put, Act.eval, List.setIfInBounds_toArray, List.set_cons_zero, List.set_cons_succ, Array.getD_eq_getD_getElem?, List.getElem?_toArray, List.getElem?_cons_zero, List.getElem?_cons_succ, Option.getD_some]) | (refine wpG_skip 12 (by simp only [List.getElem?_toArray, List.getElem?_cons_zero, List.getElem?_cons_succ] <;> rfl) (by decide +kernel) (by decide +kernel) (by kernel_rfl) (by rfl) (by exact fun _ _ _ _ h => h) (Nat.le_of_lt hGL.out) ?_; simp only [Act.put, Act.eval, List.setIfInBounds_toArray, List.set_cons_zero, List.set_cons_succ, Array.getD_eq_getD_getElem?, List.getElem?_toArray, List.getElem?_cons_zero, List.getElem?_cons_succ, Option.getD_some]) | (refine wpG_skip 13 (by simp only [List.getElem?_toArray, List.getElem?_cons_zero, List.getElem?_cons_succ] <;> rfl) (by decide +kernel) (by decide +kernel) (by kernel_rfl) (by rfl) (by exact fun _ _ _ _ h => h) (Nat.le_of_lt hGL.out) ?_; simp only [Act.put, Act.eval, List.setIfInBounds_toArray, List.set_cons_zero, List.set_cons_succ, Array.getD_eq_getD_getElem?, List.getElem?_toArray, List.getElem?_cons_zero, List.getElem?_cons_succ, Option.getD_some]) | (refine wpG_skip 14 (by simp only [List.getElem?_toArray, List.getElem?_cons_zero, List.getElem?_cons_succ] <;> rfl) (by decide +kernel) (by decide +kernel) (by kernel_rfl) (by rfl) (by exact fun _ _ _ _ h => h) (Nat.le_of_lt hGL.out) ?_; simp only [Act.put, Act.eval, List.setIfInBounds_toArray, List.set_cons_zero, List.set_cons_succ, Array.getD_eq_getD_getElem?, List.getElem?_toArray, List.getElem?_cons_zero, List.getElem?_cons_succ, Option.getD_some]) | (refine wpG_skip 16 (by simp only [List.getElem?_toArray, List.getElem?_cons_zero, List.getElem?_cons_succ] <;> rfl) (by decide +kernel) (by decide +kernel) (by kernel_rfl) (by rfl) (by exact fun _ _ _ _ h => h) (Nat.le_of_lt hGL.out) ?_; simp only [Act.put, Act.eval, List.setIfInBounds_toArray, List.set_cons_zero, List.set_cons_succ, Array.getD_eq_getD_getElem?, List.getElem?_toArray, List.getElem?_cons_zero, List.getElem?_cons_succ, Option.getD_some])))
    (refine wpG_one 15 (by decide +kernel) ?_; intro wA hwA; refine op_wanted (by simp only [List.getElem?_toArray, List.getElem?_cons_zero, List.getElem?_cons_succ] <;> rfl) rfl ?_)
    have HA0 := hwA.box HBX.out
    refine wp_store_mid 23 _ _ rfl g (k * 3) (evv eb) rfl rfl (there_row HA0 (HRW.out k ea HE1.out)) (by kernel_rfl) (evv_all _) ⟨below_set3 (Nat.le_refl _) _ _ _, ?_⟩
    simp only [Act.put, Act.eval, List.setIfInBounds_toArray, List.set_cons_zero, List.set_cons_succ, Array.getD_eq_getD_getElem?, List.getElem?_toArray, List.getElem?_cons_zero, List.getElem?_cons_succ, Option.getD_some]
    have HA1 := HA0.set3 (k * 3) eb
    have hGL1 := HA1.lt
    (repeat (first | (refine wpG_go 16 (by simp only [List.getElem?_toArray, List.getElem?_cons_zero, List.getElem?_cons_succ] <;> rfl) (by decide +kernel) (by decide +kernel) (by kernel_rfl) (by rfl) (by exact fun _ _ _ _ h => h) (Nat.le_of_lt hGL1) ?_; apply Exists.intro; refine ⟨fun w1 h1 => ?_, ?_⟩; (first | exact g_move _ rfl | exact g_assign _ rfl | (go_simp; first | exact ⟨rfl, rfl⟩ | rfl)); simp only [Act.put, Act.eval, List.setIfInBounds_toArray, List.set_cons_zero, List.set_cons_succ, Array.getD_eq_getD_getElem?, List.getElem?_toArray, List.getElem?_cons_zero, List.getElem?_cons_succ, Option.getD_some]) | (refine wpG_skip 16 (by simp only [List.getElem?_toArray, List.getElem?_cons_zero, List.getElem?_cons_succ] <;> rfl) (by decide +kernel) (by decide +kernel) (by kernel_rfl) (by rfl) (by exact fun _ _ _ _ h => h) (Nat.le_of_lt hGL1) ?_; simp only [Act.put, Act.eval, List.setIfInBounds_toArray, List.set_cons_zero, List.set_cons_succ, Array.getD_eq_getD_getElem?, List.getElem?_toArray, List.getElem?_cons_zero, List.getElem?_cons_succ, Option.getD_some])))
    (refine wpG_one 17 (by decide +kernel) ?_; intro wB hwB; refine op_wanted (by simp only [List.getElem?_toArray, List.getElem?_cons_zero, List.getElem?_cons_succ] <;> rfl) rfl ?_)
    have HB0 := hwB.box HA1
    refine wp_store_mid 23 _ _ rfl g ((k + 1) * 3) (evv ea) rfl rfl (there_row HB0 ((HRW.out (k + 1) eb HE2.out).set_ne (by omega))) (by kernel_rfl) (evv_all _) ⟨below_set3 (Nat.le_refl _) _ _ _, ?_⟩
    simp only [Act.put, Act.eval, List.setIfInBounds_toArray, List.set_cons_zero, List.set_cons_succ, Array.getD_eq_getD_getElem?, List.getElem?_toArray, List.getElem?_cons_zero, List.getElem?_cons_succ, Option.getD_some]
    have HB1 := HB0.set3 ((k + 1) * 3) ea
    (refine wpG_done (by decide +kernel) ?_ _; intro wC hwC; try simp only [Act.put, Act.eval, List.setIfInBounds_toArray, List.set_cons_zero, List.set_cons_succ, Array.getD_eq_getD_getElem?, List.getElem?_toArray, List.getElem?_cons_zero, List.getElem?_cons_succ, Option.getD_some])
    have HSW := Lib.hid (swap_rows (hwC.box HB1) HRW.out HAT.out HL.out.1 HE1.out HE2.out)
    have HGS := Lib.hid (Bel.size HW8.out)
    have HWC := Lib.hid (show Bel w6 wC from Bel.of ((HB68.out.out.trans (hwA.out.mono (Bel.size HB68.out))).trans ((below_set3 HGE.out _ _ _).trans ((hwB.out.mono (Nat.le_trans (Bel.size HB68.out) (Nat.le_trans hwA.size (set3_le _ _ _ _)))).trans ((below_set3 HGE.out _ _ _).trans (hwC.out.mono (Nat.le_trans (Bel.size HB68.out) (Nat.le_trans hwA.size (Nat.le_trans (set3_le _ _ _ _) (Nat.le_trans hwB.size (set3_le _ _ _ _)))))))))))
    have HS9 := Lib.hid (HS2.out.bel ((HB6.out.trans HWC.out)))
    have HWZ := Lib.hid (HW6.out.trans HWC.out)
    clear hwA hwB hwC HA0 HA1 HB0 HB1 FA FB hGL1
    go_wp2_with fail
    refine (eqev_any A1 (some ⟨g, 0, none⟩) n1 d1 n1 cap r r _ HS9.out HSW.out HD1.out.1 hcap HD1.out.2 hcm).mono ?_
    rintro e10 w10 ⟨rfl, hb10⟩
    rw [decide_eq_true rfl]
    have HW10 := Lib.hid (HWZ.out.call hb10)
    clear hb10
    go_wp2
    go_ret
    exact ⟨rfl, HW10.out⟩
theorem walk (W : World) (A : Option Addr) (n c : Nat) (l : List Ev) (s : Sl W A n l) (m : n ≤ c) (x : c ≤ maxLen) (g : ∀ e ∈ l, EvOk e) (i : Int) (ki : In64 i) :
    Calls Try.prog 4 #[.slice A n c, .int .i64 i] W fun e w' => e = .returned (.bool true) ∧ Below W.heap.size W w' := walkH swap_any apart_any W A n c l s m x g i ki
set_option maxRecDepth 100000 in
theorem lifted (os : Os) (started : os.Started) (H : Type) (enc : TypeId × Value → H) :
    ReturnsInHanded {} Try.checked os 4 .any (Rows.swapSwapsSpec.pre6 enc Try.prog Try.f4 Rows.swapSwapsRow.domain false) (Rows.swapSwapsSpec.post enc Try.prog Try.f4 false true false false) := by
  refine returnsInHanded_of_change_sized (C := Try.checked) own started (by kernel_rfl) Try.func4
    (ChangeSpec.witness6 (enc := enc) (C := Try.checked) false ⟨#[], #[.slice none 0 0, .int .i64 0], []⟩ 8 (by kernel_rfl) (by kernel_rfl) (by kernel_rfl) (by kernel_rfl)) ?_
  intro W base args ds gs before hval0 hW hcnd hsz0 _
  have hsz : (DataW.weightsEach Try.prog (Try.f4.params.toList ++ Rows.swapSwapsSpec.plain.varTypes Try.prog) (ds ++ gs)).all (· ≤ reachBytes) = true := hsz0
  clear hsz0
  have hval : ∀ (j : Nat) t v, Try.f4.params[j]? = some t → args[j]? = some v → Value.okWide Try.prog W .any base t v := hval0
  have hW' := hW
  obtain ⟨p, q, hA0, hV, rfl, hfz, hnd⟩ := hW
  have hA : DataW.TrodAll enc Try.prog W 0 (fun _ => true) true Try.f4.params.toList args.toList ds p := hA0
  rw [Try.params4] at hA hval hsz
  obtain ⟨v0, vs0, d0, ds0, p0, q0, hargs, rfl, rfl, h0, r0⟩ := trodAll_cons hA
  obtain ⟨v1, vs1, d1, ds1, p1, q1, rfl, rfl, rfl, h1, r1⟩ := trodAll_cons r0
  obtain ⟨rfl, rfl, rfl⟩ := trodAll_nil r1
  obtain rfl : args = #[v0, v1] := by cases args; simp_all
  obtain ⟨rfl, rfl⟩ := trodVars_none hV
  have t0 := h0
  have lt0 : ∀ x ∈ p0, x.block < W.heap.size := by obtain ⟨m, hm⟩ := t0; exact DataW.trod_lt m _ _ _ hm
  have t1 := h1
  have lt1 : ∀ x ∈ p1, x.block < W.heap.size := by obtain ⟨m, hm⟩ := t1; exact DataW.trod_lt m _ _ _ hm
  obtain ⟨A0, n0, c0, l0, rfl, s0, m0, x0, g0, z0⟩ := open_evs Try.underlying25 Try.underlying23 ⟨rfl, rfl, rfl⟩ (by kernel_rfl) (by kernel_rfl) Try.underlying3 (hval 0 25 v0 rfl rfl) h0
  have y0 := reach_sl hsz (j := 0) rfl rfl Try.underlying25 (b := 24) (by kernel_rfl) z0
  obtain ⟨a1, rfl, _, _, x1⟩ := open_int Try.underlying3 (hval 1 3 v1 rfl rfl) h1
  have k1 := in64_of x1
  clear hA0 hval0
  refine (walk W A0 n0 c0 l0 s0 m0 x0 g0 a1 k1).mono fun e W' ⟨he, bel⟩ => ?_
  subst he
  exact ⟨_, rfl, _, _, _, [], _, [], hW', trodAll_mk1 (shut_bool Try.underlying4 _), (trodAll_cons_mk (Below.trod laidOut (by kernel_rfl) (of_decide_eq_true (by kernel_rfl)) t0 bel lt0) (trodAll_cons_mk (Below.trod laidOut (by kernel_rfl) (of_decide_eq_true (by kernel_rfl)) t1 bel lt1) trodAll_mk0)), rfl, bel.frame _, fun h => by cases h⟩

theorem over : Rows.swapSwapsRow.holds Try.pinned (OpenSpec.ofChange Rows.swapSwapsSpec) :=
  OpenClaim.holds_of_wide 4 Try.f4 rfl rfl rfl rfl rfl rfl rfl ⟨rfl, rfl, rfl, rfl, rfl⟩ rfl rfl rfl rfl rfl (by kernel_rfl) Try.func4 (by kernel_rfl)
    (of_decide_eq_true (by kernel_rfl)) (by unfold Func.isWrapper; first | (rw [if_pos (by decide +kernel)]; kernel_rfl) | (rw [if_neg (by decide +kernel)]; exact ⟨rfl, rfl⟩))
    (fun os started H enc _ => lifted os started H enc)

theorem proved : Rows.SwapSwapsSaid := over
#print axioms proved
end Go.Proofs.Ytjlomojhbjpdfaa.LSwapSwaps

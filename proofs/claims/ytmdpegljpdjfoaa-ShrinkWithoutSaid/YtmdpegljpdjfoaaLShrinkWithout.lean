/- 'deadheatlaw.ShrinkWithout' returns true for every input and leaves its arguments as they are. No condition. -/
import Derived.Test.YtmdpegljpdjfoaaShM
import Derived.Test.YtmdpegljpdjfoaaOpen
import Derived.Test.YtmdpegljpdjfoaaKeepSh
import Derived.Test.YtmdpegljpdjfoaaEqEv
import Derived.Test.YtmdpegljpdjfoaaGrow
import Derived.Test.YtmdpegljpdjfoaaCp
set_option linter.all false
set_option maxRecDepth 100000
namespace Go.Proofs.Ytmdpegljpdjfoaa.LShrinkWithout
open Go Go.ChangeShapes Go.WideShapes Go.ChangeAt Go.RowKit

theorem min_nil : MinB [] [] 7 := .inr (.inl ⟨by decide +kernel, by decide +kernel, rfl, rfl⟩)
theorem sl_nil (w : World) : Sl w none 0 [] := ⟨rfl, fun h => absurd h (Nat.lt_irrefl 0)⟩
set_option maxHeartbeats 16000000 in
theorem walkH (HWo : WithoutC) (HMi : MinC) (W : World) (A : Option Addr) (n c : Nat) (l : List Ev) (s : Sl W A n l) (m : n ≤ c) (x : c ≤ maxLen) (_g : ∀ e ∈ l, EvOk e) (i : Int) (ki : In64 i) :
    Calls Try.prog 3 #[.slice A n c, .int .i64 i] W fun e w' => e = .returned (.bool true) ∧ Below W.heap.size W w' := by
  have HL := Lib.hid s
  have HMX := Lib.hid (And.intro m x)
  have xx : c ≤ 9223372036854775807 := by unfold maxLen at x; omega
  unfold MinC at HMi
  unfold WithoutC at HWo
  have HMC := Lib.hid (fun w => HMi none 0 0 [] w (sl_nil w) (Nat.le_refl _) (Nat.zero_le _))
  have HWC := Lib.hid HWo
  have HK := Lib.hid ki
  clear s m x HMi HWo ki
  go_enter Try.func3, Try.ntmps3
  go_wp2_with fail
  refine (HWC.out A n c l i W HL.out HMX.out.1 HMX.out.2 HK.out).mono ?_
  rintro e1 w1 ⟨r, cc, hB, v, rfl, ho, hb1⟩
  obtain ⟨A1, d1, rfl, hs1, hn1, hm1⟩ := Sl.own ho
  have hw1 := Bel.of hb1
  go_wp2_with fail
  refine (rmay_any A n c l _ (HL.out.bel hw1.out) HMX.out.1 xx).mono ?_
  rintro e2 w2 ⟨rfl, hb2⟩
  have HW2 := Lib.hid (hw1.call hb2)
  have HS2 := Lib.hid (hs1.bel hb2)
  have HD1 := Lib.hid (And.intro hn1 hm1)
  clear hb1 hb2 hw1 ho hs1 hn1 hm1
  rcases hB with ⟨h1, rfl, rfl⟩ | ⟨h1, h2, rfl, rfl⟩ | ⟨h1, ⟨k, rfl, hk, hmk⟩, rfl, rfl⟩ | ⟨h1, ⟨k, rfl, hk, hmk, rfl⟩, rfl⟩
  · have h9 : (may l == 0) = false := by simpa using h1
    have h8 : ((may l : Int) == may l) = true := by simp
    clear h1
    go_wp2_with fail
    refine (HMC.out _).mono ?_
    rintro e5 w5 ⟨r5, c5, hB5, v5, rfl, _, hb5⟩
    obtain ⟨rfl, rfl⟩ := minB_uniq hB5 min_nil
    have HW5 := Lib.hid (HW2.out.call hb5)
    have HS5 := Lib.hid (HS2.out.bel hb5)
    clear hB5 hb5
    go_wp2_with fail
    refine (eqev_any A1 none _ d1 0 0 _ [] w5 HS5.out (sl_nil _) HD1.out.1 (Nat.le_refl _) HD1.out.2 (Nat.zero_le _)).mono ?_
    rintro e6 w6 ⟨rfl, hb6⟩
    rw [decide_eq_true rfl]
    have HW6 := Lib.hid (HW5.out.call hb6)
    clear hb6
    go_wp2
    go_ret
    exact ⟨rfl, HW6.out.out⟩
  · rw [HL.out.1] at h2
    rw [h1]
    have HT := Lib.hid (show ∀ w : World, w = w from fun _ => rfl)
    by_cases h5 : i < 0
    · clear h2
      go_wp2_with fail
      refine (HMC.out _).mono ?_
      rintro e5 w5 ⟨r5, c5, hB5, v5, rfl, _, hb5⟩
      obtain ⟨rfl, rfl⟩ := minB_uniq hB5 min_nil
      have HW5 := Lib.hid (HW2.out.call hb5)
      have HS5 := Lib.hid (HS2.out.bel hb5)
      clear hB5 hb5
      go_wp2_with fail
      refine (eqev_any A1 none _ d1 0 0 _ [] w5 HS5.out (sl_nil _) HD1.out.1 (Nat.le_refl _) HD1.out.2 (Nat.zero_le _)).mono ?_
      rintro e6 w6 ⟨rfl, hb6⟩
      rw [decide_eq_true rfl]
      have HW6 := Lib.hid (HW5.out.call hb6)
      clear hb6
      go_wp2
      go_ret
      exact ⟨rfl, HW6.out.out⟩
    · have h6 : (n : Int) ≤ i := by omega
      clear h2
      go_wp2_with fail
      refine (HMC.out _).mono ?_
      rintro e5 w5 ⟨r5, c5, hB5, v5, rfl, _, hb5⟩
      obtain ⟨rfl, rfl⟩ := minB_uniq hB5 min_nil
      have HW5 := Lib.hid (HW2.out.call hb5)
      have HS5 := Lib.hid (HS2.out.bel hb5)
      clear hB5 hb5
      go_wp2_with fail
      refine (eqev_any A1 none _ d1 0 0 _ [] w5 HS5.out (sl_nil _) HD1.out.1 (Nat.le_refl _) HD1.out.2 (Nat.zero_le _)).mono ?_
      rintro e6 w6 ⟨rfl, hb6⟩
      rw [decide_eq_true rfl]
      have HW6 := Lib.hid (HW5.out.call hb6)
      clear hb6
      go_wp2
      go_ret
      exact ⟨rfl, HW6.out.out⟩
  · rw [HL.out.1] at hk
    rw [h1]
    have HMK := Lib.hid hmk
    have hn80 : n ≤ 80 := by rw [← HL.out.1]; exact ((may_iff l).1 h1).1
    have hkn : (k : Int) < n := by omega
    have hkc : (k : Int) ≤ c := by have := HMX.out.1; omega
    have hw8 : IntKind.i64.wrap ((k : Int) + 1) = (k : Int) + 1 := IntWalk.i64_in _ (by omega)
    have hj1 : (k : Int) + 1 ≤ n := by omega
    have h5 : ¬ (k : Int) < 0 := by omega
    have h6 : ¬ (n : Int) ≤ (k : Int) := by omega
    have hnc := HMX.out.1
    obtain ⟨b, o, e0, rfl, _, _, _⟩ := HL.out.at_ hk
    have HSA := Lib.hid ((HL.out.bel HW2.out.out).take (Nat.le_of_lt hk))
    have HSD0 := Sl.drop (c := c) (j := k + 1) (HL.out.bel HW2.out.out) (by omega) HMX.out.1
    simp only [Option.map_some, Addr.add_lit] at HSD0
    have HLD := Lib.hid (show (evc (l.drop (k + 1))).length = (n - (k + 1)) * 3 by rw [evc_length, List.length_drop, HL.out.1])
    have hln := HL.out.1
    obtain ⟨i0, hi0, hz0, hz1, hz2⟩ := info_parts ev_info
    clear h1 hmk
    go_wp2
    refine region_grow (by kernel_rfl) ?_
    (repeat (first | (refine wpG_go 0 (by simp only [List.getElem?_toArray, List.getElem?_cons_zero, List.getElem?_cons_succ] <;> rfl) (by decide +kernel) (by decide +kernel) (by kernel_rfl) (by rfl) (by exact fun _ _ _ _ h => h) (Nat.le_refl _) ?_; apply Exists.intro; refine ⟨fun w1 h1 => ?_, ?_⟩; (first | exact g_move _ rfl | exact g_assign _ rfl | (go_simp; first | exact ⟨rfl, rfl⟩ | rfl)); simp only [Act.put, Act.eval, List.setIfInBounds_toArray, List.set_cons_zero, List.set_cons_succ, Array.getD_eq_getD_getElem?, List.getElem?_toArray, List.getElem?_cons_zero, List.getElem?_cons_succ, Option.getD_some]) | (refine wpG_go 1 (by simp only [List.getElem?_toArray, List.getElem?_cons_zero, List.getElem?_cons_succ] <;> rfl) (by decide +kernel) (by decide +kernel) (by kernel_rfl) (by rfl) (by exact fun _ _ _ _ h => h) (Nat.le_refl _) ?_; apply Exists.intro; refine ⟨fun w1 h1 => ?_, ?_⟩; (first | exact g_move _ rfl | exact g_assign _ rfl | (go_simp; first | exact ⟨rfl, rfl⟩ | rfl)); simp only [Act.put, Act.eval, List.setIfInBounds_toArray, List.set_cons_zero, List.set_cons_succ, Array.getD_eq_getD_getElem?, List.getElem?_toArray, List.getElem?_cons_zero, List.getElem?_cons_succ, Option.getD_some]) | (refine wpG_go 2 (by simp only [List.getElem?_toArray, List.getElem?_cons_zero, List.getElem?_cons_succ] <;> rfl) (by decide +kernel) (by decide +kernel) (by kernel_rfl) (by rfl) (by exact fun _ _ _ _ h => h) (Nat.le_refl _) ?_; apply Exists.intro; refine ⟨fun w1 h1 => ?_, ?_⟩; (first | exact g_move _ rfl | exact g_assign _ rfl | (go_simp; first | exact ⟨rfl, rfl⟩ | rfl)); simp only [Act.put, Act.eval, List.setIfInBounds_toArray, List.set_cons_zero, List.set_cons_succ, Array.getD_eq_getD_getElem?, List.getElem?_toArray, List.getElem?_cons_zero, List.getElem?_cons_succ, Option.getD_some]) | (refine wpG_go 4 (by simp only [List.getElem?_toArray, List.getElem?_cons_zero, List.getElem?_cons_succ] <;> rfl) (by decide +kernel) (by decide +kernel) (by kernel_rfl) (by rfl) (by exact fun _ _ _ _ h => h) (Nat.le_refl _) ?_; apply Exists.intro; refine ⟨fun w1 h1 => ?_, ?_⟩; (first | exact g_move _ rfl | exact g_assign _ rfl | (go_simp; first | exact ⟨rfl, rfl⟩ | rfl)); simp only [Act.put, Act.eval, List.setIfInBounds_toArray, List.set_cons_zero, List.set_cons_succ, Array.getD_eq_getD_getElem?, List.getElem?_toArray, List.getElem?_cons_zero, List.getElem?_cons_succ, Option.getD_some]) | (refine wpG_go 5 (by simp only [List.getElem?_toArray, List.getElem?_cons_zero, List.getElem?_cons_succ] <;> rfl) (by decide +kernel) (by decide +kernel) (by kernel_rfl) (by rfl) (by exact fun _ _ _ _ h => h) (Nat.le_refl _) ?_; apply Exists.intro; refine ⟨fun w1 h1 => ?_, ?_⟩; (first | exact g_move _ rfl | exact g_assign _ rfl | (go_simp; first | exact ⟨rfl, rfl⟩ | rfl)); simp only [Act.put, Act.eval, List.setIfInBounds_toArray, List.set_cons_zero, List.set_cons_succ, Array.getD_eq_getD_getElem?, List.getElem?_toArray, List.getElem?_cons_zero, List.getElem?_cons_succ, Option.getD_some]) | (refine wpG_go 6 (by simp only [List.getElem?_toArray, List.getElem?_cons_zero, List.getElem?_cons_succ] <;> rfl) (by decide +kernel) (by decide +kernel) (by kernel_rfl) (by rfl) (by exact fun _ _ _ _ h => h) (Nat.le_refl _) ?_; apply Exists.intro; refine ⟨fun w1 h1 => ?_, ?_⟩; (first | exact g_move _ rfl | exact g_assign _ rfl | (go_simp; first | exact ⟨rfl, rfl⟩ | rfl)); simp only [Act.put, Act.eval, List.setIfInBounds_toArray, List.set_cons_zero, List.set_cons_succ, Array.getD_eq_getD_getElem?, List.getElem?_toArray, List.getElem?_cons_zero, List.getElem?_cons_succ, Option.getD_some]) | (refine wpG_go 7 (by simp only [List.getElem?_toArray, List.getElem?_cons_zero, List.getElem?_cons_succ] <;> rfl) (by decide +kernel) (by decide +kernel) (by kernel_rfl) (by rfl) (by exact fun _ _ _ _ h => h) (Nat.le_refl _) ?_; apply Exists.intro; refine ⟨fun w1 h1 => ?_, ?_⟩; (first | exact g_move _ rfl | exact g_assign _ rfl | (go_simp; first | exact ⟨rfl, rfl⟩ | rfl)); simp only [Act.put, Act.eval, List.setIfInBounds_toArray, List.set_cons_zero, List.set_cons_succ, Array.getD_eq_getD_getElem?, List.getElem?_toArray, List.getElem?_cons_zero, List.getElem?_cons_succ, Option.getD_some]) | (refine wpG_skip 0 (by simp only [List.getElem?_toArray, List.getElem?_cons_zero, List.getElem?_cons_succ] <;> rfl) (by decide +kernel) (by decide +kernel) (by kernel_rfl) (by rfl) (by exact fun _ _ _ _ h => h) (Nat.le_refl _) ?_; simp only [Act.put, Act.eval, List.setIfInBounds_toArray, List.set_cons_zero, List.set_cons_succ, Array.getD_eq_getD_getElem?, List.getElem?_toArray, List.getElem?_cons_zero, List.getElem?_cons_succ, Option.getD_some]) | (refine wpG_skip 1 (by simp only [List.getElem?_toArray, List.getElem?_cons_zero, List.getElem?_cons_succ] <;> rfl) (by decide +kernel) (by decide +kernel) (by kernel_rfl) (by rfl) (by exact fun _ _ _ _ h => h) (Nat.le_refl _) ?_; simp only [Act.put, Act.eval, List.setIfInBounds_toArray, List.set_cons_zero, List.set_cons_succ, Array.getD_eq_getD_getElem?, List.getElem?_toArray, List.getElem?_cons_zero, List.getElem?_cons_succ, Option.getD_some]) | (refine wpG_skip 2 (by simp only [List.getElem?_toArray, List.getElem?_cons_zero, List.getElem?_cons_succ] <;> rfl) (by decide +kernel) (by decide +kernel) (by kernel_rfl) (by rfl) (by exact fun _ _ _ _ h => h) (Nat.le_refl _) ?_; simp only [Act.put, Act.eval, List.setIfInBounds_toArray, List.set_cons_zero, List.set_cons_succ, Array.getD_eq_getD_getElem?, List.getElem?_toArray, List.getElem?_cons_zero, List.getElem?_cons_succ, Option.getD_some]) | (refine wpG_skip 4 (by simp only [List.getElem?_toArray, List.getElem?_cons_zero, List.getElem?_cons_succ] <;> rfl) (by decide +kernel) (by decide +kernel) (by kernel_rfl) (by rfl) (by exact fun _ _ _ _ h => h) (Nat.le_refl _) ?_; simp only [Act.put, Act.eval, List.setIfInBounds_toArray, List.set_cons_zero, List.set_cons_succ, Array.getD_eq_getD_getElem?, List.getElem?_toArray, List.getElem?_cons_zero, List.getElem?_cons_succ, Option.getD_some]) | (refine wpG_skip 5 (by simp only [List.getElem?_toArray, List.getElem?_cons_zero, List.getElem?_cons_succ] <;> rfl) (by decide +kernel) (by decide +kernel) (by kernel_rfl) (by rfl) (by exact fun _ _ _ _ h => h) (Nat.le_refl _) ?_; simp only [Act.put, Act.eval, List.setIfInBounds_toArray, List.set_cons_zero, List.set_cons_succ, Array.getD_eq_getD_getElem?, List.getElem?_toArray, List.getElem?_cons_zero, List.getElem?_cons_succ, Option.getD_some]) | (refine wpG_skip 6 (by simp only [List.getElem?_toArray, List.getElem?_cons_zero, List.getElem?_cons_succ] <;> rfl) (by decide +kernel) (by decide +kernel) (by kernel_rfl) (by rfl) (by exact fun _ _ _ _ h => h) (Nat.le_refl _) ?_; simp only [Act.put, Act.eval, List.setIfInBounds_toArray, List.set_cons_zero, List.set_cons_succ, Array.getD_eq_getD_getElem?, List.getElem?_toArray, List.getElem?_cons_zero, List.getElem?_cons_succ, Option.getD_some]) | (refine wpG_skip 7 (by simp only [List.getElem?_toArray, List.getElem?_cons_zero, List.getElem?_cons_succ] <;> rfl) (by decide +kernel) (by decide +kernel) (by kernel_rfl) (by rfl) (by exact fun _ _ _ _ h => h) (Nat.le_refl _) ?_; simp only [Act.put, Act.eval, List.setIfInBounds_toArray, List.set_cons_zero, List.set_cons_succ, Array.getD_eq_getD_getElem?, List.getElem?_toArray, List.getElem?_cons_zero, List.getElem?_cons_succ, Option.getD_some])))
    generalize (if c = k + 1 then some (⟨b, o, none⟩ : Addr) else some ⟨b, o + (k + 1) * 3, none⟩) = AD at *
    have HSD := Lib.hid HSD0
    clear HSD0
    (refine wpG_one 3 (by decide +kernel) ?_; intro y1 hy1; refine op_wanted (by simp only [List.getElem?_toArray, List.getElem?_cons_zero, List.getElem?_cons_succ] <;> rfl) rfl ?_)
    have hE1 : Bel w2 y1 := (Bel.refl w2).trans hy1
    go_simp
    refine (copyev_any (some ⟨b, o, none⟩) k c (l.take k) _ (HSA.out.bel hE1.out) (by omega)).mono ?_
    rintro e3 u1 ⟨vc, rfl, hoc, hbc⟩
    refine ⟨hbc.mono hE1.size, ?_⟩
    have hoc := own_drop_alloc hoc hE1.size
    have hC1 := hE1.trans (Bel.of hbc)
    clear hbc
    (refine wpG_one 8 (by decide +kernel) ?_; intro y2 hy2; refine op_wanted (by simp only [List.getElem?_toArray, List.getElem?_cons_zero, List.getElem?_cons_succ] <;> rfl) rfl ?_)
    have hE2 := hC1.trans hy2
    have hoc := own_bel hoc hy2
    refine wp_append_src (.tmp 36) (.tmp 40) _ rfl w2.heap.size 29 i0 _ 3 24 Try.underlying22 hi0 hz0 hz1 hz2 rfl (by omega) vc k (evc (l.take k)) rfl hoc AD (n - (k + 1)) (c - (k + 1)) (evc (l.drop (k + 1))) rfl HLD.out (HSD.out.bel hE2.out).src (evc_one _) (by unfold maxLen; omega) (by omega) hE2.size ?_
    intro v3 u3 ho3 hg3 hat3
    refine ⟨grown_below hg3 hoc (Nat.le_refl _) hE2.size, ?_⟩
    simp only [Act.put, Act.eval, List.setIfInBounds_toArray, List.set_cons_zero, List.set_cons_succ, Array.getD_eq_getD_getElem?, List.getElem?_toArray, List.getElem?_cons_zero, List.getElem?_cons_succ, Option.getD_some]
    have hC3 : Bel w2 u3 := Bel.of (hE2.out.trans (grown_below hg3 hoc (Nat.le_refl _) hE2.size))
    rw [← evc_append, show k + (n - (k + 1)) = n - 1 by omega, ← List.eraseIdx_eq_take_drop_succ] at ho3
    (repeat (first | (refine wpG_go 9 (by simp only [List.getElem?_toArray, List.getElem?_cons_zero, List.getElem?_cons_succ] <;> rfl) (by decide +kernel) (by decide +kernel) (by kernel_rfl) (by rfl) (by exact fun _ _ _ _ h => h) hC3.size ?_; apply Exists.intro; refine ⟨fun w1 h1 => ?_, ?_⟩; (first | exact g_move _ rfl | exact g_assign _ rfl | (go_simp; first | exact ⟨rfl, rfl⟩ | rfl)); simp only [Act.put, Act.eval, List.setIfInBounds_toArray, List.set_cons_zero, List.set_cons_succ, Array.getD_eq_getD_getElem?, List.getElem?_toArray, List.getElem?_cons_zero, List.getElem?_cons_succ, Option.getD_some]) | (refine wpG_skip 9 (by simp only [List.getElem?_toArray, List.getElem?_cons_zero, List.getElem?_cons_succ] <;> rfl) (by decide +kernel) (by decide +kernel) (by kernel_rfl) (by rfl) (by exact fun _ _ _ _ h => h) hC3.size ?_; simp only [Act.put, Act.eval, List.setIfInBounds_toArray, List.set_cons_zero, List.set_cons_succ, Array.getD_eq_getD_getElem?, List.getElem?_toArray, List.getElem?_cons_zero, List.getElem?_cons_succ, Option.getD_some])))
    (refine wpG_done (by decide +kernel) ?_ _; intro wz hwz; try simp only [Act.put, Act.eval, List.setIfInBounds_toArray, List.set_cons_zero, List.set_cons_succ, Array.getD_eq_getD_getElem?, List.getElem?_toArray, List.getElem?_cons_zero, List.getElem?_cons_succ, Option.getD_some])
    obtain ⟨Az, cz, rfl, sz, nz, mz⟩ := Sl.own (own_bel ho3 hwz)
    have HSZ := Lib.hid (And.intro sz (And.intro nz mz))
    have HWZ := Lib.hid (HW2.out.trans (hC3.trans hwz))
    have HS3 := Lib.hid (HS2.out.bel (hC3.trans hwz).out)
    have xz : cz ≤ 9223372036854775807 := by unfold maxLen at mz; omega
    clear hy1 hE1 hoc hC1 hy2 hE2 ho3 hg3 hat3 hC3 hwz sz nz mz hi0 hz0 hz1 hz2
    go_wp2_with fail
    refine (rmay_any Az _ cz _ _ HSZ.out.1 HSZ.out.2.1 xz).mono ?_
    rintro e7 w7 ⟨rfl, hb7⟩
    have HW7 := Lib.hid (HWZ.out.call hb7)
    have HS7 := Lib.hid (HS3.out.bel hb7)
    have HZ7 := Lib.hid (HSZ.out.1.bel hb7)
    clear hb7
    have h9 : (may (l.eraseIdx k) != 0) = true := by simpa using HMK.out
    go_wp2_with fail
    refine (HMC.out _).mono ?_
    rintro e5 w5 ⟨r5, c5, hB5, v5, rfl, _, hb5⟩
    obtain ⟨rfl, rfl⟩ := minB_uniq hB5 min_nil
    have HW5 := Lib.hid (HW7.out.call hb5)
    have HS5 := Lib.hid (HS7.out.bel hb5)
    have HZ5 := Lib.hid (HZ7.out.bel hb5)
    clear hB5 hb5
    go_wp2_with fail
    refine (eqev_any A1 none _ d1 0 0 _ [] w5 HS5.out (sl_nil _) HD1.out.1 (Nat.le_refl _) HD1.out.2 (Nat.zero_le _)).mono ?_
    rintro e6 w6 ⟨rfl, hb6⟩
    rw [decide_eq_true rfl]
    have HW6 := Lib.hid (HW5.out.call hb6)
    clear hb6
    go_wp2
    go_ret
    exact ⟨rfl, HW6.out.out⟩
  · rw [HL.out.1] at hk
    rw [h1]
    have HMK := Lib.hid hmk
    have hn80 : n ≤ 80 := by rw [← HL.out.1]; exact ((may_iff l).1 h1).1
    have hkn : (k : Int) < n := by omega
    have hkc : (k : Int) ≤ c := by have := HMX.out.1; omega
    have hw8 : IntKind.i64.wrap ((k : Int) + 1) = (k : Int) + 1 := IntWalk.i64_in _ (by omega)
    have hj1 : (k : Int) + 1 ≤ n := by omega
    have h5 : ¬ (k : Int) < 0 := by omega
    have h6 : ¬ (n : Int) ≤ (k : Int) := by omega
    have hnc := HMX.out.1
    obtain ⟨b, o, e0, rfl, _, _, _⟩ := HL.out.at_ hk
    have HSA := Lib.hid ((HL.out.bel HW2.out.out).take (Nat.le_of_lt hk))
    have HSD0 := Sl.drop (c := c) (j := k + 1) (HL.out.bel HW2.out.out) (by omega) HMX.out.1
    simp only [Option.map_some, Addr.add_lit] at HSD0
    have HLD := Lib.hid (show (evc (l.drop (k + 1))).length = (n - (k + 1)) * 3 by rw [evc_length, List.length_drop, HL.out.1])
    have hln := HL.out.1
    obtain ⟨i0, hi0, hz0, hz1, hz2⟩ := info_parts ev_info
    clear h1 hmk
    go_wp2
    refine region_grow (by kernel_rfl) ?_
    (repeat (first | (refine wpG_go 0 (by simp only [List.getElem?_toArray, List.getElem?_cons_zero, List.getElem?_cons_succ] <;> rfl) (by decide +kernel) (by decide +kernel) (by kernel_rfl) (by rfl) (by exact fun _ _ _ _ h => h) (Nat.le_refl _) ?_; apply Exists.intro; refine ⟨fun w1 h1 => ?_, ?_⟩; (first | exact g_move _ rfl | exact g_assign _ rfl | (go_simp; first | exact ⟨rfl, rfl⟩ | rfl)); simp only [Act.put, Act.eval, List.setIfInBounds_toArray, List.set_cons_zero, List.set_cons_succ, Array.getD_eq_getD_getElem?, List.getElem?_toArray, List.getElem?_cons_zero, List.getElem?_cons_succ, Option.getD_some]) | (refine wpG_go 1 (by simp only [List.getElem?_toArray, List.getElem?_cons_zero, List.getElem?_cons_succ] <;> rfl) (by decide +kernel) (by decide +kernel) (by kernel_rfl) (by rfl) (by exact fun _ _ _ _ h => h) (Nat.le_refl _) ?_; apply Exists.intro; refine ⟨fun w1 h1 => ?_, ?_⟩; (first | exact g_move _ rfl | exact g_assign _ rfl | (go_simp; first | exact ⟨rfl, rfl⟩ | rfl)); simp only [Act.put, Act.eval, List.setIfInBounds_toArray, List.set_cons_zero, List.set_cons_succ, Array.getD_eq_getD_getElem?, List.getElem?_toArray, List.getElem?_cons_zero, List.getElem?_cons_succ, Option.getD_some]) | (refine wpG_go 2 (by simp only [List.getElem?_toArray, List.getElem?_cons_zero, List.getElem?_cons_succ] <;> rfl) (by decide +kernel) (by decide +kernel) (by kernel_rfl) (by rfl) (by exact fun _ _ _ _ h => h) (Nat.le_refl _) ?_; apply Exists.intro; refine ⟨fun w1 h1 => ?_, ?_⟩; (first | exact g_move _ rfl | exact g_assign _ rfl | (go_simp; first | exact ⟨rfl, rfl⟩ | rfl)); simp only [Act.put, Act.eval, List.setIfInBounds_toArray, List.set_cons_zero, List.set_cons_succ, Array.getD_eq_getD_getElem?, List.getElem?_toArray, List.getElem?_cons_zero, List.getElem?_cons_succ, Option.getD_some]) | (refine wpG_go 4 (by simp only [List.getElem?_toArray, List.getElem?_cons_zero, List.getElem?_cons_succ] <;> rfl) (by decide +kernel) (by decide +kernel) (by kernel_rfl) (by rfl) (by exact fun _ _ _ _ h => h) (Nat.le_refl _) ?_; apply Exists.intro; refine ⟨fun w1 h1 => ?_, ?_⟩; (first | exact g_move _ rfl | exact g_assign _ rfl | (go_simp; first | exact ⟨rfl, rfl⟩ | rfl)); simp only [Act.put, Act.eval, List.setIfInBounds_toArray, List.set_cons_zero, List.set_cons_succ, Array.getD_eq_getD_getElem?, List.getElem?_toArray, List.getElem?_cons_zero, List.getElem?_cons_succ, Option.getD_some]) | (refine wpG_go 5 (by simp only [List.getElem?_toArray, List.getElem?_cons_zero, List.getElem?_cons_succ] <;> rfl) (by decide +kernel) (by decide +kernel) (by kernel_rfl) (by rfl) (by exact fun _ _ _ _ h => h) (Nat.le_refl _) ?_; apply Exists.intro; refine ⟨fun w1 h1 => ?_, ?_⟩; (first | exact g_move _ rfl | exact g_assign _ rfl | (go_simp; first | exact ⟨rfl, rfl⟩ | rfl)); simp only [Act.put, Act.eval, List.setIfInBounds_toArray, List.set_cons_zero, List.set_cons_succ, Array.getD_eq_getD_getElem?, List.getElem?_toArray, List.getElem?_cons_zero, List.getElem?_cons_succ, Option.getD_some]) | (refine wpG_go 6 (by simp only [List.getElem?_toArray, List.getElem?_cons_zero, List.getElem?_cons_succ] <;> rfl) (by decide +kernel) (by decide +kernel) (by kernel_rfl) (by rfl) (by exact fun _ _ _ _ h => h) (Nat.le_refl _) ?_; apply Exists.intro; refine ⟨fun w1 h1 => ?_, ?_⟩; (first | exact g_move _ rfl | exact g_assign _ rfl | (go_simp; first | exact ⟨rfl, rfl⟩ | rfl)); simp only [Act.put, Act.eval, List.setIfInBounds_toArray, List.set_cons_zero, List.set_cons_succ, Array.getD_eq_getD_getElem?, List.getElem?_toArray, List.getElem?_cons_zero, List.getElem?_cons_succ, Option.getD_some]) | (refine wpG_go 7 (by simp only [List.getElem?_toArray, List.getElem?_cons_zero, List.getElem?_cons_succ] <;> rfl) (by decide +kernel) (by decide +kernel) (by kernel_rfl) (by rfl) (by exact fun _ _ _ _ h => h) (Nat.le_refl _) ?_; apply Exists.intro; refine ⟨fun w1 h1 => ?_, ?_⟩; (first | exact g_move _ rfl | exact g_assign _ rfl | (go_simp; first | exact ⟨rfl, rfl⟩ | rfl)); simp only [Act.put, Act.eval, List.setIfInBounds_toArray, List.set_cons_zero, List.set_cons_succ, Array.getD_eq_getD_getElem?, List.getElem?_toArray, List.getElem?_cons_zero, List.getElem?_cons_succ, Option.getD_some]) | (refine wpG_skip 0 (by simp only [List.getElem?_toArray, List.getElem?_cons_zero, List.getElem?_cons_succ] <;> rfl) (by decide +kernel) (by decide +kernel) (by kernel_rfl) (by rfl) (by exact fun _ _ _ _ h => h) (Nat.le_refl _) ?_; simp only [Act.put, Act.eval, List.setIfInBounds_toArray, List.set_cons_zero, List.set_cons_succ, Array.getD_eq_getD_getElem?, List.getElem?_toArray, List.getElem?_cons_zero, List.getElem?_cons_succ, Option.getD_some]) | (refine wpG_skip 1 (by simp only [List.getElem?_toArray, List.getElem?_cons_zero, List.getElem?_cons_succ] <;> rfl) (by decide +kernel) (by decide +kernel) (by kernel_rfl) (by rfl) (by exact fun _ _ _ _ h => h) (Nat.le_refl _) ?_; simp only [Act.put, Act.eval, List.setIfInBounds_toArray, List.set_cons_zero, List.set_cons_succ, Array.getD_eq_getD_getElem?, List.getElem?_toArray, List.getElem?_cons_zero, List.getElem?_cons_succ, Option.getD_some]) | (refine wpG_skip 2 (by simp only [List.getElem?_toArray, List.getElem?_cons_zero, List.getElem?_cons_succ] <;> rfl) (by decide +kernel) (by decide +kernel) (by kernel_rfl) (by rfl) (by exact fun _ _ _ _ h => h) (Nat.le_refl _) ?_; simp only [Act.put, Act.eval, List.setIfInBounds_toArray, List.set_cons_zero, List.set_cons_succ, Array.getD_eq_getD_getElem?, List.getElem?_toArray, List.getElem?_cons_zero, List.getElem?_cons_succ, Option.getD_some]) | (refine wpG_skip 4 (by simp only [List.getElem?_toArray, List.getElem?_cons_zero, List.getElem?_cons_succ] <;> rfl) (by decide +kernel) (by decide +kernel) (by kernel_rfl) (by rfl) (by exact fun _ _ _ _ h => h) (Nat.le_refl _) ?_; simp only [Act.put, Act.eval, List.setIfInBounds_toArray, List.set_cons_zero, List.set_cons_succ, Array.getD_eq_getD_getElem?, List.getElem?_toArray, List.getElem?_cons_zero, List.getElem?_cons_succ, Option.getD_some]) | (refine wpG_skip 5 (by simp only [List.getElem?_toArray, List.getElem?_cons_zero, List.getElem?_cons_succ] <;> rfl) (by decide +kernel) (by decide +kernel) (by kernel_rfl) (by rfl) (by exact fun _ _ _ _ h => h) (Nat.le_refl _) ?_; simp only [Act.put, Act.eval, List.setIfInBounds_toArray, List.set_cons_zero, List.set_cons_succ, Array.getD_eq_getD_getElem?, List.getElem?_toArray, List.getElem?_cons_zero, List.getElem?_cons_succ, Option.getD_some]) | (refine wpG_skip 6 (by simp only [List.getElem?_toArray, List.getElem?_cons_zero, List.getElem?_cons_succ] <;> rfl) (by decide +kernel) (by decide +kernel) (by kernel_rfl) (by rfl) (by exact fun _ _ _ _ h => h) (Nat.le_refl _) ?_; simp only [Act.put, Act.eval, List.setIfInBounds_toArray, List.set_cons_zero, List.set_cons_succ, Array.getD_eq_getD_getElem?, List.getElem?_toArray, List.getElem?_cons_zero, List.getElem?_cons_succ, Option.getD_some]) | (refine wpG_skip 7 (by simp only [List.getElem?_toArray, List.getElem?_cons_zero, List.getElem?_cons_succ] <;> rfl) (by decide +kernel) (by decide +kernel) (by kernel_rfl) (by rfl) (by exact fun _ _ _ _ h => h) (Nat.le_refl _) ?_; simp only [Act.put, Act.eval, List.setIfInBounds_toArray, List.set_cons_zero, List.set_cons_succ, Array.getD_eq_getD_getElem?, List.getElem?_toArray, List.getElem?_cons_zero, List.getElem?_cons_succ, Option.getD_some])))
    generalize (if c = k + 1 then some (⟨b, o, none⟩ : Addr) else some ⟨b, o + (k + 1) * 3, none⟩) = AD at *
    have HSD := Lib.hid HSD0
    clear HSD0
    (refine wpG_one 3 (by decide +kernel) ?_; intro y1 hy1; refine op_wanted (by simp only [List.getElem?_toArray, List.getElem?_cons_zero, List.getElem?_cons_succ] <;> rfl) rfl ?_)
    have hE1 : Bel w2 y1 := (Bel.refl w2).trans hy1
    go_simp
    refine (copyev_any (some ⟨b, o, none⟩) k c (l.take k) _ (HSA.out.bel hE1.out) (by omega)).mono ?_
    rintro e3 u1 ⟨vc, rfl, hoc, hbc⟩
    refine ⟨hbc.mono hE1.size, ?_⟩
    have hoc := own_drop_alloc hoc hE1.size
    have hC1 := hE1.trans (Bel.of hbc)
    clear hbc
    (refine wpG_one 8 (by decide +kernel) ?_; intro y2 hy2; refine op_wanted (by simp only [List.getElem?_toArray, List.getElem?_cons_zero, List.getElem?_cons_succ] <;> rfl) rfl ?_)
    have hE2 := hC1.trans hy2
    have hoc := own_bel hoc hy2
    refine wp_append_src (.tmp 36) (.tmp 40) _ rfl w2.heap.size 29 i0 _ 3 24 Try.underlying22 hi0 hz0 hz1 hz2 rfl (by omega) vc k (evc (l.take k)) rfl hoc AD (n - (k + 1)) (c - (k + 1)) (evc (l.drop (k + 1))) rfl HLD.out (HSD.out.bel hE2.out).src (evc_one _) (by unfold maxLen; omega) (by omega) hE2.size ?_
    intro v3 u3 ho3 hg3 hat3
    refine ⟨grown_below hg3 hoc (Nat.le_refl _) hE2.size, ?_⟩
    simp only [Act.put, Act.eval, List.setIfInBounds_toArray, List.set_cons_zero, List.set_cons_succ, Array.getD_eq_getD_getElem?, List.getElem?_toArray, List.getElem?_cons_zero, List.getElem?_cons_succ, Option.getD_some]
    have hC3 : Bel w2 u3 := Bel.of (hE2.out.trans (grown_below hg3 hoc (Nat.le_refl _) hE2.size))
    rw [← evc_append, show k + (n - (k + 1)) = n - 1 by omega, ← List.eraseIdx_eq_take_drop_succ] at ho3
    (repeat (first | (refine wpG_go 9 (by simp only [List.getElem?_toArray, List.getElem?_cons_zero, List.getElem?_cons_succ] <;> rfl) (by decide +kernel) (by decide +kernel) (by kernel_rfl) (by rfl) (by exact fun _ _ _ _ h => h) hC3.size ?_; apply Exists.intro; refine ⟨fun w1 h1 => ?_, ?_⟩; (first | exact g_move _ rfl | exact g_assign _ rfl | (go_simp; first | exact ⟨rfl, rfl⟩ | rfl)); simp only [Act.put, Act.eval, List.setIfInBounds_toArray, List.set_cons_zero, List.set_cons_succ, Array.getD_eq_getD_getElem?, List.getElem?_toArray, List.getElem?_cons_zero, List.getElem?_cons_succ, Option.getD_some]) | (refine wpG_skip 9 (by simp only [List.getElem?_toArray, List.getElem?_cons_zero, List.getElem?_cons_succ] <;> rfl) (by decide +kernel) (by decide +kernel) (by kernel_rfl) (by rfl) (by exact fun _ _ _ _ h => h) hC3.size ?_; simp only [Act.put, Act.eval, List.setIfInBounds_toArray, List.set_cons_zero, List.set_cons_succ, Array.getD_eq_getD_getElem?, List.getElem?_toArray, List.getElem?_cons_zero, List.getElem?_cons_succ, Option.getD_some])))
    (refine wpG_done (by decide +kernel) ?_ _; intro wz hwz; try simp only [Act.put, Act.eval, List.setIfInBounds_toArray, List.set_cons_zero, List.set_cons_succ, Array.getD_eq_getD_getElem?, List.getElem?_toArray, List.getElem?_cons_zero, List.getElem?_cons_succ, Option.getD_some])
    obtain ⟨Az, cz, rfl, sz, nz, mz⟩ := Sl.own (own_bel ho3 hwz)
    have HSZ := Lib.hid (And.intro sz (And.intro nz mz))
    have HWZ := Lib.hid (HW2.out.trans (hC3.trans hwz))
    have HS3 := Lib.hid (HS2.out.bel (hC3.trans hwz).out)
    have xz : cz ≤ 9223372036854775807 := by unfold maxLen at mz; omega
    clear hy1 hE1 hoc hC1 hy2 hE2 ho3 hg3 hat3 hC3 hwz sz nz mz hi0 hz0 hz1 hz2
    go_wp2_with fail
    refine (rmay_any Az _ cz _ _ HSZ.out.1 HSZ.out.2.1 xz).mono ?_
    rintro e7 w7 ⟨rfl, hb7⟩
    have HW7 := Lib.hid (HWZ.out.call hb7)
    have HS7 := Lib.hid (HS3.out.bel hb7)
    have HZ7 := Lib.hid (HSZ.out.1.bel hb7)
    clear hb7
    rw [HMK.out]
    go_wp2_with fail
    refine (HMC.out _).mono ?_
    rintro e5 w5 ⟨r5, c5, hB5, v5, rfl, _, hb5⟩
    obtain ⟨rfl, rfl⟩ := minB_uniq hB5 min_nil
    have HW5 := Lib.hid (HW7.out.call hb5)
    have HS5 := Lib.hid (HS7.out.bel hb5)
    have HZ5 := Lib.hid (HZ7.out.bel hb5)
    clear hB5 hb5
    go_wp2_with fail
    refine (eqev_any A1 Az _ d1 _ cz _ _ w5 HS5.out HZ5.out HD1.out.1 HSZ.out.2.1 HD1.out.2 HSZ.out.2.2).mono ?_
    rintro e6 w6 ⟨rfl, hb6⟩
    rw [decide_eq_true rfl]
    have HW6 := Lib.hid (HW5.out.call hb6)
    clear hb6
    go_wp2
    go_ret
    exact ⟨rfl, HW6.out.out⟩
theorem walk (W : World) (A : Option Addr) (n c : Nat) (l : List Ev) (s : Sl W A n l) (m : n ≤ c) (x : c ≤ maxLen) (_g : ∀ e ∈ l, EvOk e) (i : Int) (ki : In64 i) :
    Calls Try.prog 3 #[.slice A n c, .int .i64 i] W fun e w' => e = .returned (.bool true) ∧ Below W.heap.size W w' := walkH without_any min_any W A n c l s m x _g i ki
set_option maxRecDepth 100000 in
theorem lifted (os : Os) (started : os.Started) (H : Type) (enc : TypeId × Value → H) :
    ReturnsInHanded {} Try.checked os 3 .any (Rows.shrinkWithoutSpec.pre6 enc Try.prog Try.f3 Rows.shrinkWithoutRow.domain false) (Rows.shrinkWithoutSpec.post enc Try.prog Try.f3 false true false false) := by
  refine returnsInHanded_of_change_sized (C := Try.checked) own started (by kernel_rfl) Try.func3
    (ChangeSpec.witness6 (enc := enc) (C := Try.checked) false ⟨#[], #[.slice none 0 0, .int .i64 0], []⟩ 8 (by kernel_rfl) (by kernel_rfl) (by kernel_rfl) (by kernel_rfl)) ?_
  intro W base args ds gs before hval0 hW hcnd hsz0 _
  have hsz : (DataW.weightsEach Try.prog (Try.f3.params.toList ++ Rows.shrinkWithoutSpec.plain.varTypes Try.prog) (ds ++ gs)).all (· ≤ reachBytes) = true := hsz0
  clear hsz0
  have hval : ∀ (j : Nat) t v, Try.f3.params[j]? = some t → args[j]? = some v → Value.okWide Try.prog W .any base t v := hval0
  have hW' := hW
  obtain ⟨p, q, hA0, hV, rfl, hfz, hnd⟩ := hW
  have hA : DataW.TrodAll enc Try.prog W 0 (fun _ => true) true Try.f3.params.toList args.toList ds p := hA0
  rw [Try.params3] at hA hval hsz
  obtain ⟨v0, vs0, d0, ds0, p0, q0, hargs, rfl, rfl, h0, r0⟩ := trodAll_cons hA
  obtain ⟨v1, vs1, d1, ds1, p1, q1, rfl, rfl, rfl, h1, r1⟩ := trodAll_cons r0
  obtain ⟨rfl, rfl, rfl⟩ := trodAll_nil r1
  obtain rfl : args = #[v0, v1] := by cases args; simp_all
  obtain ⟨rfl, rfl⟩ := trodVars_none hV
  have t0 := h0
  have lt0 : ∀ x ∈ p0, x.block < W.heap.size := by obtain ⟨m, hm⟩ := t0; exact DataW.trod_lt m _ _ _ hm
  have t1 := h1
  have lt1 : ∀ x ∈ p1, x.block < W.heap.size := by obtain ⟨m, hm⟩ := t1; exact DataW.trod_lt m _ _ _ hm
  obtain ⟨A0, n0, c0, l0, rfl, s0, m0, x0, g0, z0⟩ := open_evs Try.underlying22 Try.underlying29 ⟨rfl, rfl, rfl⟩ (by kernel_rfl) (by kernel_rfl) Try.underlying3 (hval 0 22 v0 rfl rfl) h0
  have y0 := reach_sl hsz (j := 0) rfl rfl Try.underlying22 (b := 24) (by kernel_rfl) z0
  obtain ⟨a1, rfl, _, _, x1⟩ := open_int Try.underlying3 (hval 1 3 v1 rfl rfl) h1
  have k1 := in64_of x1
  clear hA0 hval0
  refine (walk W A0 n0 c0 l0 s0 m0 x0 g0 a1 k1).mono fun e W' ⟨he, bel⟩ => ?_
  subst he
  exact ⟨_, rfl, _, _, _, [], _, [], hW', trodAll_mk1 (shut_bool Try.underlying4 _), (trodAll_cons_mk (Below.trod laidOut (by kernel_rfl) (of_decide_eq_true (by kernel_rfl)) t0 bel lt0) (trodAll_cons_mk (Below.trod laidOut (by kernel_rfl) (of_decide_eq_true (by kernel_rfl)) t1 bel lt1) trodAll_mk0)), rfl, bel.frame _, fun h => by cases h⟩

theorem over : Rows.shrinkWithoutRow.holds Try.pinned (OpenSpec.ofChange Rows.shrinkWithoutSpec) :=
  OpenClaim.holds_of_wide 3 Try.f3 rfl rfl rfl rfl rfl rfl rfl ⟨rfl, rfl, rfl, rfl, rfl⟩ rfl rfl rfl rfl rfl (by kernel_rfl) Try.func3 (by kernel_rfl)
    (of_decide_eq_true (by kernel_rfl)) (by unfold Func.isWrapper; first | (rw [if_pos (by decide +kernel)]; kernel_rfl) | (rw [if_neg (by decide +kernel)]; exact ⟨rfl, rfl⟩))
    (fun os started H enc _ => lifted os started H enc)

theorem proved : Rows.ShrinkWithoutSaid := over
#print axioms proved
end Go.Proofs.Ytmdpegljpdjfoaa.LShrinkWithout

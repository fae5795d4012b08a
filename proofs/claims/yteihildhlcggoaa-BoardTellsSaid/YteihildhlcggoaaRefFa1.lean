/- The reference's Fast: its function values known, epoch. -/
import Derived.Test.YteihildhlcggoaaFs
import Derived.Test.YteihildhlcggoaaAhead2
import Derived.Test.YteihildhlcggoaaAppend
import Derived.Test.YteihildhlcggoaaKeepTw
import Derived.Deep.DeepCutAuto
set_option linter.all false
set_option maxRecDepth 100000
namespace Go.Proofs.Yteihildhlcggoaa
open Go Go.RowKit

set_option maxHeartbeats 4000000 in
theorem known_any (Bm O n : Nat) (r : Nat → Nat) (l : List Ev) (w0 w : World) (i : Int) (j : Nat) (hb : Box w Bm #[.slice (some ⟨O, 0, none⟩) n n] 60) (hM : Mat w0 O n n r (bef l) w) (hi : i < n) (hj : j < n) :
    Calls Try.prog 37 #[.int .i64 i, .int .i64 j, .pointer (some ⟨Bm, 0, none⟩)] w fun e w' => e = .returned (.bool (knP l i j)) ∧ w = w' := by
  by_cases h0 : i < 0
  · have HV := Lib.hid (show knP l i j = true by unfold knP; rw [decide_eq_true h0]; rfl)
    clear hb hM
    go_enter Try.func37, Try.ntmps37
    go_wp2
    go_ret
    exact ⟨by rw [HV.out]; rfl, rfl⟩
  · obtain ⟨i, rfl⟩ := Int.eq_ofNat_of_zero_le (show 0 ≤ i by omega)
    have HV := Lib.hid (show knP l (i : Nat) j = bef l i j by unfold knP; rw [decide_eq_false h0, Int.toNat_natCast, Bool.false_or])
    have hin : i < n := by omega
    have hj' : (j : Int) < n := by omega
    have hi0 : (0 : Int) ≤ (i : Int) := by omega
    have c0 := hb.cell 0 (v := .slice (some ⟨O, 0, none⟩) n n) rfl
    have c1 := hM.rowc hin (Nat.le_refl _)
    have c2 := hM.cell hin hj
    clear hb hM h0
    go_enter Try.func37, Try.ntmps37
    go_wp2
    go_ret
    exact ⟨by rw [HV.out]; rfl, rfl⟩
theorem epTo_step {l : List Ev} {i k : Nat} (h : ∀ m, i ≤ m → m < k → giveB l m (tZ l i) = false) (hk : giveB l k (tZ l i) = false) : ∀ m, i ≤ m → m < k + 1 → giveB l m (tZ l i) = false := fun m h1 h2 => by
  rcases Nat.lt_succ_iff_lt_or_eq.1 h2 with h2 | rfl
  · exact h m h1 h2
  · exact hk
def NoG (l : List Ev) (i k : Nat) : Prop := ∀ m, i ≤ m → m < k → giveB l m (tZ l i) = false
set_option maxHeartbeats 16000000 in
theorem epoch_any (Bl n c : Nat) (A : Option Addr) (l : List Ev) (w : World) (i : Int) (j : Nat) (hl : Sl w A n l) (hm : may l = 0) (hb : Box w Bl #[.slice A n c] 22) (hi : i < j) (hj : j < n) :
    Calls Try.prog 36 #[.int .i64 i, .int .i64 j, .pointer (some ⟨Bl, 0, none⟩)] w fun e w' => e = .returned (.bool (epP l i j)) ∧ Below w.heap.size w w' := by
  have hw0 := Lib.hid (Bel.refl w)
  have hj' : (j : Int) < n := by omega
  have hn80 : n ≤ 80 := by rw [← hl.1]; exact ((may_iff l).1 hm).1
  by_cases h0 : i < 0
  · have HV := Lib.hid (show epP l i j = false by unfold epP; rw [decide_eq_false (by omega), Bool.false_and])
    clear hl hb
    go_enter Try.func36, Try.ntmps36
    go_wp2
    (refine region_bel (by kernel_rfl) (by kernel_rfl) ?_; (repeat (first | ((with_reducible refine BigFrame.wpQuiet_skip ?_ ?_); exact rfl; simp only [Act.put, Act.eval, List.setIfInBounds_toArray, List.set_cons_zero, List.set_cons_succ, Array.getD_eq_getD_getElem?, List.getElem?_toArray, List.getElem?_cons_zero, List.getElem?_cons_succ, Option.getD_some]) | (refine q_move _ rfl rfl ?_; simp only [Act.put, Act.eval, List.setIfInBounds_toArray, List.set_cons_zero, List.set_cons_succ, Array.getD_eq_getD_getElem?, List.getElem?_toArray, List.getElem?_cons_zero, List.getElem?_cons_succ, Option.getD_some]) | (refine q_assign _ rfl rfl ?_; simp only [Act.put, Act.eval, List.setIfInBounds_toArray, List.set_cons_zero, List.set_cons_succ, Array.getD_eq_getD_getElem?, List.getElem?_toArray, List.getElem?_cons_zero, List.getElem?_cons_succ, Option.getD_some]) | (refine q_any rfl ?_; apply Exists.intro; refine ⟨fun w hw => ?_, ?_⟩; (go_simp; first | exact ⟨rfl, rfl⟩ | rfl); simp only [Act.put, Act.eval, List.setIfInBounds_toArray, List.set_cons_zero, List.set_cons_succ, Array.getD_eq_getD_getElem?, List.getElem?_toArray, List.getElem?_cons_zero, List.getElem?_cons_succ, Option.getD_some]))); refine wpQuiet_nil ?_; intro w2 hw2)
    go_wp2
    go_ret
    exact ⟨by rw [HV.out]; rfl, hw2⟩
  · obtain ⟨i, rfl⟩ := Int.eq_ofNat_of_zero_le (show 0 ≤ i by omega)
    have hij : i < j := by omega
    have hin : (i : Int) < n := by omega
    have hi0 : (0 : Int) ≤ (i : Int) := by omega
    have HL := Lib.hid hl
    have HM := Lib.hid hm
    have HN := Lib.hid hl.1
    obtain ⟨bb, off, ⟨ak, at_, ao⟩, rfl, hbb, ha, hra⟩ := hl.at_ (show i < n by omega)
    have het := isEv_t (wrong_isEv (wrong_at hm ha))
    obtain ⟨u, rfl⟩ := Int.eq_ofNat_of_zero_le het.1
    have HTI := Lib.hid (show tZ l i = u by unfold tZ; rw [eZ_at ha]; rfl)
    obtain ⟨⟨bk, bt, bo⟩, hb2⟩ := hl.get hj
    have hbt := isEv_t (wrong_isEv (wrong_at hm hb2))
    obtain ⟨v, rfl⟩ := Int.eq_ofNat_of_zero_le hbt.1
    have HTJ := Lib.hid (show tZ l j = v by unfold tZ; rw [eZ_at hb2]; rfl)
    have FB := fun (w' : World) (h : Bel w w') => (h.box hb).cell 0 (v := .slice (some ⟨bb, off, none⟩) n c) rfl
    have F1 := fun (w' : World) (h : Bel w w') => h.cell (hra 1 (.int .i64 u) rfl)
    have F2 := fun (w' : World) (h : Bel w w') => h.cell ((hl.rng hj hb2).2 1 (.int .i64 v) rfl)
    have HFB := Lib.hid FB
    have HF1 := Lib.hid F1
    clear hl hm hb ha hra het hb2 hbt
    by_cases hne : u = v
    · subst hne
      have hq : ((u : Int) != (u : Int)) = false := by simp
      have HV := Lib.hid (show epP l (i : Nat) j = epTo l i j by unfold epP; rw [Int.toNat_natCast, HTI.out, HTJ.out]; simp)
      have H0 := Lib.hid (show NoG l i i from fun m h1 h2 => by omega)
      clear h0
      go_enter Try.func36, Try.ntmps36
      go_wp2
      (refine region_bel (by kernel_rfl) (by kernel_rfl) ?_; (repeat (first | ((with_reducible refine BigFrame.wpQuiet_skip ?_ ?_); exact rfl; simp only [Act.put, Act.eval, List.setIfInBounds_toArray, List.set_cons_zero, List.set_cons_succ, Array.getD_eq_getD_getElem?, List.getElem?_toArray, List.getElem?_cons_zero, List.getElem?_cons_succ, Option.getD_some]) | (refine q_move _ rfl rfl ?_; simp only [Act.put, Act.eval, List.setIfInBounds_toArray, List.set_cons_zero, List.set_cons_succ, Array.getD_eq_getD_getElem?, List.getElem?_toArray, List.getElem?_cons_zero, List.getElem?_cons_succ, Option.getD_some]) | (refine q_assign _ rfl rfl ?_; simp only [Act.put, Act.eval, List.setIfInBounds_toArray, List.set_cons_zero, List.set_cons_succ, Array.getD_eq_getD_getElem?, List.getElem?_toArray, List.getElem?_cons_zero, List.getElem?_cons_succ, Option.getD_some]) | (refine q_any rfl ?_; apply Exists.intro; refine ⟨fun w hw => ?_, ?_⟩; (have fct0 := FB w hw; have fct1 := F1 w hw; have fct2 := F2 w hw; go_simp; first | exact ⟨rfl, rfl⟩ | rfl); simp only [Act.put, Act.eval, List.setIfInBounds_toArray, List.set_cons_zero, List.set_cons_succ, Array.getD_eq_getD_getElem?, List.getElem?_toArray, List.getElem?_cons_zero, List.getElem?_cons_succ, Option.getD_some]))); refine wpQuiet_nil ?_; intro w2 hw2)
      have HW2 := Lib.hid hw2
      clear hw2 FB F1 F2
      go_wp2
      go_loopw [6] (fun t6 wr => ∃ k : Nat, i ≤ k ∧ k ≤ j ∧ t6 = .int .i64 k ∧ NoG l i k ∧ Bel w wr) (fun t6 _ => j - (intOf t6).toNat)
      case atStart => exact ⟨i, by omega, by omega, rfl, H0.out, HW2.out⟩
      case round =>
        obtain ⟨k, hik, hk, rfl, hng, hr⟩ := hrel
        have HNG := Lib.hid hng
        have HR := Lib.hid hr
        clear hng hr H0
        by_cases hlt : k < j
        · have hlt' : (k : Int) < j := by omega
          have hkn : (k : Int) < n := by omega
          have hk0 : (0 : Int) ≤ (k : Int) := by omega
          obtain ⟨⟨ck, ct, co⟩, hc⟩ := HL.out.get (show k < n by omega)
          have hct := isEv_t (wrong_isEv (wrong_at HM.out hc))
          obtain ⟨x, rfl⟩ := Int.eq_ofNat_of_zero_le hct.1
          have HG := Lib.hid (show giveB l k (tZ l i) = decide ((ck = 4 ∨ ck = 5 ∨ ck = 8) ∧ x = u) by unfold giveB; rw [HTI.out, show kZ l k = ck by unfold kZ; rw [eZ_at hc], show tZ l k = x by unfold tZ; rw [eZ_at hc]; rfl])
          have G0 := fun (w' : World) (h : Bel wr w') => HFB.out w' (HR.out.trans h)
          have G1 := fun (w' : World) (h : Bel wr w') => HF1.out w' (HR.out.trans h)
          have G2 := fun (w' : World) (h : Bel wr w') => (HR.out.trans h).cell ((HL.out.rng (show k < n by omega) hc).2 1 (.int .i64 x) rfl)
          have G3 := fun (w' : World) (h : Bel wr w') => (show w'.cell? ⟨bb, off + k * 3, none⟩ = some (.int .i64 ck) from (HR.out.trans h).cell ((HL.out.rng (show k < n by omega) hc).2 0 (.int .i64 ck) rfl))
          clear hc hct
          go_upto_region 6 with (fail)
          by_cases hxu : x = u
          · subst hxu
            have q0 : ((x : Int) == (x : Int)) = true := by simp
            by_cases hg : ck = 4 ∨ ck = 5 ∨ ck = 8
            · have HE := Lib.hid (show epTo l i j = false by
                rw [← Bool.not_eq_true, epTo_iff]
                intro h
                have := h k hik hlt
                rw [HG.out, decide_eq_false_iff_not] at this
                exact this ⟨hg, rfl⟩)
              rcases hg with rfl | rfl | rfl
              all_goals
                (refine region_bel (by kernel_rfl) (by kernel_rfl) ?_; (repeat (first | ((with_reducible refine BigFrame.wpQuiet_skip ?_ ?_); exact rfl; simp only [Act.put, Act.eval, List.setIfInBounds_toArray, List.set_cons_zero, List.set_cons_succ, Array.getD_eq_getD_getElem?, List.getElem?_toArray, List.getElem?_cons_zero, List.getElem?_cons_succ, Option.getD_some]) | (refine q_move _ rfl rfl ?_; simp only [Act.put, Act.eval, List.setIfInBounds_toArray, List.set_cons_zero, List.set_cons_succ, Array.getD_eq_getD_getElem?, List.getElem?_toArray, List.getElem?_cons_zero, List.getElem?_cons_succ, Option.getD_some]) | (refine q_assign _ rfl rfl ?_; simp only [Act.put, Act.eval, List.setIfInBounds_toArray, List.set_cons_zero, List.set_cons_succ, Array.getD_eq_getD_getElem?, List.getElem?_toArray, List.getElem?_cons_zero, List.getElem?_cons_succ, Option.getD_some]) | (refine q_any rfl ?_; apply Exists.intro; refine ⟨fun w hw => ?_, ?_⟩; (have fct0 := G0 w hw; have fct1 := G1 w hw; have fct2 := G2 w hw; have fct3 := G3 w hw; go_simp; first | exact ⟨rfl, rfl⟩ | rfl); simp only [Act.put, Act.eval, List.setIfInBounds_toArray, List.set_cons_zero, List.set_cons_succ, Array.getD_eq_getD_getElem?, List.getElem?_toArray, List.getElem?_cons_zero, List.getElem?_cons_succ, Option.getD_some]))); refine wpQuiet_nil ?_; intro w2 hw2)
                have HW4 := Lib.hid (HR.out.trans hw2)
                clear hw2 G0 G1 G2 G3
                go_wp2
                go_ret
                exact ⟨by rw [HV.out, HE.out]; rfl, HW4.out⟩
            · have q4 : (ck == 4) = false := by simp; omega
              have q5 : (ck == 5) = false := by simp; omega
              have q8 : (ck == 8) = false := by simp; omega
              have HS := Lib.hid (epTo_step HNG.out (by rw [HG.out]; simp; omega))
              clear hg
              (refine region_bel (by kernel_rfl) (by kernel_rfl) ?_; (repeat (first | ((with_reducible refine BigFrame.wpQuiet_skip ?_ ?_); exact rfl; simp only [Act.put, Act.eval, List.setIfInBounds_toArray, List.set_cons_zero, List.set_cons_succ, Array.getD_eq_getD_getElem?, List.getElem?_toArray, List.getElem?_cons_zero, List.getElem?_cons_succ, Option.getD_some]) | (refine q_move _ rfl rfl ?_; simp only [Act.put, Act.eval, List.setIfInBounds_toArray, List.set_cons_zero, List.set_cons_succ, Array.getD_eq_getD_getElem?, List.getElem?_toArray, List.getElem?_cons_zero, List.getElem?_cons_succ, Option.getD_some]) | (refine q_assign _ rfl rfl ?_; simp only [Act.put, Act.eval, List.setIfInBounds_toArray, List.set_cons_zero, List.set_cons_succ, Array.getD_eq_getD_getElem?, List.getElem?_toArray, List.getElem?_cons_zero, List.getElem?_cons_succ, Option.getD_some]) | (refine q_any rfl ?_; apply Exists.intro; refine ⟨fun w hw => ?_, ?_⟩; (have fct0 := G0 w hw; have fct1 := G1 w hw; have fct2 := G2 w hw; have fct3 := G3 w hw; go_simp; first | exact ⟨rfl, rfl⟩ | rfl); simp only [Act.put, Act.eval, List.setIfInBounds_toArray, List.set_cons_zero, List.set_cons_succ, Array.getD_eq_getD_getElem?, List.getElem?_toArray, List.getElem?_cons_zero, List.getElem?_cons_succ, Option.getD_some]))); refine wpQuiet_nil ?_; intro w2 hw2)
              have HW4 := Lib.hid (HR.out.trans hw2)
              clear hw2 G0 G1 G2 G3
              go_wp2
              go_roundw
              case rel => exact ⟨k + 1, by omega, by omega, by go_num, HS.out, HW4.out⟩
              case measure => simp [intOf]; omega
          · have q0 : ((x : Int) == (u : Int)) = false := by simp; omega
            have HS := Lib.hid (epTo_step HNG.out (by rw [HG.out]; simp; intro _; omega))
            clear hxu
            (refine region_bel (by kernel_rfl) (by kernel_rfl) ?_; (repeat (first | ((with_reducible refine BigFrame.wpQuiet_skip ?_ ?_); exact rfl; simp only [Act.put, Act.eval, List.setIfInBounds_toArray, List.set_cons_zero, List.set_cons_succ, Array.getD_eq_getD_getElem?, List.getElem?_toArray, List.getElem?_cons_zero, List.getElem?_cons_succ, Option.getD_some]) | (refine q_move _ rfl rfl ?_; simp only [Act.put, Act.eval, List.setIfInBounds_toArray, List.set_cons_zero, List.set_cons_succ, Array.getD_eq_getD_getElem?, List.getElem?_toArray, List.getElem?_cons_zero, List.getElem?_cons_succ, Option.getD_some]) | (refine q_assign _ rfl rfl ?_; simp only [Act.put, Act.eval, List.setIfInBounds_toArray, List.set_cons_zero, List.set_cons_succ, Array.getD_eq_getD_getElem?, List.getElem?_toArray, List.getElem?_cons_zero, List.getElem?_cons_succ, Option.getD_some]) | (refine q_any rfl ?_; apply Exists.intro; refine ⟨fun w hw => ?_, ?_⟩; (have fct0 := G0 w hw; have fct1 := G1 w hw; have fct2 := G2 w hw; have fct3 := G3 w hw; go_simp; first | exact ⟨rfl, rfl⟩ | rfl); simp only [Act.put, Act.eval, List.setIfInBounds_toArray, List.set_cons_zero, List.set_cons_succ, Array.getD_eq_getD_getElem?, List.getElem?_toArray, List.getElem?_cons_zero, List.getElem?_cons_succ, Option.getD_some]))); refine wpQuiet_nil ?_; intro w2 hw2)
            have HW4 := Lib.hid (HR.out.trans hw2)
            clear hw2 G0 G1 G2 G3
            go_wp2
            go_roundw
            case rel => exact ⟨k + 1, by omega, by omega, by go_num, HS.out, HW4.out⟩
            case measure => simp [intOf]; omega
        · obtain rfl : k = j := by omega
          have HE := Lib.hid (show epTo l i k = true from epTo_iff.2 HNG.out)
          go_wp2
          go_ret
          exact ⟨by rw [HV.out, HE.out]; rfl, HR.out⟩
    · have hq : ((u : Int) != (v : Int)) = true := by simp; omega
      have HV := Lib.hid (show epP l (i : Nat) j = false by unfold epP; rw [Int.toNat_natCast, HTI.out, HTJ.out]; simp; intro h; exact absurd h hne)
      clear h0 hne
      go_enter Try.func36, Try.ntmps36
      go_wp2
      (refine region_bel (by kernel_rfl) (by kernel_rfl) ?_; (repeat (first | ((with_reducible refine BigFrame.wpQuiet_skip ?_ ?_); exact rfl; simp only [Act.put, Act.eval, List.setIfInBounds_toArray, List.set_cons_zero, List.set_cons_succ, Array.getD_eq_getD_getElem?, List.getElem?_toArray, List.getElem?_cons_zero, List.getElem?_cons_succ, Option.getD_some]) | (refine q_move _ rfl rfl ?_; simp only [Act.put, Act.eval, List.setIfInBounds_toArray, List.set_cons_zero, List.set_cons_succ, Array.getD_eq_getD_getElem?, List.getElem?_toArray, List.getElem?_cons_zero, List.getElem?_cons_succ, Option.getD_some]) | (refine q_assign _ rfl rfl ?_; simp only [Act.put, Act.eval, List.setIfInBounds_toArray, List.set_cons_zero, List.set_cons_succ, Array.getD_eq_getD_getElem?, List.getElem?_toArray, List.getElem?_cons_zero, List.getElem?_cons_succ, Option.getD_some]) | (refine q_any rfl ?_; apply Exists.intro; refine ⟨fun w hw => ?_, ?_⟩; (have fct0 := FB w hw; have fct1 := F1 w hw; have fct2 := F2 w hw; go_simp; first | exact ⟨rfl, rfl⟩ | rfl); simp only [Act.put, Act.eval, List.setIfInBounds_toArray, List.set_cons_zero, List.set_cons_succ, Array.getD_eq_getD_getElem?, List.getElem?_toArray, List.getElem?_cons_zero, List.getElem?_cons_succ, Option.getD_some]))); refine wpQuiet_nil ?_; intro w2 hw2)
      go_wp2
      go_ret
      exact ⟨by rw [HV.out]; rfl, hw2⟩
end Go.Proofs.Yteihildhlcggoaa

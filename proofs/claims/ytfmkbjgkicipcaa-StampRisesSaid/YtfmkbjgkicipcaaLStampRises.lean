/- 'deadheatkeep.StampRises' returns true for every input and leaves its arguments as they are. No condition. -/
import Derived.Test.YtfmkbjgkicipcaaOpenTr
import Derived.Test.YtfmkbjgkicipcaaKeepSt
set_option linter.all false
set_option maxRecDepth 100000
namespace Go.Proofs.Ytfmkbjgkicipcaa.LStampRises
open Go Go.ChangeShapes Go.WideShapes Go.ChangeAt Go.RowKit

structure RisR (V : World) (l : List Ev) (i : Nat) (wr : World) : Prop where
  last : Box wr V.heap.size (clk (pmc l i)) 31
  iss : Box wr (V.heap.size + 1) (clk (lstC l i)) 30
  below : Below V.heap.size V wr
theorem RisR.bel {V : World} {l : List Ev} {i : Nat} {wr w' : World} (h : RisR V l i wr) (hb : Bel wr w') : RisR V l i w' := ⟨hb.box h.last, hb.box h.iss, h.below.trans (hb.out.mono h.below.size)⟩
/-- One half of a round. -/
structure RisH (V : World) (l : List Ev) (i : Nat) (wr : World) : Prop where
  last : Box wr V.heap.size (clk (pmc l i)) 31
  iss : Box wr (V.heap.size + 1) (clk (lstC l (i + 1))) 30
  below : Below V.heap.size V wr
theorem RisH.bel {V : World} {l : List Ev} {i : Nat} {wr w' : World} (h : RisH V l i wr) (hb : Bel wr w') : RisH V l i w' := ⟨hb.box h.last, hb.box h.iss, h.below.trans (hb.out.mono h.below.size)⟩
theorem RisR.half {V : World} {l : List Ev} {i : Nat} {wr : World} (h : RisR V l i wr) {t : Nat} (ht : tOf l i = t) (ht6 : t < 6) {u : Int} (hu : u = (i : Int) + 1) : RisH V l i (wr.setCell ⟨V.heap.size + 1, t, none⟩ (.int .i64 u)) :=
  ⟨h.last.set_ne _ _ (by simp), by have := h.iss.set t (.int .i64 u); rwa [clk_set _ _ ht6, lstC_up l ht hu] at this, h.below.setCell (by simp) _⟩
theorem RisH.next {V : World} {l : List Ev} (hm : may l = 0) {i : Nat} (hi : i < l.length) {wr : World} (h : RisH V l i wr) : RisR V l (i + 1) (wr.setRow V.heap.size (clk fun j => mx (pmc l i j) (kc l i j))) := by
  have hcc : clk (fun j => mx (pmc l i j) (kc l i j)) = clk (pmc l (i + 1)) := clk_congr fun k _ => join_pm hm hi k
  exact ⟨by rw [hcc]; exact h.last.setRow _, h.iss.setRow_ne _ _ (by omega), below_setRow' h.below _ _ (Nat.le_refl _)⟩
def ps (l : List Ev) (n : Nat) : Nat → Nat
  | 0 => 0
  | k + 1 => ps l n k + pm l n k
theorem ps_le (l : List Ev) (n : Nat) : ∀ k, ps l n k ≤ k * n
  | 0 => Nat.zero_le _
  | k + 1 => by have h1 := ps_le l n k; have h2 := pm_le l n k; rw [ps, Nat.succ_mul]; omega
set_option maxHeartbeats 8000000 in
theorem walk (W : World) (A : Option Addr) (n c : Nat) (l : List Ev) (s : Sl W A n l) (m : n ≤ c) (x : c ≤ maxLen) (g : ∀ e ∈ l, EvOk e) :
    Calls Try.prog 7 #[.slice A n c] W fun e w' => e = .returned (.bool true) ∧ Below W.heap.size W w' := by
  unfold maxLen at x
  have hw0 : Bel W W := Bel.refl _
  have HL := Lib.hid s
  have HN := Lib.hid s.1
  clear s g
  cases h1 : (may l == 0)
  · have HM := Lib.hid (show may l ≠ 0 by simpa using h1)
    have h1' : (may l != 0) = true := by simpa using h1
    go_enter Try.func7, Try.ntmps7
    go_wp2_with fail
    refine (stamped_any _).mono ?_
    rintro e1 w1 ⟨rfl, hb1⟩
    have hw1 := hw0.call hb1
    clear hb1
    go_wp2_with fail
    refine (stamps_bad A n c l _ (HL.out.bel hw1) HM.out).mono ?_
    rintro e2 w2 ⟨rfl, hb2⟩
    have hw2 := hw1.call hb2
    clear hb2
    go_wp2_with fail
    refine (may_any A n c l _ (HL.out.bel hw2)).mono ?_
    rintro e3 w3 ⟨rfl, hb3⟩
    have hw3 := hw2.call hb3
    clear hb3
    go_wp2
    go_ret
    exact ⟨rfl, hw3⟩
  · have hm : may l = 0 := eq_of_beq h1
    have HM := Lib.hid hm
    have h1' : (may l != 0) = false := by simp [hm]
    have hne : ((n : Int) != (n : Int)) = false := by simp
    have hn80 : n ≤ 80 := by rw [← HN.out]; exact ((may_iff l).1 hm).1
    have HSUM := Lib.hid (show ps l n 6 = n by
      have := pm_sum (l := l) (fun i hi => may_tOf hm hi) n (by rw [HN.out]; exact Nat.le_refl _)
      simp only [ps]; omega)
    clear hm
    go_enter Try.func7, Try.ntmps7
    go_wp2_with fail
    refine (stamped_any _).mono ?_
    rintro e1 w1 ⟨rfl, hb1⟩
    have hw1 := hw0.call hb1
    clear hb1
    go_wp2_with fail
    refine (stamps_ok A n c l _ (HL.out.bel hw1) HM.out).mono ?_
    rintro e2 w2 ⟨B, rfl, hck, hge, hb2⟩
    have hw2 := hw1.call hb2
    clear hb2
    generalize hV : w2 = V at *
    clear hV
    have HCK := Lib.hid hck
    have HWV := Lib.hid hw2
    obtain ⟨q1, q2, q3, q4⟩ := boxes2 V (clk fun _ => 0) (clk fun _ => 0) 31 30
    have H0 := Lib.hid (RisR.mk q1 q2 q3 : RisR V l 0 ((V.alloc (.cells #[.int .i64 0, .int .i64 0, .int .i64 0, .int .i64 0, .int .i64 0, .int .i64 0] 31)).alloc (.cells #[.int .i64 0, .int .i64 0, .int .i64 0, .int .i64 0, .int .i64 0, .int .i64 0] 30)))
    clear hck hge hw2 hw1 hw0 q1 q2 q3 q4
    go_wp2
    go_loopw [38] (fun t38 wr => ∃ i : Nat, i ≤ n ∧ t38 = .int .i64 i ∧ RisR V l i wr) (fun t38 _ => n - (intOf t38).toNat)
    case atStart => exact ⟨0, by omega, rfl, H0.out⟩
    case round =>
      obtain ⟨i, hi, rfl, hr⟩ := hrel
      have HR := Lib.hid hr
      clear hr H0
      by_cases hlt : i < n
      · obtain ⟨bb, off, ⟨ek, et, eo⟩, rfl, hbb, he, hrg⟩ := HL.out.at_ hlt
        have het := isEv_t (wrong_isEv (wrong_at HM.out he))
        obtain ⟨t, rfl⟩ := Int.eq_ofNat_of_zero_le het.1
        have HTO := Lib.hid (show tOf l i = t by rw [tOf_at he]; rfl)
        have ht6 : t < 6 := by have := het.2; dsimp only at this; omega
        have hlt' : (i : Int) < n := by omega
        have hi0 : (0 : Int) ≤ (i : Int) := by omega
        have ht6' : (t : Int) < 6 := by omega
        have hR := Lib.hid (rangeAt_below (HWV.out.trans (Bel.of HR.out.below)).out hbb hrg)
        obtain ⟨c0, c1, c2⟩ := ewld_cells wr ⟨ek, (t : Int), eo⟩ 37
        have HR2 := Lib.hid (HR.out.bel (ewld_below wr ⟨ek, (t : Int), eo⟩ 37))
        have HEX := Lib.hid (ewld_box wr ⟨ek, (t : Int), eo⟩ 37)
        have hne2 : V.heap.size + 1 ≠ wr.heap.size := by have := HR.out.iss.lt; omega
        have HIL := Lib.hid (show i < l.length by rw [HN.out]; exact hlt)
        have f1 : IntKind.i64.wrap ((i : Int) + 1) = (i : Int) + 1 := IntWalk.i64_in _ (by omega)
        have d0 : (ewld wr ⟨ek, (t : Int), eo⟩ 37).cell? ⟨V.heap.size + 1, t, none⟩ = some (.int .i64 (lstI l t i : Nat)) := HR2.out.iss.cell _ (clk_get _ _ ht6)
        have hspec := lstI_spec l t i
        clear he hrg het c0 c2
        obtain ⟨k, hk⟩ : ∃ k, lstI l t i = k := ⟨_, rfl⟩
        rw [hk] at d0 hspec
        have HK := Lib.hid hk
        clear hk
        cases k with
        | zero =>
          have d0' : (ewld wr ⟨ek, (t : Int), eo⟩ 37).cell? ⟨V.heap.size + 1, t, none⟩ = some (.int .i64 0) := d0
          clear d0 hspec
          go_wp2_with (first | (refine load_ev T36 _ rfl rfl rfl hR.out ?_) | (refine ewld_store T36 _ _ rfl rfl _ rfl rfl rfl ?_))
          generalize hw4 : ewld wr ⟨ek, (t : Int), eo⟩ 37 = w4 at *
          (refine region_bel (by kernel_rfl) (by kernel_rfl) ?_; (repeat (first | ((with_reducible refine BigFrame.wpQuiet_skip ?_ ?_); exact rfl; simp only [Act.put, Act.eval, List.setIfInBounds_toArray, List.set_cons_zero, List.set_cons_succ, Array.getD_eq_getD_getElem?, List.getElem?_toArray, List.getElem?_cons_zero, List.getElem?_cons_succ, Option.getD_some]) | (refine q_move _ rfl rfl ?_; simp only [Act.put, Act.eval, List.setIfInBounds_toArray, List.set_cons_zero, List.set_cons_succ, Array.getD_eq_getD_getElem?, List.getElem?_toArray, List.getElem?_cons_zero, List.getElem?_cons_succ, Option.getD_some]) | (refine q_assign _ rfl rfl ?_; simp only [Act.put, Act.eval, List.setIfInBounds_toArray, List.set_cons_zero, List.set_cons_succ, Array.getD_eq_getD_getElem?, List.getElem?_toArray, List.getElem?_cons_zero, List.getElem?_cons_succ, Option.getD_some]) | (refine q_any rfl ?_; apply Exists.intro; refine ⟨fun w hw => ?_, ?_⟩; (go_simp; first | exact ⟨rfl, rfl⟩ | rfl); simp only [Act.put, Act.eval, List.setIfInBounds_toArray, List.set_cons_zero, List.set_cons_succ, Array.getD_eq_getD_getElem?, List.getElem?_toArray, List.getElem?_cons_zero, List.getElem?_cons_succ, Option.getD_some]))); refine wpQuiet_nil ?_; intro w2 hw2)
          have HR5 := Lib.hid (HR2.out.bel hw2)
          have g1 := HR5.out.iss.frozen t
          have n1 : w2.cell? ⟨V.heap.size + 1, t, none⟩ = some (.int .i64 (lstI l t i : Nat)) := HR5.out.iss.cell t (clk_get _ _ ht6)
          have e1 : w2.cell? ⟨wr.heap.size, 1, none⟩ = some (.int .i64 (t : Int)) := hw2.cell c1
          have HR6 := Lib.hid (HR5.out.half HTO.out ht6 (u := (i : Int) + 1) rfl)
          clear hw2 c1
          go_wp2
          generalize hw6 : w2.setCell ⟨V.heap.size + 1, t, none⟩ (.int .i64 ((i : Int) + 1)) = w6 at *
          clear hw6 g1 n1 e1
          have HC6 := Lib.hid (show Cks w6 B n l from Box.below HCK.out HR6.out.below HCK.out.lt)
          have HRI6 := Lib.hid (fun (w' : World) (h : Bel w6 w') => (HC6.out.bel h).row hlt)
          have HLB := Lib.hid (fun (w' : World) (h : Bel w6 w') => h.box HR6.out.last)
          refine region_growT 6 (by kernel_rfl) ?_
          (repeat (first | (refine wpT_go 0 (by simp only [List.getElem?_toArray, List.getElem?_cons_zero, List.getElem?_cons_succ] <;> rfl) (by decide +kernel) (by decide +kernel) (by kernel_rfl) (by rfl) (by exact fun _ _ _ _ h => h) (Nat.le_refl _) ?_; apply Exists.intro; refine ⟨fun w1 h1 => ?_, ?_⟩; (first | exact g_move _ rfl | exact g_assign _ rfl | exact g_load _ _ rfl ty28 rfl (HLB.out w1 h1) | exact g_load_mid _ _ rfl rfl (HRI6.out w1 h1) ty28 (clk (kc l i)) rfl | (go_simp; first | exact ⟨rfl, rfl⟩ | rfl | (go_at_call 21; (with_reducible refine (join_any (pmc l i) (kc l i) _).mono ?_); rintro e w' ⟨rfl, hb⟩; first | exact ⟨rfl, hb⟩ | exact ⟨rfl, hb ▸ Bel.refl _⟩))); simp only [Act.put, Act.eval, List.setIfInBounds_toArray, List.set_cons_zero, List.set_cons_succ, Array.getD_eq_getD_getElem?, List.getElem?_toArray, List.getElem?_cons_zero, List.getElem?_cons_succ, Option.getD_some]) | (refine wpT_go 1 (by simp only [List.getElem?_toArray, List.getElem?_cons_zero, List.getElem?_cons_succ] <;> rfl) (by decide +kernel) (by decide +kernel) (by kernel_rfl) (by rfl) (by exact fun _ _ _ _ h => h) (Nat.le_refl _) ?_; apply Exists.intro; refine ⟨fun w1 h1 => ?_, ?_⟩; (first | exact g_move _ rfl | exact g_assign _ rfl | exact g_load _ _ rfl ty28 rfl (HLB.out w1 h1) | exact g_load_mid _ _ rfl rfl (HRI6.out w1 h1) ty28 (clk (kc l i)) rfl | (go_simp; first | exact ⟨rfl, rfl⟩ | rfl | (go_at_call 21; (with_reducible refine (join_any (pmc l i) (kc l i) _).mono ?_); rintro e w' ⟨rfl, hb⟩; first | exact ⟨rfl, hb⟩ | exact ⟨rfl, hb ▸ Bel.refl _⟩))); simp only [Act.put, Act.eval, List.setIfInBounds_toArray, List.set_cons_zero, List.set_cons_succ, Array.getD_eq_getD_getElem?, List.getElem?_toArray, List.getElem?_cons_zero, List.getElem?_cons_succ, Option.getD_some]) | (refine wpT_go 2 (by simp only [List.getElem?_toArray, List.getElem?_cons_zero, List.getElem?_cons_succ] <;> rfl) (by decide +kernel) (by decide +kernel) (by kernel_rfl) (by rfl) (by exact fun _ _ _ _ h => h) (Nat.le_refl _) ?_; apply Exists.intro; refine ⟨fun w1 h1 => ?_, ?_⟩; (first | exact g_move _ rfl | exact g_assign _ rfl | exact g_load _ _ rfl ty28 rfl (HLB.out w1 h1) | exact g_load_mid _ _ rfl rfl (HRI6.out w1 h1) ty28 (clk (kc l i)) rfl | (go_simp; first | exact ⟨rfl, rfl⟩ | rfl | (go_at_call 21; (with_reducible refine (join_any (pmc l i) (kc l i) _).mono ?_); rintro e w' ⟨rfl, hb⟩; first | exact ⟨rfl, hb⟩ | exact ⟨rfl, hb ▸ Bel.refl _⟩))); simp only [Act.put, Act.eval, List.setIfInBounds_toArray, List.set_cons_zero, List.set_cons_succ, Array.getD_eq_getD_getElem?, List.getElem?_toArray, List.getElem?_cons_zero, List.getElem?_cons_succ, Option.getD_some]) | (refine wpT_go 3 (by simp only [List.getElem?_toArray, List.getElem?_cons_zero, List.getElem?_cons_succ] <;> rfl) (by decide +kernel) (by decide +kernel) (by kernel_rfl) (by rfl) (by exact fun _ _ _ _ h => h) (Nat.le_refl _) ?_; apply Exists.intro; refine ⟨fun w1 h1 => ?_, ?_⟩; (first | exact g_move _ rfl | exact g_assign _ rfl | exact g_load _ _ rfl ty28 rfl (HLB.out w1 h1) | exact g_load_mid _ _ rfl rfl (HRI6.out w1 h1) ty28 (clk (kc l i)) rfl | (go_simp; first | exact ⟨rfl, rfl⟩ | rfl | (go_at_call 21; (with_reducible refine (join_any (pmc l i) (kc l i) _).mono ?_); rintro e w' ⟨rfl, hb⟩; first | exact ⟨rfl, hb⟩ | exact ⟨rfl, hb ▸ Bel.refl _⟩))); simp only [Act.put, Act.eval, List.setIfInBounds_toArray, List.set_cons_zero, List.set_cons_succ, Array.getD_eq_getD_getElem?, List.getElem?_toArray, List.getElem?_cons_zero, List.getElem?_cons_succ, Option.getD_some]) | (refine wpT_go 4 (by simp only [List.getElem?_toArray, List.getElem?_cons_zero, List.getElem?_cons_succ] <;> rfl) (by decide +kernel) (by decide +kernel) (by kernel_rfl) (by rfl) (by exact fun _ _ _ _ h => h) (Nat.le_refl _) ?_; apply Exists.intro; refine ⟨fun w1 h1 => ?_, ?_⟩; (first | exact g_move _ rfl | exact g_assign _ rfl | exact g_load _ _ rfl ty28 rfl (HLB.out w1 h1) | exact g_load_mid _ _ rfl rfl (HRI6.out w1 h1) ty28 (clk (kc l i)) rfl | (go_simp; first | exact ⟨rfl, rfl⟩ | rfl | (go_at_call 21; (with_reducible refine (join_any (pmc l i) (kc l i) _).mono ?_); rintro e w' ⟨rfl, hb⟩; first | exact ⟨rfl, hb⟩ | exact ⟨rfl, hb ▸ Bel.refl _⟩))); simp only [Act.put, Act.eval, List.setIfInBounds_toArray, List.set_cons_zero, List.set_cons_succ, Array.getD_eq_getD_getElem?, List.getElem?_toArray, List.getElem?_cons_zero, List.getElem?_cons_succ, Option.getD_some]) | (refine wpT_go 5 (by simp only [List.getElem?_toArray, List.getElem?_cons_zero, List.getElem?_cons_succ] <;> rfl) (by decide +kernel) (by decide +kernel) (by kernel_rfl) (by rfl) (by exact fun _ _ _ _ h => h) (Nat.le_refl _) ?_; apply Exists.intro; refine ⟨fun w1 h1 => ?_, ?_⟩; (first | exact g_move _ rfl | exact g_assign _ rfl | exact g_load _ _ rfl ty28 rfl (HLB.out w1 h1) | exact g_load_mid _ _ rfl rfl (HRI6.out w1 h1) ty28 (clk (kc l i)) rfl | (go_simp; first | exact ⟨rfl, rfl⟩ | rfl | (go_at_call 21; (with_reducible refine (join_any (pmc l i) (kc l i) _).mono ?_); rintro e w' ⟨rfl, hb⟩; first | exact ⟨rfl, hb⟩ | exact ⟨rfl, hb ▸ Bel.refl _⟩))); simp only [Act.put, Act.eval, List.setIfInBounds_toArray, List.set_cons_zero, List.set_cons_succ, Array.getD_eq_getD_getElem?, List.getElem?_toArray, List.getElem?_cons_zero, List.getElem?_cons_succ, Option.getD_some]) | (refine wpT_skip 0 (by simp only [List.getElem?_toArray, List.getElem?_cons_zero, List.getElem?_cons_succ] <;> rfl) (by decide +kernel) (by decide +kernel) (by kernel_rfl) (by rfl) (by exact fun _ _ _ _ h => h) (Nat.le_refl _) ?_; simp only [Act.put, Act.eval, List.setIfInBounds_toArray, List.set_cons_zero, List.set_cons_succ, Array.getD_eq_getD_getElem?, List.getElem?_toArray, List.getElem?_cons_zero, List.getElem?_cons_succ, Option.getD_some]) | (refine wpT_skip 1 (by simp only [List.getElem?_toArray, List.getElem?_cons_zero, List.getElem?_cons_succ] <;> rfl) (by decide +kernel) (by decide +kernel) (by kernel_rfl) (by rfl) (by exact fun _ _ _ _ h => h) (Nat.le_refl _) ?_; simp only [Act.put, Act.eval, List.setIfInBounds_toArray, List.set_cons_zero, List.set_cons_succ, Array.getD_eq_getD_getElem?, List.getElem?_toArray, List.getElem?_cons_zero, List.getElem?_cons_succ, Option.getD_some]) | (refine wpT_skip 2 (by simp only [List.getElem?_toArray, List.getElem?_cons_zero, List.getElem?_cons_succ] <;> rfl) (by decide +kernel) (by decide +kernel) (by kernel_rfl) (by rfl) (by exact fun _ _ _ _ h => h) (Nat.le_refl _) ?_; simp only [Act.put, Act.eval, List.setIfInBounds_toArray, List.set_cons_zero, List.set_cons_succ, Array.getD_eq_getD_getElem?, List.getElem?_toArray, List.getElem?_cons_zero, List.getElem?_cons_succ, Option.getD_some]) | (refine wpT_skip 3 (by simp only [List.getElem?_toArray, List.getElem?_cons_zero, List.getElem?_cons_succ] <;> rfl) (by decide +kernel) (by decide +kernel) (by kernel_rfl) (by rfl) (by exact fun _ _ _ _ h => h) (Nat.le_refl _) ?_; simp only [Act.put, Act.eval, List.setIfInBounds_toArray, List.set_cons_zero, List.set_cons_succ, Array.getD_eq_getD_getElem?, List.getElem?_toArray, List.getElem?_cons_zero, List.getElem?_cons_succ, Option.getD_some]) | (refine wpT_skip 4 (by simp only [List.getElem?_toArray, List.getElem?_cons_zero, List.getElem?_cons_succ] <;> rfl) (by decide +kernel) (by decide +kernel) (by kernel_rfl) (by rfl) (by exact fun _ _ _ _ h => h) (Nat.le_refl _) ?_; simp only [Act.put, Act.eval, List.setIfInBounds_toArray, List.set_cons_zero, List.set_cons_succ, Array.getD_eq_getD_getElem?, List.getElem?_toArray, List.getElem?_cons_zero, List.getElem?_cons_succ, Option.getD_some]) | (refine wpT_skip 5 (by simp only [List.getElem?_toArray, List.getElem?_cons_zero, List.getElem?_cons_succ] <;> rfl) (by decide +kernel) (by decide +kernel) (by kernel_rfl) (by rfl) (by exact fun _ _ _ _ h => h) (Nat.le_refl _) ?_; simp only [Act.put, Act.eval, List.setIfInBounds_toArray, List.set_cons_zero, List.set_cons_succ, Array.getD_eq_getD_getElem?, List.getElem?_toArray, List.getElem?_cons_zero, List.getElem?_cons_succ, Option.getD_some])))
          refine wpT_last (by decide +kernel) (by decide +kernel) (by simp only [List.getElem?_toArray, List.getElem?_cons_zero, List.getElem?_cons_succ] <;> rfl) rfl ?_
          intro w7 hw7
          have HR7 := Lib.hid (HR6.out.bel hw7)
          refine wp_storeB ty28 _ _ rfl rfl rfl rfl HR7.out.last rfl (clk_all _) ?_
          have HR8 := Lib.hid (HR7.out.next HM.out HIL.out)
          intro w8 hw8
          have HR9 := Lib.hid (HR8.out.bel hw8)
          clear hw7 hw8
          go_wp2
          go_roundw
          case rel => exact ⟨i + 1, by omega, by go_num, HR9.out⟩
          case measure => simp [intOf]; omega
        | succ a =>
          have hka : a < i := by omega
          have hta := hspec.2 (by omega)
          rw [Nat.add_sub_cancel] at hta
          have HCM := Lib.hid (fun w => compare_any (kc l a) (kc l i) w)
          rw [cmp_bef HM.out (same_bef HM.out hka HIL.out (by rw [hta, HTO.out]))] at HCM
          obtain ⟨z, hz⟩ : ∃ z : Int, z = ((a + 1 : Nat) : Int) := ⟨_, rfl⟩
          rw [← hz] at d0
          have hz0 : 0 < z := by omega
          have f2 : IntKind.i64.wrap (z - 1) = (a : Int) := by rw [IntWalk.i64_in _ (by omega)]; omega
          have han : (a : Int) < n := by omega
          have ha0 : (0 : Int) ≤ (a : Int) := by omega
          have han' : a < n := by omega
          clear hspec hta hz
          go_wp2_with (first | (refine load_ev T36 _ rfl rfl rfl hR.out ?_) | (refine ewld_store T36 _ _ rfl rfl _ rfl rfl rfl ?_))
          generalize hw4 : ewld wr ⟨ek, (t : Int), eo⟩ 37 = w4 at *
          have HC4 := Lib.hid (show Cks w4 B n l from Box.below HCK.out HR2.out.below HCK.out.lt)
          have HRA := Lib.hid (fun (w' : World) (h : Bel w4 w') => (HC4.out.bel h).row han')
          have HRI := Lib.hid (fun (w' : World) (h : Bel w4 w') => (HC4.out.bel h).row hlt)
          (refine region_bel (by kernel_rfl) (by kernel_rfl) ?_; (repeat (first | ((with_reducible refine BigFrame.wpQuiet_skip ?_ ?_); exact rfl; simp only [Act.put, Act.eval, List.setIfInBounds_toArray, List.set_cons_zero, List.set_cons_succ, Array.getD_eq_getD_getElem?, List.getElem?_toArray, List.getElem?_cons_zero, List.getElem?_cons_succ, Option.getD_some]) | (refine q_move _ rfl rfl ?_; simp only [Act.put, Act.eval, List.setIfInBounds_toArray, List.set_cons_zero, List.set_cons_succ, Array.getD_eq_getD_getElem?, List.getElem?_toArray, List.getElem?_cons_zero, List.getElem?_cons_succ, Option.getD_some]) | (refine q_assign _ rfl rfl ?_; simp only [Act.put, Act.eval, List.setIfInBounds_toArray, List.set_cons_zero, List.set_cons_succ, Array.getD_eq_getD_getElem?, List.getElem?_toArray, List.getElem?_cons_zero, List.getElem?_cons_succ, Option.getD_some]) | (refine q_load_mid 31 _ rfl rfl rfl HRA.out ty28 (clk (kc l a)) rfl ?_; simp only [Act.put, Act.eval, List.setIfInBounds_toArray, List.set_cons_zero, List.set_cons_succ, Array.getD_eq_getD_getElem?, List.getElem?_toArray, List.getElem?_cons_zero, List.getElem?_cons_succ, Option.getD_some]) | (refine q_load_mid 31 _ rfl rfl rfl HRI.out ty28 (clk (kc l i)) rfl ?_; simp only [Act.put, Act.eval, List.setIfInBounds_toArray, List.set_cons_zero, List.set_cons_succ, Array.getD_eq_getD_getElem?, List.getElem?_toArray, List.getElem?_cons_zero, List.getElem?_cons_succ, Option.getD_some]) | (refine q_any rfl ?_; apply Exists.intro; refine ⟨fun w hw => ?_, ?_⟩; (go_simp; first | exact ⟨rfl, rfl⟩ | rfl | (go_at_call 20; (with_reducible refine (HCM.out _).mono ?_); rintro e w' ⟨rfl, hb⟩; exact ⟨rfl, hw.call hb⟩)); simp only [Act.put, Act.eval, List.setIfInBounds_toArray, List.set_cons_zero, List.set_cons_succ, Array.getD_eq_getD_getElem?, List.getElem?_toArray, List.getElem?_cons_zero, List.getElem?_cons_succ, Option.getD_some]))); refine wpQuiet_nil ?_; intro w2 hw2)
          have HR5 := Lib.hid (HR2.out.bel hw2)
          have g1 := HR5.out.iss.frozen t
          have n1 : w2.cell? ⟨V.heap.size + 1, t, none⟩ = some (.int .i64 (lstI l t i : Nat)) := HR5.out.iss.cell t (clk_get _ _ ht6)
          have e1 : w2.cell? ⟨wr.heap.size, 1, none⟩ = some (.int .i64 (t : Int)) := hw2.cell c1
          have HR6 := Lib.hid (HR5.out.half HTO.out ht6 (u := (i : Int) + 1) rfl)
          clear hw2 c1
          go_wp2
          generalize hw6 : w2.setCell ⟨V.heap.size + 1, t, none⟩ (.int .i64 ((i : Int) + 1)) = w6 at *
          clear hw6 g1 n1 e1
          have HC6 := Lib.hid (show Cks w6 B n l from Box.below HCK.out HR6.out.below HCK.out.lt)
          have HRI6 := Lib.hid (fun (w' : World) (h : Bel w6 w') => (HC6.out.bel h).row hlt)
          have HLB := Lib.hid (fun (w' : World) (h : Bel w6 w') => h.box HR6.out.last)
          refine region_growT 6 (by kernel_rfl) ?_
          (repeat (first | (refine wpT_go 0 (by simp only [List.getElem?_toArray, List.getElem?_cons_zero, List.getElem?_cons_succ] <;> rfl) (by decide +kernel) (by decide +kernel) (by kernel_rfl) (by rfl) (by exact fun _ _ _ _ h => h) (Nat.le_refl _) ?_; apply Exists.intro; refine ⟨fun w1 h1 => ?_, ?_⟩; (first | exact g_move _ rfl | exact g_assign _ rfl | exact g_load _ _ rfl ty28 rfl (HLB.out w1 h1) | exact g_load_mid _ _ rfl rfl (HRI6.out w1 h1) ty28 (clk (kc l i)) rfl | (go_simp; first | exact ⟨rfl, rfl⟩ | rfl | (go_at_call 21; (with_reducible refine (join_any (pmc l i) (kc l i) _).mono ?_); rintro e w' ⟨rfl, hb⟩; first | exact ⟨rfl, hb⟩ | exact ⟨rfl, hb ▸ Bel.refl _⟩))); simp only [Act.put, Act.eval, List.setIfInBounds_toArray, List.set_cons_zero, List.set_cons_succ, Array.getD_eq_getD_getElem?, List.getElem?_toArray, List.getElem?_cons_zero, List.getElem?_cons_succ, Option.getD_some]) | (refine wpT_go 1 (by simp only [List.getElem?_toArray, List.getElem?_cons_zero, List.getElem?_cons_succ] <;> rfl) (by decide +kernel) (by decide +kernel) (by kernel_rfl) (by rfl) (by exact fun _ _ _ _ h => h) (Nat.le_refl _) ?_; apply Exists.intro; refine ⟨fun w1 h1 => ?_, ?_⟩; (first | exact g_move _ rfl | exact g_assign _ rfl | exact g_load _ _ rfl ty28 rfl (HLB.out w1 h1) | exact g_load_mid _ _ rfl rfl (HRI6.out w1 h1) ty28 (clk (kc l i)) rfl | (go_simp; first | exact ⟨rfl, rfl⟩ | rfl | (go_at_call 21; (with_reducible refine (join_any (pmc l i) (kc l i) _).mono ?_); rintro e w' ⟨rfl, hb⟩; first | exact ⟨rfl, hb⟩ | exact ⟨rfl, hb ▸ Bel.refl _⟩))); simp only [Act.put, Act.eval, List.setIfInBounds_toArray, List.set_cons_zero, List.set_cons_succ, Array.getD_eq_getD_getElem?, List.getElem?_toArray, List.getElem?_cons_zero, List.getElem?_cons_succ, Option.getD_some]) | (refine wpT_go 2 (by simp only [List.getElem?_toArray, List.getElem?_cons_zero, List.getElem?_cons_succ] <;> rfl) (by decide +kernel) (by decide +kernel) (by kernel_rfl) (by rfl) (by exact fun _ _ _ _ h => h) (Nat.le_refl _) ?_; apply Exists.intro; refine ⟨fun w1 h1 => ?_, ?_⟩; (first | exact g_move _ rfl | exact g_assign _ rfl | exact g_load _ _ rfl ty28 rfl (HLB.out w1 h1) | exact g_load_mid _ _ rfl rfl (HRI6.out w1 h1) ty28 (clk (kc l i)) rfl | (go_simp; first | exact ⟨rfl, rfl⟩ | rfl | (go_at_call 21; (with_reducible refine (join_any (pmc l i) (kc l i) _).mono ?_); rintro e w' ⟨rfl, hb⟩; first | exact ⟨rfl, hb⟩ | exact ⟨rfl, hb ▸ Bel.refl _⟩))); simp only [Act.put, Act.eval, List.setIfInBounds_toArray, List.set_cons_zero, List.set_cons_succ, Array.getD_eq_getD_getElem?, List.getElem?_toArray, List.getElem?_cons_zero, List.getElem?_cons_succ, Option.getD_some]) | (refine wpT_go 3 (by simp only [List.getElem?_toArray, List.getElem?_cons_zero, List.getElem?_cons_succ] <;> rfl) (by decide +kernel) (by decide +kernel) (by kernel_rfl) (by rfl) (by exact fun _ _ _ _ h => h) (Nat.le_refl _) ?_; apply Exists.intro; refine ⟨fun w1 h1 => ?_, ?_⟩; (first | exact g_move _ rfl | exact g_assign _ rfl | exact g_load _ _ rfl ty28 rfl (HLB.out w1 h1) | exact g_load_mid _ _ rfl rfl (HRI6.out w1 h1) ty28 (clk (kc l i)) rfl | (go_simp; first | exact ⟨rfl, rfl⟩ | rfl | (go_at_call 21; (with_reducible refine (join_any (pmc l i) (kc l i) _).mono ?_); rintro e w' ⟨rfl, hb⟩; first | exact ⟨rfl, hb⟩ | exact ⟨rfl, hb ▸ Bel.refl _⟩))); simp only [Act.put, Act.eval, List.setIfInBounds_toArray, List.set_cons_zero, List.set_cons_succ, Array.getD_eq_getD_getElem?, List.getElem?_toArray, List.getElem?_cons_zero, List.getElem?_cons_succ, Option.getD_some]) | (refine wpT_go 4 (by simp only [List.getElem?_toArray, List.getElem?_cons_zero, List.getElem?_cons_succ] <;> rfl) (by decide +kernel) (by decide +kernel) (by kernel_rfl) (by rfl) (by exact fun _ _ _ _ h => h) (Nat.le_refl _) ?_; apply Exists.intro; refine ⟨fun w1 h1 => ?_, ?_⟩; (first | exact g_move _ rfl | exact g_assign _ rfl | exact g_load _ _ rfl ty28 rfl (HLB.out w1 h1) | exact g_load_mid _ _ rfl rfl (HRI6.out w1 h1) ty28 (clk (kc l i)) rfl | (go_simp; first | exact ⟨rfl, rfl⟩ | rfl | (go_at_call 21; (with_reducible refine (join_any (pmc l i) (kc l i) _).mono ?_); rintro e w' ⟨rfl, hb⟩; first | exact ⟨rfl, hb⟩ | exact ⟨rfl, hb ▸ Bel.refl _⟩))); simp only [Act.put, Act.eval, List.setIfInBounds_toArray, List.set_cons_zero, List.set_cons_succ, Array.getD_eq_getD_getElem?, List.getElem?_toArray, List.getElem?_cons_zero, List.getElem?_cons_succ, Option.getD_some]) | (refine wpT_go 5 (by simp only [List.getElem?_toArray, List.getElem?_cons_zero, List.getElem?_cons_succ] <;> rfl) (by decide +kernel) (by decide +kernel) (by kernel_rfl) (by rfl) (by exact fun _ _ _ _ h => h) (Nat.le_refl _) ?_; apply Exists.intro; refine ⟨fun w1 h1 => ?_, ?_⟩; (first | exact g_move _ rfl | exact g_assign _ rfl | exact g_load _ _ rfl ty28 rfl (HLB.out w1 h1) | exact g_load_mid _ _ rfl rfl (HRI6.out w1 h1) ty28 (clk (kc l i)) rfl | (go_simp; first | exact ⟨rfl, rfl⟩ | rfl | (go_at_call 21; (with_reducible refine (join_any (pmc l i) (kc l i) _).mono ?_); rintro e w' ⟨rfl, hb⟩; first | exact ⟨rfl, hb⟩ | exact ⟨rfl, hb ▸ Bel.refl _⟩))); simp only [Act.put, Act.eval, List.setIfInBounds_toArray, List.set_cons_zero, List.set_cons_succ, Array.getD_eq_getD_getElem?, List.getElem?_toArray, List.getElem?_cons_zero, List.getElem?_cons_succ, Option.getD_some]) | (refine wpT_skip 0 (by simp only [List.getElem?_toArray, List.getElem?_cons_zero, List.getElem?_cons_succ] <;> rfl) (by decide +kernel) (by decide +kernel) (by kernel_rfl) (by rfl) (by exact fun _ _ _ _ h => h) (Nat.le_refl _) ?_; simp only [Act.put, Act.eval, List.setIfInBounds_toArray, List.set_cons_zero, List.set_cons_succ, Array.getD_eq_getD_getElem?, List.getElem?_toArray, List.getElem?_cons_zero, List.getElem?_cons_succ, Option.getD_some]) | (refine wpT_skip 1 (by simp only [List.getElem?_toArray, List.getElem?_cons_zero, List.getElem?_cons_succ] <;> rfl) (by decide +kernel) (by decide +kernel) (by kernel_rfl) (by rfl) (by exact fun _ _ _ _ h => h) (Nat.le_refl _) ?_; simp only [Act.put, Act.eval, List.setIfInBounds_toArray, List.set_cons_zero, List.set_cons_succ, Array.getD_eq_getD_getElem?, List.getElem?_toArray, List.getElem?_cons_zero, List.getElem?_cons_succ, Option.getD_some]) | (refine wpT_skip 2 (by simp only [List.getElem?_toArray, List.getElem?_cons_zero, List.getElem?_cons_succ] <;> rfl) (by decide +kernel) (by decide +kernel) (by kernel_rfl) (by rfl) (by exact fun _ _ _ _ h => h) (Nat.le_refl _) ?_; simp only [Act.put, Act.eval, List.setIfInBounds_toArray, List.set_cons_zero, List.set_cons_succ, Array.getD_eq_getD_getElem?, List.getElem?_toArray, List.getElem?_cons_zero, List.getElem?_cons_succ, Option.getD_some]) | (refine wpT_skip 3 (by simp only [List.getElem?_toArray, List.getElem?_cons_zero, List.getElem?_cons_succ] <;> rfl) (by decide +kernel) (by decide +kernel) (by kernel_rfl) (by rfl) (by exact fun _ _ _ _ h => h) (Nat.le_refl _) ?_; simp only [Act.put, Act.eval, List.setIfInBounds_toArray, List.set_cons_zero, List.set_cons_succ, Array.getD_eq_getD_getElem?, List.getElem?_toArray, List.getElem?_cons_zero, List.getElem?_cons_succ, Option.getD_some]) | (refine wpT_skip 4 (by simp only [List.getElem?_toArray, List.getElem?_cons_zero, List.getElem?_cons_succ] <;> rfl) (by decide +kernel) (by decide +kernel) (by kernel_rfl) (by rfl) (by exact fun _ _ _ _ h => h) (Nat.le_refl _) ?_; simp only [Act.put, Act.eval, List.setIfInBounds_toArray, List.set_cons_zero, List.set_cons_succ, Array.getD_eq_getD_getElem?, List.getElem?_toArray, List.getElem?_cons_zero, List.getElem?_cons_succ, Option.getD_some]) | (refine wpT_skip 5 (by simp only [List.getElem?_toArray, List.getElem?_cons_zero, List.getElem?_cons_succ] <;> rfl) (by decide +kernel) (by decide +kernel) (by kernel_rfl) (by rfl) (by exact fun _ _ _ _ h => h) (Nat.le_refl _) ?_; simp only [Act.put, Act.eval, List.setIfInBounds_toArray, List.set_cons_zero, List.set_cons_succ, Array.getD_eq_getD_getElem?, List.getElem?_toArray, List.getElem?_cons_zero, List.getElem?_cons_succ, Option.getD_some])))
          refine wpT_last (by decide +kernel) (by decide +kernel) (by simp only [List.getElem?_toArray, List.getElem?_cons_zero, List.getElem?_cons_succ] <;> rfl) rfl ?_
          intro w7 hw7
          have HR7 := Lib.hid (HR6.out.bel hw7)
          refine wp_storeB ty28 _ _ rfl rfl rfl rfl HR7.out.last rfl (clk_all _) ?_
          have HR8 := Lib.hid (HR7.out.next HM.out HIL.out)
          intro w8 hw8
          have HR9 := Lib.hid (HR8.out.bel hw8)
          clear hw7 hw8
          go_wp2
          go_roundw
          case rel => exact ⟨i + 1, by omega, by go_num, HR9.out⟩
          case measure => simp [intOf]; omega
      · obtain rfl : i = n := by omega
        have HB := Lib.hid (HR.out.last)
        have HWR := Lib.hid (HWV.out.trans (Bel.of HR.out.below))
        go_wp2_with (first | (refine loadB _ _ rfl rfl rfl HB.out ty28 ?_))
        go_loopw [10, 75] (fun t10 t75 wr2 => ∃ k : Nat, k ≤ 6 ∧ t75 = .int .i64 k ∧ t10 = .int .i64 (ps l i k : Nat) ∧ wr2 = wr) (fun _ t75 _ => 6 - (intOf t75).toNat)
        case atStart => exact ⟨0, by omega, rfl, rfl, rfl⟩
        case round =>
          obtain ⟨k, hk, rfl, rfl, rfl⟩ := hrel
          by_cases hk6 : k < 6
          · have hk6' : (k : Int) < 6 := by omega
            have HI := index_clk Try.underlying31 Try.underlying3 (by kernel_rfl) (pmc l i) k hk6
            have hp1 := ps_le l i k
            have hp2 := pm_le l i k
            have hp3 : k * i ≤ 6 * 80 := Nat.mul_le_mul (by omega) hn80
            have HPS := Lib.hid (show (ps l i k : Int) + pmc l i k = (ps l i (k + 1) : Nat) by rw [ps]; unfold pmc; omega)
            have f3 : IntKind.i64.wrap ((ps l i k : Int) + pmc l i k) = (ps l i k : Int) + pmc l i k := IntWalk.i64_in _ (by unfold pmc; omega)
            clear hp1 hp2 hp3
            go_wp2
            go_roundw
            case rel => exact ⟨k + 1, by omega, by go_num, by rw [← HPS.out], by first | trivial | rfl⟩
            case measure => simp [intOf]; omega
          · obtain rfl : k = 6 := by omega
            have hs : ps l i 6 = i := HSUM.out
            go_wp2
            go_ret
            exact ⟨rfl, HWR.out⟩

set_option maxRecDepth 100000 in
theorem lifted (os : Os) (started : os.Started) (H : Type) (enc : TypeId × Value → H) :
    ReturnsInHanded {} Try.checked os 7 .any (Rows.stampRisesSpec.pre6 enc Try.prog Try.f7 Rows.stampRisesRow.domain false) (Rows.stampRisesSpec.post enc Try.prog Try.f7 false true false false) := by
  refine returnsInHanded_of_change_sized (C := Try.checked) own started (by kernel_rfl) Try.func7
    (ChangeSpec.witness6 (enc := enc) (C := Try.checked) false ⟨#[], #[.slice none 0 0], []⟩ 8 (by kernel_rfl) (by kernel_rfl) (by kernel_rfl) (by kernel_rfl)) ?_
  intro W base args ds gs before hval0 hW hcnd hsz0 _
  have hsz : (DataW.weightsEach Try.prog (Try.f7.params.toList ++ Rows.stampRisesSpec.plain.varTypes Try.prog) (ds ++ gs)).all (· ≤ reachBytes) = true := hsz0
  clear hsz0
  have hval : ∀ (j : Nat) t v, Try.f7.params[j]? = some t → args[j]? = some v → Value.okWide Try.prog W .any base t v := hval0
  have hW' := hW
  obtain ⟨p, q, hA0, hV, rfl, hfz, hnd⟩ := hW
  have hA : DataW.TrodAll enc Try.prog W 0 (fun _ => true) true Try.f7.params.toList args.toList ds p := hA0
  rw [Try.params7] at hA hval hsz
  obtain ⟨v0, vs0, d0, ds0, p0, q0, hargs, rfl, rfl, h0, r0⟩ := trodAll_cons hA
  obtain ⟨rfl, rfl, rfl⟩ := trodAll_nil r0
  obtain rfl : args = #[v0] := by cases args; simp_all
  obtain ⟨rfl, rfl⟩ := trodVars_none hV
  have t0 := h0
  have lt0 : ∀ x ∈ p0, x.block < W.heap.size := by obtain ⟨m, hm⟩ := t0; exact DataW.trod_lt m _ _ _ hm
  obtain ⟨A0, n0, c0, l0, rfl, s0, m0, x0, g0, z0⟩ := open_evs Try.underlying22 Try.underlying37 ⟨rfl, rfl, rfl⟩ (by kernel_rfl) (by kernel_rfl) Try.underlying3 (hval 0 22 v0 rfl rfl) h0
  have y0 := reach_sl hsz (j := 0) rfl rfl Try.underlying22 (b := 24) (by kernel_rfl) z0
  clear hA0 hval0
  refine (walk W A0 n0 c0 l0 s0 m0 x0 g0).mono fun e W' ⟨he, bel⟩ => ?_
  subst he
  exact ⟨_, rfl, _, _, _, [], _, [], hW', trodAll_mk1 (shut_bool Try.underlying4 _), (trodAll_cons_mk (Below.trod laidOut (by kernel_rfl) (of_decide_eq_true (by kernel_rfl)) t0 bel lt0) trodAll_mk0), rfl, bel.frame _, fun h => by cases h⟩

theorem over : Rows.stampRisesRow.holds Try.pinned (OpenSpec.ofChange Rows.stampRisesSpec) :=
  OpenClaim.holds_of_wide 7 Try.f7 rfl rfl rfl rfl rfl rfl rfl ⟨rfl, rfl, rfl, rfl, rfl⟩ rfl rfl rfl rfl rfl (by kernel_rfl) Try.func7 (by kernel_rfl)
    (of_decide_eq_true (by kernel_rfl)) (by unfold Func.isWrapper; first | (rw [if_pos (by decide +kernel)]; kernel_rfl) | (rw [if_neg (by decide +kernel)]; exact ⟨rfl, rfl⟩))
    (fun os started H enc _ => lifted os started H enc)

theorem proved : Rows.StampRisesSaid := over
#print axioms proved
end Go.Proofs.Ytfmkbjgkicipcaa.LStampRises

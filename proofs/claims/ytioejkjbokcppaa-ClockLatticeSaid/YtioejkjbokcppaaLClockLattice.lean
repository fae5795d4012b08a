/- 'deadheatkeep.ClockLattice' returns true for every input and leaves its arguments as they are. No condition. -/
import Derived.Test.YtioejkjbokcppaaOpen
import Derived.Test.YtioejkjbokcppaaGrow
import Derived.Test.YtioejkjbokcppaaClocked
import Derived.Deep.DeepCutAuto
set_option linter.all false
namespace Go.Proofs.Ytioejkjbokcppaa.LClockLattice
open Go Go.ChangeShapes Go.WideShapes Go.ChangeAt Go.RowKit
set_option linter.unusedVariables false

def J2 (a b : Nat → Int) : Nat → Int := fun j => mx (a j) (b j)
theorem mx_le {x y : Int} : x ≤ mx x y ∧ y ≤ mx x y := by unfold mx; split <;> omega
theorem mn_le {x y : Int} : mn x y ≤ x ∧ mn x y ≤ y := by unfold mn; split <;> omega
theorem within_ja (a b : Nat → Int) : within a (fun j => mx (a j) (b j)) = true := (within_iff _ _).2 fun k _ => mx_le.1
theorem within_jb (a b : Nat → Int) : within b (fun j => mx (a j) (b j)) = true := (within_iff _ _).2 fun k _ => mx_le.2
theorem within_ma (a b : Nat → Int) : within (fun j => mn (a j) (b j)) a = true := (within_iff _ _).2 fun k _ => mn_le.1
theorem within_mb (a b : Nat → Int) : within (fun j => mn (a j) (b j)) b = true := (within_iff _ _).2 fun k _ => mn_le.2
theorem neqF {x y : Nat → Int} (h : ∀ k, k < 6 → x k = y k) (w : World) : (binOp .neq 43 (.agg (clk x)) (.agg (clk y))).run Try.prog w = .ok (.bool false) w := by
  rw [neq_clk Try.underlying43 Try.underlying3 (by kernel_rfl), (eqc_iff x y).2 h]; rfl
theorem neqJ (a b : Nat → Int) : ∀ w, (binOp .neq 43 (.agg (clk fun j => mx (a j) (b j))) (.agg (clk fun j => mx (b j) (a j)))).run Try.prog w = .ok (.bool false) w := neqF fun k _ => by unfold mx; repeat' split; all_goals omega
theorem neqM (a b : Nat → Int) : ∀ w, (binOp .neq 43 (.agg (clk fun j => mn (a j) (b j))) (.agg (clk fun j => mn (b j) (a j)))).run Try.prog w = .ok (.bool false) w := neqF fun k _ => by unfold mn; repeat' split; all_goals omega
theorem neqA (a b : Nat → Int) : ∀ w, (binOp .neq 43 (.agg (clk fun j => mx (a j) (mn (a j) (b j)))) (.agg (clk a))).run Try.prog w = .ok (.bool false) w := neqF fun k _ => by unfold mx mn; repeat' split; all_goals omega
theorem neqA' (a b : Nat → Int) : ∀ w, (binOp .neq 43 (.agg (clk fun j => mn (a j) (mx (a j) (b j)))) (.agg (clk a))).run Try.prog w = .ok (.bool false) w := neqF fun k _ => by unfold mx mn; repeat' split; all_goals omega
theorem neqAss (a b c : Nat → Int) : ∀ w, (binOp .neq 43 (.agg (clk fun j => mx (mx (a j) (b j)) (c j))) (.agg (clk fun j => mx (a j) (mx (b j) (c j))))).run Try.prog w = .ok (.bool false) w := neqF fun k _ => by unfold mx; repeat' split; all_goals omega
theorem within_j (a b c : Nat → Int) : within (fun j => mx (a j) (b j)) c = (within a c && within b c) := by
  rw [Bool.eq_iff_iff, Bool.and_eq_true, within_iff, within_iff, within_iff]
  constructor
  · intro h; exact ⟨fun k hk => Int.le_trans mx_le.1 (h k hk), fun k hk => Int.le_trans mx_le.2 (h k hk)⟩
  · intro ⟨h1, h2⟩ k hk; have := h1 k hk; have := h2 k hk; unfold mx; split <;> omega
theorem within_m (a b c : Nat → Int) : within c (fun j => mn (a j) (b j)) = (within c a && within c b) := by
  rw [Bool.eq_iff_iff, Bool.and_eq_true, within_iff, within_iff, within_iff]
  constructor
  · intro h; exact ⟨fun k hk => Int.le_trans (h k hk) mn_le.1, fun k hk => Int.le_trans (h k hk) mn_le.2⟩
  · intro ⟨h1, h2⟩ k hk; have := h1 k hk; have := h2 k hk; unfold mn; split <;> omega

structure LRel (a b : Nat → Int) (W : World) (s7 s8 : Value) (B7 B8 : Nat) (wx : World) : Prop where
  p7 : s7 = .pointer (some ⟨B7, 0, none⟩)
  p8 : s8 = .pointer (some ⟨B8, 0, none⟩)
  j : Box wx B7 (clk fun j => mx (a j) (b j)) 43
  m : Box wx B8 (clk fun j => mn (a j) (b j)) 43
  bel : Bel W wx
theorem within_lit {a b : Nat → Int} {v : Bool} (h : within a b = v) (w : World) : Calls Try.prog 28 #[.agg (clk a), .agg (clk b)] w fun e w' => e = .returned (.bool v) ∧ Below w.heap.size w w' := h ▸ within_any a b w
set_option maxHeartbeats 20000000 in
set_option maxRecDepth 100000 in
theorem walk (a : Nat → Int) (ka : ClkOk a) (b : Nat → Int) (kb : ClkOk b) (c : Nat → Int) (kc : ClkOk c) (w : World) :
    Calls Try.prog 11 #[.agg (clk a), .agg (clk b), .agg (clk c)] w fun e w' => e = .returned (.bool true) ∧ Below w.heap.size w w' := by
  obtain ⟨b1, b2, b3, hB, hs⟩ := boxes3 w (clk a) (clk b) (clk c) 43 43 43
  generalize hW : (((w.alloc (.cells (clk a) 43)).alloc (.cells (clk b) 43)).alloc (.cells (clk c) 43)) = W at *
  have HB := Lib.hid hB
  have HL := Lib.hid (show w.heap.size ≤ W.heap.size by omega)
  have G := grdC
  clear hB hs ka kb kc
  go_enter Try.func11, Try.ntmps11
  go_wp2_with fail
  refine (clocked_any _).mono ?_
  rintro e w1 ⟨rfl, hb1⟩
  have K1 := Lib.hid (show Bel W w1 from hb1)
  clear hb1
  go_wp2
  go_cut [7, 8] (fun s7 s8 wx => ∃ B7 B8 : Nat, LRel a b W s7 s8 B7 B8 wx)
  case first =>
    refine region_grow (by kernel_rfl) ?_
    have hx1 := fun (w' : World) (h : Below w1.heap.size w1 w') => (K1.out.trans h).box b1
    have hx2 := fun (w' : World) (h : Below w1.heap.size w1 w') => (K1.out.trans h).box b2
    (repeat (first | (refine wpG_go 0 (by simp only [List.getElem?_toArray, List.getElem?_cons_zero, List.getElem?_cons_succ] <;> rfl) (by decide +kernel) (by decide +kernel) (by kernel_rfl) (by rfl) (by exact fun _ _ _ _ h => h) (Nat.le_refl _) ?_; apply Exists.intro; refine ⟨fun w1 h1 => ?_, ?_⟩; (first | exact g_move _ rfl | exact g_assign _ rfl | exact g_load _ _ rfl ty28 rfl (hx1 w1 h1) | exact g_load _ _ rfl ty28 rfl (hx2 w1 h1) | (go_simp; first | exact ⟨rfl, rfl⟩ | rfl | (go_at_call 26; (with_reducible refine (join_any a b _).mono ?_); rintro e w' ⟨rfl, hb⟩; first | exact ⟨rfl, hb⟩ | exact ⟨rfl, hb ▸ Bel.refl _⟩) | (go_at_call 27; (with_reducible refine (meet_any a b _).mono ?_); rintro e w' ⟨rfl, hb⟩; first | exact ⟨rfl, hb⟩ | exact ⟨rfl, hb ▸ Bel.refl _⟩))); simp only [Act.put, Act.eval, List.setIfInBounds_toArray, List.set_cons_zero, List.set_cons_succ, Array.getD_eq_getD_getElem?, List.getElem?_toArray, List.getElem?_cons_zero, List.getElem?_cons_succ, Option.getD_some]) | (refine wpG_go 1 (by simp only [List.getElem?_toArray, List.getElem?_cons_zero, List.getElem?_cons_succ] <;> rfl) (by decide +kernel) (by decide +kernel) (by kernel_rfl) (by rfl) (by exact fun _ _ _ _ h => h) (Nat.le_refl _) ?_; apply Exists.intro; refine ⟨fun w1 h1 => ?_, ?_⟩; (first | exact g_move _ rfl | exact g_assign _ rfl | exact g_load _ _ rfl ty28 rfl (hx1 w1 h1) | exact g_load _ _ rfl ty28 rfl (hx2 w1 h1) | (go_simp; first | exact ⟨rfl, rfl⟩ | rfl | (go_at_call 26; (with_reducible refine (join_any a b _).mono ?_); rintro e w' ⟨rfl, hb⟩; first | exact ⟨rfl, hb⟩ | exact ⟨rfl, hb ▸ Bel.refl _⟩) | (go_at_call 27; (with_reducible refine (meet_any a b _).mono ?_); rintro e w' ⟨rfl, hb⟩; first | exact ⟨rfl, hb⟩ | exact ⟨rfl, hb ▸ Bel.refl _⟩))); simp only [Act.put, Act.eval, List.setIfInBounds_toArray, List.set_cons_zero, List.set_cons_succ, Array.getD_eq_getD_getElem?, List.getElem?_toArray, List.getElem?_cons_zero, List.getElem?_cons_succ, Option.getD_some]) | (refine wpG_go 2 (by simp only [List.getElem?_toArray, List.getElem?_cons_zero, List.getElem?_cons_succ] <;> rfl) (by decide +kernel) (by decide +kernel) (by kernel_rfl) (by rfl) (by exact fun _ _ _ _ h => h) (Nat.le_refl _) ?_; apply Exists.intro; refine ⟨fun w1 h1 => ?_, ?_⟩; (first | exact g_move _ rfl | exact g_assign _ rfl | exact g_load _ _ rfl ty28 rfl (hx1 w1 h1) | exact g_load _ _ rfl ty28 rfl (hx2 w1 h1) | (go_simp; first | exact ⟨rfl, rfl⟩ | rfl | (go_at_call 26; (with_reducible refine (join_any a b _).mono ?_); rintro e w' ⟨rfl, hb⟩; first | exact ⟨rfl, hb⟩ | exact ⟨rfl, hb ▸ Bel.refl _⟩) | (go_at_call 27; (with_reducible refine (meet_any a b _).mono ?_); rintro e w' ⟨rfl, hb⟩; first | exact ⟨rfl, hb⟩ | exact ⟨rfl, hb ▸ Bel.refl _⟩))); simp only [Act.put, Act.eval, List.setIfInBounds_toArray, List.set_cons_zero, List.set_cons_succ, Array.getD_eq_getD_getElem?, List.getElem?_toArray, List.getElem?_cons_zero, List.getElem?_cons_succ, Option.getD_some]) | (refine wpG_go 3 (by simp only [List.getElem?_toArray, List.getElem?_cons_zero, List.getElem?_cons_succ] <;> rfl) (by decide +kernel) (by decide +kernel) (by kernel_rfl) (by rfl) (by exact fun _ _ _ _ h => h) (Nat.le_refl _) ?_; apply Exists.intro; refine ⟨fun w1 h1 => ?_, ?_⟩; (first | exact g_move _ rfl | exact g_assign _ rfl | exact g_load _ _ rfl ty28 rfl (hx1 w1 h1) | exact g_load _ _ rfl ty28 rfl (hx2 w1 h1) | (go_simp; first | exact ⟨rfl, rfl⟩ | rfl | (go_at_call 26; (with_reducible refine (join_any a b _).mono ?_); rintro e w' ⟨rfl, hb⟩; first | exact ⟨rfl, hb⟩ | exact ⟨rfl, hb ▸ Bel.refl _⟩) | (go_at_call 27; (with_reducible refine (meet_any a b _).mono ?_); rintro e w' ⟨rfl, hb⟩; first | exact ⟨rfl, hb⟩ | exact ⟨rfl, hb ▸ Bel.refl _⟩))); simp only [Act.put, Act.eval, List.setIfInBounds_toArray, List.set_cons_zero, List.set_cons_succ, Array.getD_eq_getD_getElem?, List.getElem?_toArray, List.getElem?_cons_zero, List.getElem?_cons_succ, Option.getD_some]) | (refine wpG_go 4 (by simp only [List.getElem?_toArray, List.getElem?_cons_zero, List.getElem?_cons_succ] <;> rfl) (by decide +kernel) (by decide +kernel) (by kernel_rfl) (by rfl) (by exact fun _ _ _ _ h => h) (Nat.le_refl _) ?_; apply Exists.intro; refine ⟨fun w1 h1 => ?_, ?_⟩; (first | exact g_move _ rfl | exact g_assign _ rfl | exact g_load _ _ rfl ty28 rfl (hx1 w1 h1) | exact g_load _ _ rfl ty28 rfl (hx2 w1 h1) | (go_simp; first | exact ⟨rfl, rfl⟩ | rfl | (go_at_call 26; (with_reducible refine (join_any a b _).mono ?_); rintro e w' ⟨rfl, hb⟩; first | exact ⟨rfl, hb⟩ | exact ⟨rfl, hb ▸ Bel.refl _⟩) | (go_at_call 27; (with_reducible refine (meet_any a b _).mono ?_); rintro e w' ⟨rfl, hb⟩; first | exact ⟨rfl, hb⟩ | exact ⟨rfl, hb ▸ Bel.refl _⟩))); simp only [Act.put, Act.eval, List.setIfInBounds_toArray, List.set_cons_zero, List.set_cons_succ, Array.getD_eq_getD_getElem?, List.getElem?_toArray, List.getElem?_cons_zero, List.getElem?_cons_succ, Option.getD_some]) | (refine wpG_go 5 (by simp only [List.getElem?_toArray, List.getElem?_cons_zero, List.getElem?_cons_succ] <;> rfl) (by decide +kernel) (by decide +kernel) (by kernel_rfl) (by rfl) (by exact fun _ _ _ _ h => h) (Nat.le_refl _) ?_; apply Exists.intro; refine ⟨fun w1 h1 => ?_, ?_⟩; (first | exact g_move _ rfl | exact g_assign _ rfl | exact g_load _ _ rfl ty28 rfl (hx1 w1 h1) | exact g_load _ _ rfl ty28 rfl (hx2 w1 h1) | (go_simp; first | exact ⟨rfl, rfl⟩ | rfl | (go_at_call 26; (with_reducible refine (join_any a b _).mono ?_); rintro e w' ⟨rfl, hb⟩; first | exact ⟨rfl, hb⟩ | exact ⟨rfl, hb ▸ Bel.refl _⟩) | (go_at_call 27; (with_reducible refine (meet_any a b _).mono ?_); rintro e w' ⟨rfl, hb⟩; first | exact ⟨rfl, hb⟩ | exact ⟨rfl, hb ▸ Bel.refl _⟩))); simp only [Act.put, Act.eval, List.setIfInBounds_toArray, List.set_cons_zero, List.set_cons_succ, Array.getD_eq_getD_getElem?, List.getElem?_toArray, List.getElem?_cons_zero, List.getElem?_cons_succ, Option.getD_some]) | (refine wpG_skip 0 (by simp only [List.getElem?_toArray, List.getElem?_cons_zero, List.getElem?_cons_succ] <;> rfl) (by decide +kernel) (by decide +kernel) (by kernel_rfl) (by rfl) (by exact fun _ _ _ _ h => h) (Nat.le_refl _) ?_; simp only [Act.put, Act.eval, List.setIfInBounds_toArray, List.set_cons_zero, List.set_cons_succ, Array.getD_eq_getD_getElem?, List.getElem?_toArray, List.getElem?_cons_zero, List.getElem?_cons_succ, Option.getD_some]) | (refine wpG_skip 1 (by simp only [List.getElem?_toArray, List.getElem?_cons_zero, List.getElem?_cons_succ] <;> rfl) (by decide +kernel) (by decide +kernel) (by kernel_rfl) (by rfl) (by exact fun _ _ _ _ h => h) (Nat.le_refl _) ?_; simp only [Act.put, Act.eval, List.setIfInBounds_toArray, List.set_cons_zero, List.set_cons_succ, Array.getD_eq_getD_getElem?, List.getElem?_toArray, List.getElem?_cons_zero, List.getElem?_cons_succ, Option.getD_some]) | (refine wpG_skip 2 (by simp only [List.getElem?_toArray, List.getElem?_cons_zero, List.getElem?_cons_succ] <;> rfl) (by decide +kernel) (by decide +kernel) (by kernel_rfl) (by rfl) (by exact fun _ _ _ _ h => h) (Nat.le_refl _) ?_; simp only [Act.put, Act.eval, List.setIfInBounds_toArray, List.set_cons_zero, List.set_cons_succ, Array.getD_eq_getD_getElem?, List.getElem?_toArray, List.getElem?_cons_zero, List.getElem?_cons_succ, Option.getD_some]) | (refine wpG_skip 3 (by simp only [List.getElem?_toArray, List.getElem?_cons_zero, List.getElem?_cons_succ] <;> rfl) (by decide +kernel) (by decide +kernel) (by kernel_rfl) (by rfl) (by exact fun _ _ _ _ h => h) (Nat.le_refl _) ?_; simp only [Act.put, Act.eval, List.setIfInBounds_toArray, List.set_cons_zero, List.set_cons_succ, Array.getD_eq_getD_getElem?, List.getElem?_toArray, List.getElem?_cons_zero, List.getElem?_cons_succ, Option.getD_some]) | (refine wpG_skip 4 (by simp only [List.getElem?_toArray, List.getElem?_cons_zero, List.getElem?_cons_succ] <;> rfl) (by decide +kernel) (by decide +kernel) (by kernel_rfl) (by rfl) (by exact fun _ _ _ _ h => h) (Nat.le_refl _) ?_; simp only [Act.put, Act.eval, List.setIfInBounds_toArray, List.set_cons_zero, List.set_cons_succ, Array.getD_eq_getD_getElem?, List.getElem?_toArray, List.getElem?_cons_zero, List.getElem?_cons_succ, Option.getD_some]) | (refine wpG_skip 5 (by simp only [List.getElem?_toArray, List.getElem?_cons_zero, List.getElem?_cons_succ] <;> rfl) (by decide +kernel) (by decide +kernel) (by kernel_rfl) (by rfl) (by exact fun _ _ _ _ h => h) (Nat.le_refl _) ?_; simp only [Act.put, Act.eval, List.setIfInBounds_toArray, List.set_cons_zero, List.set_cons_succ, Array.getD_eq_getD_getElem?, List.getElem?_toArray, List.getElem?_cons_zero, List.getElem?_cons_succ, Option.getD_some])))
    clear hx1 hx2
    (refine wpG_two 6 7 (by decide +kernel) ?_ ?_ <;> (intro wa hwa; refine op_wanted (by simp only [List.getElem?_toArray, List.getElem?_cons_zero, List.getElem?_cons_succ] <;> rfl) rfl ?_))
    · go_simp
      refine ⟨Below.alloc (Below.refl _ _) hwa.size _, ?_⟩
      (refine wpG_one 7 (by decide +kernel) ?_; intro wb hwb; refine op_wanted (by simp only [List.getElem?_toArray, List.getElem?_cons_zero, List.getElem?_cons_succ] <;> rfl) rfl ?_)
      go_simp
      have h7 := (hwa.alloc (.cells #[.int .i64 0, .int .i64 0, .int .i64 0, .int .i64 0, .int .i64 0, .int .i64 0] 43)).trans hwb
      refine ⟨Below.alloc (Below.refl _ _) h7.size _, ?_⟩
      have bx7 := (hwb.box (Box.new wa #[.int .i64 0, .int .i64 0, .int .i64 0, .int .i64 0, .int .i64 0, .int .i64 0] 43)).old (.cells #[.int .i64 0, .int .i64 0, .int .i64 0, .int .i64 0, .int .i64 0, .int .i64 0] 43)
      have bx8 := Box.new wb #[.int .i64 0, .int .i64 0, .int .i64 0, .int .i64 0, .int .i64 0, .int .i64 0] 43
      have hne : wa.heap.size ≠ wb.heap.size := by have := hwb.size; simp at this; omega
      have hN := h7.alloc (.cells #[.int .i64 0, .int .i64 0, .int .i64 0, .int .i64 0, .int .i64 0, .int .i64 0] 43)
      have g7 : w1.heap.size ≤ wa.heap.size := hwa.size
      have g8 : w1.heap.size ≤ wb.heap.size := h7.size
      clear hwa hwb h7
      generalize wb.alloc (.cells #[.int .i64 0, .int .i64 0, .int .i64 0, .int .i64 0, .int .i64 0, .int .i64 0] 43) = w5 at *
      generalize wa.heap.size = BX at *
      generalize wb.heap.size = BY at *
      (refine wpG_one 8 (by decide +kernel) ?_; intro w6 hw6; refine op_wanted (by simp only [List.getElem?_toArray, List.getElem?_cons_zero, List.getElem?_cons_succ] <;> rfl) rfl ?_)
      refine wp_storeB ty28 _ _ rfl rfl rfl rfl (hw6.box bx7) rfl (clk_all fun j => mx (a j) (b j)) ⟨below_setRow' (Below.refl _ _) _ _ g7, ?_⟩
      have k7 := (hw6.box bx7).setRow (clk fun j => mx (a j) (b j))
      have k8 := (hw6.box bx8).setRow_ne BX (clk fun j => mx (a j) (b j)) (Ne.symm hne)
      have hN6 : Bel w1 _ := below_setRow' (hN.trans hw6).out BX (clk fun j => mx (a j) (b j)) g7
      clear hw6 bx7 bx8 hN
      generalize w6.setRow BX (clk fun j => mx (a j) (b j)) = w7 at *
      (refine wpG_one 9 (by decide +kernel) ?_; intro w8 hw8; refine op_wanted (by simp only [List.getElem?_toArray, List.getElem?_cons_zero, List.getElem?_cons_succ] <;> rfl) rfl ?_)
      refine wp_storeB ty28 _ _ rfl rfl rfl rfl (hw8.box k8) rfl (clk_all fun j => mn (a j) (b j)) ⟨below_setRow' (Below.refl _ _) _ _ g8, ?_⟩
      have m8 := (hw8.box k8).setRow (clk fun j => mn (a j) (b j))
      have m7 := (hw8.box k7).setRow_ne BY (clk fun j => mn (a j) (b j)) hne
      have hN8 : Bel w1 _ := below_setRow' (hN6.trans hw8).out BY (clk fun j => mn (a j) (b j)) g8
      clear hw8 k7 k8 hN6
      (refine wpG_done (by decide +kernel) ?_ _; intro w9 hw9; try simp only [Act.put, Act.eval, List.setIfInBounds_toArray, List.set_cons_zero, List.set_cons_succ, Array.getD_eq_getD_getElem?, List.getElem?_toArray, List.getElem?_cons_zero, List.getElem?_cons_succ, Option.getD_some])
      have hF := LRel.mk (a := a) (b := b) (W := W) rfl rfl (hw9.box m7) (hw9.box m8) (K1.out.trans (hN8.trans hw9))
      have HF := Lib.hid hF
      clear hF m7 m8 hN8 hw9
      go_wp2
      go_meet
      case rel => exact ⟨_, _, HF.out⟩
    · go_simp
      refine ⟨Below.alloc (Below.refl _ _) hwa.size _, ?_⟩
      (refine wpG_one 6 (by decide +kernel) ?_; intro wb hwb; refine op_wanted (by simp only [List.getElem?_toArray, List.getElem?_cons_zero, List.getElem?_cons_succ] <;> rfl) rfl ?_)
      go_simp
      have h7 := (hwa.alloc (.cells #[.int .i64 0, .int .i64 0, .int .i64 0, .int .i64 0, .int .i64 0, .int .i64 0] 43)).trans hwb
      refine ⟨Below.alloc (Below.refl _ _) h7.size _, ?_⟩
      have bx7 := (hwb.box (Box.new wa #[.int .i64 0, .int .i64 0, .int .i64 0, .int .i64 0, .int .i64 0, .int .i64 0] 43)).old (.cells #[.int .i64 0, .int .i64 0, .int .i64 0, .int .i64 0, .int .i64 0, .int .i64 0] 43)
      have bx8 := Box.new wb #[.int .i64 0, .int .i64 0, .int .i64 0, .int .i64 0, .int .i64 0, .int .i64 0] 43
      have hne : wa.heap.size ≠ wb.heap.size := by have := hwb.size; simp at this; omega
      have hN := h7.alloc (.cells #[.int .i64 0, .int .i64 0, .int .i64 0, .int .i64 0, .int .i64 0, .int .i64 0] 43)
      have g7 : w1.heap.size ≤ wa.heap.size := hwa.size
      have g8 : w1.heap.size ≤ wb.heap.size := h7.size
      clear hwa hwb h7
      generalize wb.alloc (.cells #[.int .i64 0, .int .i64 0, .int .i64 0, .int .i64 0, .int .i64 0, .int .i64 0] 43) = w5 at *
      generalize wa.heap.size = BX at *
      generalize wb.heap.size = BY at *
      (refine wpG_one 8 (by decide +kernel) ?_; intro w6 hw6; refine op_wanted (by simp only [List.getElem?_toArray, List.getElem?_cons_zero, List.getElem?_cons_succ] <;> rfl) rfl ?_)
      refine wp_storeB ty28 _ _ rfl rfl rfl rfl (hw6.box bx8) rfl (clk_all fun j => mx (a j) (b j)) ⟨below_setRow' (Below.refl _ _) _ _ g8, ?_⟩
      have k7 := (hw6.box bx8).setRow (clk fun j => mx (a j) (b j))
      have k8 := (hw6.box bx7).setRow_ne BY (clk fun j => mx (a j) (b j)) hne
      have hN6 : Bel w1 _ := below_setRow' (hN.trans hw6).out BY (clk fun j => mx (a j) (b j)) g8
      clear hw6 bx8 bx7 hN
      generalize w6.setRow BY (clk fun j => mx (a j) (b j)) = w7 at *
      (refine wpG_one 9 (by decide +kernel) ?_; intro w8 hw8; refine op_wanted (by simp only [List.getElem?_toArray, List.getElem?_cons_zero, List.getElem?_cons_succ] <;> rfl) rfl ?_)
      refine wp_storeB ty28 _ _ rfl rfl rfl rfl (hw8.box k8) rfl (clk_all fun j => mn (a j) (b j)) ⟨below_setRow' (Below.refl _ _) _ _ g7, ?_⟩
      have m8 := (hw8.box k8).setRow (clk fun j => mn (a j) (b j))
      have m7 := (hw8.box k7).setRow_ne BX (clk fun j => mn (a j) (b j)) (Ne.symm hne)
      have hN8 : Bel w1 _ := below_setRow' (hN6.trans hw8).out BX (clk fun j => mn (a j) (b j)) g7
      clear hw8 k7 k8 hN6
      (refine wpG_done (by decide +kernel) ?_ _; intro w9 hw9; try simp only [Act.put, Act.eval, List.setIfInBounds_toArray, List.set_cons_zero, List.set_cons_succ, Array.getD_eq_getD_getElem?, List.getElem?_toArray, List.getElem?_cons_zero, List.getElem?_cons_succ, Option.getD_some])
      have hF := LRel.mk (a := a) (b := b) (W := W) rfl rfl (hw9.box m7) (hw9.box m8) (K1.out.trans (hN8.trans hw9))
      have HF := Lib.hid hF
      clear hF m7 m8 hN8 hw9
      go_wp2
      go_meet
      case rel => exact ⟨_, _, HF.out⟩
  case rest =>
    obtain ⟨B7, B8, hrel⟩ := hcut
    obtain ⟨rfl, rfl, hj, hm, hbel⟩ := hrel
    have c1 := hbel.box b1
    have c2 := hbel.box b2
    have c3 := hbel.box b3
    have KB := Lib.hid hbel
    clear hbel b1 b2 b3
    have w1 := within_ja a b
    have w2 := within_jb a b
    have w3 := within_ma a b
    have w4 := within_mb a b
    have E1 := neqJ a b
    have E2 := neqM a b
    have E3 := neqA a b
    have E4 := neqA' a b
    have E5 := neqAss a b c
    have wj := within_j a b c
    have wm := within_m a b c
    have WJ := Lib.hid wj
    have WM := Lib.hid wm
    clear wj wm
    go_wp2_with fail
    (refine region_bel (by kernel_rfl) (by kernel_rfl) ?_; (repeat (first | (refine BigFrame.wpQuiet_skip rfl ?_; simp only [Act.put, Act.eval, List.setIfInBounds_toArray, List.set_cons_zero, List.set_cons_succ, Array.getD_eq_getD_getElem?, List.getElem?_toArray, List.getElem?_cons_zero, List.getElem?_cons_succ, Option.getD_some]) | (refine q_move _ rfl rfl ?_; simp only [Act.put, Act.eval, List.setIfInBounds_toArray, List.set_cons_zero, List.set_cons_succ, Array.getD_eq_getD_getElem?, List.getElem?_toArray, List.getElem?_cons_zero, List.getElem?_cons_succ, Option.getD_some]) | (refine q_assign _ rfl rfl ?_; simp only [Act.put, Act.eval, List.setIfInBounds_toArray, List.set_cons_zero, List.set_cons_succ, Array.getD_eq_getD_getElem?, List.getElem?_toArray, List.getElem?_cons_zero, List.getElem?_cons_succ, Option.getD_some]) | (refine q_load _ _ rfl rfl rfl c1 ty28 ?_; simp only [Act.put, Act.eval, List.setIfInBounds_toArray, List.set_cons_zero, List.set_cons_succ, Array.getD_eq_getD_getElem?, List.getElem?_toArray, List.getElem?_cons_zero, List.getElem?_cons_succ, Option.getD_some]) | (refine q_load _ _ rfl rfl rfl c2 ty28 ?_; simp only [Act.put, Act.eval, List.setIfInBounds_toArray, List.set_cons_zero, List.set_cons_succ, Array.getD_eq_getD_getElem?, List.getElem?_toArray, List.getElem?_cons_zero, List.getElem?_cons_succ, Option.getD_some]) | (refine q_load _ _ rfl rfl rfl c3 ty28 ?_; simp only [Act.put, Act.eval, List.setIfInBounds_toArray, List.set_cons_zero, List.set_cons_succ, Array.getD_eq_getD_getElem?, List.getElem?_toArray, List.getElem?_cons_zero, List.getElem?_cons_succ, Option.getD_some]) | (refine q_load _ _ rfl rfl rfl hj ty28 ?_; simp only [Act.put, Act.eval, List.setIfInBounds_toArray, List.set_cons_zero, List.set_cons_succ, Array.getD_eq_getD_getElem?, List.getElem?_toArray, List.getElem?_cons_zero, List.getElem?_cons_succ, Option.getD_some]) | (refine q_load _ _ rfl rfl rfl hm ty28 ?_; simp only [Act.put, Act.eval, List.setIfInBounds_toArray, List.set_cons_zero, List.set_cons_succ, Array.getD_eq_getD_getElem?, List.getElem?_toArray, List.getElem?_cons_zero, List.getElem?_cons_succ, Option.getD_some]) | (refine q_any rfl ?_; apply Exists.intro; refine ⟨fun w hw => ?_, ?_⟩; (go_simp; first | exact ⟨rfl, rfl⟩ | rfl | (go_at_call 28; (with_reducible refine (within_any _ _ _).mono ?_); rintro e w' ⟨rfl, hb⟩; exact ⟨rfl, hw.call hb⟩) | (go_at_call 26; (with_reducible refine (join_any _ _ _).mono ?_); rintro e w' ⟨rfl, hb⟩; exact ⟨rfl, hw.call hb⟩) | (go_at_call 27; (with_reducible refine (meet_any _ _ _).mono ?_); rintro e w' ⟨rfl, hb⟩; exact ⟨rfl, hw.call hb⟩)); simp only [Act.put, Act.eval, List.setIfInBounds_toArray, List.set_cons_zero, List.set_cons_succ, Array.getD_eq_getD_getElem?, List.getElem?_toArray, List.getElem?_cons_zero, List.getElem?_cons_succ, Option.getD_some]))); refine wpQuiet_nil ?_; intro w2 hw2)
    have c1' := hw2.box c1
    have c2' := hw2.box c2
    have c3' := hw2.box c3
    have hj' := hw2.box hj
    have hm' := hw2.box hm
    have KB2 := Lib.hid (KB.out.trans hw2)
    clear hw2 c1 c2 c3 hj hm KB
    go_wp2
    (refine region_bel (by kernel_rfl) (by kernel_rfl) ?_; (repeat (first | (refine BigFrame.wpQuiet_skip rfl ?_; simp only [Act.put, Act.eval, List.setIfInBounds_toArray, List.set_cons_zero, List.set_cons_succ, Array.getD_eq_getD_getElem?, List.getElem?_toArray, List.getElem?_cons_zero, List.getElem?_cons_succ, Option.getD_some]) | (refine q_move _ rfl rfl ?_; simp only [Act.put, Act.eval, List.setIfInBounds_toArray, List.set_cons_zero, List.set_cons_succ, Array.getD_eq_getD_getElem?, List.getElem?_toArray, List.getElem?_cons_zero, List.getElem?_cons_succ, Option.getD_some]) | (refine q_assign _ rfl rfl ?_; simp only [Act.put, Act.eval, List.setIfInBounds_toArray, List.set_cons_zero, List.set_cons_succ, Array.getD_eq_getD_getElem?, List.getElem?_toArray, List.getElem?_cons_zero, List.getElem?_cons_succ, Option.getD_some]) | (refine q_load _ _ rfl rfl rfl c1' ty28 ?_; simp only [Act.put, Act.eval, List.setIfInBounds_toArray, List.set_cons_zero, List.set_cons_succ, Array.getD_eq_getD_getElem?, List.getElem?_toArray, List.getElem?_cons_zero, List.getElem?_cons_succ, Option.getD_some]) | (refine q_load _ _ rfl rfl rfl c2' ty28 ?_; simp only [Act.put, Act.eval, List.setIfInBounds_toArray, List.set_cons_zero, List.set_cons_succ, Array.getD_eq_getD_getElem?, List.getElem?_toArray, List.getElem?_cons_zero, List.getElem?_cons_succ, Option.getD_some]) | (refine q_load _ _ rfl rfl rfl c3' ty28 ?_; simp only [Act.put, Act.eval, List.setIfInBounds_toArray, List.set_cons_zero, List.set_cons_succ, Array.getD_eq_getD_getElem?, List.getElem?_toArray, List.getElem?_cons_zero, List.getElem?_cons_succ, Option.getD_some]) | (refine q_load _ _ rfl rfl rfl hj' ty28 ?_; simp only [Act.put, Act.eval, List.setIfInBounds_toArray, List.set_cons_zero, List.set_cons_succ, Array.getD_eq_getD_getElem?, List.getElem?_toArray, List.getElem?_cons_zero, List.getElem?_cons_succ, Option.getD_some]) | (refine q_load _ _ rfl rfl rfl hm' ty28 ?_; simp only [Act.put, Act.eval, List.setIfInBounds_toArray, List.set_cons_zero, List.set_cons_succ, Array.getD_eq_getD_getElem?, List.getElem?_toArray, List.getElem?_cons_zero, List.getElem?_cons_succ, Option.getD_some]) | (refine q_any rfl ?_; apply Exists.intro; refine ⟨fun w hw => ?_, ?_⟩; (go_simp; first | exact ⟨rfl, rfl⟩ | rfl | (go_at_call 28; (with_reducible refine (within_any _ _ _).mono ?_); rintro e w' ⟨rfl, hb⟩; exact ⟨rfl, hw.call hb⟩) | (go_at_call 26; (with_reducible refine (join_any _ _ _).mono ?_); rintro e w' ⟨rfl, hb⟩; exact ⟨rfl, hw.call hb⟩) | (go_at_call 27; (with_reducible refine (meet_any _ _ _).mono ?_); rintro e w' ⟨rfl, hb⟩; exact ⟨rfl, hw.call hb⟩)); simp only [Act.put, Act.eval, List.setIfInBounds_toArray, List.set_cons_zero, List.set_cons_succ, Array.getD_eq_getD_getElem?, List.getElem?_toArray, List.getElem?_cons_zero, List.getElem?_cons_succ, Option.getD_some]))); refine wpQuiet_nil ?_; intro w2 hw2)
    have c1 := hw2.box c1'
    have c2 := hw2.box c2'
    have c3 := hw2.box c3'
    have hj := hw2.box hj'
    have hm := hw2.box hm'
    have KB := Lib.hid (KB2.out.trans hw2)
    clear hw2 c1' c2' c3' hj' hm' KB2
    cases hac : within a c
    all_goals cases hbc : within b c
    all_goals cases hca : within c a
    all_goals cases hcb : within c b
    all_goals
      have wj := WJ.out
      have wm := WM.out
      simp only [hac, hbc, hca, hcb, Bool.and_true, Bool.and_false, Bool.true_and, Bool.false_and, Bool.and_self] at wj wm
      go_wp2
      (refine region_bel (by kernel_rfl) (by kernel_rfl) ?_; (repeat (first | (refine BigFrame.wpQuiet_skip rfl ?_; simp only [Act.put, Act.eval, List.setIfInBounds_toArray, List.set_cons_zero, List.set_cons_succ, Array.getD_eq_getD_getElem?, List.getElem?_toArray, List.getElem?_cons_zero, List.getElem?_cons_succ, Option.getD_some]) | (refine q_move _ rfl rfl ?_; simp only [Act.put, Act.eval, List.setIfInBounds_toArray, List.set_cons_zero, List.set_cons_succ, Array.getD_eq_getD_getElem?, List.getElem?_toArray, List.getElem?_cons_zero, List.getElem?_cons_succ, Option.getD_some]) | (refine q_assign _ rfl rfl ?_; simp only [Act.put, Act.eval, List.setIfInBounds_toArray, List.set_cons_zero, List.set_cons_succ, Array.getD_eq_getD_getElem?, List.getElem?_toArray, List.getElem?_cons_zero, List.getElem?_cons_succ, Option.getD_some]) | (refine q_load _ _ rfl rfl rfl c1 ty28 ?_; simp only [Act.put, Act.eval, List.setIfInBounds_toArray, List.set_cons_zero, List.set_cons_succ, Array.getD_eq_getD_getElem?, List.getElem?_toArray, List.getElem?_cons_zero, List.getElem?_cons_succ, Option.getD_some]) | (refine q_load _ _ rfl rfl rfl c2 ty28 ?_; simp only [Act.put, Act.eval, List.setIfInBounds_toArray, List.set_cons_zero, List.set_cons_succ, Array.getD_eq_getD_getElem?, List.getElem?_toArray, List.getElem?_cons_zero, List.getElem?_cons_succ, Option.getD_some]) | (refine q_load _ _ rfl rfl rfl c3 ty28 ?_; simp only [Act.put, Act.eval, List.setIfInBounds_toArray, List.set_cons_zero, List.set_cons_succ, Array.getD_eq_getD_getElem?, List.getElem?_toArray, List.getElem?_cons_zero, List.getElem?_cons_succ, Option.getD_some]) | (refine q_load _ _ rfl rfl rfl hj ty28 ?_; simp only [Act.put, Act.eval, List.setIfInBounds_toArray, List.set_cons_zero, List.set_cons_succ, Array.getD_eq_getD_getElem?, List.getElem?_toArray, List.getElem?_cons_zero, List.getElem?_cons_succ, Option.getD_some]) | (refine q_load _ _ rfl rfl rfl hm ty28 ?_; simp only [Act.put, Act.eval, List.setIfInBounds_toArray, List.set_cons_zero, List.set_cons_succ, Array.getD_eq_getD_getElem?, List.getElem?_toArray, List.getElem?_cons_zero, List.getElem?_cons_succ, Option.getD_some]) | (refine q_any rfl ?_; apply Exists.intro; refine ⟨fun w hw => ?_, ?_⟩; (go_simp; first | exact ⟨rfl, rfl⟩ | rfl | (go_at_call 28; (with_reducible refine (within_lit hac _).mono ?_); rintro e w' ⟨rfl, hb⟩; exact ⟨rfl, hw.call hb⟩) | (go_at_call 28; (with_reducible refine (within_lit hbc _).mono ?_); rintro e w' ⟨rfl, hb⟩; exact ⟨rfl, hw.call hb⟩) | (go_at_call 28; (with_reducible refine (within_lit wj _).mono ?_); rintro e w' ⟨rfl, hb⟩; exact ⟨rfl, hw.call hb⟩) | (go_at_call 28; (with_reducible refine (within_lit hca _).mono ?_); rintro e w' ⟨rfl, hb⟩; exact ⟨rfl, hw.call hb⟩) | (go_at_call 28; (with_reducible refine (within_lit hcb _).mono ?_); rintro e w' ⟨rfl, hb⟩; exact ⟨rfl, hw.call hb⟩) | (go_at_call 28; (with_reducible refine (within_lit wm _).mono ?_); rintro e w' ⟨rfl, hb⟩; exact ⟨rfl, hw.call hb⟩)); simp only [Act.put, Act.eval, List.setIfInBounds_toArray, List.set_cons_zero, List.set_cons_succ, Array.getD_eq_getD_getElem?, List.getElem?_toArray, List.getElem?_cons_zero, List.getElem?_cons_succ, Option.getD_some]))); refine wpQuiet_nil ?_; intro w2 hw2)
      go_wp2
      go_ret
      exact ⟨rfl, HB.out.trans ((KB.out.trans hw2).out.mono HL.out)⟩

set_option maxRecDepth 100000 in
theorem lifted (os : Os) (started : os.Started) (H : Type) (enc : TypeId × Value → H) :
    ReturnsInHanded {} Try.checked os 11 .any (Rows.clockLatticeSpec.pre6 enc Try.prog Try.f11 Rows.clockLatticeRow.domain false) (Rows.clockLatticeSpec.post enc Try.prog Try.f11 false true false false) := by
  refine returnsInHanded_of_change_sized (C := Try.checked) own started (by kernel_rfl) Try.func11
    (ChangeSpec.witness6 (enc := enc) (C := Try.checked) false ⟨#[], #[.agg #[.int .i64 0, .int .i64 0, .int .i64 0, .int .i64 0, .int .i64 0, .int .i64 0], .agg #[.int .i64 0, .int .i64 0, .int .i64 0, .int .i64 0, .int .i64 0, .int .i64 0], .agg #[.int .i64 0, .int .i64 0, .int .i64 0, .int .i64 0, .int .i64 0, .int .i64 0]], []⟩ 8 (by kernel_rfl) (by kernel_rfl) (by kernel_rfl) (by kernel_rfl)) ?_
  intro W base args ds gs before hval0 hW hcnd hsz0 _
  have hsz : (DataW.weightsEach Try.prog (Try.f11.params.toList ++ Rows.clockLatticeSpec.plain.varTypes Try.prog) (ds ++ gs)).all (· ≤ reachBytes) = true := hsz0
  clear hsz0
  have hval : ∀ (j : Nat) t v, Try.f11.params[j]? = some t → args[j]? = some v → Value.okWide Try.prog W .any base t v := hval0
  have hW' := hW
  obtain ⟨p, q, hA0, hV, rfl, hfz, hnd⟩ := hW
  have hA : DataW.TrodAll enc Try.prog W 0 (fun _ => true) true Try.f11.params.toList args.toList ds p := hA0
  rw [Try.params11] at hA hval hsz
  obtain ⟨v0, vs0, d0, ds0, p0, q0, hargs, rfl, rfl, h0, r0⟩ := trodAll_cons hA
  obtain ⟨v1, vs1, d1, ds1, p1, q1, rfl, rfl, rfl, h1, r1⟩ := trodAll_cons r0
  obtain ⟨v2, vs2, d2, ds2, p2, q2, rfl, rfl, rfl, h2, r2⟩ := trodAll_cons r1
  obtain ⟨rfl, rfl, rfl⟩ := trodAll_nil r2
  obtain rfl : args = #[v0, v1, v2] := by cases args; simp_all
  obtain ⟨rfl, rfl⟩ := trodVars_none hV
  have t0 := h0
  have lt0 : ∀ x ∈ p0, x.block < W.heap.size := by obtain ⟨m, hm⟩ := t0; exact DataW.trod_lt m _ _ _ hm
  have t1 := h1
  have lt1 : ∀ x ∈ p1, x.block < W.heap.size := by obtain ⟨m, hm⟩ := t1; exact DataW.trod_lt m _ _ _ hm
  have t2 := h2
  have lt2 : ∀ x ∈ p2, x.block < W.heap.size := by obtain ⟨m, hm⟩ := t2; exact DataW.trod_lt m _ _ _ hm
  obtain ⟨a0, rfl, k0⟩ := open_clk Try.underlying43 Try.underlying3 (by kernel_rfl) (by kernel_rfl) (hval 0 43 v0 rfl rfl) h0
  obtain ⟨a1, rfl, k1⟩ := open_clk Try.underlying43 Try.underlying3 (by kernel_rfl) (by kernel_rfl) (hval 1 43 v1 rfl rfl) h1
  obtain ⟨a2, rfl, k2⟩ := open_clk Try.underlying43 Try.underlying3 (by kernel_rfl) (by kernel_rfl) (hval 2 43 v2 rfl rfl) h2
  clear hA0 hval0
  refine (walk a0 k0 a1 k1 a2 k2 W).mono fun e W' ⟨he, bel⟩ => ?_
  subst he
  exact ⟨_, rfl, _, _, _, [], _, [], hW', trodAll_mk1 (shut_bool Try.underlying4 _), (trodAll_cons_mk (Below.trod laidOut (by kernel_rfl) (of_decide_eq_true (by kernel_rfl)) t0 bel lt0) (trodAll_cons_mk (Below.trod laidOut (by kernel_rfl) (of_decide_eq_true (by kernel_rfl)) t1 bel lt1) (trodAll_cons_mk (Below.trod laidOut (by kernel_rfl) (of_decide_eq_true (by kernel_rfl)) t2 bel lt2) trodAll_mk0))), rfl, bel.frame _, fun h => by cases h⟩

theorem over : Rows.clockLatticeRow.holds Try.pinned (OpenSpec.ofChange Rows.clockLatticeSpec) :=
  OpenClaim.holds_of_wide 11 Try.f11 rfl rfl rfl rfl rfl rfl rfl ⟨rfl, rfl, rfl, rfl, rfl⟩ rfl rfl rfl rfl rfl (by kernel_rfl) Try.func11 (by kernel_rfl)
    (of_decide_eq_true (by kernel_rfl)) (by unfold Func.isWrapper; first | (rw [if_pos (by decide +kernel)]; kernel_rfl) | (rw [if_neg (by decide +kernel)]; exact ⟨rfl, rfl⟩))
    (fun os started H enc _ => lifted os started H enc)

theorem proved : Rows.ClockLatticeSaid := over
#print axioms proved
end Go.Proofs.Ytioejkjbokcppaa.LClockLattice

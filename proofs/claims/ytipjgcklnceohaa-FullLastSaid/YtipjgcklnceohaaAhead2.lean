/- Contracts of the reference: Ahead. -/
import Derived.Test.YtipjgcklnceohaaAhead
import Derived.Test.YtipjgcklnceohaaOrder2
set_option linter.all false
set_option maxRecDepth 100000
namespace Go.Proofs.Ytipjgcklnceohaa
open Go Go.RowKit

set_option maxHeartbeats 8000000 in
theorem ahead_any (A : Option Addr) (n c : Nat) (l : List Ev) (w : World) (hl : Sl w A n l) (hn : n ≤ 80) : Calls Try.prog 30 #[.slice A n c] w (MatPost w l n) := by
  have HL := Lib.hid hl
  have H0 := Lib.hid (show ∃ r, Mat w w.heap.size n 0 r (fD l 0 0) (w.alloc (.cells (rowsV n 0 (fun _ => 0)) 73)) from
    ⟨_, Box.new w _ _, fun i hi => absurd hi (Nat.not_lt_zero _), fun i j hi => absurd hi (Nat.not_lt_zero _), fun i hi => absurd hi (Nat.not_lt_zero _), ⟨Nat.le_refl _, fun i hi => absurd hi (Nat.not_lt_zero _)⟩, (Bel.refl w).alloc _⟩)
  clear hl
  generalize hW : w.alloc (.cells (rowsV n 0 (fun _ => 0)) 73) = w0 at *
  go_enter Try.func30, Try.ntmps30
  go_wp2_with (refine makeRw _ _ rfl rfl n (by omega) rfl rfl (fun _ => 0) ?_)
  generalize hO : w.heap.size = O at *
  clear hW
  go_loopw [14] (fun t14 wr => ∃ (i : Nat) (r : Nat → Nat), i ≤ n ∧ t14 = .int .i64 i ∧ Mat w O n i r (fD l i 0) wr) (fun t14 _ => n - (intOf t14).toNat)
  case atStart => obtain ⟨r, hr⟩ := H0.out; exact ⟨0, r, by omega, rfl, hr⟩
  case round =>
    obtain ⟨i, r, hi, rfl, hm⟩ := hrel
    have HM := Lib.hid hm
    clear hm H0
    by_cases hlt : i < n
    · have hlt' : (i : Int) < n := by omega
      obtain ⟨bb, off, ea, rfl, hbb, hea, hra⟩ := HL.out.at_ hlt
      have HEA := Lib.hid hea
      have HRA := Lib.hid (fun (w' : World) (h : Bel w w') => rangeAt_below h.out hbb hra)
      have HN := Lib.hid (show ∃ r', Mat w O n (i + 1) r' (fD l i (i + 1)) ((wr.alloc (.cells (bs n (fun _ => false)) 4)).setCell ⟨O, i, none⟩ (.slice (some ⟨wr.heap.size, 0, none⟩) n n)) from
        ⟨_, (HM.out.new (fun j _ => fD_zero l i j)).congr (fun a b _ _ => fD_start)⟩)
      have n1 := (HM.out.outer.old (.cells (bs n (fun _ => false)) 4)).cell i (rowsV_get r hlt)
      have g1 := (HM.out.outer.old (.cells (bs n (fun _ => false)) 4)).frozen i
      clear hea hra
      go_wp2_with (refine makeBl _ _ rfl rfl n (by omega) rfl rfl ?_)
      obtain ⟨r', hr'⟩ := HN.out
      have HN' := Lib.hid hr'
      clear hr' HN n1 g1
      generalize (wr.alloc (.cells (bs n (fun _ => false)) 4)).setCell ⟨O, i, none⟩ (.slice (some ⟨wr.heap.size, 0, none⟩) n n) = wr1 at *
      go_loopw [5] (fun t5 wr => ∃ j : Nat, i < j ∧ j ≤ n ∧ t5 = .int .i64 j ∧ Mat w O n (i + 1) r' (fD l i j) wr) (fun t5 _ => n - (intOf t5).toNat)
      case atStart => exact ⟨i + 1, by omega, by omega, by go_num, HN'.out⟩
      case round =>
        obtain ⟨j, hij, hj, rfl, hm⟩ := hrel
        have HM2 := Lib.hid hm
        clear hm HN'
        by_cases hlj : j < n
        · have hlj' : (j : Int) < n := by omega
          obtain ⟨eb, heb⟩ := HL.out.get hlj
          have hdir := dirB_at HEA.out heb
          rw [decide_eq_true hij, Bool.true_and] at hdir
          have HD := Lib.hid hdir
          have hbw := Bel.of HM2.out.below
          have HRA2 := Lib.hid (fun (w' : World) (h : Bel wr w') => HRA.out w' (hbw.trans h))
          have HRB2 := Lib.hid (fun (w' : World) (h : Bel wr w') => rangeAt_below (hbw.trans h).out hbb (HL.out.rng hlj heb).2)
          have c1 := HM2.out.rowc (i := i) (by omega) (by omega)
          have F := fun (w' : World) (h : Bel wr w') => h.cell c1
          have hi0 : (0 : Int) ≤ (i : Int) := by omega
          have hj0 : (0 : Int) ≤ (j : Int) := by omega
          clear heb hbw c1 hdir
          go_wp2
          refine region_growT 15 (by kernel_rfl) ?_
          (repeat (first | (refine wpT_go 0 (by simp only [List.getElem?_toArray, List.getElem?_cons_zero, List.getElem?_cons_succ] <;> rfl) (by decide +kernel) (by decide +kernel) (by kernel_rfl) (by rfl) (by exact fun _ _ _ _ h => h) (Nat.le_refl _) ?_; apply Exists.intro; refine ⟨fun w1 h1 => ?_, ?_⟩; (first | exact g_move _ rfl | exact g_assign _ rfl | exact g_load_mid _ _ rfl rfl (HRA2.out w1 h1) T36 (evv ea) rfl | exact g_load_mid _ _ rfl rfl (HRB2.out w1 h1) T36 (evv eb) rfl | (have fct0 := F w1 h1; go_simp; first | exact ⟨rfl, rfl⟩ | rfl | (go_at_call 44; (with_reducible refine (directly_any ea eb _).mono ?_); rintro e w' ⟨rfl, hb⟩; first | exact ⟨rfl, hb⟩ | exact ⟨rfl, hb ▸ Bel.refl _⟩))); simp only [Act.put, Act.eval, List.setIfInBounds_toArray, List.set_cons_zero, List.set_cons_succ, Array.getD_eq_getD_getElem?, List.getElem?_toArray, List.getElem?_cons_zero, List.getElem?_cons_succ, Option.getD_some]) | (refine wpT_go 1 (by simp only [List.getElem?_toArray, List.getElem?_cons_zero, List.getElem?_cons_succ] <;> rfl) (by decide +kernel) (by decide +kernel) (by kernel_rfl) (by rfl) (by exact fun _ _ _ _ h => h) (Nat.le_refl _) ?_; apply Exists.intro; refine ⟨fun w1 h1 => ?_, ?_⟩; (first | exact g_move _ rfl | exact g_assign _ rfl | exact g_load_mid _ _ rfl rfl (HRA2.out w1 h1) T36 (evv ea) rfl | exact g_load_mid _ _ rfl rfl (HRB2.out w1 h1) T36 (evv eb) rfl | (have fct0 := F w1 h1; go_simp; first | exact ⟨rfl, rfl⟩ | rfl | (go_at_call 44; (with_reducible refine (directly_any ea eb _).mono ?_); rintro e w' ⟨rfl, hb⟩; first | exact ⟨rfl, hb⟩ | exact ⟨rfl, hb ▸ Bel.refl _⟩))); simp only [Act.put, Act.eval, List.setIfInBounds_toArray, List.set_cons_zero, List.set_cons_succ, Array.getD_eq_getD_getElem?, List.getElem?_toArray, List.getElem?_cons_zero, List.getElem?_cons_succ, Option.getD_some]) | (refine wpT_go 2 (by simp only [List.getElem?_toArray, List.getElem?_cons_zero, List.getElem?_cons_succ] <;> rfl) (by decide +kernel) (by decide +kernel) (by kernel_rfl) (by rfl) (by exact fun _ _ _ _ h => h) (Nat.le_refl _) ?_; apply Exists.intro; refine ⟨fun w1 h1 => ?_, ?_⟩; (first | exact g_move _ rfl | exact g_assign _ rfl | exact g_load_mid _ _ rfl rfl (HRA2.out w1 h1) T36 (evv ea) rfl | exact g_load_mid _ _ rfl rfl (HRB2.out w1 h1) T36 (evv eb) rfl | (have fct0 := F w1 h1; go_simp; first | exact ⟨rfl, rfl⟩ | rfl | (go_at_call 44; (with_reducible refine (directly_any ea eb _).mono ?_); rintro e w' ⟨rfl, hb⟩; first | exact ⟨rfl, hb⟩ | exact ⟨rfl, hb ▸ Bel.refl _⟩))); simp only [Act.put, Act.eval, List.setIfInBounds_toArray, List.set_cons_zero, List.set_cons_succ, Array.getD_eq_getD_getElem?, List.getElem?_toArray, List.getElem?_cons_zero, List.getElem?_cons_succ, Option.getD_some]) | (refine wpT_go 3 (by simp only [List.getElem?_toArray, List.getElem?_cons_zero, List.getElem?_cons_succ] <;> rfl) (by decide +kernel) (by decide +kernel) (by kernel_rfl) (by rfl) (by exact fun _ _ _ _ h => h) (Nat.le_refl _) ?_; apply Exists.intro; refine ⟨fun w1 h1 => ?_, ?_⟩; (first | exact g_move _ rfl | exact g_assign _ rfl | exact g_load_mid _ _ rfl rfl (HRA2.out w1 h1) T36 (evv ea) rfl | exact g_load_mid _ _ rfl rfl (HRB2.out w1 h1) T36 (evv eb) rfl | (have fct0 := F w1 h1; go_simp; first | exact ⟨rfl, rfl⟩ | rfl | (go_at_call 44; (with_reducible refine (directly_any ea eb _).mono ?_); rintro e w' ⟨rfl, hb⟩; first | exact ⟨rfl, hb⟩ | exact ⟨rfl, hb ▸ Bel.refl _⟩))); simp only [Act.put, Act.eval, List.setIfInBounds_toArray, List.set_cons_zero, List.set_cons_succ, Array.getD_eq_getD_getElem?, List.getElem?_toArray, List.getElem?_cons_zero, List.getElem?_cons_succ, Option.getD_some]) | (refine wpT_go 4 (by simp only [List.getElem?_toArray, List.getElem?_cons_zero, List.getElem?_cons_succ] <;> rfl) (by decide +kernel) (by decide +kernel) (by kernel_rfl) (by rfl) (by exact fun _ _ _ _ h => h) (Nat.le_refl _) ?_; apply Exists.intro; refine ⟨fun w1 h1 => ?_, ?_⟩; (first | exact g_move _ rfl | exact g_assign _ rfl | exact g_load_mid _ _ rfl rfl (HRA2.out w1 h1) T36 (evv ea) rfl | exact g_load_mid _ _ rfl rfl (HRB2.out w1 h1) T36 (evv eb) rfl | (have fct0 := F w1 h1; go_simp; first | exact ⟨rfl, rfl⟩ | rfl | (go_at_call 44; (with_reducible refine (directly_any ea eb _).mono ?_); rintro e w' ⟨rfl, hb⟩; first | exact ⟨rfl, hb⟩ | exact ⟨rfl, hb ▸ Bel.refl _⟩))); simp only [Act.put, Act.eval, List.setIfInBounds_toArray, List.set_cons_zero, List.set_cons_succ, Array.getD_eq_getD_getElem?, List.getElem?_toArray, List.getElem?_cons_zero, List.getElem?_cons_succ, Option.getD_some]) | (refine wpT_go 5 (by simp only [List.getElem?_toArray, List.getElem?_cons_zero, List.getElem?_cons_succ] <;> rfl) (by decide +kernel) (by decide +kernel) (by kernel_rfl) (by rfl) (by exact fun _ _ _ _ h => h) (Nat.le_refl _) ?_; apply Exists.intro; refine ⟨fun w1 h1 => ?_, ?_⟩; (first | exact g_move _ rfl | exact g_assign _ rfl | exact g_load_mid _ _ rfl rfl (HRA2.out w1 h1) T36 (evv ea) rfl | exact g_load_mid _ _ rfl rfl (HRB2.out w1 h1) T36 (evv eb) rfl | (have fct0 := F w1 h1; go_simp; first | exact ⟨rfl, rfl⟩ | rfl | (go_at_call 44; (with_reducible refine (directly_any ea eb _).mono ?_); rintro e w' ⟨rfl, hb⟩; first | exact ⟨rfl, hb⟩ | exact ⟨rfl, hb ▸ Bel.refl _⟩))); simp only [Act.put, Act.eval, List.setIfInBounds_toArray, List.set_cons_zero, List.set_cons_succ, Array.getD_eq_getD_getElem?, List.getElem?_toArray, List.getElem?_cons_zero, List.getElem?_cons_succ, Option.getD_some]) | (refine wpT_go 6 (by simp only [List.getElem?_toArray, List.getElem?_cons_zero, List.getElem?_cons_succ] <;> rfl) (by decide +kernel) (by decide +kernel) (by kernel_rfl) (by rfl) (by exact fun _ _ _ _ h => h) (Nat.le_refl _) ?_; apply Exists.intro; refine ⟨fun w1 h1 => ?_, ?_⟩; (first | exact g_move _ rfl | exact g_assign _ rfl | exact g_load_mid _ _ rfl rfl (HRA2.out w1 h1) T36 (evv ea) rfl | exact g_load_mid _ _ rfl rfl (HRB2.out w1 h1) T36 (evv eb) rfl | (have fct0 := F w1 h1; go_simp; first | exact ⟨rfl, rfl⟩ | rfl | (go_at_call 44; (with_reducible refine (directly_any ea eb _).mono ?_); rintro e w' ⟨rfl, hb⟩; first | exact ⟨rfl, hb⟩ | exact ⟨rfl, hb ▸ Bel.refl _⟩))); simp only [Act.put, Act.eval, List.setIfInBounds_toArray, List.set_cons_zero, List.set_cons_succ, Array.getD_eq_getD_getElem?, List.getElem?_toArray, List.getElem?_cons_zero, List.getElem?_cons_succ, Option.getD_some]) | (refine wpT_go 7 (by simp only [List.getElem?_toArray, List.getElem?_cons_zero, List.getElem?_cons_succ] <;> rfl) (by decide +kernel) (by decide +kernel) (by kernel_rfl) (by rfl) (by exact fun _ _ _ _ h => h) (Nat.le_refl _) ?_; apply Exists.intro; refine ⟨fun w1 h1 => ?_, ?_⟩; (first | exact g_move _ rfl | exact g_assign _ rfl | exact g_load_mid _ _ rfl rfl (HRA2.out w1 h1) T36 (evv ea) rfl | exact g_load_mid _ _ rfl rfl (HRB2.out w1 h1) T36 (evv eb) rfl | (have fct0 := F w1 h1; go_simp; first | exact ⟨rfl, rfl⟩ | rfl | (go_at_call 44; (with_reducible refine (directly_any ea eb _).mono ?_); rintro e w' ⟨rfl, hb⟩; first | exact ⟨rfl, hb⟩ | exact ⟨rfl, hb ▸ Bel.refl _⟩))); simp only [Act.put, Act.eval, List.setIfInBounds_toArray, List.set_cons_zero, List.set_cons_succ, Array.getD_eq_getD_getElem?, List.getElem?_toArray, List.getElem?_cons_zero, List.getElem?_cons_succ, Option.getD_some]) | (refine wpT_go 8 (by simp only [List.getElem?_toArray, List.getElem?_cons_zero, List.getElem?_cons_succ] <;> rfl) (by decide +kernel) (by decide +kernel) (by kernel_rfl) (by rfl) (by exact fun _ _ _ _ h => h) (Nat.le_refl _) ?_; apply Exists.intro; refine ⟨fun w1 h1 => ?_, ?_⟩; (first | exact g_move _ rfl | exact g_assign _ rfl | exact g_load_mid _ _ rfl rfl (HRA2.out w1 h1) T36 (evv ea) rfl | exact g_load_mid _ _ rfl rfl (HRB2.out w1 h1) T36 (evv eb) rfl | (have fct0 := F w1 h1; go_simp; first | exact ⟨rfl, rfl⟩ | rfl | (go_at_call 44; (with_reducible refine (directly_any ea eb _).mono ?_); rintro e w' ⟨rfl, hb⟩; first | exact ⟨rfl, hb⟩ | exact ⟨rfl, hb ▸ Bel.refl _⟩))); simp only [Act.put, Act.eval, List.setIfInBounds_toArray, List.set_cons_zero, List.set_cons_succ, Array.getD_eq_getD_getElem?, List.getElem?_toArray, List.getElem?_cons_zero, List.getElem?_cons_succ, Option.getD_some]) | (refine wpT_go 9 (by simp only [List.getElem?_toArray, List.getElem?_cons_zero, List.getElem?_cons_succ] <;> rfl) (by decide +kernel) (by decide +kernel) (by kernel_rfl) (by rfl) (by exact fun _ _ _ _ h => h) (Nat.le_refl _) ?_; apply Exists.intro; refine ⟨fun w1 h1 => ?_, ?_⟩; (first | exact g_move _ rfl | exact g_assign _ rfl | exact g_load_mid _ _ rfl rfl (HRA2.out w1 h1) T36 (evv ea) rfl | exact g_load_mid _ _ rfl rfl (HRB2.out w1 h1) T36 (evv eb) rfl | (have fct0 := F w1 h1; go_simp; first | exact ⟨rfl, rfl⟩ | rfl | (go_at_call 44; (with_reducible refine (directly_any ea eb _).mono ?_); rintro e w' ⟨rfl, hb⟩; first | exact ⟨rfl, hb⟩ | exact ⟨rfl, hb ▸ Bel.refl _⟩))); simp only [Act.put, Act.eval, List.setIfInBounds_toArray, List.set_cons_zero, List.set_cons_succ, Array.getD_eq_getD_getElem?, List.getElem?_toArray, List.getElem?_cons_zero, List.getElem?_cons_succ, Option.getD_some]) | (refine wpT_go 10 (by simp only [List.getElem?_toArray, List.getElem?_cons_zero, List.getElem?_cons_succ] <;> rfl) (by decide +kernel) (by decide +kernel) (by kernel_rfl) (by rfl) (by exact fun _ _ _ _ h => h) (Nat.le_refl _) ?_; apply Exists.intro; refine ⟨fun w1 h1 => ?_, ?_⟩; (first | exact g_move _ rfl | exact g_assign _ rfl | exact g_load_mid _ _ rfl rfl (HRA2.out w1 h1) T36 (evv ea) rfl | exact g_load_mid _ _ rfl rfl (HRB2.out w1 h1) T36 (evv eb) rfl | (have fct0 := F w1 h1; go_simp; first | exact ⟨rfl, rfl⟩ | rfl | (go_at_call 44; (with_reducible refine (directly_any ea eb _).mono ?_); rintro e w' ⟨rfl, hb⟩; first | exact ⟨rfl, hb⟩ | exact ⟨rfl, hb ▸ Bel.refl _⟩))); simp only [Act.put, Act.eval, List.setIfInBounds_toArray, List.set_cons_zero, List.set_cons_succ, Array.getD_eq_getD_getElem?, List.getElem?_toArray, List.getElem?_cons_zero, List.getElem?_cons_succ, Option.getD_some]) | (refine wpT_go 11 (by simp only [List.getElem?_toArray, List.getElem?_cons_zero, List.getElem?_cons_succ] <;> rfl) (by decide +kernel) (by decide +kernel) (by kernel_rfl) (by rfl) (by exact fun _ _ _ _ h => h) (Nat.le_refl _) ?_; apply Exists.intro; refine ⟨fun w1 h1 => ?_, ?_⟩; (first | exact g_move _ rfl | exact g_assign _ rfl | exact g_load_mid _ _ rfl rfl (HRA2.out w1 h1) T36 (evv ea) rfl | exact g_load_mid _ _ rfl rfl (HRB2.out w1 h1) T36 (evv eb) rfl | (have fct0 := F w1 h1; go_simp; first | exact ⟨rfl, rfl⟩ | rfl | (go_at_call 44; (with_reducible refine (directly_any ea eb _).mono ?_); rintro e w' ⟨rfl, hb⟩; first | exact ⟨rfl, hb⟩ | exact ⟨rfl, hb ▸ Bel.refl _⟩))); simp only [Act.put, Act.eval, List.setIfInBounds_toArray, List.set_cons_zero, List.set_cons_succ, Array.getD_eq_getD_getElem?, List.getElem?_toArray, List.getElem?_cons_zero, List.getElem?_cons_succ, Option.getD_some]) | (refine wpT_go 12 (by simp only [List.getElem?_toArray, List.getElem?_cons_zero, List.getElem?_cons_succ] <;> rfl) (by decide +kernel) (by decide +kernel) (by kernel_rfl) (by rfl) (by exact fun _ _ _ _ h => h) (Nat.le_refl _) ?_; apply Exists.intro; refine ⟨fun w1 h1 => ?_, ?_⟩; (first | exact g_move _ rfl | exact g_assign _ rfl | exact g_load_mid _ _ rfl rfl (HRA2.out w1 h1) T36 (evv ea) rfl | exact g_load_mid _ _ rfl rfl (HRB2.out w1 h1) T36 (evv eb) rfl | (have fct0 := F w1 h1; go_simp; first | exact ⟨rfl, rfl⟩ | rfl | (go_at_call 44; (with_reducible refine (directly_any ea eb _).mono ?_); rintro e w' ⟨rfl, hb⟩; first | exact ⟨rfl, hb⟩ | exact ⟨rfl, hb ▸ Bel.refl _⟩))); simp only [Act.put, Act.eval, List.setIfInBounds_toArray, List.set_cons_zero, List.set_cons_succ, Array.getD_eq_getD_getElem?, List.getElem?_toArray, List.getElem?_cons_zero, List.getElem?_cons_succ, Option.getD_some]) | (refine wpT_go 13 (by simp only [List.getElem?_toArray, List.getElem?_cons_zero, List.getElem?_cons_succ] <;> rfl) (by decide +kernel) (by decide +kernel) (by kernel_rfl) (by rfl) (by exact fun _ _ _ _ h => h) (Nat.le_refl _) ?_; apply Exists.intro; refine ⟨fun w1 h1 => ?_, ?_⟩; (first | exact g_move _ rfl | exact g_assign _ rfl | exact g_load_mid _ _ rfl rfl (HRA2.out w1 h1) T36 (evv ea) rfl | exact g_load_mid _ _ rfl rfl (HRB2.out w1 h1) T36 (evv eb) rfl | (have fct0 := F w1 h1; go_simp; first | exact ⟨rfl, rfl⟩ | rfl | (go_at_call 44; (with_reducible refine (directly_any ea eb _).mono ?_); rintro e w' ⟨rfl, hb⟩; first | exact ⟨rfl, hb⟩ | exact ⟨rfl, hb ▸ Bel.refl _⟩))); simp only [Act.put, Act.eval, List.setIfInBounds_toArray, List.set_cons_zero, List.set_cons_succ, Array.getD_eq_getD_getElem?, List.getElem?_toArray, List.getElem?_cons_zero, List.getElem?_cons_succ, Option.getD_some]) | (refine wpT_go 14 (by simp only [List.getElem?_toArray, List.getElem?_cons_zero, List.getElem?_cons_succ] <;> rfl) (by decide +kernel) (by decide +kernel) (by kernel_rfl) (by rfl) (by exact fun _ _ _ _ h => h) (Nat.le_refl _) ?_; apply Exists.intro; refine ⟨fun w1 h1 => ?_, ?_⟩; (first | exact g_move _ rfl | exact g_assign _ rfl | exact g_load_mid _ _ rfl rfl (HRA2.out w1 h1) T36 (evv ea) rfl | exact g_load_mid _ _ rfl rfl (HRB2.out w1 h1) T36 (evv eb) rfl | (have fct0 := F w1 h1; go_simp; first | exact ⟨rfl, rfl⟩ | rfl | (go_at_call 44; (with_reducible refine (directly_any ea eb _).mono ?_); rintro e w' ⟨rfl, hb⟩; first | exact ⟨rfl, hb⟩ | exact ⟨rfl, hb ▸ Bel.refl _⟩))); simp only [Act.put, Act.eval, List.setIfInBounds_toArray, List.set_cons_zero, List.set_cons_succ, Array.getD_eq_getD_getElem?, List.getElem?_toArray, List.getElem?_cons_zero, List.getElem?_cons_succ, Option.getD_some]) | (refine wpT_skip 0 (by simp only [List.getElem?_toArray, List.getElem?_cons_zero, List.getElem?_cons_succ] <;> rfl) (by decide +kernel) (by decide +kernel) (by kernel_rfl) (by rfl) (by exact fun _ _ _ _ h => h) (Nat.le_refl _) ?_; simp only [Act.put, Act.eval, List.setIfInBounds_toArray, List.set_cons_zero, List.set_cons_succ, Array.getD_eq_getD_getElem?, List.getElem?_toArray, List.getElem?_cons_zero, List.getElem?_cons_succ, Option.getD_some]) | (refine wpT_skip 1 (by simp only [List.getElem?_toArray, List.getElem?_cons_zero, List.getElem?_cons_succ] <;> rfl) (by decide +kernel) (by decide +kernel) (by kernel_rfl) (by rfl) (by exact fun _ _ _ _ h => h) (Nat.le_refl _) ?_; simp only [Act.put, Act.eval, List.setIfInBounds_toArray, List.set_cons_zero, List.set_cons_succ, Array.getD_eq_getD_getElem?, List.getElem?_toArray, List.getElem?_cons_zero, List.getElem?_cons_succ, Option.getD_some]) | (refine wpT_skip 2 (by simp only [List.getElem?_toArray, List.getElem?_cons_zero, List.getElem?_cons_succ] <;> rfl) (by decide +kernel) (by decide +kernel) (by kernel_rfl) (by rfl) (by exact fun _ _ _ _ h => h) (Nat.le_refl _) ?_; simp only [Act.put, Act.eval, List.setIfInBounds_toArray, List.set_cons_zero, List.set_cons_succ, Array.getD_eq_getD_getElem?, List.getElem?_toArray, List.getElem?_cons_zero, List.getElem?_cons_succ, Option.getD_some]) | (refine wpT_skip 3 (by simp only [List.getElem?_toArray, List.getElem?_cons_zero, List.getElem?_cons_succ] <;> rfl) (by decide +kernel) (by decide +kernel) (by kernel_rfl) (by rfl) (by exact fun _ _ _ _ h => h) (Nat.le_refl _) ?_; simp only [Act.put, Act.eval, List.setIfInBounds_toArray, List.set_cons_zero, List.set_cons_succ, Array.getD_eq_getD_getElem?, List.getElem?_toArray, List.getElem?_cons_zero, List.getElem?_cons_succ, Option.getD_some]) | (refine wpT_skip 4 (by simp only [List.getElem?_toArray, List.getElem?_cons_zero, List.getElem?_cons_succ] <;> rfl) (by decide +kernel) (by decide +kernel) (by kernel_rfl) (by rfl) (by exact fun _ _ _ _ h => h) (Nat.le_refl _) ?_; simp only [Act.put, Act.eval, List.setIfInBounds_toArray, List.set_cons_zero, List.set_cons_succ, Array.getD_eq_getD_getElem?, List.getElem?_toArray, List.getElem?_cons_zero, List.getElem?_cons_succ, Option.getD_some]) | (refine wpT_skip 5 (by simp only [List.getElem?_toArray, List.getElem?_cons_zero, List.getElem?_cons_succ] <;> rfl) (by decide +kernel) (by decide +kernel) (by kernel_rfl) (by rfl) (by exact fun _ _ _ _ h => h) (Nat.le_refl _) ?_; simp only [Act.put, Act.eval, List.setIfInBounds_toArray, List.set_cons_zero, List.set_cons_succ, Array.getD_eq_getD_getElem?, List.getElem?_toArray, List.getElem?_cons_zero, List.getElem?_cons_succ, Option.getD_some]) | (refine wpT_skip 6 (by simp only [List.getElem?_toArray, List.getElem?_cons_zero, List.getElem?_cons_succ] <;> rfl) (by decide +kernel) (by decide +kernel) (by kernel_rfl) (by rfl) (by exact fun _ _ _ _ h => h) (Nat.le_refl _) ?_; simp only [Act.put, Act.eval, List.setIfInBounds_toArray, List.set_cons_zero, List.set_cons_succ, Array.getD_eq_getD_getElem?, List.getElem?_toArray, List.getElem?_cons_zero, List.getElem?_cons_succ, Option.getD_some]) | (refine wpT_skip 7 (by simp only [List.getElem?_toArray, List.getElem?_cons_zero, List.getElem?_cons_succ] <;> rfl) (by decide +kernel) (by decide +kernel) (by kernel_rfl) (by rfl) (by exact fun _ _ _ _ h => h) (Nat.le_refl _) ?_; simp only [Act.put, Act.eval, List.setIfInBounds_toArray, List.set_cons_zero, List.set_cons_succ, Array.getD_eq_getD_getElem?, List.getElem?_toArray, List.getElem?_cons_zero, List.getElem?_cons_succ, Option.getD_some]) | (refine wpT_skip 8 (by simp only [List.getElem?_toArray, List.getElem?_cons_zero, List.getElem?_cons_succ] <;> rfl) (by decide +kernel) (by decide +kernel) (by kernel_rfl) (by rfl) (by exact fun _ _ _ _ h => h) (Nat.le_refl _) ?_; simp only [Act.put, Act.eval, List.setIfInBounds_toArray, List.set_cons_zero, List.set_cons_succ, Array.getD_eq_getD_getElem?, List.getElem?_toArray, List.getElem?_cons_zero, List.getElem?_cons_succ, Option.getD_some]) | (refine wpT_skip 9 (by simp only [List.getElem?_toArray, List.getElem?_cons_zero, List.getElem?_cons_succ] <;> rfl) (by decide +kernel) (by decide +kernel) (by kernel_rfl) (by rfl) (by exact fun _ _ _ _ h => h) (Nat.le_refl _) ?_; simp only [Act.put, Act.eval, List.setIfInBounds_toArray, List.set_cons_zero, List.set_cons_succ, Array.getD_eq_getD_getElem?, List.getElem?_toArray, List.getElem?_cons_zero, List.getElem?_cons_succ, Option.getD_some]) | (refine wpT_skip 10 (by simp only [List.getElem?_toArray, List.getElem?_cons_zero, List.getElem?_cons_succ] <;> rfl) (by decide +kernel) (by decide +kernel) (by kernel_rfl) (by rfl) (by exact fun _ _ _ _ h => h) (Nat.le_refl _) ?_; simp only [Act.put, Act.eval, List.setIfInBounds_toArray, List.set_cons_zero, List.set_cons_succ, Array.getD_eq_getD_getElem?, List.getElem?_toArray, List.getElem?_cons_zero, List.getElem?_cons_succ, Option.getD_some]) | (refine wpT_skip 11 (by simp only [List.getElem?_toArray, List.getElem?_cons_zero, List.getElem?_cons_succ] <;> rfl) (by decide +kernel) (by decide +kernel) (by kernel_rfl) (by rfl) (by exact fun _ _ _ _ h => h) (Nat.le_refl _) ?_; simp only [Act.put, Act.eval, List.setIfInBounds_toArray, List.set_cons_zero, List.set_cons_succ, Array.getD_eq_getD_getElem?, List.getElem?_toArray, List.getElem?_cons_zero, List.getElem?_cons_succ, Option.getD_some]) | (refine wpT_skip 12 (by simp only [List.getElem?_toArray, List.getElem?_cons_zero, List.getElem?_cons_succ] <;> rfl) (by decide +kernel) (by decide +kernel) (by kernel_rfl) (by rfl) (by exact fun _ _ _ _ h => h) (Nat.le_refl _) ?_; simp only [Act.put, Act.eval, List.setIfInBounds_toArray, List.set_cons_zero, List.set_cons_succ, Array.getD_eq_getD_getElem?, List.getElem?_toArray, List.getElem?_cons_zero, List.getElem?_cons_succ, Option.getD_some]) | (refine wpT_skip 13 (by simp only [List.getElem?_toArray, List.getElem?_cons_zero, List.getElem?_cons_succ] <;> rfl) (by decide +kernel) (by decide +kernel) (by kernel_rfl) (by rfl) (by exact fun _ _ _ _ h => h) (Nat.le_refl _) ?_; simp only [Act.put, Act.eval, List.setIfInBounds_toArray, List.set_cons_zero, List.set_cons_succ, Array.getD_eq_getD_getElem?, List.getElem?_toArray, List.getElem?_cons_zero, List.getElem?_cons_succ, Option.getD_some]) | (refine wpT_skip 14 (by simp only [List.getElem?_toArray, List.getElem?_cons_zero, List.getElem?_cons_succ] <;> rfl) (by decide +kernel) (by decide +kernel) (by kernel_rfl) (by rfl) (by exact fun _ _ _ _ h => h) (Nat.le_refl _) ?_; simp only [Act.put, Act.eval, List.setIfInBounds_toArray, List.set_cons_zero, List.set_cons_succ, Array.getD_eq_getD_getElem?, List.getElem?_toArray, List.getElem?_cons_zero, List.getElem?_cons_succ, Option.getD_some])))
          refine wpT_last (by decide +kernel) (by decide +kernel) (by simp only [List.getElem?_toArray, List.getElem?_cons_zero, List.getElem?_cons_succ] <;> rfl) rfl ?_
          intro w1 hw1
          have HG := Lib.hid (HM2.out.grow hw1)
          have n1 := HG.out.cell (i := i) (by omega) hlj
          have g1 := (HG.out.row i (by omega)).frozen j
          have HS := Lib.hid ((HG.out.set (i := i) (by omega) j (directly ea eb)).congr (f' := fD l i (j + 1)) (fun a b _ _ => fD_set l i j _ HD.out.symm a b))
          clear hw1
          go_simp
          intro w2 hw2
          have HS2 := Lib.hid (HS.out.grow hw2)
          clear hw2 n1 g1 F
          go_wp2
          go_roundw
          case rel => exact ⟨j + 1, by omega, by omega, by go_num, HS2.out⟩
          case measure => simp [intOf]; omega
        · obtain rfl : j = n := by omega
          have HS := Lib.hid (HM2.out.congr (f' := fD l (i + 1) 0) (fun a b ha hb => fD_next hb ha))
          go_wp2
          go_roundw
          case rel => exact ⟨i + 1, r', by omega, by go_num, HS.out⟩
          case measure => simp [intOf]; omega
    · obtain rfl : i = n := by omega
      have HS := Lib.hid (HM.out.congr (f' := fW l 0 0 0) (fun a b ha hb => fD_end ha))
      go_wp2
      go_loopw [49] (fun t49 wr => ∃ k : Nat, k ≤ i ∧ t49 = .int .i64 k ∧ Mat w O i i r (fW l k 0 0) wr) (fun t49 _ => i - (intOf t49).toNat)
      case atStart => exact ⟨0, by omega, rfl, HS.out⟩
      case round =>
        obtain ⟨k, hk, rfl, hm⟩ := hrel
        have HM1 := Lib.hid hm
        clear hm HS HM
        by_cases hlk : k < i
        · have hlk' : (k : Int) < i := by omega
          go_wp2
          go_loopw [54] (fun t54 wr => ∃ p : Nat, p ≤ i ∧ t54 = .int .i64 p ∧ Mat w O i i r (fW l k p 0) wr) (fun t54 _ => i - (intOf t54).toNat)
          case atStart => exact ⟨0, by omega, rfl, HM1.out⟩
          case round =>
            obtain ⟨p, hp, rfl, hm⟩ := hrel
            have HM2 := Lib.hid hm
            clear hm HM1
            by_cases hlp : p < i
            · have hlp' : (p : Int) < i := by omega
              go_wp2
              go_loopw [59] (fun t59 wr => ∃ q : Nat, q ≤ i ∧ t59 = .int .i64 q ∧ Mat w O i i r (fW l k p q) wr) (fun t59 _ => i - (intOf t59).toNat)
              case atStart => exact ⟨0, by omega, rfl, HM2.out⟩
              case round =>
                obtain ⟨q, hq, rfl, hm⟩ := hrel
                have HM3 := Lib.hid hm
                clear hm HM2
                by_cases hlq : q < i
                · have hlq' : (q : Int) < i := by omega
                  have hp0 : (0 : Int) ≤ (p : Int) := by omega
                  have hq0 : (0 : Int) ≤ (q : Int) := by omega
                  have hk0 : (0 : Int) ≤ (k : Int) := by omega
                  have c0 := HM3.out.rowc hlp (Nat.le_refl _)
                  have c1 := HM3.out.rowc hlk (Nat.le_refl _)
                  have d0 := HM3.out.cell hlp hlq
                  have d1 := HM3.out.cell hlp hlk
                  have d2 := HM3.out.cell hlk hlq
                  have g0 := (HM3.out.row p hlp).frozen q
                  rw [fW_here] at d0
                  rw [fW_col] at d1
                  rw [fW_row] at d2
                  have HS := Lib.hid (fun (v : Bool) (hv : v = thr l (k + 1) p q) => ((HM3.out.grow (Bel.refl _).drew).set hlp q v).congr (f' := fW l k p (q + 1)) (fun a b _ _ => fW_set l k p q v hv a b))
                  have HV := Lib.hid (show thr l (k + 1) p q = (thr l k p q || (thr l k p k && thr l k k q)) from rfl)
                  cases h0 : thr l k p q
                  · rw [h0] at d0 HV
                    cases h1 : thr l k p k
                    · rw [h1] at d1 HV
                      go_wp2
                      (refine wp_region_still_tail 30 (by kernel_rfl) (by kernel_rfl) ?_; simp only [List.take_succ_cons, List.take_zero, List.drop_succ_cons, List.drop_zero]; (repeat (first | ((with_reducible refine s_skip ?_ ?_); exact rfl; simp only [Act.put, Act.eval, List.setIfInBounds_toArray, List.set_cons_zero, List.set_cons_succ, Array.getD_eq_getD_getElem?, List.getElem?_toArray, List.getElem?_cons_zero, List.getElem?_cons_succ, Option.getD_some]) | ((with_reducible refine wpStill_step ?_); intro K hK; go_simp; (with_reducible refine hK _ ?_); clear hK K))); (with_reducible refine wpStill_nil ?_))
                      change wpList _ _ _ _ _ wr.drew
                      go_wp2
                      have HX := Lib.hid (HS.out false (by rw [HV.out]; rfl))
                      go_roundw
                      case rel => exact ⟨q + 1, by omega, by go_num, HX.out⟩
                      case measure => simp [intOf]; omega
                    · rw [h1] at d1 HV
                      go_wp2
                      (refine wp_region_still_tail 30 (by kernel_rfl) (by kernel_rfl) ?_; simp only [List.take_succ_cons, List.take_zero, List.drop_succ_cons, List.drop_zero]; (repeat (first | ((with_reducible refine s_skip ?_ ?_); exact rfl; simp only [Act.put, Act.eval, List.setIfInBounds_toArray, List.set_cons_zero, List.set_cons_succ, Array.getD_eq_getD_getElem?, List.getElem?_toArray, List.getElem?_cons_zero, List.getElem?_cons_succ, Option.getD_some]) | ((with_reducible refine wpStill_step ?_); intro K hK; go_simp; (with_reducible refine hK _ ?_); clear hK K))); (with_reducible refine wpStill_nil ?_))
                      change wpList _ _ _ _ _ wr.drew
                      go_wp2
                      have HX := Lib.hid (HS.out (thr l k k q) (by rw [HV.out]; rfl))
                      go_roundw
                      case rel => exact ⟨q + 1, by omega, by go_num, HX.out⟩
                      case measure => simp [intOf]; omega
                  · rw [h0] at d0 HV
                    go_wp2
                    (refine wp_region_still_tail 30 (by kernel_rfl) (by kernel_rfl) ?_; simp only [List.take_succ_cons, List.take_zero, List.drop_succ_cons, List.drop_zero]; (repeat (first | ((with_reducible refine s_skip ?_ ?_); exact rfl; simp only [Act.put, Act.eval, List.setIfInBounds_toArray, List.set_cons_zero, List.set_cons_succ, Array.getD_eq_getD_getElem?, List.getElem?_toArray, List.getElem?_cons_zero, List.getElem?_cons_succ, Option.getD_some]) | ((with_reducible refine wpStill_step ?_); intro K hK; go_simp; (with_reducible refine hK _ ?_); clear hK K))); (with_reducible refine wpStill_nil ?_))
                    change wpList _ _ _ _ _ wr.drew
                    go_wp2
                    have HX := Lib.hid (HS.out true (by rw [HV.out]; rfl))
                    go_roundw
                    case rel => exact ⟨q + 1, by omega, by go_num, HX.out⟩
                    case measure => simp [intOf]; omega
                · obtain rfl : q = i := by omega
                  have HE := Lib.hid (HM3.out.congr (f' := fW l k (p + 1) 0) (fun a b _ hb => fW_next hb))
                  go_wp2
                  go_roundw
                  case rel => exact ⟨p + 1, by omega, by go_num, HE.out⟩
                  case measure => simp [intOf]; omega
            · obtain rfl : p = i := by omega
              have HE := Lib.hid (HM2.out.congr (f' := fW l (k + 1) 0 0) (fun a b ha _ => fW_round ha))
              go_wp2
              go_roundw
              case rel => exact ⟨k + 1, by omega, by go_num, HE.out⟩
              case measure => simp [intOf]; omega
        · obtain rfl : k = i := by omega
          have HE := Lib.hid (HM1.out.congr (f' := bef l) (fun a b _ _ => fW_all HL.out.1))
          go_wp2
          go_ret
          exact ⟨_, _, rfl, HE.out⟩
end Go.Proofs.Ytipjgcklnceohaa

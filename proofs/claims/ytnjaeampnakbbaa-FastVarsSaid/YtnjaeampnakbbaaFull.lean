/- Contracts of package full: start. | Contracts of package full: conflict, access. | Contracts of package full: access. -/
import Derived.Test.YtnjaeampnakbbaaAcP
import Derived.Test.YtnjaeampnakbbaaClock
import Derived.Test.YtnjaeampnakbbaaAppend
import Derived.Test.YtnjaeampnakbbaaGrow
import Derived.Test.YtnjaeampnakbbaaMid
import Derived.Test.YtnjaeampnakbbaaBase
set_option linter.all false
set_option maxRecDepth 100000
namespace Go.Proofs.Ytnjaeampnakbbaa
open Go Go.RowKit

theorem TCs : RowTy Try.prog 117 90 := ⟨_, Try.underlying117, rfl, by kernel_rfl⟩
theorem ns_all (n : Nat) (g : Nat → Nat) : (ns n g).all (·.oneCell') = true := all_oneCell_toArray (nsl_one n g)
def gS (k : Nat) : Nat → Nat := fun i => if i < 36 ∧ i / 6 = i % 6 ∧ i / 6 < k then 1 else 0
theorem gS_up {k : Nat} (hk : k < 6) : ns 90 (updN (gS k) (k * 6 + k) 1) = ns 90 (gS (k + 1)) := ns_congr fun i _ => by
  unfold updN gS
  by_cases h : i = k * 6 + k
  · rw [if_pos h, if_pos ⟨by omega, by omega, by omega⟩]
  · rw [if_neg h]
    by_cases h2 : i < 36 ∧ i / 6 = i % 6 ∧ i / 6 < k
    · rw [if_pos h2, if_pos ⟨h2.1, h2.2.1, by omega⟩]
    · rw [if_neg h2, if_neg (by omega)]
theorem gS_all : ns 90 (gS 6) = ns 90 (gD djStart) := ns_congr fun i hi => by
  unfold gS gD djStart
  by_cases h : i < 36
  · simp only [h, if_true]
    by_cases h2 : i / 6 = i % 6
    · rw [if_pos ⟨trivial, h2, by omega⟩, if_pos h2]
    · rw [if_neg (fun hh => h2 hh.2.1), if_neg h2]
  · simp only [h, if_false, false_and, ite_self]
structure StR (w : World) (k : Nat) (wr : World) : Prop where
  res : Box wr w.heap.size (ns 90 fun _ => 0) 117
  now : Box wr (w.heap.size + 1) (ns 90 (gS k)) 117
  below : Below w.heap.size w wr
set_option maxHeartbeats 4000000 in
theorem start_any (w : World) : Calls Try.prog 64 #[] w fun e w' => e = .returned (.agg (ns 90 (gD djStart))) ∧ Below w.heap.size w w' := by
  obtain ⟨b1, b2, hB, hs⟩ := boxes2 w (ns 90 fun _ => 0) (ns 90 (gS 0)) 117 117
  have H0 := Lib.hid (StR.mk b1 b2 hB)
  clear b1 b2 hB hs
  go_enter Try.func64, Try.ntmps64
  go_wp2
  change Code.wp _ _ _ _ ((w.alloc (.cells (ns 90 fun _ => 0) 117)).alloc (.cells (ns 90 (gS 0)) 117))
  generalize ((w.alloc (.cells (ns 90 fun _ => 0) 117)).alloc (.cells (ns 90 (gS 0)) 117)) = W at *
  go_loopw [3] (fun t wr => ∃ k : Nat, k ≤ 6 ∧ t = .int .i64 k ∧ StR w k wr) (fun t _ => 6 - (intOf t).toNat)
  case atStart => exact ⟨0, by omega, rfl, H0.out⟩
  case round =>
    obtain ⟨k, hk, rfl, hr⟩ := hrel
    have HR := Lib.hid hr
    clear hr H0
    by_cases hlt : k < 6
    · have hlt' : (k : Int) < 6 := by omega
      have c0 := HR.out.now.cell (k * 6 + k) (ns_get _ (by omega))
      have g0 := HR.out.now.frozen (k * 6 + k)
      go_wp2
      go_roundw
      case rel => exact ⟨k + 1, by omega, by go_num, ⟨HR.out.res.set_ne _ _ (by simp), by have := HR.out.now.set (k * 6 + k) (.int .i64 ((1 : Nat) : Int)); rw [ns_set, gS_up hlt] at this; exact this, HR.out.below.setCell (by simp) _⟩⟩
      case measure => simp [intOf]; omega
    · obtain rfl : k = 6 := by omega
      have hn := HR.out.now
      rw [gS_all] at hn
      have hr := HR.out.res
      go_wp2_with (first | (refine loadB _ _ rfl rfl rfl hn (by rw [ns_size]; exact TCs) ?_) | (refine storeB _ _ _ rfl rfl rfl rfl hr (by rw [ns_size, ns_size]) (by rw [ns_size]; exact TCs) (ns_all _ _) ?_))
      refine bodyPost_ret (res_c Try.results64 rfl (hr.setRow (ns 90 (gD djStart))) (by rw [ns_size]; exact TCs)) rfl ⟨rfl, ?_⟩
      exact below_setRow' HR.out.below _ _ (Nat.le_refl _)
end Go.Proofs.Ytnjaeampnakbbaa
namespace Go.Proofs.Ytnjaeampnakbbaa
open Go Go.RowKit

theorem TVs : RowTy Try.prog 61 96 := ⟨_, Try.underlying61, rfl, by kernel_rfl⟩
set_option maxHeartbeats 4000000 in
theorem conflict_any (Y x : Nat) (r v : Nat → Nat → Nat) (k : Int) (c : Nat → Nat) (w : World) (hx : x < 8) (hb : Box w Y (ns 96 (gV r v)) 61) :
    Calls Try.prog 66 #[.pointer (some ⟨Y, x * 12, none⟩), .int .i64 k, .agg (clk (ck c))] w fun e w' => e = .returned (.int .i64 (kndA k (v x) (r x) c)) ∧ Below w.heap.size w w' := by
  have HBW := Lib.hid (show Bel w (w.alloc (.cells (clk (ck c)) 30)) from (Bel.refl w).alloc _)
  have bx := Box.new w (clk (ck c)) 30
  have hY := HBW.out.box hb
  have HFW := Lib.hid (fun (w' : World) (h : Bel (w.alloc (.cells (clk (ck c)) 30)) w') => ns_row (h.box hY) (o := x * 12 + 6) (by omega) (c := v x) (fun u hu => gV_W r v hu))
  have HFR := Lib.hid (fun (w' : World) (h : Bel (w.alloc (.cells (clk (ck c)) 30)) w') => ns_row (h.box hY) (o := x * 12) (by omega) (c := r x) (fun u hu => gV_R r v hu))
  have HBX := Lib.hid bx
  clear hb hY
  generalize hW : w.alloc (.cells (clk (ck c)) 30) = W at *
  cases h1 : within (ck (v x)) (ck c)
  · by_cases hk : k = 2
    · have HV := Lib.hid (show kndA k (v x) (r x) c = 1 by unfold kndA; rw [if_pos h1, if_pos hk])
      have hk' : (k == 2) = true := by simpa using hk
      go_enter Try.func66, Try.ntmps66
      go_wp2
      clear hW
      (refine region_bel (by kernel_rfl) (by kernel_rfl) ?_; (repeat (first | ((with_reducible refine BigFrame.wpQuiet_skip ?_ ?_); exact rfl; simp only [Act.put, Act.eval, List.setIfInBounds_toArray, List.set_cons_zero, List.set_cons_succ, Array.getD_eq_getD_getElem?, List.getElem?_toArray, List.getElem?_cons_zero, List.getElem?_cons_succ, Option.getD_some]) | (refine q_move _ rfl rfl ?_; simp only [Act.put, Act.eval, List.setIfInBounds_toArray, List.set_cons_zero, List.set_cons_succ, Array.getD_eq_getD_getElem?, List.getElem?_toArray, List.getElem?_cons_zero, List.getElem?_cons_succ, Option.getD_some]) | (refine q_assign _ rfl rfl ?_; simp only [Act.put, Act.eval, List.setIfInBounds_toArray, List.set_cons_zero, List.set_cons_succ, Array.getD_eq_getD_getElem?, List.getElem?_toArray, List.getElem?_cons_zero, List.getElem?_cons_succ, Option.getD_some]) | (refine q_load _ _ rfl rfl rfl bx ty28 ?_; simp only [Act.put, Act.eval, List.setIfInBounds_toArray, List.set_cons_zero, List.set_cons_succ, Array.getD_eq_getD_getElem?, List.getElem?_toArray, List.getElem?_cons_zero, List.getElem?_cons_succ, Option.getD_some]) | (refine q_load_mid _ _ rfl rfl rfl HFW.out ty28 (clk (ck (v x))) rfl ?_; simp only [Act.put, Act.eval, List.setIfInBounds_toArray, List.set_cons_zero, List.set_cons_succ, Array.getD_eq_getD_getElem?, List.getElem?_toArray, List.getElem?_cons_zero, List.getElem?_cons_succ, Option.getD_some]) | (refine q_any rfl ?_; apply Exists.intro; refine ⟨fun w hw => ?_, ?_⟩; (go_simp; first | exact ⟨rfl, rfl⟩ | rfl | (go_at_call 83; (with_reducible refine (within_any _ _ _).mono ?_); rintro e w' ⟨rfl, hb⟩; exact ⟨rfl, hw.call hb⟩)); simp only [Act.put, Act.eval, List.setIfInBounds_toArray, List.set_cons_zero, List.set_cons_succ, Array.getD_eq_getD_getElem?, List.getElem?_toArray, List.getElem?_cons_zero, List.getElem?_cons_succ, Option.getD_some]))); refine wpQuiet_nil ?_; intro w2 hw2)
      rw [h1]
      go_wp2
      go_ret
      exact ⟨by rw [HV.out]; rfl, HBW.out.trans hw2⟩
    · have HV := Lib.hid (show kndA k (v x) (r x) c = 2 by unfold kndA; rw [if_pos h1, if_neg hk])
      have hk' : (k == 2) = false := by simpa using hk
      go_enter Try.func66, Try.ntmps66
      go_wp2
      clear hW
      (refine region_bel (by kernel_rfl) (by kernel_rfl) ?_; (repeat (first | ((with_reducible refine BigFrame.wpQuiet_skip ?_ ?_); exact rfl; simp only [Act.put, Act.eval, List.setIfInBounds_toArray, List.set_cons_zero, List.set_cons_succ, Array.getD_eq_getD_getElem?, List.getElem?_toArray, List.getElem?_cons_zero, List.getElem?_cons_succ, Option.getD_some]) | (refine q_move _ rfl rfl ?_; simp only [Act.put, Act.eval, List.setIfInBounds_toArray, List.set_cons_zero, List.set_cons_succ, Array.getD_eq_getD_getElem?, List.getElem?_toArray, List.getElem?_cons_zero, List.getElem?_cons_succ, Option.getD_some]) | (refine q_assign _ rfl rfl ?_; simp only [Act.put, Act.eval, List.setIfInBounds_toArray, List.set_cons_zero, List.set_cons_succ, Array.getD_eq_getD_getElem?, List.getElem?_toArray, List.getElem?_cons_zero, List.getElem?_cons_succ, Option.getD_some]) | (refine q_load _ _ rfl rfl rfl bx ty28 ?_; simp only [Act.put, Act.eval, List.setIfInBounds_toArray, List.set_cons_zero, List.set_cons_succ, Array.getD_eq_getD_getElem?, List.getElem?_toArray, List.getElem?_cons_zero, List.getElem?_cons_succ, Option.getD_some]) | (refine q_load_mid _ _ rfl rfl rfl HFW.out ty28 (clk (ck (v x))) rfl ?_; simp only [Act.put, Act.eval, List.setIfInBounds_toArray, List.set_cons_zero, List.set_cons_succ, Array.getD_eq_getD_getElem?, List.getElem?_toArray, List.getElem?_cons_zero, List.getElem?_cons_succ, Option.getD_some]) | (refine q_any rfl ?_; apply Exists.intro; refine ⟨fun w hw => ?_, ?_⟩; (go_simp; first | exact ⟨rfl, rfl⟩ | rfl | (go_at_call 83; (with_reducible refine (within_any _ _ _).mono ?_); rintro e w' ⟨rfl, hb⟩; exact ⟨rfl, hw.call hb⟩)); simp only [Act.put, Act.eval, List.setIfInBounds_toArray, List.set_cons_zero, List.set_cons_succ, Array.getD_eq_getD_getElem?, List.getElem?_toArray, List.getElem?_cons_zero, List.getElem?_cons_succ, Option.getD_some]))); refine wpQuiet_nil ?_; intro w2 hw2)
      rw [h1]
      go_wp2
      go_ret
      exact ⟨by rw [HV.out]; rfl, HBW.out.trans hw2⟩
  · by_cases hk : k = 2
    · have hk' : (k == 2) = true := by simpa using hk
      have HK := Lib.hid hk
      clear hk
      cases h2 : within (ck (r x)) (ck c)
      · have HV := Lib.hid (show kndA k (v x) (r x) c = 3 by unfold kndA; rw [if_neg (by rw [h1]; simp), if_pos HK.out, if_pos h2])
        go_enter Try.func66, Try.ntmps66
        go_wp2
        clear hW
        (refine region_bel (by kernel_rfl) (by kernel_rfl) ?_; (repeat (first | ((with_reducible refine BigFrame.wpQuiet_skip ?_ ?_); exact rfl; simp only [Act.put, Act.eval, List.setIfInBounds_toArray, List.set_cons_zero, List.set_cons_succ, Array.getD_eq_getD_getElem?, List.getElem?_toArray, List.getElem?_cons_zero, List.getElem?_cons_succ, Option.getD_some]) | (refine q_move _ rfl rfl ?_; simp only [Act.put, Act.eval, List.setIfInBounds_toArray, List.set_cons_zero, List.set_cons_succ, Array.getD_eq_getD_getElem?, List.getElem?_toArray, List.getElem?_cons_zero, List.getElem?_cons_succ, Option.getD_some]) | (refine q_assign _ rfl rfl ?_; simp only [Act.put, Act.eval, List.setIfInBounds_toArray, List.set_cons_zero, List.set_cons_succ, Array.getD_eq_getD_getElem?, List.getElem?_toArray, List.getElem?_cons_zero, List.getElem?_cons_succ, Option.getD_some]) | (refine q_load _ _ rfl rfl rfl bx ty28 ?_; simp only [Act.put, Act.eval, List.setIfInBounds_toArray, List.set_cons_zero, List.set_cons_succ, Array.getD_eq_getD_getElem?, List.getElem?_toArray, List.getElem?_cons_zero, List.getElem?_cons_succ, Option.getD_some]) | (refine q_load_mid _ _ rfl rfl rfl HFW.out ty28 (clk (ck (v x))) rfl ?_; simp only [Act.put, Act.eval, List.setIfInBounds_toArray, List.set_cons_zero, List.set_cons_succ, Array.getD_eq_getD_getElem?, List.getElem?_toArray, List.getElem?_cons_zero, List.getElem?_cons_succ, Option.getD_some]) | (refine q_any rfl ?_; apply Exists.intro; refine ⟨fun w hw => ?_, ?_⟩; (go_simp; first | exact ⟨rfl, rfl⟩ | rfl | (go_at_call 83; (with_reducible refine (within_any _ _ _).mono ?_); rintro e w' ⟨rfl, hb⟩; exact ⟨rfl, hw.call hb⟩)); simp only [Act.put, Act.eval, List.setIfInBounds_toArray, List.set_cons_zero, List.set_cons_succ, Array.getD_eq_getD_getElem?, List.getElem?_toArray, List.getElem?_cons_zero, List.getElem?_cons_succ, Option.getD_some]))); refine wpQuiet_nil ?_; intro w2 hw2)
        have HW2 := Lib.hid hw2
        have HFR2 := Lib.hid (fun (w' : World) (h : Bel w2 w') => HFR.out w' (HW2.out.trans h))
        have bx2 := HW2.out.box HBX.out
        clear hw2
        rw [h1]
        go_wp2
        (refine region_bel (by kernel_rfl) (by kernel_rfl) ?_; (repeat (first | ((with_reducible refine BigFrame.wpQuiet_skip ?_ ?_); exact rfl; simp only [Act.put, Act.eval, List.setIfInBounds_toArray, List.set_cons_zero, List.set_cons_succ, Array.getD_eq_getD_getElem?, List.getElem?_toArray, List.getElem?_cons_zero, List.getElem?_cons_succ, Option.getD_some]) | (refine q_move _ rfl rfl ?_; simp only [Act.put, Act.eval, List.setIfInBounds_toArray, List.set_cons_zero, List.set_cons_succ, Array.getD_eq_getD_getElem?, List.getElem?_toArray, List.getElem?_cons_zero, List.getElem?_cons_succ, Option.getD_some]) | (refine q_assign _ rfl rfl ?_; simp only [Act.put, Act.eval, List.setIfInBounds_toArray, List.set_cons_zero, List.set_cons_succ, Array.getD_eq_getD_getElem?, List.getElem?_toArray, List.getElem?_cons_zero, List.getElem?_cons_succ, Option.getD_some]) | (refine q_load _ _ rfl rfl rfl bx2 ty28 ?_; simp only [Act.put, Act.eval, List.setIfInBounds_toArray, List.set_cons_zero, List.set_cons_succ, Array.getD_eq_getD_getElem?, List.getElem?_toArray, List.getElem?_cons_zero, List.getElem?_cons_succ, Option.getD_some]) | (refine q_load_mid _ _ rfl rfl rfl HFR2.out ty28 (clk (ck (r x))) rfl ?_; simp only [Act.put, Act.eval, List.setIfInBounds_toArray, List.set_cons_zero, List.set_cons_succ, Array.getD_eq_getD_getElem?, List.getElem?_toArray, List.getElem?_cons_zero, List.getElem?_cons_succ, Option.getD_some]) | (refine q_any rfl ?_; apply Exists.intro; refine ⟨fun w hw => ?_, ?_⟩; (go_simp; first | exact ⟨rfl, rfl⟩ | rfl | (go_at_call 83; (with_reducible refine (within_any _ _ _).mono ?_); rintro e w' ⟨rfl, hb⟩; exact ⟨rfl, hw.call hb⟩)); simp only [Act.put, Act.eval, List.setIfInBounds_toArray, List.set_cons_zero, List.set_cons_succ, Array.getD_eq_getD_getElem?, List.getElem?_toArray, List.getElem?_cons_zero, List.getElem?_cons_succ, Option.getD_some]))); refine wpQuiet_nil ?_; intro w2 hw2)
        rw [h2]
        go_wp2
        go_ret
        exact ⟨by rw [HV.out]; rfl, (HBW.out.trans HW2.out).trans hw2⟩
      · have HV := Lib.hid (show kndA k (v x) (r x) c = 0 by unfold kndA; rw [if_neg (by rw [h1]; simp), if_pos HK.out, if_neg (by rw [h2]; simp)])
        go_enter Try.func66, Try.ntmps66
        go_wp2
        clear hW
        (refine region_bel (by kernel_rfl) (by kernel_rfl) ?_; (repeat (first | ((with_reducible refine BigFrame.wpQuiet_skip ?_ ?_); exact rfl; simp only [Act.put, Act.eval, List.setIfInBounds_toArray, List.set_cons_zero, List.set_cons_succ, Array.getD_eq_getD_getElem?, List.getElem?_toArray, List.getElem?_cons_zero, List.getElem?_cons_succ, Option.getD_some]) | (refine q_move _ rfl rfl ?_; simp only [Act.put, Act.eval, List.setIfInBounds_toArray, List.set_cons_zero, List.set_cons_succ, Array.getD_eq_getD_getElem?, List.getElem?_toArray, List.getElem?_cons_zero, List.getElem?_cons_succ, Option.getD_some]) | (refine q_assign _ rfl rfl ?_; simp only [Act.put, Act.eval, List.setIfInBounds_toArray, List.set_cons_zero, List.set_cons_succ, Array.getD_eq_getD_getElem?, List.getElem?_toArray, List.getElem?_cons_zero, List.getElem?_cons_succ, Option.getD_some]) | (refine q_load _ _ rfl rfl rfl bx ty28 ?_; simp only [Act.put, Act.eval, List.setIfInBounds_toArray, List.set_cons_zero, List.set_cons_succ, Array.getD_eq_getD_getElem?, List.getElem?_toArray, List.getElem?_cons_zero, List.getElem?_cons_succ, Option.getD_some]) | (refine q_load_mid _ _ rfl rfl rfl HFW.out ty28 (clk (ck (v x))) rfl ?_; simp only [Act.put, Act.eval, List.setIfInBounds_toArray, List.set_cons_zero, List.set_cons_succ, Array.getD_eq_getD_getElem?, List.getElem?_toArray, List.getElem?_cons_zero, List.getElem?_cons_succ, Option.getD_some]) | (refine q_any rfl ?_; apply Exists.intro; refine ⟨fun w hw => ?_, ?_⟩; (go_simp; first | exact ⟨rfl, rfl⟩ | rfl | (go_at_call 83; (with_reducible refine (within_any _ _ _).mono ?_); rintro e w' ⟨rfl, hb⟩; exact ⟨rfl, hw.call hb⟩)); simp only [Act.put, Act.eval, List.setIfInBounds_toArray, List.set_cons_zero, List.set_cons_succ, Array.getD_eq_getD_getElem?, List.getElem?_toArray, List.getElem?_cons_zero, List.getElem?_cons_succ, Option.getD_some]))); refine wpQuiet_nil ?_; intro w2 hw2)
        have HW2 := Lib.hid hw2
        have HFR2 := Lib.hid (fun (w' : World) (h : Bel w2 w') => HFR.out w' (HW2.out.trans h))
        have bx2 := HW2.out.box HBX.out
        clear hw2
        rw [h1]
        go_wp2
        (refine region_bel (by kernel_rfl) (by kernel_rfl) ?_; (repeat (first | ((with_reducible refine BigFrame.wpQuiet_skip ?_ ?_); exact rfl; simp only [Act.put, Act.eval, List.setIfInBounds_toArray, List.set_cons_zero, List.set_cons_succ, Array.getD_eq_getD_getElem?, List.getElem?_toArray, List.getElem?_cons_zero, List.getElem?_cons_succ, Option.getD_some]) | (refine q_move _ rfl rfl ?_; simp only [Act.put, Act.eval, List.setIfInBounds_toArray, List.set_cons_zero, List.set_cons_succ, Array.getD_eq_getD_getElem?, List.getElem?_toArray, List.getElem?_cons_zero, List.getElem?_cons_succ, Option.getD_some]) | (refine q_assign _ rfl rfl ?_; simp only [Act.put, Act.eval, List.setIfInBounds_toArray, List.set_cons_zero, List.set_cons_succ, Array.getD_eq_getD_getElem?, List.getElem?_toArray, List.getElem?_cons_zero, List.getElem?_cons_succ, Option.getD_some]) | (refine q_load _ _ rfl rfl rfl bx2 ty28 ?_; simp only [Act.put, Act.eval, List.setIfInBounds_toArray, List.set_cons_zero, List.set_cons_succ, Array.getD_eq_getD_getElem?, List.getElem?_toArray, List.getElem?_cons_zero, List.getElem?_cons_succ, Option.getD_some]) | (refine q_load_mid _ _ rfl rfl rfl HFR2.out ty28 (clk (ck (r x))) rfl ?_; simp only [Act.put, Act.eval, List.setIfInBounds_toArray, List.set_cons_zero, List.set_cons_succ, Array.getD_eq_getD_getElem?, List.getElem?_toArray, List.getElem?_cons_zero, List.getElem?_cons_succ, Option.getD_some]) | (refine q_any rfl ?_; apply Exists.intro; refine ⟨fun w hw => ?_, ?_⟩; (go_simp; first | exact ⟨rfl, rfl⟩ | rfl | (go_at_call 83; (with_reducible refine (within_any _ _ _).mono ?_); rintro e w' ⟨rfl, hb⟩; exact ⟨rfl, hw.call hb⟩)); simp only [Act.put, Act.eval, List.setIfInBounds_toArray, List.set_cons_zero, List.set_cons_succ, Array.getD_eq_getD_getElem?, List.getElem?_toArray, List.getElem?_cons_zero, List.getElem?_cons_succ, Option.getD_some]))); refine wpQuiet_nil ?_; intro w2 hw2)
        rw [h2]
        go_wp2
        go_ret
        exact ⟨by rw [HV.out]; rfl, (HBW.out.trans HW2.out).trans hw2⟩
    · have HV := Lib.hid (show kndA k (v x) (r x) c = 0 by unfold kndA; rw [if_neg (by rw [h1]; simp), if_neg hk])
      have hk' : (k == 2) = false := by simpa using hk
      go_enter Try.func66, Try.ntmps66
      go_wp2
      clear hW
      (refine region_bel (by kernel_rfl) (by kernel_rfl) ?_; (repeat (first | ((with_reducible refine BigFrame.wpQuiet_skip ?_ ?_); exact rfl; simp only [Act.put, Act.eval, List.setIfInBounds_toArray, List.set_cons_zero, List.set_cons_succ, Array.getD_eq_getD_getElem?, List.getElem?_toArray, List.getElem?_cons_zero, List.getElem?_cons_succ, Option.getD_some]) | (refine q_move _ rfl rfl ?_; simp only [Act.put, Act.eval, List.setIfInBounds_toArray, List.set_cons_zero, List.set_cons_succ, Array.getD_eq_getD_getElem?, List.getElem?_toArray, List.getElem?_cons_zero, List.getElem?_cons_succ, Option.getD_some]) | (refine q_assign _ rfl rfl ?_; simp only [Act.put, Act.eval, List.setIfInBounds_toArray, List.set_cons_zero, List.set_cons_succ, Array.getD_eq_getD_getElem?, List.getElem?_toArray, List.getElem?_cons_zero, List.getElem?_cons_succ, Option.getD_some]) | (refine q_load _ _ rfl rfl rfl bx ty28 ?_; simp only [Act.put, Act.eval, List.setIfInBounds_toArray, List.set_cons_zero, List.set_cons_succ, Array.getD_eq_getD_getElem?, List.getElem?_toArray, List.getElem?_cons_zero, List.getElem?_cons_succ, Option.getD_some]) | (refine q_load_mid _ _ rfl rfl rfl HFW.out ty28 (clk (ck (v x))) rfl ?_; simp only [Act.put, Act.eval, List.setIfInBounds_toArray, List.set_cons_zero, List.set_cons_succ, Array.getD_eq_getD_getElem?, List.getElem?_toArray, List.getElem?_cons_zero, List.getElem?_cons_succ, Option.getD_some]) | (refine q_any rfl ?_; apply Exists.intro; refine ⟨fun w hw => ?_, ?_⟩; (go_simp; first | exact ⟨rfl, rfl⟩ | rfl | (go_at_call 83; (with_reducible refine (within_any _ _ _).mono ?_); rintro e w' ⟨rfl, hb⟩; exact ⟨rfl, hw.call hb⟩)); simp only [Act.put, Act.eval, List.setIfInBounds_toArray, List.set_cons_zero, List.set_cons_succ, Array.getD_eq_getD_getElem?, List.getElem?_toArray, List.getElem?_cons_zero, List.getElem?_cons_succ, Option.getD_some]))); refine wpQuiet_nil ?_; intro w2 hw2)
      have HW2 := Lib.hid hw2
      clear hw2
      rw [h1]
      go_wp2
      (refine region_bel (by kernel_rfl) (by kernel_rfl) ?_; (repeat (first | ((with_reducible refine BigFrame.wpQuiet_skip ?_ ?_); exact rfl; simp only [Act.put, Act.eval, List.setIfInBounds_toArray, List.set_cons_zero, List.set_cons_succ, Array.getD_eq_getD_getElem?, List.getElem?_toArray, List.getElem?_cons_zero, List.getElem?_cons_succ, Option.getD_some]) | (refine q_move _ rfl rfl ?_; simp only [Act.put, Act.eval, List.setIfInBounds_toArray, List.set_cons_zero, List.set_cons_succ, Array.getD_eq_getD_getElem?, List.getElem?_toArray, List.getElem?_cons_zero, List.getElem?_cons_succ, Option.getD_some]) | (refine q_assign _ rfl rfl ?_; simp only [Act.put, Act.eval, List.setIfInBounds_toArray, List.set_cons_zero, List.set_cons_succ, Array.getD_eq_getD_getElem?, List.getElem?_toArray, List.getElem?_cons_zero, List.getElem?_cons_succ, Option.getD_some]) | (refine q_any rfl ?_; apply Exists.intro; refine ⟨fun w hw => ?_, ?_⟩; (go_simp; first | exact ⟨rfl, rfl⟩ | rfl); simp only [Act.put, Act.eval, List.setIfInBounds_toArray, List.set_cons_zero, List.set_cons_succ, Array.getD_eq_getD_getElem?, List.getElem?_toArray, List.getElem?_cons_zero, List.getElem?_cons_succ, Option.getD_some]))); refine wpQuiet_nil ?_; intro w2 hw2)
      go_wp2
      go_ret
      exact ⟨by rw [HV.out]; rfl, (HBW.out.trans HW2.out).trans hw2⟩
end Go.Proofs.Ytnjaeampnakbbaa
namespace Go.Proofs.Ytnjaeampnakbbaa
open Go Go.RowKit

def readPost (Y x : Nat) (r v : Nat → Nat → Nat) (t : Nat) (c : Nat → Nat) (w : World) (e : Ending) (w' : World) : Prop :=
  e = .returned (.int .i64 (kndA 1 (v x) (r x) c)) ∧ Box w' Y (ns 96 (gV (upd2 r x t (c t)) v)) 61 ∧ w.grownBy w' (some Y)
set_option maxHeartbeats 4000000 in
theorem read_any (Y x : Nat) (r v : Nat → Nat → Nat) (t : Nat) (o : Int) (k : Nat) (c : Nat → Nat) (w : World) (hx : x < 8) (ht : t < 6) (hb : Box w Y (ns 96 (gV r v)) 61) :
    Calls Try.prog 51 #[.pointer (some ⟨Y, x * 12, none⟩), .agg (acv ⟨1, t, o⟩ k c)] w (readPost Y x r v t c w) := by
  have b1 := Box.new w (acv ⟨1, t, o⟩ k c) 96
  have hB : Below w.heap.size w (w.alloc (.cells (acv ⟨1, t, o⟩ k c) 96)) := (Bel.refl w).alloc _
  have b2 := ac_row b1
  have hY := (Bel.of hB).box hb
  have hYl := hb.lt
  have HY := Lib.hid hY
  have HYL := Lib.hid hYl
  generalize hW : (w.alloc (.cells (acv ⟨1, t, o⟩ k c) 96)) = W at *
  have HB := Lib.hid hB
  have HB1 := Lib.hid b1
  have c0 := b1.cell 0 (v := .int .i64 1) rfl
  clear b1 hB hb hY
  go_enter Try.func51, Try.ntmps51
  go_wp2_with (first | (refine load_cm ty28 _ rfl rfl rfl b2 ?_))
  refine (conflict_any Y x r v 1 c _ hx HY.out).mono ?_
  rintro e3 w3 ⟨rfl, hb3⟩
  have HB3 := Lib.hid (Bel.of hb3)
  clear b2 hb3 c0 hW
  have d0 := (HB3.out.box HB1.out).cell 0 (v := .int .i64 1) rfl
  have d1 := (HB3.out.box HB1.out).cell 1 (v := .int .i64 t) rfl
  have d2 := (HB3.out.box HB1.out).cell (4 + t) (acv_own _ _ _ ht)
  have hY3 := HB3.out.box HY.out
  have dY := hY3.cell (x * 12 + t) (ns_get _ (by omega))
  have gY := hY3.frozen (x * 12 + t)
  have HY3 := Lib.hid hY3
  have ht' : (t : Int) < 6 := by omega
  clear hY3
  go_wp2
  (refine wp_region_still_tail 13 (by kernel_rfl) (by kernel_rfl) ?_; simp only [List.take_succ_cons, List.take_zero, List.drop_succ_cons, List.drop_zero]; (repeat (first | ((with_reducible refine s_skip ?_ ?_); exact rfl; simp only [Act.put, Act.eval, List.setIfInBounds_toArray, List.set_cons_zero, List.set_cons_succ, Array.getD_eq_getD_getElem?, List.getElem?_toArray, List.getElem?_cons_zero, List.getElem?_cons_succ, Option.getD_some]) | ((with_reducible refine wpStill_step ?_); intro K hK; go_simp; (with_reducible refine hK _ ?_); clear hK K))); (with_reducible refine wpStill_nil ?_))
  change wpList _ _ _ _ _ w3.drew
  go_wp2
  go_ret
  refine ⟨rfl, ?_, ?_⟩
  · have h9 := ((Bel.refl w3).drew.box HY3.out).set (x * 12 + t) (.int .i64 (c t : Nat))
    rw [ns_set, updN_R r v ht] at h9
    exact h9
  · refine (chg_bel ((Bel.of HB.out).trans (HB3.out.trans (Bel.refl w3).drew)) _).trans (chg_cell _ _ _)

def writePost (Y x : Nat) (r v : Nat → Nat → Nat) (t : Nat) (c : Nat → Nat) (w : World) (e : Ending) (w' : World) : Prop :=
  e = .returned (.int .i64 (kndA 2 (v x) (r x) c)) ∧ Box w' Y (ns 96 (gV r (upd2 v x t (c t)))) 61 ∧ w.grownBy w' (some Y)
set_option maxHeartbeats 4000000 in
theorem write_any (Y x : Nat) (r v : Nat → Nat → Nat) (t : Nat) (o : Int) (k : Nat) (c : Nat → Nat) (w : World) (hx : x < 8) (ht : t < 6) (hb : Box w Y (ns 96 (gV r v)) 61) :
    Calls Try.prog 51 #[.pointer (some ⟨Y, x * 12, none⟩), .agg (acv ⟨2, t, o⟩ k c)] w (writePost Y x r v t c w) := by
  have b1 := Box.new w (acv ⟨2, t, o⟩ k c) 96
  have hB : Below w.heap.size w (w.alloc (.cells (acv ⟨2, t, o⟩ k c) 96)) := (Bel.refl w).alloc _
  have b2 := ac_row b1
  have hY := (Bel.of hB).box hb
  have hYl := hb.lt
  have HY := Lib.hid hY
  have HYL := Lib.hid hYl
  generalize hW : (w.alloc (.cells (acv ⟨2, t, o⟩ k c) 96)) = W at *
  have HB := Lib.hid hB
  have HB1 := Lib.hid b1
  have c0 := b1.cell 0 (v := .int .i64 2) rfl
  clear b1 hB hb hY
  go_enter Try.func51, Try.ntmps51
  go_wp2_with (first | (refine load_cm ty28 _ rfl rfl rfl b2 ?_))
  refine (conflict_any Y x r v 2 c _ hx HY.out).mono ?_
  rintro e3 w3 ⟨rfl, hb3⟩
  have HB3 := Lib.hid (Bel.of hb3)
  clear b2 hb3 c0 hW
  have d0 := (HB3.out.box HB1.out).cell 0 (v := .int .i64 2) rfl
  have d1 := (HB3.out.box HB1.out).cell 1 (v := .int .i64 t) rfl
  have d2 := (HB3.out.box HB1.out).cell (4 + t) (acv_own _ _ _ ht)
  have hY3 := HB3.out.box HY.out
  have dY := hY3.cell (x * 12 + 6 + t) (ns_get _ (by omega))
  have gY := hY3.frozen (x * 12 + 6 + t)
  have HY3 := Lib.hid hY3
  have ht' : (t : Int) < 6 := by omega
  clear hY3
  go_wp2
  (refine wp_region_still_tail 13 (by kernel_rfl) (by kernel_rfl) ?_; simp only [List.take_succ_cons, List.take_zero, List.drop_succ_cons, List.drop_zero]; (repeat (first | ((with_reducible refine s_skip ?_ ?_); exact rfl; simp only [Act.put, Act.eval, List.setIfInBounds_toArray, List.set_cons_zero, List.set_cons_succ, Array.getD_eq_getD_getElem?, List.getElem?_toArray, List.getElem?_cons_zero, List.getElem?_cons_succ, Option.getD_some]) | ((with_reducible refine wpStill_step ?_); intro K hK; go_simp; (with_reducible refine hK _ ?_); clear hK K))); (with_reducible refine wpStill_nil ?_))
  change wpList _ _ _ _ _ w3.drew
  go_wp2
  go_ret
  refine ⟨rfl, ?_, ?_⟩
  · have h9 := ((Bel.refl w3).drew.box HY3.out).set (x * 12 + 6 + t) (.int .i64 (c t : Nat))
    rw [ns_set, updN_W r v ht] at h9
    exact h9
  · refine (chg_bel ((Bel.of HB.out).trans (HB3.out.trans (Bel.refl w3).drew)) _).trans (chg_cell _ _ _)
end Go.Proofs.Ytnjaeampnakbbaa

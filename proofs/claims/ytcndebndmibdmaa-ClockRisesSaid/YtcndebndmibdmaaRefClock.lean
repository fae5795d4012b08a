import Derived.Test.YtcndebndmibdmaaRows
import Derived.Test.YtcndebndmibdmaaBase
import Derived.Test.YtcndebndmibdmaaClock
import Derived.WalkKit
import Derived.WalkSpells
import Derived.WalkLawsBesides
import Derived.BigQuiet
import Derived.Deep.RegionHeld3
import Derived.Lib.Hide
set_option linter.all false
namespace Go.Proofs.Ytcndebndmibdmaa
open Go.RowKit

set_option maxHeartbeats 400000 in
theorem rwithin_any (a b : Nat → Int) (w : World) :
    Calls Try.prog 20 #[.agg (clk a), .agg (clk b)] w fun e w' => e = .returned (.bool (within a b)) ∧ Below w.heap.size w w' := by
  go_enter Try.func20, Try.ntmps20
  go_wp2
  obtain ⟨b1, b2, hB, hs⟩ := boxes2 w (clk a) (clk b) 28 28
  generalize ((w.alloc (.cells (clk a) 28)).alloc (.cells (clk b) 28)) = W at *
  have Hb := Lib.hid hB
  clear hB hs
  go_loopw [6] (fun i wr => ∃ k : Nat, k ≤ 6 ∧ i = .int .i64 k ∧ UpTo (fun j => a j ≤ b j) k ∧ ∃ n, wr = W.drewN n) (fun i _ => 6 - (intOf i).toNat)
  case atStart => exact ⟨0, by omega, rfl, UpTo.zero, 0, rfl⟩
  case round =>
    obtain ⟨k, hk, rfl, hu, n, rfl⟩ := hrel
    by_cases hlt : k < 6
    · have c1 := b1.cell k (clk_get a k hlt)
      have c2 := b2.cell k (clk_get b k hlt)
      clear b1 b2
      have hlt' : (k : Int) < 6 := by omega
      go_wp2
      go_quiet (fail)
      by_cases hab : b k < a k
      · go_wp2
        go_ret
        exact ⟨by rw [within_no hlt hab]; rfl, bdrewN (bdrewN Hb.out _) _⟩
      · go_wp2
        go_roundw
        case rel => exact ⟨k + 1, by omega, by go_num, hu.succ (by omega), n + nq, rfl⟩
        case measure => simp [intOf]; omega
    · go_wp2
      go_ret
      exact ⟨by rw [(within_iff a b).2 fun j hj => hu j (by omega)]; rfl, bdrewN Hb.out _⟩


theorem outside_any (t a b : Int) (w : World) : Calls Try.prog 31 #[.int .i64 t, .int .i64 a, .int .i64 b] w fun e w' => e = .returned (.bool (outs t a b)) ∧ w = w' := by
  by_cases h0 : t < a
  · have H := Lib.hid (show outs t a b = true from outs_lo h0)
    go_enter Try.func31, Try.ntmps31
    go_wp2
    go_ret
    exact ⟨by rw [H.out]; rfl, rfl⟩
  · by_cases h1 : b < t
    · have H := Lib.hid (show outs t a b = true from outs_hi h1)
      go_enter Try.func31, Try.ntmps31
      go_wp2
      go_ret
      exact ⟨by rw [H.out]; rfl, rfl⟩
    · have H := Lib.hid (show outs t a b = false from outs_in h0 h1)
      go_enter Try.func31, Try.ntmps31
      go_wp2
      go_ret
      exact ⟨by rw [H.out]; rfl, rfl⟩
theorem outside_T (t : Int) (w : World) : Calls Try.prog 31 #[.int .i64 t, .int .i64 0, .int .i64 5] w fun e w' => e = .returned (.bool (!isT t)) ∧ w = w' :=
  (outside_any t 0 5 w).mono fun e w' ⟨h1, h2⟩ => ⟨by rw [h1, outs_T], h2⟩

set_option maxHeartbeats 1000000 in
theorem rcompare_any (a b : Nat → Int) (w : World) :
    Calls Try.prog 21 #[.agg (clk a), .agg (clk b)] w fun e w' => e = .returned (.int .i64 (rcmp a b)) ∧ Below w.heap.size w w' := by
  obtain ⟨b1, b2, hB, hs⟩ := boxes2 w (clk a) (clk b) 28 28
  generalize hW : ((w.alloc (.cells (clk a) 28)).alloc (.cells (clk b) 28)) = W at *
  have L1 : w.heap.size < W.heap.size := by omega
  have L2 : w.heap.size + 1 < W.heap.size := by omega
  have HB := Lib.hid hB
  clear hB hs
  have HT := fun (w1 : World) (h : Bel W w1) => HB.out.trans (h.out.mono (Nat.le_of_lt L1))
  cases h1 : within a b
  all_goals cases h2 : within b a
  all_goals
    go_enter Try.func21, Try.ntmps21
    go_wp2_with fail
    (refine region_bel (by kernel_rfl) (by kernel_rfl) ?_; (repeat (first | (refine BigFrame.wpQuiet_skip rfl ?_; simp only [Act.put, Act.eval, List.setIfInBounds_toArray, List.set_cons_zero, List.set_cons_succ, Array.getD_eq_getD_getElem?, List.getElem?_toArray, List.getElem?_cons_zero, List.getElem?_cons_succ, Option.getD_some]) | (refine q_move _ rfl rfl ?_; simp only [Act.put, Act.eval, List.setIfInBounds_toArray, List.set_cons_zero, List.set_cons_succ, Array.getD_eq_getD_getElem?, List.getElem?_toArray, List.getElem?_cons_zero, List.getElem?_cons_succ, Option.getD_some]) | (refine q_assign _ rfl rfl ?_; simp only [Act.put, Act.eval, List.setIfInBounds_toArray, List.set_cons_zero, List.set_cons_succ, Array.getD_eq_getD_getElem?, List.getElem?_toArray, List.getElem?_cons_zero, List.getElem?_cons_succ, Option.getD_some]) | (refine q_load _ _ rfl rfl rfl b1 ty28 ?_; simp only [Act.put, Act.eval, List.setIfInBounds_toArray, List.set_cons_zero, List.set_cons_succ, Array.getD_eq_getD_getElem?, List.getElem?_toArray, List.getElem?_cons_zero, List.getElem?_cons_succ, Option.getD_some]) | (refine q_load _ _ rfl rfl rfl b2 ty28 ?_; simp only [Act.put, Act.eval, List.setIfInBounds_toArray, List.set_cons_zero, List.set_cons_succ, Array.getD_eq_getD_getElem?, List.getElem?_toArray, List.getElem?_cons_zero, List.getElem?_cons_succ, Option.getD_some]) | (refine q_any rfl ?_; apply Exists.intro; refine ⟨fun w hw => ?_, ?_⟩; (go_simp; first | exact ⟨rfl, rfl⟩ | rfl | (go_at_call 20; (with_reducible refine (rwithin_any _ _ _).mono ?_); rintro e w' ⟨rfl, hb⟩; exact ⟨rfl, hw.call hb⟩)); simp only [Act.put, Act.eval, List.setIfInBounds_toArray, List.set_cons_zero, List.set_cons_succ, Array.getD_eq_getD_getElem?, List.getElem?_toArray, List.getElem?_cons_zero, List.getElem?_cons_succ, Option.getD_some]))); refine wpQuiet_nil ?_; intro w2 hw2)
    go_wp2
    go_ret
    exact ⟨ret_val (by simp [rcmp, h1, h2]), HT w2 hw2⟩

set_option maxHeartbeats 1000000 in
theorem rjoined_any (a b : Nat → Int) (most : Bool) (w : World) :
    Calls Try.prog 16 #[.agg (clk a), .agg (clk b), .bool most] w fun e w' => e = .returned (.agg (clk fun j => sel most (a j) (b j))) ∧ Below w.heap.size w w' := by
  obtain ⟨b1, b2, b3, b4, hB, hs⟩ := boxes4 w (clk a) (clk b) #[.int .i64 0, .int .i64 0, .int .i64 0, .int .i64 0, .int .i64 0, .int .i64 0] #[.int .i64 0, .int .i64 0, .int .i64 0, .int .i64 0, .int .i64 0, .int .i64 0] 28 28 28 28
  generalize hW : ((((w.alloc (.cells (clk a) 28)).alloc (.cells (clk b) 28)).alloc (.cells #[.int .i64 0, .int .i64 0, .int .i64 0, .int .i64 0, .int .i64 0, .int .i64 0] 28)).alloc (.cells #[.int .i64 0, .int .i64 0, .int .i64 0, .int .i64 0, .int .i64 0, .int .i64 0] 28)) = W at *
  have HS := Lib.hid (show w.heap.size + 1 + 1 + 1 < W.heap.size by omega)
  have HB := Lib.hid hB
  clear hB hs
  go_enter Try.func16, Try.ntmps16
  go_wp2
  clear hW
  go_loopw [9] (fun i wr => ∃ k : Nat, k ≤ 6 ∧ i = .int .i64 k ∧ JRel w a b (sel most) k 28 wr) (fun i _ => 6 - (intOf i).toNat)
  case atStart => exact ⟨0, by omega, rfl, ⟨b1, b2, b3, b4, HB.out⟩⟩
  case round =>
    obtain ⟨k, hk, rfl, hr⟩ := hrel
    clear b1 b2 b3 b4
    by_cases hlt : k < 6
    · have hlt' : (k : Int) < 6 := by omega
      have c1 := hr.ba.cell k (clk_get a k hlt)
      have c2 := hr.bb.cell k (clk_get b k hlt)
      have c3 := hr.out.cell k (clk_get _ k hlt)
      have f3 := hr.out.frozen k
      have s1 : Box (wr.setCell ⟨w.heap.size + 1 + 1 + 1, k, none⟩ (.int .i64 (a k))) (w.heap.size + 1 + 1 + 1) (clk (upd (jn (sel most) a b k) k (a k))) 28 := by
        have := hr.out.set k (.int .i64 (a k)); rwa [clk_set _ _ hlt] at this
      have s2 : Box ((wr.setCell ⟨w.heap.size + 1 + 1 + 1, k, none⟩ (.int .i64 (a k))).setCell ⟨w.heap.size + 1 + 1 + 1, k, none⟩ (.int .i64 (b k))) (w.heap.size + 1 + 1 + 1) (clk (upd (jn (sel most) a b k) k (b k))) 28 := by
        have := s1.set k (.int .i64 (b k)); rw [clk_set _ _ hlt] at this
        rwa [show upd (upd (jn (sel most) a b k) k (a k)) k (b k) = upd (jn (sel most) a b k) k (b k) from by funext j; unfold upd; split <;> rfl] at this
      have S1 := Lib.hid s1
      have S2 := Lib.hid s2
      have H := Lib.hid hr
      clear hr s1 s2
      cases most
      all_goals by_cases hm : a k < b k
      · have hsel : a k = sel false (a k) (b k) := by simp [sel, hm]
        have HSEL := Lib.hid hsel
        clear hsel
        go_wp2
        go_quiet (fail)
        go_wp2
        go_roundw
        case rel =>
          have h2 := S1.out
          rw [jn_now _ _ _ _ _ HSEL.out] at h2
          exact ⟨k + 1, by omega, by go_num, ⟨by (repeat (first | exact H.out.ba | with_reducible refine Box.old ?_ _ | with_reducible refine Box.set_ne ?_ _ _ (by first | omega | (dsimp only; omega) | (simp; omega) | (simp; done)) | with_reducible refine Box.setRow_ne ?_ _ _ (by omega) | with_reducible refine Box.drew ?_ | with_reducible refine Box.drewN ?_ _)), by (repeat (first | exact H.out.bb | with_reducible refine Box.old ?_ _ | with_reducible refine Box.set_ne ?_ _ _ (by first | omega | (dsimp only; omega) | (simp; omega) | (simp; done)) | with_reducible refine Box.setRow_ne ?_ _ _ (by omega) | with_reducible refine Box.drew ?_ | with_reducible refine Box.drewN ?_ _)), by (repeat (first | exact H.out.res | with_reducible refine Box.old ?_ _ | with_reducible refine Box.set_ne ?_ _ _ (by first | omega | (dsimp only; omega) | (simp; omega) | (simp; done)) | with_reducible refine Box.setRow_ne ?_ _ _ (by omega) | with_reducible refine Box.drew ?_ | with_reducible refine Box.drewN ?_ _)), by (repeat (first | exact h2 | with_reducible refine Box.old ?_ _ | with_reducible refine Box.set_ne ?_ _ _ (by first | omega | (dsimp only; omega) | (simp; omega) | (simp; done)) | with_reducible refine Box.setRow_ne ?_ _ _ (by omega) | with_reducible refine Box.drew ?_ | with_reducible refine Box.drewN ?_ _)), by (repeat (first | exact H.out.below | with_reducible exact Below.refl _ _ | with_reducible refine Below.alloc ?_ (by first | omega | (simp; omega) | (simp; done)) _ | with_reducible refine below_setRow' ?_ _ _ (by omega) | with_reducible refine Below.setCell ?_ (by first | omega | (dsimp only; omega) | (simp; omega) | (simp; done)) _ | with_reducible refine Below.drew ?_ | with_reducible refine bdrewN ?_ _))⟩⟩
        case measure => simp [intOf]; omega
      · have hsel : b k = sel false (a k) (b k) := by simp [sel, hm]
        have HSEL := Lib.hid hsel
        clear hsel
        have hd : decide (a k < b k) = false := by simpa using hm
        go_wp2
        go_quiet (fail)
        go_wp2
        go_roundw
        case rel =>
          have h2 := S2.out
          rw [jn_now _ _ _ _ _ HSEL.out] at h2
          exact ⟨k + 1, by omega, by go_num, ⟨by (repeat (first | exact H.out.ba | with_reducible refine Box.old ?_ _ | with_reducible refine Box.set_ne ?_ _ _ (by first | omega | (dsimp only; omega) | (simp; omega) | (simp; done)) | with_reducible refine Box.setRow_ne ?_ _ _ (by omega) | with_reducible refine Box.drew ?_ | with_reducible refine Box.drewN ?_ _)), by (repeat (first | exact H.out.bb | with_reducible refine Box.old ?_ _ | with_reducible refine Box.set_ne ?_ _ _ (by first | omega | (dsimp only; omega) | (simp; omega) | (simp; done)) | with_reducible refine Box.setRow_ne ?_ _ _ (by omega) | with_reducible refine Box.drew ?_ | with_reducible refine Box.drewN ?_ _)), by (repeat (first | exact H.out.res | with_reducible refine Box.old ?_ _ | with_reducible refine Box.set_ne ?_ _ _ (by first | omega | (dsimp only; omega) | (simp; omega) | (simp; done)) | with_reducible refine Box.setRow_ne ?_ _ _ (by omega) | with_reducible refine Box.drew ?_ | with_reducible refine Box.drewN ?_ _)), by (repeat (first | exact h2 | with_reducible refine Box.old ?_ _ | with_reducible refine Box.set_ne ?_ _ _ (by first | omega | (dsimp only; omega) | (simp; omega) | (simp; done)) | with_reducible refine Box.setRow_ne ?_ _ _ (by omega) | with_reducible refine Box.drew ?_ | with_reducible refine Box.drewN ?_ _)), by (repeat (first | exact H.out.below | with_reducible exact Below.refl _ _ | with_reducible refine Below.alloc ?_ (by first | omega | (simp; omega) | (simp; done)) _ | with_reducible refine below_setRow' ?_ _ _ (by omega) | with_reducible refine Below.setCell ?_ (by first | omega | (dsimp only; omega) | (simp; omega) | (simp; done)) _ | with_reducible refine Below.drew ?_ | with_reducible refine bdrewN ?_ _))⟩⟩
        case measure => simp [intOf]; omega
      · have hsel : b k = sel true (a k) (b k) := by simp [sel, hm]
        have HSEL := Lib.hid hsel
        clear hsel
        go_wp2
        go_quiet (fail)
        go_wp2
        go_roundw
        case rel =>
          have h2 := S2.out
          rw [jn_now _ _ _ _ _ HSEL.out] at h2
          exact ⟨k + 1, by omega, by go_num, ⟨by (repeat (first | exact H.out.ba | with_reducible refine Box.old ?_ _ | with_reducible refine Box.set_ne ?_ _ _ (by first | omega | (dsimp only; omega) | (simp; omega) | (simp; done)) | with_reducible refine Box.setRow_ne ?_ _ _ (by omega) | with_reducible refine Box.drew ?_ | with_reducible refine Box.drewN ?_ _)), by (repeat (first | exact H.out.bb | with_reducible refine Box.old ?_ _ | with_reducible refine Box.set_ne ?_ _ _ (by first | omega | (dsimp only; omega) | (simp; omega) | (simp; done)) | with_reducible refine Box.setRow_ne ?_ _ _ (by omega) | with_reducible refine Box.drew ?_ | with_reducible refine Box.drewN ?_ _)), by (repeat (first | exact H.out.res | with_reducible refine Box.old ?_ _ | with_reducible refine Box.set_ne ?_ _ _ (by first | omega | (dsimp only; omega) | (simp; omega) | (simp; done)) | with_reducible refine Box.setRow_ne ?_ _ _ (by omega) | with_reducible refine Box.drew ?_ | with_reducible refine Box.drewN ?_ _)), by (repeat (first | exact h2 | with_reducible refine Box.old ?_ _ | with_reducible refine Box.set_ne ?_ _ _ (by first | omega | (dsimp only; omega) | (simp; omega) | (simp; done)) | with_reducible refine Box.setRow_ne ?_ _ _ (by omega) | with_reducible refine Box.drew ?_ | with_reducible refine Box.drewN ?_ _)), by (repeat (first | exact H.out.below | with_reducible exact Below.refl _ _ | with_reducible refine Below.alloc ?_ (by first | omega | (simp; omega) | (simp; done)) _ | with_reducible refine below_setRow' ?_ _ _ (by omega) | with_reducible refine Below.setCell ?_ (by first | omega | (dsimp only; omega) | (simp; omega) | (simp; done)) _ | with_reducible refine Below.drew ?_ | with_reducible refine bdrewN ?_ _))⟩⟩
        case measure => simp [intOf]; omega
      · have hsel : a k = sel true (a k) (b k) := by simp [sel, hm]
        have HSEL := Lib.hid hsel
        clear hsel
        go_wp2
        go_quiet (fail)
        go_wp2
        go_roundw
        case rel =>
          have h2 := S1.out
          rw [jn_now _ _ _ _ _ HSEL.out] at h2
          exact ⟨k + 1, by omega, by go_num, ⟨by (repeat (first | exact H.out.ba | with_reducible refine Box.old ?_ _ | with_reducible refine Box.set_ne ?_ _ _ (by first | omega | (dsimp only; omega) | (simp; omega) | (simp; done)) | with_reducible refine Box.setRow_ne ?_ _ _ (by omega) | with_reducible refine Box.drew ?_ | with_reducible refine Box.drewN ?_ _)), by (repeat (first | exact H.out.bb | with_reducible refine Box.old ?_ _ | with_reducible refine Box.set_ne ?_ _ _ (by first | omega | (dsimp only; omega) | (simp; omega) | (simp; done)) | with_reducible refine Box.setRow_ne ?_ _ _ (by omega) | with_reducible refine Box.drew ?_ | with_reducible refine Box.drewN ?_ _)), by (repeat (first | exact H.out.res | with_reducible refine Box.old ?_ _ | with_reducible refine Box.set_ne ?_ _ _ (by first | omega | (dsimp only; omega) | (simp; omega) | (simp; done)) | with_reducible refine Box.setRow_ne ?_ _ _ (by omega) | with_reducible refine Box.drew ?_ | with_reducible refine Box.drewN ?_ _)), by (repeat (first | exact h2 | with_reducible refine Box.old ?_ _ | with_reducible refine Box.set_ne ?_ _ _ (by first | omega | (dsimp only; omega) | (simp; omega) | (simp; done)) | with_reducible refine Box.setRow_ne ?_ _ _ (by omega) | with_reducible refine Box.drew ?_ | with_reducible refine Box.drewN ?_ _)), by (repeat (first | exact H.out.below | with_reducible exact Below.refl _ _ | with_reducible refine Below.alloc ?_ (by first | omega | (simp; omega) | (simp; done)) _ | with_reducible refine below_setRow' ?_ _ _ (by omega) | with_reducible refine Below.setCell ?_ (by first | omega | (dsimp only; omega) | (simp; omega) | (simp; done)) _ | with_reducible refine Below.drew ?_ | with_reducible refine bdrewN ?_ _))⟩⟩
        case measure => simp [intOf]; omega
    · obtain rfl : k = 6 := by omega
      have hout := hr.out
      rw [clk_congr (jn_six (sel most) a b)] at hout
      have hres := hr.res
      have H := Lib.hid hr
      clear hr
      go_wp2_with (first | (refine loadB _ _ rfl rfl rfl hout ty28 ?_) | (refine storeB _ _ _ rfl rfl rfl rfl hres rfl ty28 (clk_all _) ?_))
      refine bodyPost_ret (res_c Try.results16 rfl (hres.setRow _) ty28) rfl ⟨rfl, ?_⟩
      (repeat (first | exact H.out.below | with_reducible exact Below.refl _ _ | with_reducible refine Below.alloc ?_ (by first | omega | (simp; omega) | (simp; done)) _ | with_reducible refine below_setRow' ?_ _ _ (by omega) | with_reducible refine Below.setCell ?_ (by first | omega | (dsimp only; omega) | (simp; omega) | (simp; done)) _ | with_reducible refine Below.drew ?_ | with_reducible refine bdrewN ?_ _))

set_option maxHeartbeats 1000000 in
theorem rseen_any (th n : Int) (c : Nat → Int) (w : World) :
    Calls Try.prog 26 #[.agg (ep th n), .agg (clk c)] w fun e w' => e = .returned (.bool (seen th n c)) ∧ Below w.heap.size w w' := by
  obtain ⟨b1, b2, hB, hs⟩ := boxes2 w (ep th n) (clk c) 37 28
  generalize hW : ((w.alloc (.cells (ep th n) 37)).alloc (.cells (clk c) 28)) = W at *
  have HB := Lib.hid hB
  clear hB hs
  have c0 := b1.cell 0 (v := .int .i64 th) rfl
  have c1 := b1.cell 1 (v := .int .i64 n) rfl
  have I0 : ∀ (k : Nat), k < 6 → ∀ w, (Instr.index 28 (.agg (clk c)) (.int .i64 k)).run Try.prog w = .ok (.int .i64 (c k)) w := by
    exact fun k hk w => index_clk Try.underlying28 Try.underlying3 (by kernel_rfl) c k hk w
  go_enter Try.func26, Try.ntmps26
  go_wp2_with (first | (refine loadB _ _ rfl rfl rfl b2 ty28 ?_))
  go_loop [8] (fun i => ∃ k : Nat, k ≤ 6 ∧ i = .int .i64 k ∧ UpTo (fun j => (j : Int) ≠ th) k) (fun i => 6 - (intOf i).toNat)
  case atStart => exact ⟨0, by omega, rfl, UpTo.zero⟩
  case round =>
    obtain ⟨k, hk, rfl, hu⟩ := hrel
    by_cases hlt : k < 6
    · have hlt' : (k : Int) < 6 := by omega
      have I := I0 k hlt
      by_cases he : (k : Int) = th
      · have hF : seen th n c = decide (n ≤ c k) := by
          subst he; simp [seen, isT]; intro; omega
        have HF := Lib.hid hF
        have he' : ((k : Int) == th) = true := by simpa using he
        clear hF he
        go_wp2
        go_ret
        exact ⟨by rw [HF.out]; rfl, HB.out⟩
      · have he' : ((k : Int) == th) = false := by simpa using he
        have HE := Lib.hid he
        clear he
        go_wp2
        go_round
        case rel => exact ⟨k + 1, by omega, by go_num, hu.succ HE.out⟩
        case measure => simp [intOf]; omega
    · have hF : seen th n c = false := by
        have : isT th = false := isT_no (fun h => by have := hu th.toNat (by omega); omega)
        simp [seen, this]
      have HF := Lib.hid hF
      clear hF
      go_wp2
      go_ret
      exact ⟨by rw [HF.out]; rfl, HB.out⟩

set_option maxHeartbeats 1000000 in
theorem rtick_any (c : Nat → Int) (t : Int) (hc : ClkOk c) (w : World) :
    Calls Try.prog 23 #[.agg (clk c), .int .i64 t] w fun e w' => e = .returned (.tuple #[.agg (clk (tickC c t)), .int .i64 (tickE c t)]) ∧ Below w.heap.size w w' := by
  obtain ⟨b1, b2, hB, hs⟩ := boxes2 w (clk c) #[.int .i64 0, .int .i64 0, .int .i64 0, .int .i64 0, .int .i64 0, .int .i64 0] 28 28
  generalize hW : ((w.alloc (.cells (clk c) 28)).alloc (.cells #[.int .i64 0, .int .i64 0, .int .i64 0, .int .i64 0, .int .i64 0, .int .i64 0] 28)) = W at *
  have L1 : w.heap.size < W.heap.size := by omega
  have L2 : w.heap.size + 1 < W.heap.size := by omega
  have HB := Lib.hid hB
  clear hB hs
  by_cases ht : isT t = true
  · obtain ⟨h0, h6⟩ := isT_iff.1 ht
    obtain ⟨k, rfl⟩ := Int.eq_ofNat_of_zero_le h0
    have hk : k < 6 := by omega
    have c1 := b1.cell k (clk_get c k hk)
    have f1 := b1.frozen k
    have HC := Lib.hid (hc k hk)
    clear hc
    by_cases hm : c k < 1000000
    · have hT : tickC c k = upd c k (c k + 1) := by unfold tickC; rw [if_pos ⟨ht, by simpa using hm⟩]; simp
      have hE : tickE c k = 0 := by unfold tickE; rw [if_pos ht, if_pos (by simpa using hm)]
      have HT := Lib.hid hT
      have HE := Lib.hid hE
      clear hT hE
      have s1 : Box (W.setCell ⟨w.heap.size, k, none⟩ (.int .i64 (wrap64 (c k + 1)))) w.heap.size (clk (upd c k (wrap64 (c k + 1)))) 28 := by
        have := b1.set k (.int .i64 (wrap64 (c k + 1)))
        rwa [clk_set _ _ hk] at this
      have s2 : Box (W.setCell ⟨w.heap.size, k, none⟩ (.int .i64 (wrap64 (c k + 1)))) (w.heap.size + 1) #[.int .i64 0, .int .i64 0, .int .i64 0, .int .i64 0, .int .i64 0, .int .i64 0] 28 := by (repeat (first | exact b2 | with_reducible refine Box.old ?_ _ | with_reducible refine Box.set_ne ?_ _ _ (by first | omega | (dsimp only; omega) | (simp; omega) | (simp; done)) | with_reducible refine Box.setRow_ne ?_ _ _ (by omega) | with_reducible refine Box.drew ?_ | with_reducible refine Box.drewN ?_ _))
      have HS2 : Below w.heap.size w (W.setCell ⟨w.heap.size, k, none⟩ (.int .i64 (wrap64 (c k + 1)))) := by (repeat (first | exact HB.out | with_reducible exact Below.refl _ _ | with_reducible refine Below.alloc ?_ (by first | omega | (simp; omega) | (simp; done)) _ | with_reducible refine below_setRow' ?_ _ _ (by omega) | with_reducible refine Below.setCell ?_ (by first | omega | (dsimp only; omega) | (simp; omega) | (simp; done)) _ | with_reducible refine Below.drew ?_ | with_reducible refine bdrewN ?_ _))
      have HS := Lib.hid HS2
      clear HS2
      go_enter Try.func23, Try.ntmps23
      go_wp2_with (first | (go_at_call 31; refine (outside_T _ _).mono ?_; rintro e w' ⟨rfl, rfl⟩) | (refine loadB _ _ rfl rfl rfl s1 ty28 ?_) | (refine storeB _ _ _ rfl rfl rfl rfl s2 rfl ty28 (clk_all _) ?_))
      have s3 := s2.setRow (clk (upd c k (wrap64 (c k + 1))))
      refine bodyPost_ret (res_ct Try.results23 rfl s3 ty28) rfl ⟨?_, ?_⟩
      · rw [HT.out, HE.out, IntWalk.wrap64_in _ (by have := HC.out; unfold In64 at this; omega)]; rfl
      · (repeat (first | exact HS.out | with_reducible exact Below.refl _ _ | with_reducible refine Below.alloc ?_ (by first | omega | (simp; omega) | (simp; done)) _ | with_reducible refine below_setRow' ?_ _ _ (by omega) | with_reducible refine Below.setCell ?_ (by first | omega | (dsimp only; omega) | (simp; omega) | (simp; done)) _ | with_reducible refine Below.drew ?_ | with_reducible refine bdrewN ?_ _))
    · have hT : tickC c k = fun _ => 0 := by unfold tickC; rw [if_neg (fun h => hm (by simpa using h.2))]
      have hE : tickE c k = 2 := by unfold tickE; rw [if_pos ht, if_neg (by simpa using hm)]
      have HT := Lib.hid hT
      have HE := Lib.hid hE
      clear hT hE
      go_enter Try.func23, Try.ntmps23
      go_wp2_with (first | (go_at_call 31; refine (outside_T _ _).mono ?_; rintro e w' ⟨rfl, rfl⟩) | (refine storeB _ _ _ rfl rfl rfl rfl b2 rfl ty28 z_all ?_))
      have s3 := b2.setRow #[.int .i64 0, .int .i64 0, .int .i64 0, .int .i64 0, .int .i64 0, .int .i64 0]
      refine bodyPost_ret (res_ct Try.results23 rfl s3 ty28) rfl ⟨?_, ?_⟩
      · rw [HT.out, HE.out]; rfl
      · (repeat (first | exact HB.out | with_reducible exact Below.refl _ _ | with_reducible refine Below.alloc ?_ (by first | omega | (simp; omega) | (simp; done)) _ | with_reducible refine below_setRow' ?_ _ _ (by omega) | with_reducible refine Below.setCell ?_ (by first | omega | (dsimp only; omega) | (simp; omega) | (simp; done)) _ | with_reducible refine Below.drew ?_ | with_reducible refine bdrewN ?_ _))
  · have hT : tickC c t = fun _ => 0 := by unfold tickC; rw [if_neg (fun h => ht h.1)]
    have hE : tickE c t = 1 := by unfold tickE; rw [if_neg ht]
    have HT := Lib.hid hT
    have HE := Lib.hid hE
    clear hT hE
    have ht' : isT t = false := by simpa using ht
    go_enter Try.func23, Try.ntmps23
    go_wp2_with (first | (go_at_call 31; refine (outside_T _ _).mono ?_; rintro e w' ⟨rfl, rfl⟩) | (refine storeB _ _ _ rfl rfl rfl rfl b2 rfl ty28 z_all ?_))
    have s3 := b2.setRow #[.int .i64 0, .int .i64 0, .int .i64 0, .int .i64 0, .int .i64 0, .int .i64 0]
    refine bodyPost_ret (res_ct Try.results23 rfl s3 ty28) rfl ⟨?_, ?_⟩
    · rw [HT.out, HE.out]; rfl
    · (repeat (first | exact HB.out | with_reducible exact Below.refl _ _ | with_reducible refine Below.alloc ?_ (by first | omega | (simp; omega) | (simp; done)) _ | with_reducible refine below_setRow' ?_ _ _ (by omega) | with_reducible refine Below.setCell ?_ (by first | omega | (dsimp only; omega) | (simp; omega) | (simp; done)) _ | with_reducible refine Below.drew ?_ | with_reducible refine bdrewN ?_ _))

end Go.Proofs.Ytcndebndmibdmaa

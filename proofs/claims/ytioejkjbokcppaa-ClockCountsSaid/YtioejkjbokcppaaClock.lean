import Derived.Test.YtioejkjbokcppaaRows
import Derived.Test.YtioejkjbokcppaaBase
import Derived.WalkKit
import Derived.WalkSpells
import Derived.WalkLawsBesides
import Derived.BigQuiet
import Derived.Deep.RegionHeld3
import Derived.Lib.Hide
set_option linter.all false
namespace Go.Proofs.Ytioejkjbokcppaa
open Go.RowKit

theorem ty28 : RowTy Try.prog 43 6 := ⟨_, Try.underlying43, rfl, by kernel_rfl⟩
theorem eqlC (a b : Nat → Int) (w : World) : (binOp .eql 43 (.agg (clk a)) (.agg (clk b))).run Try.prog w = .ok (.bool (eqc a b)) w := eql_clk Try.underlying43 Try.underlying3 (by kernel_rfl) a b w
theorem grdC : Try.prog.eqGuardType Try.prog.depth 43 = false := by kernel_rfl
set_option maxHeartbeats 400000 in
theorem within_any (a b : Nat → Int) (w : World) :
    Calls Try.prog 28 #[.agg (clk a), .agg (clk b)] w fun e w' => e = .returned (.bool (within a b)) ∧ Below w.heap.size w w' := by
  go_enter Try.func28, Try.ntmps28
  go_wp2
  obtain ⟨b1, b2, hB, hs⟩ := boxes2 w (clk a) (clk b) 43 43
  generalize ((w.alloc (.cells (clk a) 43)).alloc (.cells (clk b) 43)) = W at *
  have Hb := Lib.hid hB
  clear hB hs
  go_loopw [6] (fun i wr => ∃ k : Nat, k ≤ 6 ∧ i = .int .i64 k ∧ UpTo (fun j => a j ≤ b j) k ∧ ∃ n, wr = W.drewN n) (fun i _ => 6 - (intOf i).toNat)
  case atStart => exact ⟨0, by omega, rfl, UpTo.zero, 0, rfl⟩
  case round =>
    obtain ⟨k, hk, rfl, hu, n, rfl⟩ := hrel
    by_cases hlt : k < 6
    · have c1 := b1.cell k (clk_get a k hlt)
      have c2 := b2.cell k (clk_get b k hlt)
      clear b1 b2
      have hlt' : (k : Int) < 6 := by omega
      go_wp2
      go_quiet (fail)
      by_cases hab : b k < a k
      · go_wp2
        go_ret
        exact ⟨by rw [within_no hlt hab]; rfl, bdrewN (bdrewN Hb.out _) _⟩
      · go_wp2
        go_roundw
        case rel => exact ⟨k + 1, by omega, by go_num, hu.succ (by omega), n + nq, rfl⟩
        case measure => simp [intOf]; omega
    · go_wp2
      go_ret
      exact ⟨by rw [(within_iff a b).2 fun j hj => hu j (by omega)]; rfl, bdrewN Hb.out _⟩

set_option maxHeartbeats 400000 in
theorem largest_any (x y : Int) (B : Nat) (w : World) (hc : w.cell? ⟨B, 0, none⟩ = some (.int .i64 y)) :
    Calls Try.prog 36 #[.int .i64 x, .slice (some ⟨B, 0, none⟩) 1 1] w fun e w' => e = .returned (.int .i64 (mx x y)) ∧ w = w' := by
  go_enter Try.func36, Try.ntmps36
  go_wp2
  go_loop [0, 9] (fun f i => (i = .int .i64 0 ∧ f = .int .i64 x) ∨ (i = .int .i64 1 ∧ f = .int .i64 (mx x y))) (fun _ i => 1 - (intOf i).toNat)
  case atStart => exact .inl ⟨rfl, rfl⟩
  case round =>
    rcases hrel with ⟨rfl, rfl⟩ | ⟨rfl, rfl⟩
    · by_cases hxy : x < y
      all_goals
        go_wp2
        go_round
        case rel => exact .inr ⟨rfl, by simp [mx, hxy]⟩
        case measure => simp [intOf]
    · go_wp2
      go_ret
      exact ⟨rfl, rfl⟩

set_option maxHeartbeats 400000 in
theorem smallest_any (x y : Int) (B : Nat) (w : World) (hc : w.cell? ⟨B, 0, none⟩ = some (.int .i64 y)) :
    Calls Try.prog 37 #[.int .i64 x, .slice (some ⟨B, 0, none⟩) 1 1] w fun e w' => e = .returned (.int .i64 (mn x y)) ∧ w = w' := by
  go_enter Try.func37, Try.ntmps37
  go_wp2
  go_loop [0, 9] (fun f i => (i = .int .i64 0 ∧ f = .int .i64 x) ∨ (i = .int .i64 1 ∧ f = .int .i64 (mn x y))) (fun _ i => 1 - (intOf i).toNat)
  case atStart => exact .inl ⟨rfl, rfl⟩
  case round =>
    rcases hrel with ⟨rfl, rfl⟩ | ⟨rfl, rfl⟩
    · by_cases hxy : y < x
      all_goals
        go_wp2
        go_round
        case rel => exact .inr ⟨rfl, by simp [mn, hxy]⟩
        case measure => simp [intOf]
    · go_wp2
      go_ret
      exact ⟨rfl, rfl⟩

set_option maxHeartbeats 1000000 in
theorem join_any (a b : Nat → Int) (w : World) :
    Calls Try.prog 26 #[.agg (clk a), .agg (clk b)] w fun e w' => e = .returned (.agg (clk fun j => mx (a j) (b j))) ∧ Below w.heap.size w w' := by
  go_enter Try.func26, Try.ntmps26
  go_wp2
  obtain ⟨b1, b2, b3, b4, hB, hs⟩ := boxes4 w (clk a) (clk b) (clk fun _ => 0) (clk fun _ => 0) 43 43 43 43
  change Code.wp _ _ _ _ ((((w.alloc (.cells (clk a) 43)).alloc (.cells (clk b) 43)).alloc (.cells (clk fun _ => 0) 43)).alloc (.cells (clk fun _ => 0) 43))
  generalize ((((w.alloc (.cells (clk a) 43)).alloc (.cells (clk b) 43)).alloc (.cells (clk fun _ => 0) 43)).alloc (.cells (clk fun _ => 0) 43)) = W at *
  have HS := Lib.hid (show w.heap.size + 1 + 1 + 1 < W.heap.size by omega)
  have HB := Lib.hid hB
  clear hB hs
  go_loopw [7] (fun i wr => ∃ k : Nat, k ≤ 6 ∧ i = .int .i64 k ∧ JRel w a b mx k 43 wr) (fun i _ => 6 - (intOf i).toNat)
  case atStart => exact ⟨0, by omega, rfl, ⟨b1, b2, b3, b4, HB.out⟩⟩
  case round =>
    obtain ⟨k, hk, rfl, hr⟩ := hrel
    by_cases hlt : k < 6
    · have c1 := hr.ba.cell k (clk_get a k hlt)
      have c2 := hr.bb.cell k (clk_get b k hlt)
      have c3 := hr.out.cell k (clk_get _ k hlt)
      have f3 := hr.out.frozen k
      have hlt' : (k : Int) < 6 := by omega
      have H := Lib.hid hr
      clear hr b1 b2 b3 b4
      have hsz : w.heap.size + 1 + 1 + 1 < wr.heap.size := H.out.out.lt
      go_wp2
      go_region_held3 (fun w' => w'.cell? ⟨w.heap.size, k, none⟩ = some (.int .i64 (a k)) ∧ w'.cell? ⟨w.heap.size + 1, k, none⟩ = some (.int .i64 (b k))) (first | exact ⟨c1, c2⟩ | (refine ⟨Box.cell (c := clk a) (t := 43) ?_ k (clk_get a k hlt), Box.cell (c := clk b) (t := 43) ?_ k (clk_get b k hlt)⟩ <;> (repeat (first | exact H.out.ba | exact H.out.bb | with_reducible refine Box.old ?_ _ | with_reducible refine Box.set_ne ?_ _ _ (by first | omega | (dsimp only; omega) | (simp; omega) | (simp; done)) | with_reducible refine Box.setRow_ne ?_ _ _ (by omega) | with_reducible refine Box.drew ?_ | with_reducible refine Box.drewN ?_ _)))) (first | (go_at_call 36; refine (largest_any _ (b k) _ _ ?_).mono ?_; exact (Box.new wr #[.int .i64 (b k)] 3).drew.cell 0 rfl; rintro e w' ⟨rfl, rfl⟩))
      go_wp2
      go_roundw
      case rel =>
        refine ⟨k + 1, by omega, by go_num, ⟨by (repeat (first | exact H.out.ba | with_reducible refine Box.old ?_ _ | with_reducible refine Box.set_ne ?_ _ _ (by first | omega | (dsimp only; omega) | (simp; omega) | (simp; done)) | with_reducible refine Box.setRow_ne ?_ _ _ (by omega) | with_reducible refine Box.drew ?_ | with_reducible refine Box.drewN ?_ _)), by (repeat (first | exact H.out.bb | with_reducible refine Box.old ?_ _ | with_reducible refine Box.set_ne ?_ _ _ (by first | omega | (dsimp only; omega) | (simp; omega) | (simp; done)) | with_reducible refine Box.setRow_ne ?_ _ _ (by omega) | with_reducible refine Box.drew ?_ | with_reducible refine Box.drewN ?_ _)), by (repeat (first | exact H.out.res | with_reducible refine Box.old ?_ _ | with_reducible refine Box.set_ne ?_ _ _ (by first | omega | (dsimp only; omega) | (simp; omega) | (simp; done)) | with_reducible refine Box.setRow_ne ?_ _ _ (by omega) | with_reducible refine Box.drew ?_ | with_reducible refine Box.drewN ?_ _)), ?_, by (repeat (first | exact H.out.below | with_reducible exact Below.refl _ _ | with_reducible refine Below.alloc ?_ (by first | omega | (simp; omega) | (simp; done)) _ | with_reducible refine below_setRow' ?_ _ _ (by omega) | with_reducible refine Below.setCell ?_ (by first | omega | (dsimp only; omega) | (simp; omega) | (simp; done)) _ | with_reducible refine Below.drew ?_ | with_reducible refine bdrewN ?_ _))⟩⟩
        have h2 := H.out.out.set k (.int .i64 (mx (a k) (b k)))
        rw [clk_set _ _ hlt, jn_succ] at h2
        (repeat (first | exact h2 | with_reducible refine Box.old ?_ _ | with_reducible refine Box.set_ne ?_ _ _ (by first | omega | (dsimp only; omega) | (simp; omega) | (simp; done)) | with_reducible refine Box.setRow_ne ?_ _ _ (by omega) | with_reducible refine Box.drew ?_ | with_reducible refine Box.drewN ?_ _))
      case measure => simp [intOf]; omega
    · obtain rfl : k = 6 := by omega
      have hout := hr.out
      rw [clk_congr (jn_six mx a b)] at hout
      have hres := hr.res
      have H := Lib.hid hr
      clear hr
      go_wp2_with (first | (refine loadB _ _ rfl rfl rfl hout ty28 ?_) | (refine storeB _ _ _ rfl rfl rfl rfl hres rfl ty28 (clk_all _) ?_))
      refine bodyPost_ret (res_c Try.results26 rfl (B := w.heap.size + 1 + 1) (c := clk fun j => mx (a j) (b j)) (t := 43) ?_ ty28) rfl ⟨rfl, ?_⟩
      · exact hres.setRow _
      · (repeat (first | exact H.out.below | with_reducible exact Below.refl _ _ | with_reducible refine Below.alloc ?_ (by first | omega | (simp; omega) | (simp; done)) _ | with_reducible refine below_setRow' ?_ _ _ (by omega) | with_reducible refine Below.setCell ?_ (by first | omega | (dsimp only; omega) | (simp; omega) | (simp; done)) _ | with_reducible refine Below.drew ?_ | with_reducible refine bdrewN ?_ _))

set_option maxHeartbeats 1000000 in
theorem meet_any (a b : Nat → Int) (w : World) :
    Calls Try.prog 27 #[.agg (clk a), .agg (clk b)] w fun e w' => e = .returned (.agg (clk fun j => mn (a j) (b j))) ∧ Below w.heap.size w w' := by
  go_enter Try.func27, Try.ntmps27
  go_wp2
  obtain ⟨b1, b2, b3, b4, hB, hs⟩ := boxes4 w (clk a) (clk b) (clk fun _ => 0) (clk fun _ => 0) 43 43 43 43
  change Code.wp _ _ _ _ ((((w.alloc (.cells (clk a) 43)).alloc (.cells (clk b) 43)).alloc (.cells (clk fun _ => 0) 43)).alloc (.cells (clk fun _ => 0) 43))
  generalize ((((w.alloc (.cells (clk a) 43)).alloc (.cells (clk b) 43)).alloc (.cells (clk fun _ => 0) 43)).alloc (.cells (clk fun _ => 0) 43)) = W at *
  have HS := Lib.hid (show w.heap.size + 1 + 1 + 1 < W.heap.size by omega)
  have HB := Lib.hid hB
  clear hB hs
  go_loopw [7] (fun i wr => ∃ k : Nat, k ≤ 6 ∧ i = .int .i64 k ∧ JRel w a b mn k 43 wr) (fun i _ => 6 - (intOf i).toNat)
  case atStart => exact ⟨0, by omega, rfl, ⟨b1, b2, b3, b4, HB.out⟩⟩
  case round =>
    obtain ⟨k, hk, rfl, hr⟩ := hrel
    by_cases hlt : k < 6
    · have c1 := hr.ba.cell k (clk_get a k hlt)
      have c2 := hr.bb.cell k (clk_get b k hlt)
      have c3 := hr.out.cell k (clk_get _ k hlt)
      have f3 := hr.out.frozen k
      have hlt' : (k : Int) < 6 := by omega
      have H := Lib.hid hr
      clear hr b1 b2 b3 b4
      have hsz : w.heap.size + 1 + 1 + 1 < wr.heap.size := H.out.out.lt
      go_wp2
      go_region_held3 (fun w' => w'.cell? ⟨w.heap.size, k, none⟩ = some (.int .i64 (a k)) ∧ w'.cell? ⟨w.heap.size + 1, k, none⟩ = some (.int .i64 (b k))) (first | exact ⟨c1, c2⟩ | (refine ⟨Box.cell (c := clk a) (t := 43) ?_ k (clk_get a k hlt), Box.cell (c := clk b) (t := 43) ?_ k (clk_get b k hlt)⟩ <;> (repeat (first | exact H.out.ba | exact H.out.bb | with_reducible refine Box.old ?_ _ | with_reducible refine Box.set_ne ?_ _ _ (by first | omega | (dsimp only; omega) | (simp; omega) | (simp; done)) | with_reducible refine Box.setRow_ne ?_ _ _ (by omega) | with_reducible refine Box.drew ?_ | with_reducible refine Box.drewN ?_ _)))) (first | (go_at_call 37; refine (smallest_any _ (b k) _ _ ?_).mono ?_; exact (Box.new wr #[.int .i64 (b k)] 3).drew.cell 0 rfl; rintro e w' ⟨rfl, rfl⟩))
      go_wp2
      go_roundw
      case rel =>
        refine ⟨k + 1, by omega, by go_num, ⟨by (repeat (first | exact H.out.ba | with_reducible refine Box.old ?_ _ | with_reducible refine Box.set_ne ?_ _ _ (by first | omega | (dsimp only; omega) | (simp; omega) | (simp; done)) | with_reducible refine Box.setRow_ne ?_ _ _ (by omega) | with_reducible refine Box.drew ?_ | with_reducible refine Box.drewN ?_ _)), by (repeat (first | exact H.out.bb | with_reducible refine Box.old ?_ _ | with_reducible refine Box.set_ne ?_ _ _ (by first | omega | (dsimp only; omega) | (simp; omega) | (simp; done)) | with_reducible refine Box.setRow_ne ?_ _ _ (by omega) | with_reducible refine Box.drew ?_ | with_reducible refine Box.drewN ?_ _)), by (repeat (first | exact H.out.res | with_reducible refine Box.old ?_ _ | with_reducible refine Box.set_ne ?_ _ _ (by first | omega | (dsimp only; omega) | (simp; omega) | (simp; done)) | with_reducible refine Box.setRow_ne ?_ _ _ (by omega) | with_reducible refine Box.drew ?_ | with_reducible refine Box.drewN ?_ _)), ?_, by (repeat (first | exact H.out.below | with_reducible exact Below.refl _ _ | with_reducible refine Below.alloc ?_ (by first | omega | (simp; omega) | (simp; done)) _ | with_reducible refine below_setRow' ?_ _ _ (by omega) | with_reducible refine Below.setCell ?_ (by first | omega | (dsimp only; omega) | (simp; omega) | (simp; done)) _ | with_reducible refine Below.drew ?_ | with_reducible refine bdrewN ?_ _))⟩⟩
        have h2 := H.out.out.set k (.int .i64 (mn (a k) (b k)))
        rw [clk_set _ _ hlt, jn_succ] at h2
        (repeat (first | exact h2 | with_reducible refine Box.old ?_ _ | with_reducible refine Box.set_ne ?_ _ _ (by first | omega | (dsimp only; omega) | (simp; omega) | (simp; done)) | with_reducible refine Box.setRow_ne ?_ _ _ (by omega) | with_reducible refine Box.drew ?_ | with_reducible refine Box.drewN ?_ _))
      case measure => simp [intOf]; omega
    · obtain rfl : k = 6 := by omega
      have hout := hr.out
      rw [clk_congr (jn_six mn a b)] at hout
      have hres := hr.res
      have H := Lib.hid hr
      clear hr
      go_wp2_with (first | (refine loadB _ _ rfl rfl rfl hout ty28 ?_) | (refine storeB _ _ _ rfl rfl rfl rfl hres rfl ty28 (clk_all _) ?_))
      refine bodyPost_ret (res_c Try.results27 rfl (B := w.heap.size + 1 + 1) (c := clk fun j => mn (a j) (b j)) (t := 43) ?_ ty28) rfl ⟨rfl, ?_⟩
      · exact hres.setRow _
      · (repeat (first | exact H.out.below | with_reducible exact Below.refl _ _ | with_reducible refine Below.alloc ?_ (by first | omega | (simp; omega) | (simp; done)) _ | with_reducible refine below_setRow' ?_ _ _ (by omega) | with_reducible refine Below.setCell ?_ (by first | omega | (dsimp only; omega) | (simp; omega) | (simp; done)) _ | with_reducible refine Below.drew ?_ | with_reducible refine bdrewN ?_ _))

set_option maxHeartbeats 1000000 in
theorem compare_any (a b : Nat → Int) (w : World) :
    Calls Try.prog 35 #[.agg (clk a), .agg (clk b)] w fun e w' => e = .returned (.int .i64 (cmp a b)) ∧ Below w.heap.size w w' := by
  obtain ⟨b1, b2, hB, hs⟩ := boxes2 w (clk a) (clk b) 43 43
  generalize hW : ((w.alloc (.cells (clk a) 43)).alloc (.cells (clk b) 43)) = W at *
  have E := eqlC a b
  have G := grdC
  have L1 : w.heap.size < W.heap.size := by omega
  have L2 : w.heap.size + 1 < W.heap.size := by omega
  have HB := Lib.hid hB
  clear hB hs
  have B2 := fun (w1 : World) (h : Below W.heap.size W w1) => b2.below h L2
  have B1 := fun (w1 : World) (h : Below W.heap.size W w1) => b1.below h L1
  have HT := fun (w1 : World) (h : Below W.heap.size W w1) => HB.out.trans (h.mono (Nat.le_of_lt L1))
  cases h1 : eqc a b
  · cases h2 : within a b
    · cases h3 : within b a
      all_goals
        go_enter Try.func35, Try.ntmps35
        go_wp2_with (first | (refine loadB _ _ rfl rfl rfl b1 ty28 ?_) | (refine loadB _ _ rfl rfl rfl b2 ty28 ?_))
        refine (within_any a b _).mono ?_
        rintro e w1 ⟨rfl, hb1⟩
        have c1 := B1 w1 hb1
        have c2 := B2 w1 hb1
        go_wp2_with (first | (refine loadB _ _ rfl rfl rfl c1 ty28 ?_) | (refine loadB _ _ rfl rfl rfl c2 ty28 ?_))
        refine (within_any b a _).mono ?_
        rintro e w2 ⟨rfl, hb2⟩
        go_wp2
        go_ret
        exact ⟨ret_val (by simp [cmp, h1, h2, h3]), (HT w1 hb1).trans (hb2.mono (Nat.le_trans (Nat.le_of_lt L1) hb1.size))⟩
    · go_enter Try.func35, Try.ntmps35
      go_wp2_with (first | (refine loadB _ _ rfl rfl rfl b1 ty28 ?_) | (refine loadB _ _ rfl rfl rfl b2 ty28 ?_))
      refine (within_any a b _).mono ?_
      rintro e w1 ⟨rfl, hb1⟩
      go_wp2
      go_ret
      exact ⟨ret_val (by simp [cmp, h1, h2]), HT w1 hb1⟩
  · go_enter Try.func35, Try.ntmps35
    go_wp2_with (first | (refine loadB _ _ rfl rfl rfl b1 ty28 ?_) | (refine loadB _ _ rfl rfl rfl b2 ty28 ?_))
    go_ret
    exact ⟨ret_val (by simp [cmp, h1]), HB.out⟩

theorem isThread_any (t : Int) (w : World) : Calls Try.prog 38 #[.int .i64 t] w fun e w' => e = .returned (.bool (isT t)) ∧ w = w' := by
  by_cases h0 : 0 ≤ t
  · by_cases h1 : t < 6
    · have h := isT_yes h0 h1
      go_enter Try.func38, Try.ntmps38
      go_wp2
      go_ret
      exact ⟨ret_val (by simp [h]), rfl⟩
    · have h := isT_no (t := t) (by omega)
      go_enter Try.func38, Try.ntmps38
      go_wp2
      go_ret
      exact ⟨ret_val (by simp [h]), rfl⟩
  · have h := isT_no (t := t) (by omega)
    go_enter Try.func38, Try.ntmps38
    go_wp2
    go_ret
    exact ⟨ret_val (by simp [h]), rfl⟩

set_option maxHeartbeats 1000000 in
theorem tick_any (c : Nat → Int) (t : Int) (hc : ClkOk c) (w : World) :
    Calls Try.prog 29 #[.agg (clk c), .int .i64 t] w fun e w' => e = .returned (.tuple #[.agg (clk (tickC c t)), .int .i64 (tickE c t)]) ∧ Below w.heap.size w w' := by
  obtain ⟨b1, b2, hB, hs⟩ := boxes2 w (clk c) #[.int .i64 0, .int .i64 0, .int .i64 0, .int .i64 0, .int .i64 0, .int .i64 0] 43 43
  generalize hW : ((w.alloc (.cells (clk c) 43)).alloc (.cells #[.int .i64 0, .int .i64 0, .int .i64 0, .int .i64 0, .int .i64 0, .int .i64 0] 43)) = W at *
  have L1 : w.heap.size < W.heap.size := by omega
  have L2 : w.heap.size + 1 < W.heap.size := by omega
  have HB := Lib.hid hB
  clear hB hs
  by_cases ht : isT t = true
  · obtain ⟨h0, h6⟩ := isT_iff.1 ht
    obtain ⟨k, rfl⟩ := Int.eq_ofNat_of_zero_le h0
    have hk : k < 6 := by omega
    have c1 := b1.cell k (clk_get c k hk)
    have f1 := b1.frozen k
    have HC := Lib.hid (hc k hk)
    clear hc
    by_cases hm : c k < 1000000
    · have hT : tickC c k = upd c k (c k + 1) := by unfold tickC; rw [if_pos ⟨ht, by simpa using hm⟩]; simp
      have hE : tickE c k = 0 := by unfold tickE; rw [if_pos ht, if_pos (by simpa using hm)]
      have HT := Lib.hid hT
      have HE := Lib.hid hE
      clear hT hE
      have s1 : Box (W.setCell ⟨w.heap.size, k, none⟩ (.int .i64 (wrap64 (c k + 1)))) w.heap.size (clk (upd c k (wrap64 (c k + 1)))) 43 := by
        have := b1.set k (.int .i64 (wrap64 (c k + 1)))
        rwa [clk_set _ _ hk] at this
      have s2 : Box (W.setCell ⟨w.heap.size, k, none⟩ (.int .i64 (wrap64 (c k + 1)))) (w.heap.size + 1) #[.int .i64 0, .int .i64 0, .int .i64 0, .int .i64 0, .int .i64 0, .int .i64 0] 43 := by (repeat (first | exact b2 | with_reducible refine Box.old ?_ _ | with_reducible refine Box.set_ne ?_ _ _ (by first | omega | (dsimp only; omega) | (simp; omega) | (simp; done)) | with_reducible refine Box.setRow_ne ?_ _ _ (by omega) | with_reducible refine Box.drew ?_ | with_reducible refine Box.drewN ?_ _))
      have HS2 : Below w.heap.size w (W.setCell ⟨w.heap.size, k, none⟩ (.int .i64 (wrap64 (c k + 1)))) := by (repeat (first | exact HB.out | with_reducible exact Below.refl _ _ | with_reducible refine Below.alloc ?_ (by first | omega | (simp; omega) | (simp; done)) _ | with_reducible refine below_setRow' ?_ _ _ (by omega) | with_reducible refine Below.setCell ?_ (by first | omega | (dsimp only; omega) | (simp; omega) | (simp; done)) _ | with_reducible refine Below.drew ?_ | with_reducible refine bdrewN ?_ _))
      have HS := Lib.hid HS2
      clear HS2
      go_enter Try.func29, Try.ntmps29
      go_wp2_with (first | (go_at_call 38; refine (isThread_any _ _).mono ?_; rintro e w' ⟨rfl, rfl⟩) | (refine loadB _ _ rfl rfl rfl s1 ty28 ?_) | (refine storeB _ _ _ rfl rfl rfl rfl s2 rfl ty28 (clk_all _) ?_))
      have s3 := s2.setRow (clk (upd c k (wrap64 (c k + 1))))
      refine bodyPost_ret (res_ct Try.results29 rfl s3 ty28) rfl ⟨?_, ?_⟩
      · rw [HT.out, HE.out, IntWalk.wrap64_in _ (by have := HC.out; unfold In64 at this; omega)]; rfl
      · (repeat (first | exact HS.out | with_reducible exact Below.refl _ _ | with_reducible refine Below.alloc ?_ (by first | omega | (simp; omega) | (simp; done)) _ | with_reducible refine below_setRow' ?_ _ _ (by omega) | with_reducible refine Below.setCell ?_ (by first | omega | (dsimp only; omega) | (simp; omega) | (simp; done)) _ | with_reducible refine Below.drew ?_ | with_reducible refine bdrewN ?_ _))
    · have hT : tickC c k = fun _ => 0 := by unfold tickC; rw [if_neg (fun h => hm (by simpa using h.2))]
      have hE : tickE c k = 2 := by unfold tickE; rw [if_pos ht, if_neg (by simpa using hm)]
      have HT := Lib.hid hT
      have HE := Lib.hid hE
      clear hT hE
      go_enter Try.func29, Try.ntmps29
      go_wp2_with (first | (go_at_call 38; refine (isThread_any _ _).mono ?_; rintro e w' ⟨rfl, rfl⟩) | (refine storeB _ _ _ rfl rfl rfl rfl b2 rfl ty28 z_all ?_))
      have s3 := b2.setRow #[.int .i64 0, .int .i64 0, .int .i64 0, .int .i64 0, .int .i64 0, .int .i64 0]
      refine bodyPost_ret (res_ct Try.results29 rfl s3 ty28) rfl ⟨?_, ?_⟩
      · rw [HT.out, HE.out]; rfl
      · (repeat (first | exact HB.out | with_reducible exact Below.refl _ _ | with_reducible refine Below.alloc ?_ (by first | omega | (simp; omega) | (simp; done)) _ | with_reducible refine below_setRow' ?_ _ _ (by omega) | with_reducible refine Below.setCell ?_ (by first | omega | (dsimp only; omega) | (simp; omega) | (simp; done)) _ | with_reducible refine Below.drew ?_ | with_reducible refine bdrewN ?_ _))
  · have hT : tickC c t = fun _ => 0 := by unfold tickC; rw [if_neg (fun h => ht h.1)]
    have hE : tickE c t = 1 := by unfold tickE; rw [if_neg ht]
    have HT := Lib.hid hT
    have HE := Lib.hid hE
    clear hT hE
    have ht' : isT t = false := by simpa using ht
    go_enter Try.func29, Try.ntmps29
    go_wp2_with (first | (go_at_call 38; refine (isThread_any _ _).mono ?_; rintro e w' ⟨rfl, rfl⟩) | (refine storeB _ _ _ rfl rfl rfl rfl b2 rfl ty28 z_all ?_))
    have s3 := b2.setRow #[.int .i64 0, .int .i64 0, .int .i64 0, .int .i64 0, .int .i64 0, .int .i64 0]
    refine bodyPost_ret (res_ct Try.results29 rfl s3 ty28) rfl ⟨?_, ?_⟩
    · rw [HT.out, HE.out]; rfl
    · (repeat (first | exact HB.out | with_reducible exact Below.refl _ _ | with_reducible refine Below.alloc ?_ (by first | omega | (simp; omega) | (simp; done)) _ | with_reducible refine below_setRow' ?_ _ _ (by omega) | with_reducible refine Below.setCell ?_ (by first | omega | (dsimp only; omega) | (simp; omega) | (simp; done)) _ | with_reducible refine Below.drew ?_ | with_reducible refine bdrewN ?_ _))

end Go.Proofs.Ytioejkjbokcppaa

/-  | Contracts of the package clock: Of, Seen. -/
import Derived.Test.YteihildhlcggoaaRows
import Derived.Test.YteihildhlcggoaaBase
import Derived.WalkKit
import Derived.WalkSpells
import Derived.WalkLawsBesides
import Derived.BigQuiet
import Derived.Deep.RegionHeld3
import Derived.Lib.Hide
set_option linter.all false
set_option maxRecDepth 100000
namespace Go.Proofs.Yteihildhlcggoaa
open Go.RowKit

theorem ty28 : RowTy Try.prog 81 6 := ⟨_, Try.underlying81, rfl, by kernel_rfl⟩
theorem eqlC (a b : Nat → Int) (w : World) : (binOp .eql 81 (.agg (clk a)) (.agg (clk b))).run Try.prog w = .ok (.bool (eqc a b)) w := eql_clk Try.underlying81 Try.underlying3 (by kernel_rfl) a b w
theorem grdC : Try.prog.eqGuardType Try.prog.depth 81 = false := by kernel_rfl
set_option maxHeartbeats 400000 in
theorem within_any (a b : Nat → Int) (w : World) :
    Calls Try.prog 94 #[.agg (clk a), .agg (clk b)] w fun e w' => e = .returned (.bool (within a b)) ∧ Below w.heap.size w w' := by
  go_enter Try.func94, Try.ntmps94
  go_wp2
  obtain ⟨b1, b2, hB, hs⟩ := boxes2 w (clk a) (clk b) 81 81
  generalize ((w.alloc (.cells (clk a) 81)).alloc (.cells (clk b) 81)) = W at *
  have Hb := Lib.hid hB
  clear hB hs
  go_loopw [6] (fun i wr => ∃ k : Nat, k ≤ 6 ∧ i = .int .i64 k ∧ UpTo (fun j => a j ≤ b j) k ∧ ∃ n, wr = W.drewN n) (fun i _ => 6 - (intOf i).toNat)
  case atStart => exact ⟨0, by omega, rfl, UpTo.zero, 0, rfl⟩
  case round =>
    obtain ⟨k, hk, rfl, hu, n, rfl⟩ := hrel
    by_cases hlt : k < 6
    · have c1 := b1.cell k (clk_get a k hlt)
      have c2 := b2.cell k (clk_get b k hlt)
      clear b1 b2
      have hlt' : (k : Int) < 6 := by omega
      go_wp2
      go_quiet (fail)
      by_cases hab : b k < a k
      · go_wp2
        go_ret
        exact ⟨by rw [within_no hlt hab]; rfl, bdrewN (bdrewN Hb.out _) _⟩
      · go_wp2
        go_roundw
        case rel => exact ⟨k + 1, by omega, by go_num, hu.succ (by omega), n + nq, rfl⟩
        case measure => simp [intOf]; omega
    · go_wp2
      go_ret
      exact ⟨by rw [(within_iff a b).2 fun j hj => hu j (by omega)]; rfl, bdrewN Hb.out _⟩

set_option maxHeartbeats 400000 in
theorem largest_any (x y : Int) (B : Nat) (w : World) (hc : w.cell? ⟨B, 0, none⟩ = some (.int .i64 y)) :
    Calls Try.prog 104 #[.int .i64 x, .slice (some ⟨B, 0, none⟩) 1 1] w fun e w' => e = .returned (.int .i64 (mx x y)) ∧ w = w' := by
  go_enter Try.func104, Try.ntmps104
  go_wp2
  go_loop [0, 9] (fun f i => (i = .int .i64 0 ∧ f = .int .i64 x) ∨ (i = .int .i64 1 ∧ f = .int .i64 (mx x y))) (fun _ i => 1 - (intOf i).toNat)
  case atStart => exact .inl ⟨rfl, rfl⟩
  case round =>
    rcases hrel with ⟨rfl, rfl⟩ | ⟨rfl, rfl⟩
    · by_cases hxy : x < y
      all_goals
        go_wp2
        go_round
        case rel => exact .inr ⟨rfl, by simp [mx, hxy]⟩
        case measure => simp [intOf]
    · go_wp2
      go_ret
      exact ⟨rfl, rfl⟩


set_option maxHeartbeats 1000000 in
theorem join_any (a b : Nat → Int) (w : World) :
    Calls Try.prog 89 #[.agg (clk a), .agg (clk b)] w fun e w' => e = .returned (.agg (clk fun j => mx (a j) (b j))) ∧ Below w.heap.size w w' := by
  go_enter Try.func89, Try.ntmps89
  go_wp2
  obtain ⟨b1, b2, b3, b4, hB, hs⟩ := boxes4 w (clk a) (clk b) (clk fun _ => 0) (clk fun _ => 0) 81 81 81 81
  change Code.wp _ _ _ _ ((((w.alloc (.cells (clk a) 81)).alloc (.cells (clk b) 81)).alloc (.cells (clk fun _ => 0) 81)).alloc (.cells (clk fun _ => 0) 81))
  generalize ((((w.alloc (.cells (clk a) 81)).alloc (.cells (clk b) 81)).alloc (.cells (clk fun _ => 0) 81)).alloc (.cells (clk fun _ => 0) 81)) = W at *
  have HS := Lib.hid (show w.heap.size + 1 + 1 + 1 < W.heap.size by omega)
  have HB := Lib.hid hB
  clear hB hs
  go_loopw [7] (fun i wr => ∃ k : Nat, k ≤ 6 ∧ i = .int .i64 k ∧ JRel w a b mx k 81 wr) (fun i _ => 6 - (intOf i).toNat)
  case atStart => exact ⟨0, by omega, rfl, ⟨b1, b2, b3, b4, HB.out⟩⟩
  case round =>
    obtain ⟨k, hk, rfl, hr⟩ := hrel
    by_cases hlt : k < 6
    · have c1 := hr.ba.cell k (clk_get a k hlt)
      have c2 := hr.bb.cell k (clk_get b k hlt)
      have c3 := hr.out.cell k (clk_get _ k hlt)
      have f3 := hr.out.frozen k
      have hlt' : (k : Int) < 6 := by omega
      have H := Lib.hid hr
      clear hr b1 b2 b3 b4
      have hsz : w.heap.size + 1 + 1 + 1 < wr.heap.size := H.out.out.lt
      go_wp2
      go_region_held3 (fun w' => w'.cell? ⟨w.heap.size, k, none⟩ = some (.int .i64 (a k)) ∧ w'.cell? ⟨w.heap.size + 1, k, none⟩ = some (.int .i64 (b k))) (first | exact ⟨c1, c2⟩ | (refine ⟨Box.cell (c := clk a) (t := 81) ?_ k (clk_get a k hlt), Box.cell (c := clk b) (t := 81) ?_ k (clk_get b k hlt)⟩ <;> (repeat (first | exact H.out.ba | exact H.out.bb | with_reducible refine Box.old ?_ _ | with_reducible refine Box.set_ne ?_ _ _ (by first | omega | (dsimp only; omega) | (simp; omega) | (simp; done)) | with_reducible refine Box.setRow_ne ?_ _ _ (by omega) | with_reducible refine Box.drew ?_ | with_reducible refine Box.drewN ?_ _)))) (first | (go_at_call 104; refine (largest_any _ (b k) _ _ ?_).mono ?_; exact (Box.new wr #[.int .i64 (b k)] 3).drew.cell 0 rfl; rintro e w' ⟨rfl, rfl⟩))
      go_wp2
      go_roundw
      case rel =>
        refine ⟨k + 1, by omega, by go_num, ⟨by (repeat (first | exact H.out.ba | with_reducible refine Box.old ?_ _ | with_reducible refine Box.set_ne ?_ _ _ (by first | omega | (dsimp only; omega) | (simp; omega) | (simp; done)) | with_reducible refine Box.setRow_ne ?_ _ _ (by omega) | with_reducible refine Box.drew ?_ | with_reducible refine Box.drewN ?_ _)), by (repeat (first | exact H.out.bb | with_reducible refine Box.old ?_ _ | with_reducible refine Box.set_ne ?_ _ _ (by first | omega | (dsimp only; omega) | (simp; omega) | (simp; done)) | with_reducible refine Box.setRow_ne ?_ _ _ (by omega) | with_reducible refine Box.drew ?_ | with_reducible refine Box.drewN ?_ _)), by (repeat (first | exact H.out.res | with_reducible refine Box.old ?_ _ | with_reducible refine Box.set_ne ?_ _ _ (by first | omega | (dsimp only; omega) | (simp; omega) | (simp; done)) | with_reducible refine Box.setRow_ne ?_ _ _ (by omega) | with_reducible refine Box.drew ?_ | with_reducible refine Box.drewN ?_ _)), ?_, by (repeat (first | exact H.out.below | with_reducible exact Below.refl _ _ | with_reducible refine Below.alloc ?_ (by first | omega | (simp; omega) | (simp; done)) _ | with_reducible refine below_setRow' ?_ _ _ (by omega) | with_reducible refine Below.setCell ?_ (by first | omega | (dsimp only; omega) | (simp; omega) | (simp; done)) _ | with_reducible refine Below.drew ?_ | with_reducible refine bdrewN ?_ _))⟩⟩
        have h2 := H.out.out.set k (.int .i64 (mx (a k) (b k)))
        rw [clk_set _ _ hlt, jn_succ] at h2
        (repeat (first | exact h2 | with_reducible refine Box.old ?_ _ | with_reducible refine Box.set_ne ?_ _ _ (by first | omega | (dsimp only; omega) | (simp; omega) | (simp; done)) | with_reducible refine Box.setRow_ne ?_ _ _ (by omega) | with_reducible refine Box.drew ?_ | with_reducible refine Box.drewN ?_ _))
      case measure => simp [intOf]; omega
    · obtain rfl : k = 6 := by omega
      have hout := hr.out
      rw [clk_congr (jn_six mx a b)] at hout
      have hres := hr.res
      have H := Lib.hid hr
      clear hr
      go_wp2_with (first | (refine loadB _ _ rfl rfl rfl hout ty28 ?_) | (refine storeB _ _ _ rfl rfl rfl rfl hres rfl ty28 (clk_all _) ?_))
      refine bodyPost_ret (res_c Try.results89 rfl (B := w.heap.size + 1 + 1) (c := clk fun j => mx (a j) (b j)) (t := 81) ?_ ty28) rfl ⟨rfl, ?_⟩
      · exact hres.setRow _
      · (repeat (first | exact H.out.below | with_reducible exact Below.refl _ _ | with_reducible refine Below.alloc ?_ (by first | omega | (simp; omega) | (simp; done)) _ | with_reducible refine below_setRow' ?_ _ _ (by omega) | with_reducible refine Below.setCell ?_ (by first | omega | (dsimp only; omega) | (simp; omega) | (simp; done)) _ | with_reducible refine Below.drew ?_ | with_reducible refine bdrewN ?_ _))


theorem isThread_any (t : Int) (w : World) : Calls Try.prog 105 #[.int .i64 t] w fun e w' => e = .returned (.bool (isT t)) ∧ w = w' := by
  by_cases h0 : 0 ≤ t
  · by_cases h1 : t < 6
    · have h := isT_yes h0 h1
      go_enter Try.func105, Try.ntmps105
      go_wp2
      go_ret
      exact ⟨ret_val (by simp [h]), rfl⟩
    · have h := isT_no (t := t) (by omega)
      go_enter Try.func105, Try.ntmps105
      go_wp2
      go_ret
      exact ⟨ret_val (by simp [h]), rfl⟩
  · have h := isT_no (t := t) (by omega)
    go_enter Try.func105, Try.ntmps105
    go_wp2
    go_ret
    exact ⟨ret_val (by simp [h]), rfl⟩


end Go.Proofs.Yteihildhlcggoaa
namespace Go.Proofs.Yteihildhlcggoaa
open Go.RowKit

theorem ty37 : RowTy Try.prog 65 2 := ⟨_, Try.underlying65, rfl, by kernel_rfl⟩
set_option maxHeartbeats 1000000 in
theorem of_any (c : Nat → Int) (t : Int) (w : World) :
    Calls Try.prog 90 #[.agg (clk c), .int .i64 t] w fun e w' => e = .returned (.tuple #[.agg (ep (ofT t) (ofN c t)), .int .i64 (ofE t)]) ∧ Below w.heap.size w w' := by
  obtain ⟨b1, b2, hB, hs⟩ := boxes2 w (clk c) #[.int .i64 0, .int .i64 0] 81 65
  generalize hW : ((w.alloc (.cells (clk c) 81)).alloc (.cells #[.int .i64 0, .int .i64 0] 65)) = W at *
  have L1 : w.heap.size < W.heap.size := by omega
  have L2 : w.heap.size + 1 < W.heap.size := by omega
  have HB := Lib.hid hB
  clear hB hs
  by_cases ht : isT t = true
  · obtain ⟨h0, h6⟩ := isT_iff.1 ht
    have hF : ofT t = t ∧ ofN c t = c t.toNat ∧ ofE t = 0 := by simp [ofT, ofN, ofE, ht]
    have HF := Lib.hid hF
    clear hF
    obtain ⟨k, rfl⟩ := Int.eq_ofNat_of_zero_le h0
    have hk : k < 6 := by omega
    have c1 := b1.cell k (clk_get c k hk)
    go_enter Try.func90, Try.ntmps90
    go_wp2_with (first | (go_at_call 105; refine (isThread_any _ _).mono ?_; rintro e w' ⟨rfl, rfl⟩) | (refine storeB _ _ _ rfl rfl rfl rfl b2 rfl ty37 (ep_all _ _) ?_))
    refine bodyPost_ret (res_ct Try.results90 rfl (b2.setRow _) ty37) rfl ⟨?_, ?_⟩
    · obtain ⟨h1, h2, h3⟩ := HF.out
      rw [h1, h2, h3]; rfl
    · (repeat (first | exact HB.out | with_reducible exact Below.refl _ _ | with_reducible refine Below.alloc ?_ (by first | omega | (simp; omega) | (simp; done)) _ | with_reducible refine below_setRow' ?_ _ _ (by omega) | with_reducible refine Below.setCell ?_ (by first | omega | (dsimp only; omega) | (simp; omega) | (simp; done)) _ | with_reducible refine Below.drew ?_ | with_reducible refine bdrewN ?_ _))
  · have hF : ofT t = 0 ∧ ofN c t = 0 ∧ ofE t = 1 := by simp [ofT, ofN, ofE, ht]
    have HF := Lib.hid hF
    clear hF
    have ht' : isT t = false := by simpa using ht
    go_enter Try.func90, Try.ntmps90
    go_wp2_with (first | (go_at_call 105; refine (isThread_any _ _).mono ?_; rintro e w' ⟨rfl, rfl⟩) | (refine storeB _ _ _ rfl rfl rfl rfl b2 rfl ty37 (ep_all 0 0) ?_))
    refine bodyPost_ret (res_ct Try.results90 rfl (b2.setRow #[.int .i64 0, .int .i64 0]) ty37) rfl ⟨?_, ?_⟩
    · obtain ⟨h1, h2, h3⟩ := HF.out
      rw [h1, h2, h3]; rfl
    · (repeat (first | exact HB.out | with_reducible exact Below.refl _ _ | with_reducible refine Below.alloc ?_ (by first | omega | (simp; omega) | (simp; done)) _ | with_reducible refine below_setRow' ?_ _ _ (by omega) | with_reducible refine Below.setCell ?_ (by first | omega | (dsimp only; omega) | (simp; omega) | (simp; done)) _ | with_reducible refine Below.drew ?_ | with_reducible refine bdrewN ?_ _))

set_option maxHeartbeats 1000000 in
theorem seen_any (th n : Int) (c : Nat → Int) (w : World) :
    Calls Try.prog 107 #[.agg (ep th n), .agg (clk c)] w fun e w' => e = .returned (.bool (seen th n c)) ∧ Below w.heap.size w w' := by
  obtain ⟨b1, b2, hB, hs⟩ := boxes2 w (ep th n) (clk c) 65 81
  generalize hW : ((w.alloc (.cells (ep th n) 65)).alloc (.cells (clk c) 81)) = W at *
  have HB := Lib.hid hB
  clear hB hs
  have c0 := b1.cell 0 (v := .int .i64 th) rfl
  have c1 := b1.cell 1 (v := .int .i64 n) rfl
  by_cases ht : isT th = true
  · obtain ⟨h0, h6⟩ := isT_iff.1 ht
    obtain ⟨k, rfl⟩ := Int.eq_ofNat_of_zero_le h0
    have hk : k < 6 := by omega
    have hF : seen k n c = decide (n ≤ c k) := by simp [seen, ht]
    have HF := Lib.hid hF
    clear hF
    have c2 := b2.cell k (clk_get c k hk)
    clear b1 b2
    go_enter Try.func107, Try.ntmps107
    go_wp2
    go_quiet ((go_at_call 105; refine Calls.quiet_of_same ((isThread_any _ _).mono fun e w' h => ⟨h.1, h.2.symm⟩)))
    go_wp2
    go_ret
    exact ⟨by rw [HF.out]; rfl, bdrewN HB.out _⟩
  · have hF : seen th n c = false := by simp [seen, ht]
    have HF := Lib.hid hF
    clear hF
    have ht' : isT th = false := by simpa using ht
    clear b1 b2
    go_enter Try.func107, Try.ntmps107
    go_wp2
    go_quiet ((go_at_call 105; refine Calls.quiet_of_same ((isThread_any _ _).mono fun e w' h => ⟨h.1, h.2.symm⟩)))
    go_wp2
    go_ret
    exact ⟨by rw [HF.out]; rfl, bdrewN HB.out _⟩
end Go.Proofs.Yteihildhlcggoaa

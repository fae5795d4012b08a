/- Contracts of the package clock: Of, Seen. -/
import Derived.Test.YtnjaeampnakbbaaClock
set_option linter.all false
set_option maxRecDepth 100000
namespace Go.Proofs.Ytnjaeampnakbbaa
open Go.RowKit

theorem ty37 : RowTy Try.prog 68 2 := ⟨_, Try.underlying68, rfl, by kernel_rfl⟩
set_option maxHeartbeats 1000000 in
theorem of_any (c : Nat → Int) (t : Int) (w : World) :
    Calls Try.prog 73 #[.agg (clk c), .int .i64 t] w fun e w' => e = .returned (.tuple #[.agg (ep (ofT t) (ofN c t)), .int .i64 (ofE t)]) ∧ Below w.heap.size w w' := by
  obtain ⟨b1, b2, hB, hs⟩ := boxes2 w (clk c) #[.int .i64 0, .int .i64 0] 30 68
  generalize hW : ((w.alloc (.cells (clk c) 30)).alloc (.cells #[.int .i64 0, .int .i64 0] 68)) = W at *
  have L1 : w.heap.size < W.heap.size := by omega
  have L2 : w.heap.size + 1 < W.heap.size := by omega
  have HB := Lib.hid hB
  clear hB hs
  by_cases ht : isT t = true
  · obtain ⟨h0, h6⟩ := isT_iff.1 ht
    have hF : ofT t = t ∧ ofN c t = c t.toNat ∧ ofE t = 0 := by simp [ofT, ofN, ofE, ht]
    have HF := Lib.hid hF
    clear hF
    obtain ⟨k, rfl⟩ := Int.eq_ofNat_of_zero_le h0
    have hk : k < 6 := by omega
    have c1 := b1.cell k (clk_get c k hk)
    go_enter Try.func73, Try.ntmps73
    go_wp2_with (first | (go_at_call 96; refine (isThread_any _ _).mono ?_; rintro e w' ⟨rfl, rfl⟩) | (refine storeB _ _ _ rfl rfl rfl rfl b2 rfl ty37 (ep_all _ _) ?_))
    refine bodyPost_ret (res_ct Try.results73 rfl (b2.setRow _) ty37) rfl ⟨?_, ?_⟩
    · obtain ⟨h1, h2, h3⟩ := HF.out
      rw [h1, h2, h3]; rfl
    · (repeat (first | exact HB.out | with_reducible exact Below.refl _ _ | with_reducible refine Below.alloc ?_ (by first | omega | (simp; omega) | (simp; done)) _ | with_reducible refine below_setRow' ?_ _ _ (by omega) | with_reducible refine Below.setCell ?_ (by first | omega | (dsimp only; omega) | (simp; omega) | (simp; done)) _ | with_reducible refine Below.drew ?_ | with_reducible refine bdrewN ?_ _))
  · have hF : ofT t = 0 ∧ ofN c t = 0 ∧ ofE t = 1 := by simp [ofT, ofN, ofE, ht]
    have HF := Lib.hid hF
    clear hF
    have ht' : isT t = false := by simpa using ht
    go_enter Try.func73, Try.ntmps73
    go_wp2_with (first | (go_at_call 96; refine (isThread_any _ _).mono ?_; rintro e w' ⟨rfl, rfl⟩) | (refine storeB _ _ _ rfl rfl rfl rfl b2 rfl ty37 (ep_all 0 0) ?_))
    refine bodyPost_ret (res_ct Try.results73 rfl (b2.setRow #[.int .i64 0, .int .i64 0]) ty37) rfl ⟨?_, ?_⟩
    · obtain ⟨h1, h2, h3⟩ := HF.out
      rw [h1, h2, h3]; rfl
    · (repeat (first | exact HB.out | with_reducible exact Below.refl _ _ | with_reducible refine Below.alloc ?_ (by first | omega | (simp; omega) | (simp; done)) _ | with_reducible refine below_setRow' ?_ _ _ (by omega) | with_reducible refine Below.setCell ?_ (by first | omega | (dsimp only; omega) | (simp; omega) | (simp; done)) _ | with_reducible refine Below.drew ?_ | with_reducible refine bdrewN ?_ _))

set_option maxHeartbeats 1000000 in
theorem seen_any (th n : Int) (c : Nat → Int) (w : World) :
    Calls Try.prog 98 #[.agg (ep th n), .agg (clk c)] w fun e w' => e = .returned (.bool (seen th n c)) ∧ Below w.heap.size w w' := by
  obtain ⟨b1, b2, hB, hs⟩ := boxes2 w (ep th n) (clk c) 68 30
  generalize hW : ((w.alloc (.cells (ep th n) 68)).alloc (.cells (clk c) 30)) = W at *
  have HB := Lib.hid hB
  clear hB hs
  have c0 := b1.cell 0 (v := .int .i64 th) rfl
  have c1 := b1.cell 1 (v := .int .i64 n) rfl
  by_cases ht : isT th = true
  · obtain ⟨h0, h6⟩ := isT_iff.1 ht
    obtain ⟨k, rfl⟩ := Int.eq_ofNat_of_zero_le h0
    have hk : k < 6 := by omega
    have hF : seen k n c = decide (n ≤ c k) := by simp [seen, ht]
    have HF := Lib.hid hF
    clear hF
    have c2 := b2.cell k (clk_get c k hk)
    clear b1 b2
    go_enter Try.func98, Try.ntmps98
    go_wp2
    go_quiet ((go_at_call 96; refine Calls.quiet_of_same ((isThread_any _ _).mono fun e w' h => ⟨h.1, h.2.symm⟩)))
    go_wp2
    go_ret
    exact ⟨by rw [HF.out]; rfl, bdrewN HB.out _⟩
  · have hF : seen th n c = false := by simp [seen, ht]
    have HF := Lib.hid hF
    clear hF
    have ht' : isT th = false := by simpa using ht
    clear b1 b2
    go_enter Try.func98, Try.ntmps98
    go_wp2
    go_quiet ((go_at_call 96; refine Calls.quiet_of_same ((isThread_any _ _).mono fun e w' h => ⟨h.1, h.2.symm⟩)))
    go_wp2
    go_ret
    exact ⟨by rw [HF.out]; rfl, bdrewN HB.out _⟩
end Go.Proofs.Ytnjaeampnakbbaa

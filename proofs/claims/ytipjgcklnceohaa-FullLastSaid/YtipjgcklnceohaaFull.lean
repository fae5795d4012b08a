/- Contracts of package full: start. -/
import Derived.Test.YtipjgcklnceohaaFl
import Derived.Test.YtipjgcklnceohaaClock
import Derived.Test.YtipjgcklnceohaaAppend
import Derived.Test.YtipjgcklnceohaaGrowT
import Derived.Test.YtipjgcklnceohaaMid
import Derived.Test.YtipjgcklnceohaaLst
set_option linter.all false
set_option maxRecDepth 100000
namespace Go.Proofs.Ytipjgcklnceohaa
open Go Go.RowKit

theorem TCs : RowTy Try.prog 66 90 := ⟨_, Try.underlying66, rfl, by kernel_rfl⟩
theorem ns_all (n : Nat) (g : Nat → Nat) : (ns n g).all (·.oneCell') = true := all_oneCell_toArray (nsl_one n g)
def gS (k : Nat) : Nat → Nat := fun i => if i < 36 ∧ i / 6 = i % 6 ∧ i / 6 < k then 1 else 0
theorem gS_up {k : Nat} (hk : k < 6) : ns 90 (updN (gS k) (k * 6 + k) 1) = ns 90 (gS (k + 1)) := ns_congr fun i _ => by
  unfold updN gS
  by_cases h : i = k * 6 + k
  · rw [if_pos h, if_pos ⟨by omega, by omega, by omega⟩]
  · rw [if_neg h]
    by_cases h2 : i < 36 ∧ i / 6 = i % 6 ∧ i / 6 < k
    · rw [if_pos h2, if_pos ⟨h2.1, h2.2.1, by omega⟩]
    · rw [if_neg h2, if_neg (by omega)]
theorem gS_all : ns 90 (gS 6) = ns 90 (gD djStart) := ns_congr fun i hi => by
  unfold gS gD djStart
  by_cases h : i < 36
  · simp only [h, if_true]
    by_cases h2 : i / 6 = i % 6
    · rw [if_pos ⟨trivial, h2, by omega⟩, if_pos h2]
    · rw [if_neg (fun hh => h2 hh.2.1), if_neg h2]
  · simp only [h, if_false, false_and, ite_self]
structure StR (w : World) (k : Nat) (wr : World) : Prop where
  res : Box wr w.heap.size (ns 90 fun _ => 0) 66
  now : Box wr (w.heap.size + 1) (ns 90 (gS k)) 66
  below : Below w.heap.size w wr
set_option maxHeartbeats 4000000 in
theorem start_any (w : World) : Calls Try.prog 26 #[] w fun e w' => e = .returned (.agg (ns 90 (gD djStart))) ∧ Below w.heap.size w w' := by
  obtain ⟨b1, b2, hB, hs⟩ := boxes2 w (ns 90 fun _ => 0) (ns 90 (gS 0)) 66 66
  have H0 := Lib.hid (StR.mk b1 b2 hB)
  clear b1 b2 hB hs
  go_enter Try.func26, Try.ntmps26
  go_wp2
  change Code.wp _ _ _ _ ((w.alloc (.cells (ns 90 fun _ => 0) 66)).alloc (.cells (ns 90 (gS 0)) 66))
  generalize ((w.alloc (.cells (ns 90 fun _ => 0) 66)).alloc (.cells (ns 90 (gS 0)) 66)) = W at *
  go_loopw [3] (fun t wr => ∃ k : Nat, k ≤ 6 ∧ t = .int .i64 k ∧ StR w k wr) (fun t _ => 6 - (intOf t).toNat)
  case atStart => exact ⟨0, by omega, rfl, H0.out⟩
  case round =>
    obtain ⟨k, hk, rfl, hr⟩ := hrel
    have HR := Lib.hid hr
    clear hr H0
    by_cases hlt : k < 6
    · have hlt' : (k : Int) < 6 := by omega
      have c0 := HR.out.now.cell (k * 6 + k) (ns_get _ (by omega))
      have g0 := HR.out.now.frozen (k * 6 + k)
      go_wp2
      go_roundw
      case rel => exact ⟨k + 1, by omega, by go_num, ⟨HR.out.res.set_ne _ _ (by simp), by have := HR.out.now.set (k * 6 + k) (.int .i64 ((1 : Nat) : Int)); rw [ns_set, gS_up hlt] at this; exact this, HR.out.below.setCell (by simp) _⟩⟩
      case measure => simp [intOf]; omega
    · obtain rfl : k = 6 := by omega
      have hn := HR.out.now
      rw [gS_all] at hn
      have hr := HR.out.res
      go_wp2_with (first | (refine loadB _ _ rfl rfl rfl hn (by rw [ns_size]; exact TCs) ?_) | (refine storeB _ _ _ rfl rfl rfl rfl hr (by rw [ns_size, ns_size]) (by rw [ns_size]; exact TCs) (ns_all _ _) ?_))
      refine bodyPost_ret (res_c Try.results26 rfl (hr.setRow (ns 90 (gD djStart))) (by rw [ns_size]; exact TCs)) rfl ⟨rfl, ?_⟩
      exact below_setRow' HR.out.below _ _ (Nat.le_refl _)
end Go.Proofs.Ytipjgcklnceohaa

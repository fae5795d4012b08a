/- Contracts of package guard: start, next. -/
import Derived.Test.YtlifmedkadjdcaaGuP
import Derived.Test.YtlifmedkadjdcaaGrow
import Derived.Test.YtlifmedkadjdcaaBase
set_option linter.all false
set_option maxRecDepth 100000
namespace Go.Proofs.Ytlifmedkadjdcaa
open Go Go.RowKit

theorem TGs : RowTy Try.prog 25 24 := ⟨_, Try.underlying25, rfl, by kernel_rfl⟩
theorem TGz (g : Nat → Nat) : RowTy Try.prog 25 (ns 24 g).size := by rw [ns_size]; exact TGs
theorem TGd : RowTy Try.prog 24 3 := ⟨_, Try.underlying24, rfl, by kernel_rfl⟩
def gQ (k : Nat) : Nat → Nat := fun i => if i % 3 = 2 ∧ i / 3 < k then 31 else 0
theorem gQ_up {k : Nat} : ns 24 (updN (gQ k) (k * 3 + 2) 31) = ns 24 (gQ (k + 1)) := ns_congr fun i _ => by
  unfold updN gQ
  by_cases h : i = k * 3 + 2
  · rw [if_pos h, if_pos ⟨by omega, by omega⟩]
  · rw [if_neg h]
    by_cases h2 : i % 3 = 2 ∧ i / 3 < k
    · rw [if_pos h2, if_pos ⟨h2.1, by omega⟩]
    · rw [if_neg h2, if_neg (by omega)]
def gdZ : Nat → Gd := fun _ => gdStart
theorem gQ_all : ns 24 (gQ 8) = ns 24 (gG gdZ) := ns_congr fun i hi => by
  unfold gQ gG gdZ gdStart
  by_cases h0 : i % 3 = 0
  · rw [if_neg (by omega), if_pos h0]
  · by_cases h1 : i % 3 = 1
    · rw [if_neg (by omega), if_neg h0, if_pos h1]
    · rw [if_pos (by omega), if_neg h0, if_neg h1]; rfl
structure StG (w : World) (k : Nat) (wr : World) : Prop where
  res : Box wr w.heap.size (ns 24 fun _ => 0) 25
  now : Box wr (w.heap.size + 1) (ns 24 (gQ k)) 25
  below : Below w.heap.size w wr
set_option maxHeartbeats 4000000 in
theorem gstart_any (w : World) : Calls Try.prog 33 #[] w fun e w' => e = .returned (.agg (ns 24 (gG gdZ))) ∧ Below w.heap.size w w' := by
  obtain ⟨b1, b2, hB, hs⟩ := boxes2 w (ns 24 fun _ => 0) (ns 24 (gQ 0)) 25 25
  have H0 := Lib.hid (StG.mk b1 b2 hB)
  clear b1 b2 hB hs
  go_enter Try.func33, Try.ntmps33
  go_wp2
  change Code.wp _ _ _ _ ((w.alloc (.cells (ns 24 fun _ => 0) 25)).alloc (.cells (ns 24 (gQ 0)) 25))
  generalize ((w.alloc (.cells (ns 24 fun _ => 0) 25)).alloc (.cells (ns 24 (gQ 0)) 25)) = W at *
  go_loopw [3] (fun t wr => ∃ k : Nat, k ≤ 8 ∧ t = .int .i64 k ∧ StG w k wr) (fun t _ => 8 - (intOf t).toNat)
  case atStart => exact ⟨0, by omega, rfl, H0.out⟩
  case round =>
    obtain ⟨k, hk, rfl, hr⟩ := hrel
    have HR := Lib.hid hr
    clear hr H0
    by_cases hlt : k < 8
    · have hlt' : (k : Int) < 8 := by omega
      have c0 := HR.out.now.cell (k * 3 + 2) (ns_get _ (by omega))
      have g0 := HR.out.now.frozen (k * 3 + 2)
      go_wp2
      go_roundw
      case rel => exact ⟨k + 1, by omega, by go_num, ⟨HR.out.res.set_ne _ _ (by simp), by have := HR.out.now.set (k * 3 + 2) (.int .i64 ((31 : Nat) : Int)); rw [ns_set, gQ_up] at this; exact this, HR.out.below.setCell (by simp) _⟩⟩
      case measure => simp [intOf]; omega
    · obtain rfl : k = 8 := by omega
      have hn := HR.out.now
      rw [gQ_all] at hn
      have hr := HR.out.res
      go_wp2_with (first | (refine loadB _ _ rfl rfl rfl hn (TGz _) ?_) | (refine storeB _ _ _ rfl rfl rfl rfl hr (by rw [ns_size, ns_size]) (TGz _) (gns_all _ _) ?_))
      refine bodyPost_ret (res_c Try.results33 rfl (hr.setRow (ns 24 (gG gdZ))) (TGz _)) rfl ⟨rfl, ?_⟩
      exact below_setRow' HR.out.below _ _ (Nat.le_refl _)

theorem three_lk (p : Nat → Bool) : gev ⟨2, 0, p⟩ = ⟨(2 : Nat), (0 : Nat), (lkN p : Nat)⟩ := rfl
end Go.Proofs.Ytlifmedkadjdcaa

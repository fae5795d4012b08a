/- Contracts of the reference: Held. -/
import Derived.Test.YtlifmedkadjdcaaRefTr
set_option linter.all false
set_option maxRecDepth 100000
namespace Go.Proofs.Ytlifmedkadjdcaa
open Go.RowKit

def heldTo (l : List Ev) (t : Int) (k : Nat) : Int :=
  (if 0 < k ∧ owner l 0 = t then 1 else 0) + (if 1 < k ∧ owner l 1 = t then 2 else 0) + (if 2 < k ∧ owner l 2 = t then 4 else 0) + (if 3 < k ∧ owner l 3 = t then 8 else 0) + (if 4 < k ∧ owner l 4 = t then 16 else 0)
theorem heldTo_range (l : List Ev) (t : Int) (k : Nat) : 0 ≤ heldTo l t k ∧ heldTo l t k < 32 := by
  unfold heldTo; repeat' split
  all_goals omega
theorem heldTo_zero (l : List Ev) (t : Int) : heldTo l t 0 = 0 := by simp [heldTo]
theorem heldTo_five (l : List Ev) (t : Int) : heldTo l t 5 = held l t := by simp [heldTo, held, hset, hs5]
theorem heldTo_yes (l : List Ev) (t : Int) (k : Nat) (hk : k < 5) (h : owner l k = t) : heldTo l t (k + 1) = heldTo l t k + 2 ^ k := by
  match k, hk with
  | 0, _ => have h : owner l 0 = t := h; simp [heldTo, h]
  | 1, _ => have h : owner l 1 = t := h; simp [heldTo, h]
  | 2, _ => have h : owner l 2 = t := h; simp [heldTo, h]
  | 3, _ => have h : owner l 3 = t := h; simp [heldTo, h]
  | 4, _ => have h : owner l 4 = t := h; simp [heldTo, h]
theorem heldTo_no (l : List Ev) (t : Int) (k : Nat) (hk : k < 5) (h : ¬ owner l k = t) : heldTo l t (k + 1) = heldTo l t k := by
  match k, hk with
  | 0, _ => have h : ¬ owner l 0 = t := h; simp [heldTo, h]
  | 1, _ => have h : ¬ owner l 1 = t := h; simp [heldTo, h]
  | 2, _ => have h : ¬ owner l 2 = t := h; simp [heldTo, h]
  | 3, _ => have h : ¬ owner l 3 = t := h; simp [heldTo, h]
  | 4, _ => have h : ¬ owner l 4 = t := h; simp [heldTo, h]
theorem shl_add (l : List Ev) (t : Int) (k : Nat) (hk : k < 5) : wrap64 (heldTo l t k + wrap64 (2 ^ k)) = heldTo l t k + 2 ^ k := by
  obtain ⟨h1, h2⟩ := heldTo_range l t k
  have h3 : (2 : Int) ^ k ≤ 16 := by
    match k, hk with
    | 0, _ => decide
    | 1, _ => decide
    | 2, _ => decide
    | 3, _ => decide
    | 4, _ => decide
  have h4 : (0 : Int) ≤ 2 ^ k := Int.pow_nonneg (by omega)
  rw [wrap_pow k hk, IntWalk.wrap64_in _ (by omega)]
set_option maxHeartbeats 1000000 in
theorem rheld_any (A : Option Addr) (n c : Nat) (l : List Ev) (t : Int) (w : World) (hl : Sl w A n l) (hn : n ≤ 9223372036854775807) :
    Calls Try.prog 26 #[.slice A n c, .int .i64 t] w fun e w' => e = .returned (.int .i64 (held l t)) ∧ Below w.heap.size w w' := by
  have HL := Lib.hid hl
  clear hl
  go_enter Try.func26, Try.ntmps26
  go_wp2
  go_loopw [5, 7] (fun u i wr => ∃ k : Nat, k ≤ 5 ∧ i = .int .i64 k ∧ u = .int .i64 (heldTo l t k) ∧ Below w.heap.size w wr) (fun _ i _ => 5 - (intOf i).toNat)
  case atStart => exact ⟨0, by omega, rfl, by rw [heldTo_zero], Below.refl _ _⟩
  case round =>
    obtain ⟨k, hk, rfl, rfl, hb⟩ := hrel
    have HB := Lib.hid hb
    clear hb
    by_cases hlt : k < 5
    · have HS := Lib.hid (shl_add l t k hlt)
      cases h : (owner l k == t)
      · have HN := Lib.hid (heldTo_no l t k hlt (by simpa using h))
        go_wp2_with fail
        refine (owner_any A n c l k _ (HL.out.bel HB.out) hn).mono ?_
        rintro e w1 ⟨rfl, hb⟩
        have HB1 := Lib.hid (HB.out.trans (hb.mono HB.out.size))
        clear hb
        go_wp2
        go_roundw
        case rel => exact ⟨k + 1, by omega, by go_num, by rw [HN.out], HB1.out⟩
        case measure => simp [intOf]; omega
      · have HY := Lib.hid (heldTo_yes l t k hlt (by simpa using h))
        go_wp2_with fail
        refine (owner_any A n c l k _ (HL.out.bel HB.out) hn).mono ?_
        rintro e w1 ⟨rfl, hb⟩
        have HB1 := Lib.hid (HB.out.trans (hb.mono HB.out.size))
        clear hb
        go_wp2
        go_roundw
        case rel => exact ⟨k + 1, by omega, by go_num, by rw [HY.out, ← HS.out], HB1.out⟩
        case measure => simp [intOf]; omega
    · obtain rfl : k = 5 := by omega
      have HF := Lib.hid (heldTo_five l t)
      go_wp2
      go_ret
      exact ⟨by rw [← HF.out]; rfl, HB.out⟩
end Go.Proofs.Ytlifmedkadjdcaa

/- Contracts of the package order: pairs, of whatever relation. -/
import Derived.Test.YtnjaeampnakbbaaPr
import Derived.Test.YtnjaeampnakbbaaKeepTw
import Derived.Maps.AppendAt
import Derived.IntWalk
set_option linter.all false
set_option maxRecDepth 100000
namespace Go.Proofs.Ytnjaeampnakbbaa
open Go Go.RowKit

/-- A function value that tells R below n, whatever new memory there is. -/
def Tells (w : World) (k : FuncId) (p : Value) (n : Nat) (C : Nat → Nat → Prop) (R : Nat → Nat → Bool) : Prop :=
  ∀ (a b : Nat) (w1 : World), a < n → b < n → C a b → Bel w w1 → Calls Try.prog k #[.int .i64 a, .int .i64 b, p] w1 fun e w2 => e = .returned (.bool (R a b)) ∧ Below w1.heap.size w1 w2
structure PrsR (w : World) (R : Nat → Nat → Bool) (n i j : Nat) (v : Value) (wr : World) : Prop where
  own : wr.ownsRow w.heap.size 109 2 v (prs R n i j).length (prc (prs R n i j))
  below : Bel w wr
theorem PrsR.to {w : World} {R : Nat → Nat → Bool} {n i j i' j' : Nat} {v : Value} {wr : World} (h : PrsR w R n i j v wr) (e : prs R n i' j' = prs R n i j) : PrsR w R n i' j' v wr := by
  obtain ⟨h1, h2⟩ := h; rw [← e] at h1; exact ⟨h1, h2⟩
def PrsPost (w : World) (R : Nat → Nat → Bool) (n : Nat) (e : Ending) (w' : World) : Prop :=
  ∃ v, e = .returned v ∧ w'.ownsRow w.heap.size 109 2 v (prsA R n).length (prc (prsA R n)) ∧ Below w.heap.size w w'
theorem prs_small {R : Nat → Nat → Bool} {n i j : Nat} (hn : n ≤ 80) (hi : i ≤ n) (hj : j ≤ n) : (prs R n i j).length ≤ 6480 := by
  have h1 := prs_len R n i j
  have h2 := Nat.mul_le_mul (Nat.le_trans hi hn) hn
  omega
set_option maxHeartbeats 8000000 in
theorem pairs_any (k : FuncId) (B : Nat) (n : Nat) (R : Nat → Nat → Bool) (w : World) (hn : n ≤ 80) (hE : ∀ args w, (callFunc k args).run Try.prog w = .ok (.enter k args) w) (hT : Tells w k (.pointer (some ⟨B, 0, none⟩)) n (fun a b => a < b) R) (hR : ∀ a b, b ≤ a → R a b = false) :
    Calls Try.prog 59 #[.int .i64 n, .func (.func k) #[] #[.pointer (some ⟨B, 0, none⟩)]] w (PrsPost w R n) := by
  have HT := Lib.hid hT
  have HR := Lib.hid hR
  have H0 := Lib.hid (PrsR.mk (World.ownsRow_nil _ _ _ _) (Bel.refl w) : PrsR w R n 0 0 (.slice none 0 0) w)
  obtain ⟨i0, hi0, hz0, hz1, hz2⟩ := info_parts pr_info
  have J := Lib.hid (And.intro hi0 (And.intro hz0 (And.intro hz1 hz2)))
  clear hi0 hz0 hz1 hz2 hT hR
  go_enter Try.func59, Try.ntmps59
  go_wp2
  go_loopw [5, 9] (fun v t9 wr => ∃ i : Nat, i ≤ n ∧ t9 = .int .i64 i ∧ PrsR w R n i 0 v wr) (fun _ t9 _ => n - (intOf t9).toNat)
  case atStart => exact ⟨0, by omega, rfl, H0.out⟩
  case round =>
    obtain ⟨i, hi, rfl, hr⟩ := hrel
    have HP := Lib.hid hr
    clear hr H0
    by_cases hlt : i < n
    · have hlt' : (i : Int) < n := by omega
      have H1 := Lib.hid (HP.out.to (prs_low (j := i + 1) (fun k hk => HR.out i k (by omega))))
      go_wp2
      go_loopw [5, 7] (fun v t7 wr => ∃ j : Nat, i < j ∧ j ≤ n ∧ t7 = .int .i64 j ∧ PrsR w R n i j v wr) (fun _ t7 _ => n - (intOf t7).toNat)
      case atStart => exact ⟨i + 1, by omega, by omega, by go_num, H1.out⟩
      case round =>
        obtain ⟨j, hij, hj, rfl, hr⟩ := hrel
        have HQ := Lib.hid hr
        clear hr H1 HP
        by_cases hlj : j < n
        · have hlj' : (j : Int) < n := by omega
          go_wp2_with fail
          refine (HT.out i j _ hlt hlj hij HQ.out.below).mono ?_
          rintro e w1 ⟨rfl, hb1⟩
          have HW := Lib.hid (HQ.out.below.call hb1)
          have HO := Lib.hid (own_bel HQ.out.own hb1)
          clear hb1
          cases hq : R i j
          · have HS := Lib.hid (PrsR.to ⟨HO.out, HW.out⟩ (prs_no hq))
            go_wp2
            go_roundw
            case rel => exact ⟨j + 1, by omega, by omega, by go_num, HS.out⟩
            case measure => simp [intOf]; omega
          · have HA := Lib.hid (own_alloc HO.out (.cells (prv (i, j)) 109))
            have HNW := Lib.hid (Box.news (l := prl (i, j)) (Box.new w1 (prv (i, j)) 109))
            have HSZ := Lib.hid (HW.out.alloc (.cells (prv (i, j)) 109)).size
            have hlen := prs_small (R := R) hn hi hj
            have HLN := Lib.hid hlen
            clear hlen
            go_wp2_with (first | (refine buildp 80 _ rfl rfl 109 i0 Try.underlying80 J.out.1 J.out.2.1 J.out.2.2.1 (i, j) rfl ?_) | (at_builtin; refine wpList_append_own_at _ rfl (.tmp 23) (.tmp 27) _ rfl w.heap.size 109 i0 _ 2 16 Try.underlying80 J.out.1 J.out.2.1 J.out.2.2.1 J.out.2.2.2 rfl (by omega) _ (prs R n i j).length _ rfl HA.out ⟨w1.heap.size, 0, none⟩ 1 1 (prl (i, j)) rfl rfl HNW.out (by simp [prl, Value.oneCell']) (by have := HLN.out; unfold maxLen; omega) (by have := HLN.out; omega) HSZ.out ?_; intro v2 w2 hown2 hg2 hn2 hat2))
            refine ⟨⟨j + 1, by omega, by omega, by go_num, ⟨?_, (HW.out.alloc _).out.grown hg2 HSZ.out (own_block_ge HA.out)⟩⟩, by simp [intOf]; omega⟩
            rw [prs_yes hq, List.length_append, prc_append]
            exact hown2
        · obtain rfl : j = n := by omega
          have HS := Lib.hid (HQ.out.to (prs_next R j i))
          go_wp2
          go_roundw
          case rel => exact ⟨i + 1, by omega, by go_num, HS.out⟩
          case measure => simp [intOf]; omega
    · obtain rfl : i = n := by omega
      go_wp2
      go_ret
      exact ⟨_, rfl, HP.out.own, HP.out.below⟩
end Go.Proofs.Ytnjaeampnakbbaa

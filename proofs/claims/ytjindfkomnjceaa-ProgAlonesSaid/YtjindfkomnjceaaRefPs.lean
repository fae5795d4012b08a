/- Contracts of the reference: PairsOf, of whatever relation. -/
import Derived.Test.YtjindfkomnjceaaPr
set_option linter.all false
set_option maxRecDepth 100000
namespace Go.Proofs.Ytjindfkomnjceaa
open Go Go.RowKit

set_option maxHeartbeats 8000000 in
theorem pairsOf_any (k : FuncId) (B : Nat) (n : Nat) (R : Nat → Nat → Bool) (w : World) (hn : n ≤ 80) (hE : ∀ args w, (callFunc k args).run Try.prog w = .ok (.enter k args) w) (hT : Tells w k (.pointer (some ⟨B, 0, none⟩)) n (fun _ _ => True) R) :
    Calls Try.prog 26 #[.int .i64 n, .func (.func k) #[] #[.pointer (some ⟨B, 0, none⟩)]] w (PrsPost w R n) := by
  have HT := Lib.hid hT
  have H0 := Lib.hid (PrsR.mk (World.ownsRow_nil _ _ _ _) (Bel.refl w) : PrsR w R n 0 0 (.slice none 0 0) w)
  obtain ⟨i0, hi0, hz0, hz1, hz2⟩ := info_parts pr_info
  have J := Lib.hid (And.intro hi0 (And.intro hz0 (And.intro hz1 hz2)))
  clear hi0 hz0 hz1 hz2 hT
  go_enter Try.func26, Try.ntmps26
  go_wp2
  go_loopw [5, 9] (fun v t9 wr => ∃ i : Nat, i ≤ n ∧ t9 = .int .i64 i ∧ PrsR w R n i 0 v wr) (fun _ t9 _ => n - (intOf t9).toNat)
  case atStart => exact ⟨0, by omega, rfl, H0.out⟩
  case round =>
    obtain ⟨i, hi, rfl, hr⟩ := hrel
    have HP := Lib.hid hr
    clear hr H0
    by_cases hlt : i < n
    · have hlt' : (i : Int) < n := by omega
      have H1 := Lib.hid HP.out
      go_wp2
      go_loopw [5, 13] (fun v t7 wr => ∃ j : Nat, j ≤ n ∧ t7 = .int .i64 j ∧ PrsR w R n i j v wr) (fun _ t7 _ => n - (intOf t7).toNat)
      case atStart => exact ⟨0, by omega, rfl, H1.out⟩
      case round =>
        obtain ⟨j, hj, rfl, hr⟩ := hrel
        have HQ := Lib.hid hr
        clear hr H1 HP
        by_cases hlj : j < n
        · have hlj' : (j : Int) < n := by omega
          go_wp2_with fail
          refine (HT.out i j _ hlt hlj trivial HQ.out.below).mono ?_
          rintro e w1 ⟨rfl, hb1⟩
          have HW := Lib.hid (HQ.out.below.call hb1)
          have HO := Lib.hid (own_bel HQ.out.own hb1)
          clear hb1
          cases hq : R i j
          · have HS := Lib.hid (PrsR.to ⟨HO.out, HW.out⟩ (prs_no hq))
            go_wp2
            go_roundw
            case rel => exact ⟨j + 1, by omega, by go_num, HS.out⟩
            case measure => simp [intOf]; omega
          · have HA := Lib.hid (own_alloc HO.out (.cells (prv (i, j)) 43))
            have HNW := Lib.hid (Box.news (l := prl (i, j)) (Box.new w1 (prv (i, j)) 43))
            have HSZ := Lib.hid (HW.out.alloc (.cells (prv (i, j)) 43)).size
            have hlen := prs_small (R := R) hn hi hj
            have HLN := Lib.hid hlen
            clear hlen
            go_wp2_with (first | (refine buildp 38 _ rfl rfl 43 i0 Try.underlying38 J.out.1 J.out.2.1 J.out.2.2.1 (i, j) rfl ?_) | (at_builtin; refine wpList_append_own_at _ rfl (.tmp 20) (.tmp 24) _ rfl w.heap.size 43 i0 _ 2 16 Try.underlying38 J.out.1 J.out.2.1 J.out.2.2.1 J.out.2.2.2 rfl (by omega) _ (prs R n i j).length _ rfl HA.out ⟨w1.heap.size, 0, none⟩ 1 1 (prl (i, j)) rfl rfl HNW.out (by simp [prl, Value.oneCell']) (by have := HLN.out; unfold maxLen; omega) (by have := HLN.out; omega) HSZ.out ?_; intro v2 w2 hown2 hg2 hn2 hat2))
            refine ⟨⟨j + 1, by omega, by go_num, ⟨?_, (HW.out.alloc _).out.grown hg2 HSZ.out (own_block_ge HA.out)⟩⟩, by simp [intOf]; omega⟩
            rw [prs_yes hq, List.length_append, prc_append]
            exact hown2
        · obtain rfl : j = n := by omega
          have HS := Lib.hid (HQ.out.to (prs_next R j i))
          go_wp2
          go_roundw
          case rel => exact ⟨i + 1, by omega, by go_num, HS.out⟩
          case measure => simp [intOf]; omega
    · obtain rfl : i = n := by omega
      go_wp2
      go_ret
      exact ⟨_, rfl, HP.out.own, HP.out.below⟩
end Go.Proofs.Ytjindfkomnjceaa

/- Contracts of the package ring: pairs. -/
import Derived.Test.YtjindfkomnjceaaRgG
import Derived.Test.YtjindfkomnjceaaRefPs
import Derived.Test.YtjindfkomnjceaaVs
set_option linter.all false
set_option maxRecDepth 100000
namespace Go.Proofs.Ytjindfkomnjceaa
open Go Go.RowKit

theorem row5_info : (Try.prog.info? 72).map (fun i => (i.zero, i.size, i.bytes)) = some (some (.agg #[.bool false, .bool false, .bool false, .bool false, .bool false]), 5, 5) := by kernel_rfl
theorem GBox.row {w : World} {G : Nat} {P : Nat → Nat → Bool} (h : GBox w G P) {a : Nat} (ha : a < 5) : w.rangeAt G (a * 5) (bsl 5 (P a)) := by
  have h1 := Box.part h (a * 5) 5 (by omega)
  have e : (bsl 5 fun k => gcl P (a * 5 + k)) = bsl 5 (P a) := by
    unfold bsl
    refine List.map_congr_left fun j hj => ?_
    show Value.bool (gcl P (a * 5 + j)) = _
    rw [gcl_at P (List.mem_range.1 hj)]
  rwa [e] at h1
set_option maxHeartbeats 8000000 in
theorem gpairs_any (G : Nat) (P : Nat → Nat → Bool) (w : World) (hg : GBox w G P) : Calls Try.prog 30 #[.pointer (some ⟨G, 0, none⟩)] w (PrsPost w P 5) := by
  have HG := Lib.hid hg
  have H0 := Lib.hid (PrsR.mk (World.ownsRow_nil _ _ _ _) (Bel.refl w) : PrsR w P 5 0 0 (.slice none 0 0) w)
  obtain ⟨i0, hi0, hz0, hz1, hz2⟩ := info_parts pr_info
  have J := Lib.hid (And.intro hi0 (And.intro hz0 (And.intro hz1 hz2)))
  obtain ⟨j0, hj0, gz0, gz1, gz2⟩ := info_parts row5_info
  have J5 := Lib.hid (And.intro hj0 gz0)
  clear hi0 hz0 hz1 hz2 hg hj0 gz0 gz1 gz2
  go_enter Try.func30, Try.ntmps30
  go_wp2
  go_loopw [3, 10] (fun v t9 wr => ∃ i : Nat, i ≤ 5 ∧ t9 = .int .i64 i ∧ PrsR w P 5 i 0 v wr) (fun _ t9 _ => 5 - (intOf t9).toNat)
  case atStart => exact ⟨0, by omega, rfl, H0.out⟩
  case round =>
    obtain ⟨i, hi, rfl, hr⟩ := hrel
    have HP := Lib.hid hr
    clear hr H0
    by_cases hlt : i < 5
    · have hlt' : (i : Int) < 5 := by omega
      have HGR := Lib.hid (HG.out.bel HP.out.below)
      go_wp2
      refine region_grow (by kernel_rfl) ?_
      have HROW := fun (w1 : World) (h1 : Below wr.heap.size wr w1) => (HGR.out.bel (Bel.of h1)).row hlt
      (repeat (first | ((first | refine wpG_go 0 (by simp only [List.getElem?_toArray, List.getElem?_cons_zero, List.getElem?_cons_succ] <;> rfl) (by decide +kernel) (by decide +kernel) (by kernel_rfl) (by rfl) (by exact fun _ _ _ _ h => h) (Nat.le_refl _) ?_ | refine wpG_go 1 (by simp only [List.getElem?_toArray, List.getElem?_cons_zero, List.getElem?_cons_succ] <;> rfl) (by decide +kernel) (by decide +kernel) (by kernel_rfl) (by rfl) (by exact fun _ _ _ _ h => h) (Nat.le_refl _) ?_ | refine wpG_go 2 (by simp only [List.getElem?_toArray, List.getElem?_cons_zero, List.getElem?_cons_succ] <;> rfl) (by decide +kernel) (by decide +kernel) (by kernel_rfl) (by rfl) (by exact fun _ _ _ _ h => h) (Nat.le_refl _) ?_ | refine wpG_go 3 (by simp only [List.getElem?_toArray, List.getElem?_cons_zero, List.getElem?_cons_succ] <;> rfl) (by decide +kernel) (by decide +kernel) (by kernel_rfl) (by rfl) (by exact fun _ _ _ _ h => h) (Nat.le_refl _) ?_); apply Exists.intro; refine ⟨fun w1 h1 => ?_, ?_⟩; (first | exact g_move _ rfl | exact g_assign _ rfl | exact g_load_mid _ _ rfl rfl (HROW w1 h1) TG5 (bs 5 (P i)) rfl | (go_simp; first | exact ⟨rfl, rfl⟩ | rfl)); simp only [Act.put, Act.eval, List.setIfInBounds_toArray, List.set_cons_zero, List.set_cons_succ, Array.getD_eq_getD_getElem?, List.getElem?_toArray, List.getElem?_cons_zero, List.getElem?_cons_succ, Option.getD_some]) | ((first | refine wpG_skip 0 (by simp only [List.getElem?_toArray, List.getElem?_cons_zero, List.getElem?_cons_succ] <;> rfl) (by decide +kernel) (by decide +kernel) (by kernel_rfl) (by rfl) (by exact fun _ _ _ _ h => h) (Nat.le_refl _) ?_ | refine wpG_skip 1 (by simp only [List.getElem?_toArray, List.getElem?_cons_zero, List.getElem?_cons_succ] <;> rfl) (by decide +kernel) (by decide +kernel) (by kernel_rfl) (by rfl) (by exact fun _ _ _ _ h => h) (Nat.le_refl _) ?_ | refine wpG_skip 2 (by simp only [List.getElem?_toArray, List.getElem?_cons_zero, List.getElem?_cons_succ] <;> rfl) (by decide +kernel) (by decide +kernel) (by kernel_rfl) (by rfl) (by exact fun _ _ _ _ h => h) (Nat.le_refl _) ?_ | refine wpG_skip 3 (by simp only [List.getElem?_toArray, List.getElem?_cons_zero, List.getElem?_cons_succ] <;> rfl) (by decide +kernel) (by decide +kernel) (by kernel_rfl) (by rfl) (by exact fun _ _ _ _ h => h) (Nat.le_refl _) ?_); simp only [Act.put, Act.eval, List.setIfInBounds_toArray, List.set_cons_zero, List.set_cons_succ, Array.getD_eq_getD_getElem?, List.getElem?_toArray, List.getElem?_cons_zero, List.getElem?_cons_succ, Option.getD_some])))
      (refine wpG_one 4 (by decide +kernel) ?_; intro w1 hw1; refine op_wanted (by simp only [List.getElem?_toArray, List.getElem?_cons_zero, List.getElem?_cons_succ] <;> rfl) rfl ?_)
      refine wp_new _ rfl j0 J5.out.1 _ J5.out.2 ⟨Below.alloc (Below.refl _ _) hw1.size _, ?_⟩
      simp only [Act.put, Act.eval, List.setIfInBounds_toArray, List.set_cons_zero, List.set_cons_succ, Array.getD_eq_getD_getElem?, List.getElem?_toArray, List.getElem?_cons_zero, List.getElem?_cons_succ, Option.getD_some]
      (repeat (first | ((first | refine wpG_go 5 (by simp only [List.getElem?_toArray, List.getElem?_cons_zero, List.getElem?_cons_succ] <;> rfl) (by decide +kernel) (by decide +kernel) (by kernel_rfl) (by rfl) (by exact fun _ _ _ _ h => h) (Nat.le_trans hw1.size (by simp)) ?_); apply Exists.intro; refine ⟨fun w1 h1 => ?_, ?_⟩; (first | exact g_move _ rfl | exact g_assign _ rfl | (go_simp; first | exact ⟨rfl, rfl⟩ | rfl)); simp only [Act.put, Act.eval, List.setIfInBounds_toArray, List.set_cons_zero, List.set_cons_succ, Array.getD_eq_getD_getElem?, List.getElem?_toArray, List.getElem?_cons_zero, List.getElem?_cons_succ, Option.getD_some]) | ((first | refine wpG_skip 5 (by simp only [List.getElem?_toArray, List.getElem?_cons_zero, List.getElem?_cons_succ] <;> rfl) (by decide +kernel) (by decide +kernel) (by kernel_rfl) (by rfl) (by exact fun _ _ _ _ h => h) (Nat.le_trans hw1.size (by simp)) ?_); simp only [Act.put, Act.eval, List.setIfInBounds_toArray, List.set_cons_zero, List.set_cons_succ, Array.getD_eq_getD_getElem?, List.getElem?_toArray, List.getElem?_cons_zero, List.getElem?_cons_succ, Option.getD_some])))
      (refine wpG_one 6 (by decide +kernel) ?_; intro w2 hw2; refine op_wanted (by simp only [List.getElem?_toArray, List.getElem?_cons_zero, List.getElem?_cons_succ] <;> rfl) rfl ?_)
      have hbx := hw2.box (Box.new w1 (bs 5 fun _ => false) 72)
      refine wp_storeB TG5 _ _ rfl rfl (bs_size 5 (P i)) rfl hbx (bs_size _ _) (bs_all _ _) ⟨below_setRow' (Below.refl _ _) _ _ hw1.size, ?_⟩
      simp only [Act.put, Act.eval, List.setIfInBounds_toArray, List.set_cons_zero, List.set_cons_succ, Array.getD_eq_getD_getElem?, List.getElem?_toArray, List.getElem?_cons_zero, List.getElem?_cons_succ, Option.getD_some]
      (refine wpG_done (by decide +kernel) ?_ _; intro w3 hw3; try simp only [Act.put, Act.eval, List.setIfInBounds_toArray, List.set_cons_zero, List.set_cons_succ, Array.getD_eq_getD_getElem?, List.getElem?_toArray, List.getElem?_cons_zero, List.getElem?_cons_succ, Option.getD_some])
      have HBW := Lib.hid ((Bel.of (below_setRow' (((Bel.of hw1).alloc (.cells (bs 5 fun _ => false) 72)).trans hw2).out w1.heap.size (bs 5 (P i)) hw1.size)).trans hw3)
      have HX := Lib.hid (hw3.box (hbx.setRow (bs 5 (P i))))
      have H1 := Lib.hid (PrsR.mk (own_bel HP.out.own HBW.out) (HP.out.below.trans HBW.out) : PrsR w P 5 i 0 u3 w3)
      have HI := Lib.hid (fun (k : Nat) (hk : k < 5) (w : World) => index_bs (P := Try.prog) Try.underlying72 Try.underlying4 (by kernel_rfl) (P i) k hk w)
      clear hw1 hw2 hw3 hbx HROW
      go_wp2_with (refine loadT TG5 _ rfl rfl rfl HX.out (bs_size _ _) ?_)
      go_loopw [3, 17] (fun v t7 wr => ∃ j : Nat, j ≤ 5 ∧ t7 = .int .i64 j ∧ PrsR w P 5 i j v wr) (fun _ t7 _ => 5 - (intOf t7).toNat)
      case atStart => exact ⟨0, by omega, rfl, H1.out⟩
      case round =>
        obtain ⟨j, hj, rfl, hr⟩ := hrel
        have HQ := Lib.hid hr
        clear hr H1 HP
        by_cases hlj : j < 5
        · have hlj' : (j : Int) < 5 := by omega
          have hI := HI.out j hlj
          cases hq : P i j
          · rw [hq] at hI
            have HS := Lib.hid (HQ.out.to (prs_no hq))
            go_wp2
            go_roundw
            case rel => exact ⟨j + 1, by omega, by go_num, HS.out⟩
            case measure => simp [intOf]; omega
          · rw [hq] at hI
            have HA := Lib.hid (own_alloc HQ.out.own (.cells (prv (i, j)) 43))
            have HNW := Lib.hid (Box.news (l := prl (i, j)) (Box.new wr (prv (i, j)) 43))
            have HSZ := Lib.hid (HQ.out.below.alloc (.cells (prv (i, j)) 43)).size
            have HLN := Lib.hid (prs_small (R := P) (n := 5) (i := i) (j := j) (by omega) hi hj)
            go_wp2_with (first | (refine buildp 38 _ rfl rfl 43 i0 Try.underlying38 J.out.1 J.out.2.1 J.out.2.2.1 (i, j) rfl ?_) | (at_builtin; refine wpList_append_own_at _ rfl (.tmp 22) (.tmp 26) _ rfl w.heap.size 43 i0 _ 2 16 Try.underlying38 J.out.1 J.out.2.1 J.out.2.2.1 J.out.2.2.2 rfl (by omega) _ (prs P 5 i j).length _ rfl HA.out ⟨wr.heap.size, 0, none⟩ 1 1 (prl (i, j)) rfl rfl HNW.out (by simp [prl, Value.oneCell']) (by have := HLN.out; unfold maxLen; omega) (by have := HLN.out; omega) HSZ.out ?_; intro v2 w2 hown2 hg2 hn2 hat2))
            refine ⟨⟨j + 1, by omega, by go_num, ⟨?_, (HQ.out.below.alloc _).out.grown hg2 HSZ.out (own_block_ge HA.out)⟩⟩, by simp [intOf]; omega⟩
            rw [prs_yes hq, List.length_append, prc_append]
            exact hown2
        · obtain rfl : j = 5 := by omega
          have HS := Lib.hid (HQ.out.to (prs_next P 5 i))
          go_wp2
          go_roundw
          case rel => exact ⟨i + 1, by omega, by go_num, HS.out⟩
          case measure => simp [intOf]; omega
    · obtain rfl : i = 5 := by omega
      go_wp2
      go_ret
      exact ⟨_, rfl, HP.out.own, HP.out.below⟩
end Go.Proofs.Ytjindfkomnjceaa

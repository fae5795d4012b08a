import Derived.Test.YtnklpifnknmdgaaGreatDoorZRfG
import Derived.Test.YtnklpifnknmdgaaGreatDoorZCp
set_option linter.all false
set_option maxRecDepth 100000
namespace Go.Proofs.YtnklpifnknmdgaaGreatDoor
open Go Go.RowKit

def CPost (base : Nat) (P : Nat → Nat → Bool) (f : Nat) (s : List Nat) (v : Value) (w : World) (e : Ending) (w' : World) : Prop :=
  w.grownBy w' v.ownBlock ∧ w'.ownsRow base 3 1 v s.length (intq (toI s)) ∧
    ((comp P f s = none ∧ e = .returned (.slice none 0 0)) ∨ ∃ r g c, comp P f s = some r ∧ e = .returned (.slice (some ⟨g, 0, none⟩) r.length c) ∧ w'.ownsRow base 3 1 (.slice (some ⟨g, 0, none⟩) r.length c) r.length (intq (toI r)))
def CompC (base G : Nat) (P : Nat → Nat → Bool) (f : Nat) : Prop := ∀ (s : List Nat) (v : Value) (w : World) (y : Int), y = (s.length + f : Nat) → s.length + f ≤ 5 → 0 < s.length + f → base ≤ w.heap.size → (∀ k ∈ s, k < 5) → GBox w G P →
    w.ownsRow base 3 1 v s.length (intq (toI s)) → Calls Tryz.prog 178 #[.pointer (some ⟨G, 0, none⟩), v, .int .i64 y] w (CPost base P f s v w)
theorem at0_lt {s : List Nat} (h5 : ∀ k ∈ s, k < 5) (i : Nat) : at0 s i < 5 := by
  unfold at0
  cases h : s[i]? with
  | none => simp
  | some k => exact h5 k (List.mem_of_getElem? h)
theorem all_succ {p : Nat → Prop} {k : Nat} (h : ∀ j, j < k → p j) (hk : p k) : ∀ j, j < k + 1 → p j := fun j hj => by
  rcases Nat.lt_succ_iff_lt_or_eq.1 hj with hj | rfl
  · exact h j hj
  · exact hk
theorem bel_grown {w w' : World} (h : Bel w w') (row : Option Nat) : w.grownBy w' row := ⟨h.out.os, h.out.tape, h.out.output, h.size, fun k hk _ => h.out.block k hk⟩
theorem CPost.no {base f : Nat} {P : Nat → Nat → Bool} {s : List Nat} {v : Value} {w w' : World} {e : Ending} (h : CPost base P f s v w e w') (hc : comp P f s = none) :
    w.grownBy w' v.ownBlock ∧ w'.ownsRow base 3 1 v s.length (intq (toI s)) ∧ e = .returned (.slice none 0 0) := by
  obtain ⟨h1, h2, ⟨_, h3⟩ | ⟨r, g, c, h3, _⟩⟩ := h
  · exact ⟨h1, h2, h3⟩
  · rw [hc] at h3; cases h3
theorem CPost.yes {base f : Nat} {P : Nat → Nat → Bool} {s r : List Nat} {v : Value} {w w' : World} {e : Ending} (h : CPost base P f s v w e w') (hc : comp P f s = some r) :
    w.grownBy w' v.ownBlock ∧ w'.ownsRow base 3 1 v s.length (intq (toI s)) ∧ ∃ g c, e = .returned (.slice (some ⟨g, 0, none⟩) r.length c) ∧ w'.ownsRow base 3 1 (.slice (some ⟨g, 0, none⟩) r.length c) r.length (intq (toI r)) := by
  obtain ⟨h1, h2, ⟨h3, _⟩ | ⟨r', g, c, h3, h4, h5⟩⟩ := h
  · rw [hc] at h3; cases h3
  · rw [hc] at h3
    cases h3
    exact ⟨h1, h2, g, c, h4, h5⟩
theorem own_row_ne {w : World} {base : Nat} {e : TypeId} {size n : Nat} {v : Value} {xs : List Value} (h : w.ownsRow base e size v n xs) {G : Nat} (hG : G < base) : some G ≠ v.ownBlock := fun e => by
  have := (h.lt G e.symm).1
  omega
set_option maxHeartbeats 8000000 in
theorem comp_zero (base G : Nat) (P : Nat → Nat → Bool) : CompC base G P 0 := by
  intro s v w y hy h5 hp hb hk hg ho
  have hs : s ≠ [] := fun e => by subst e; simp at hp
  obtain ⟨g, c, rfl, hbg, hnc, hcm, hcell⟩ := own_at ho hs
  have c0 := hcell 0 (by omega)
  have cl := hcell (s.length - 1) (by omega)
  have ha : lst s < 5 := at0_lt hk _
  have hz : at0 s 0 < 5 := at0_lt hk _
  have gc := hg.cell ha hz
  have hL : (if P (lst s) (at0 s 0) then some s else none) = comp P 0 s := rfl
  have HO := Lib.hid ho
  have HC := Lib.hid hL
  change w.cell? ⟨g, s.length - 1, none⟩ = some (.int .i64 (lst s : Nat)) at cl
  generalize lst s = a at *
  generalize at0 s 0 = b at *
  generalize hn : s.length = n at *
  have HN := Lib.hid hn
  have HY := Lib.hid hy
  obtain rfl : y = (n : Int) := by simpa using hy
  have HF := Lib.hid (And.intro (fun (w' : World) (h : Bel w w') => h.cell c0) (And.intro (fun (w' : World) (h : Bel w w') => h.cell cl) (fun (w' : World) (h : Bel w w') => h.cell gc)))
  have hw1 : IntKind.i64.wrap ((n : Int) - 1) = ((n - 1 : Nat) : Int) := by rw [show ((n - 1 : Nat) : Int) = (n : Int) - 1 by omega]; exact IntWalk.i64_in _ (by omega)
  have hn1 : ((n - 1 : Nat) : Int) < n := by omega
  have hn2 : 0 < n := by omega
  have hn3 : (n : Int) ≤ c := by omega
  have hz' : (b : Int) < 5 := by omega
  have ha' : (a : Int) < 5 := by omega
  clear hcell ho hL hn hk hy c0 cl gc
  cases hP : P a b
  · have HR := Lib.hid (show comp P 0 s = none by rw [← HC.out, hP]; rfl)
    go_enter Tryz.func178, Tryz.ntmps178
    go_wp2
    (refine region_bel (by kernel_rfl) (by kernel_rfl) ?_; (repeat (first | ((with_reducible refine BigFrame.wpQuiet_skip ?_ ?_); exact rfl; simp only [Act.put, Act.eval, List.setIfInBounds_toArray, List.set_cons_zero, List.set_cons_succ, Array.getD_eq_getD_getElem?, List.getElem?_toArray, List.getElem?_cons_zero, List.getElem?_cons_succ, Option.getD_some]) | (refine q_move _ rfl rfl ?_; simp only [Act.put, Act.eval, List.setIfInBounds_toArray, List.set_cons_zero, List.set_cons_succ, Array.getD_eq_getD_getElem?, List.getElem?_toArray, List.getElem?_cons_zero, List.getElem?_cons_succ, Option.getD_some]) | (refine q_assign _ rfl rfl ?_; simp only [Act.put, Act.eval, List.setIfInBounds_toArray, List.set_cons_zero, List.set_cons_succ, Array.getD_eq_getD_getElem?, List.getElem?_toArray, List.getElem?_cons_zero, List.getElem?_cons_succ, Option.getD_some]) | (refine q_any rfl ?_; apply Exists.intro; refine ⟨fun w hw => ?_, ?_⟩; (have fct0 := HF.out.1 w hw; have fct1 := HF.out.2.1 w hw; have fct2 := HF.out.2.2 w hw; go_simp; first | exact ⟨rfl, rfl⟩ | rfl); simp only [Act.put, Act.eval, List.setIfInBounds_toArray, List.set_cons_zero, List.set_cons_succ, Array.getD_eq_getD_getElem?, List.getElem?_toArray, List.getElem?_cons_zero, List.getElem?_cons_succ, Option.getD_some]))); refine wpQuiet_nil ?_; intro w2 hw2)
    go_wp2
    go_ret
    exact ⟨bel_grown hw2 _, by rw [HN.out]; exact own_bel HO.out hw2, .inl ⟨HR.out, rfl⟩⟩
  · have HR := Lib.hid (show comp P 0 s = some s by rw [← HC.out, hP]; rfl)
    go_enter Tryz.func178, Tryz.ntmps178
    go_wp2
    (refine region_bel (by kernel_rfl) (by kernel_rfl) ?_; (repeat (first | ((with_reducible refine BigFrame.wpQuiet_skip ?_ ?_); exact rfl; simp only [Act.put, Act.eval, List.setIfInBounds_toArray, List.set_cons_zero, List.set_cons_succ, Array.getD_eq_getD_getElem?, List.getElem?_toArray, List.getElem?_cons_zero, List.getElem?_cons_succ, Option.getD_some]) | (refine q_move _ rfl rfl ?_; simp only [Act.put, Act.eval, List.setIfInBounds_toArray, List.set_cons_zero, List.set_cons_succ, Array.getD_eq_getD_getElem?, List.getElem?_toArray, List.getElem?_cons_zero, List.getElem?_cons_succ, Option.getD_some]) | (refine q_assign _ rfl rfl ?_; simp only [Act.put, Act.eval, List.setIfInBounds_toArray, List.set_cons_zero, List.set_cons_succ, Array.getD_eq_getD_getElem?, List.getElem?_toArray, List.getElem?_cons_zero, List.getElem?_cons_succ, Option.getD_some]) | (refine q_any rfl ?_; apply Exists.intro; refine ⟨fun w hw => ?_, ?_⟩; (have fct0 := HF.out.1 w hw; have fct1 := HF.out.2.1 w hw; have fct2 := HF.out.2.2 w hw; go_simp; first | exact ⟨rfl, rfl⟩ | rfl); simp only [Act.put, Act.eval, List.setIfInBounds_toArray, List.set_cons_zero, List.set_cons_succ, Array.getD_eq_getD_getElem?, List.getElem?_toArray, List.getElem?_cons_zero, List.getElem?_cons_succ, Option.getD_some]))); refine wpQuiet_nil ?_; intro w2 hw2)
    go_wp2
    go_ret
    have ho2 := own_bel HO.out hw2
    exact ⟨bel_grown hw2 _, by rw [HN.out]; exact ho2, .inr ⟨s, g, c, HR.out, by rw [HN.out]; rfl, by rw [HN.out]; exact ho2⟩⟩
set_option maxHeartbeats 16000000 in
theorem comp_next (base G : Nat) (hG : G < base) (P : Nat → Nat → Bool) (f : Nat) (ih : CompC base G P f) : CompC base G P (f + 1) := by
  intro s v w y hy h5 hp hb hk hg ho
  obtain ⟨A, c, hv⟩ := own_formI ho
  obtain ⟨i0, hi0, hz0, hz1, hz2⟩ := info_parts qint_info
  have HI := Lib.hid (And.intro hi0 (And.intro hz0 (And.intro hz1 hz2)))
  have IH := Lib.hid ih
  have HG := Lib.hid hg
  have HO := Lib.hid ho
  have HK := Lib.hid hk
  have HB := Lib.hid hb
  have HP := Lib.hid hp
  have hne : ¬ (s.length : Int) = y := by omega
  have hne' : ((s.length : Int) == y) = false := by simpa using hne
  have H5 := Lib.hid h5
  have HY := Lib.hid hy
  generalize hn : s.length = n at *
  have HN := Lib.hid hn
  have HV := Lib.hid hv
  clear ih hg ho hk hb hy hn hi0 hz0 hz1 hz2 h5 hp
  subst hv
  go_enter Tryz.func178, Tryz.ntmps178
  go_wp2
  go_loopw [27] (fun t wr => ∃ k : Nat, k ≤ 5 ∧ t = .int .i64 k ∧ (∀ j, j < k → cand P f s j = none) ∧ w.grownBy wr (Value.slice A n c).ownBlock ∧ wr.ownsRow base 3 1 (.slice A n c) n (intq (toI s))) (fun t _ => 5 - (intOf t).toNat)
  case atStart => exact ⟨0, by omega, rfl, fun j h => by omega, World.grownBy.refl w _, HO.out⟩
  case round =>
    obtain ⟨k, hk, rfl, hd, hgr, hor⟩ := hrel
    have HD := Lib.hid hd
    have HGR := Lib.hid hgr
    have HOR := Lib.hid hor
    have HGB := Lib.hid (HG.out.grown hgr (own_row_ne hor hG))
    clear hd hgr hor
    by_cases hlt : k < 5
    · have hlt' : (k : Int) < 5 := by omega
      have HC := Lib.hid (show cand P f s k = if goes P s k then comp P f (s ++ [k]) else none from rfl)
      cases hgo : goes P s k
      · have hs : s ≠ [] ∧ P (lst s) k = false := by
          unfold goes at hgo; simpa using hgo
        obtain ⟨g, c', hve, hbg, hnc, hcm, hcell⟩ := own_at HOR.out hs.1
        cases hve
        have hnp : 0 < n := by rw [← HN.out]; exact List.length_pos_iff.2 hs.1
        have cl := hcell (s.length - 1) (by rw [HN.out]; omega)
        change wr.cell? ⟨g, s.length - 1, none⟩ = some (.int .i64 (lst s : Nat)) at cl
        have ha : lst s < 5 := at0_lt HK.out _
        have gc := HGB.out.cell ha hlt
        rw [hs.2] at gc
        rw [HN.out] at cl
        have HL5 := Lib.hid ha
        generalize lst s = a at *
        have HF := Lib.hid (And.intro (fun (w' : World) (h : Bel wr w') => h.cell cl) (fun (w' : World) (h : Bel wr w') => h.cell gc))
        have hw1 : IntKind.i64.wrap ((n : Int) - 1) = ((n - 1 : Nat) : Int) := by rw [show ((n - 1 : Nat) : Int) = (n : Int) - 1 by omega]; exact IntWalk.i64_in _ (by have := H5.out; omega)
        have hn1 : ((n - 1 : Nat) : Int) < n := by omega
        have hn3 : (n : Int) ≤ c := by omega
        have ha' : (a : Int) < 5 := by omega
        clear hcell cl gc
        have HSK := Lib.hid (show cand P f s k = none by rw [HC.out, if_neg (by rw [hgo]; simp)])
        clear hgo
        go_wp2
        (refine region_bel (by kernel_rfl) (by kernel_rfl) ?_; (repeat (first | ((with_reducible refine BigFrame.wpQuiet_skip ?_ ?_); exact rfl; simp only [Act.put, Act.eval, List.setIfInBounds_toArray, List.set_cons_zero, List.set_cons_succ, Array.getD_eq_getD_getElem?, List.getElem?_toArray, List.getElem?_cons_zero, List.getElem?_cons_succ, Option.getD_some]) | (refine q_move _ rfl rfl ?_; simp only [Act.put, Act.eval, List.setIfInBounds_toArray, List.set_cons_zero, List.set_cons_succ, Array.getD_eq_getD_getElem?, List.getElem?_toArray, List.getElem?_cons_zero, List.getElem?_cons_succ, Option.getD_some]) | (refine q_assign _ rfl rfl ?_; simp only [Act.put, Act.eval, List.setIfInBounds_toArray, List.set_cons_zero, List.set_cons_succ, Array.getD_eq_getD_getElem?, List.getElem?_toArray, List.getElem?_cons_zero, List.getElem?_cons_succ, Option.getD_some]) | (refine q_any rfl ?_; apply Exists.intro; refine ⟨fun w hw => ?_, ?_⟩; (have fct0 := HF.out.1 w hw; have fct1 := HF.out.2 w hw; go_simp; first | exact ⟨rfl, rfl⟩ | rfl); simp only [Act.put, Act.eval, List.setIfInBounds_toArray, List.set_cons_zero, List.set_cons_succ, Array.getD_eq_getD_getElem?, List.getElem?_toArray, List.getElem?_cons_zero, List.getElem?_cons_succ, Option.getD_some]))); refine wpQuiet_nil ?_; intro w2 hw2)
        have HW2 := Lib.hid hw2
        clear hw2
        go_wp2
        go_roundw
        case rel => exact ⟨k + 1, by omega, by go_num, all_succ HD.out HSK.out, HGR.out.trans (bel_grown HW2.out _), own_bel HOR.out HW2.out⟩
        case measure => simp [intOf]; omega
      · cases hse : s.isEmpty
        · have hs : s ≠ [] ∧ P (lst s) k = true := by
            have h9 := hgo; unfold goes at h9; rw [hse] at h9; exact ⟨(fun e => by subst e; cases hse), by simpa using h9⟩
          obtain ⟨g, c', hve, hbg, hnc, hcm, hcell⟩ := own_at HOR.out hs.1
          cases hve
          have hnp : 0 < n := by rw [← HN.out]; exact List.length_pos_iff.2 hs.1
          have cl := hcell (s.length - 1) (by rw [HN.out]; omega)
          change wr.cell? ⟨g, s.length - 1, none⟩ = some (.int .i64 (lst s : Nat)) at cl
          have ha : lst s < 5 := at0_lt HK.out _
          have gc := HGB.out.cell ha hlt
          rw [hs.2] at gc
          rw [HN.out] at cl
          have HL5 := Lib.hid ha
          generalize lst s = a at *
          have HF := Lib.hid (And.intro (fun (w' : World) (h : Bel wr w') => h.cell cl) (fun (w' : World) (h : Bel wr w') => h.cell gc))
          have hw1 : IntKind.i64.wrap ((n : Int) - 1) = ((n - 1 : Nat) : Int) := by rw [show ((n - 1 : Nat) : Int) = (n : Int) - 1 by omega]; exact IntWalk.i64_in _ (by have := H5.out; omega)
          have hn1 : ((n - 1 : Nat) : Int) < n := by omega
          have hn3 : (n : Int) ≤ c := by omega
          have ha' : (a : Int) < 5 := by omega
          clear hcell cl gc
          clear hs hse
          go_wp2
          (refine region_bel (by kernel_rfl) (by kernel_rfl) ?_; (repeat (first | ((with_reducible refine BigFrame.wpQuiet_skip ?_ ?_); exact rfl; simp only [Act.put, Act.eval, List.setIfInBounds_toArray, List.set_cons_zero, List.set_cons_succ, Array.getD_eq_getD_getElem?, List.getElem?_toArray, List.getElem?_cons_zero, List.getElem?_cons_succ, Option.getD_some]) | (refine q_move _ rfl rfl ?_; simp only [Act.put, Act.eval, List.setIfInBounds_toArray, List.set_cons_zero, List.set_cons_succ, Array.getD_eq_getD_getElem?, List.getElem?_toArray, List.getElem?_cons_zero, List.getElem?_cons_succ, Option.getD_some]) | (refine q_assign _ rfl rfl ?_; simp only [Act.put, Act.eval, List.setIfInBounds_toArray, List.set_cons_zero, List.set_cons_succ, Array.getD_eq_getD_getElem?, List.getElem?_toArray, List.getElem?_cons_zero, List.getElem?_cons_succ, Option.getD_some]) | (refine q_any rfl ?_; apply Exists.intro; refine ⟨fun w hw => ?_, ?_⟩; (have fct0 := HF.out.1 w hw; have fct1 := HF.out.2 w hw; go_simp; first | exact ⟨rfl, rfl⟩ | rfl); simp only [Act.put, Act.eval, List.setIfInBounds_toArray, List.set_cons_zero, List.set_cons_succ, Array.getD_eq_getD_getElem?, List.getElem?_toArray, List.getElem?_cons_zero, List.getElem?_cons_succ, Option.getD_some]))); refine wpQuiet_nil ?_; intro w2 hw2)
          clear HF hw1 hn1 hn3 ha'
          have HW2 := Lib.hid hw2
          have HO2 := Lib.hid (own_bel HOR.out hw2)
          have HOA := Lib.hid (HO2.out.alloc (.cells #[.int .i64 k] 3))
          have HBX := Lib.hid (Box.new w2 #[Value.int .i64 k] 3)
          have HGA := Lib.hid ((HGR.out.trans (bel_grown hw2 _)).trans (World.grownBy_alloc w2 (.cells #[.int .i64 k] 3) _))
          have HGX := Lib.hid ((HG.out.grown HGA.out (own_row_ne HO.out hG)))
          clear hw2
          have HSZ := Lib.hid (show base ≤ (w2.alloc (.cells #[Value.int .i64 k] 3)).heap.size from Nat.le_trans HB.out HGA.out.size)
          have HST := Lib.hid (show comp P f (s ++ [k]) = cand P f s k by rw [HC.out, if_pos hgo])
          have HK3 := Lib.hid (show ∀ j ∈ s ++ [k], j < 5 from fun j hj => by
            rcases List.mem_append.1 hj with hj | hj
            · exact HK.out j hj
            · rw [List.mem_singleton.1 hj]; exact hlt)
          have HE3 := Lib.hid (show ∀ (w : World) (v : Value), w.ownsRow base 3 1 v (s ++ [k]).length (intq (toI (s ++ [k]))) ↔ w.ownsRow base 3 1 v (n + 1) (intq (toI s) ++ [.int .i64 k]) by
            intro w v; rw [toI_app, List.length_append, List.length_singleton, HN.out])
          have HL3 := Lib.hid (show (s ++ [k]).length = n + 1 by rw [List.length_append, List.length_singleton, HN.out])
          clear hgo
          cases hcp : comp P f (s ++ [k]) with
          | none =>
            have HCP := Lib.hid hcp
            clear hcp
            go_wp2_with (first | (refine buildI 52 (.tmp 50) rfl rfl 3 i0 Tryz.underlying52 HI.out.1 HI.out.2.1 HI.out.2.2.1 (k : Int) rfl ?_) | (at_builtin; refine wpList_append_both rfl (.tmp 49) (.tmp 51) _ rfl base 3 i0 _ 1 8 Tryz.underlying52 HI.out.1 HI.out.2.1 HI.out.2.2.1 HI.out.2.2.2 rfl (by omega) _ n (intq (toI s)) rfl HOA.out ⟨w2.heap.size, 0, none⟩ 1 1 (by omega) [.int .i64 k] rfl rfl HBX.out.news (by intro u hu; obtain rfl := List.mem_singleton.1 hu; rfl) (by have := H5.out; unfold maxLen; omega) (by have := H5.out; omega) HSZ.out ?_; intro v3 w3 hu3; have HU := Lib.hid hu3; have HCAL := Lib.hid (IH.out (s ++ [k]) v3 w3 y (by have := HY.out; have := HL3.out; omega) (by have := H5.out; have := HL3.out; omega) (by have := HL3.out; omega) (Nat.le_trans HSZ.out hu3.1.size) HK3.out (HGX.out.grown hu3.1 (own_row_ne HOA.out hG)) ((HE3.out _ _).2 hu3.2.1)); clear hu3) | (go_at_call 178; (with_reducible refine HCAL.out.mono ?_); rintro e4 w4 hpost; obtain ⟨p1, p2, rfl⟩ := hpost.no HCP.out; have HF := Lib.hid (HU.out.2.2 w4 p1 ((HE3.out _ _).1 p2)); clear hpost p1 p2))
            go_roundw
            case rel => exact ⟨k + 1, by omega, by go_num, all_succ HD.out (HST.out ▸ HCP.out), HGA.out.trans HF.out.1, HF.out.2⟩
            case measure => simp [intOf]; omega
          | some r =>
            have HCP := Lib.hid hcp
            have HR := Lib.hid (comp_hit hlt HD.out (HST.out ▸ hcp))
            clear hcp
            go_wp2_with (first | (refine buildI 52 (.tmp 50) rfl rfl 3 i0 Tryz.underlying52 HI.out.1 HI.out.2.1 HI.out.2.2.1 (k : Int) rfl ?_) | (at_builtin; refine wpList_append_both rfl (.tmp 49) (.tmp 51) _ rfl base 3 i0 _ 1 8 Tryz.underlying52 HI.out.1 HI.out.2.1 HI.out.2.2.1 HI.out.2.2.2 rfl (by omega) _ n (intq (toI s)) rfl HOA.out ⟨w2.heap.size, 0, none⟩ 1 1 (by omega) [.int .i64 k] rfl rfl HBX.out.news (by intro u hu; obtain rfl := List.mem_singleton.1 hu; rfl) (by have := H5.out; unfold maxLen; omega) (by have := H5.out; omega) HSZ.out ?_; intro v3 w3 hu3; have HU := Lib.hid hu3; have HCAL := Lib.hid (IH.out (s ++ [k]) v3 w3 y (by have := HY.out; have := HL3.out; omega) (by have := H5.out; have := HL3.out; omega) (by have := HL3.out; omega) (Nat.le_trans HSZ.out hu3.1.size) HK3.out (HGX.out.grown hu3.1 (own_row_ne HOA.out hG)) ((HE3.out _ _).2 hu3.2.1)); clear hu3) | (go_at_call 178; (with_reducible refine HCAL.out.mono ?_); rintro e4 w4 hpost; obtain ⟨p1, p2, g4, c4, rfl, p3⟩ := hpost.yes HCP.out; have HF := Lib.hid (HU.out.2.2 w4 p1 ((HE3.out _ _).1 p2)); have HX := Lib.hid p3; clear hpost p1 p2 p3))
            go_ret
            exact ⟨HGA.out.trans HF.out.1, by rw [HN.out]; exact HF.out.2, .inr ⟨r, g4, c4, HR.out, rfl, HX.out⟩⟩
        · have hn0 : n = 0 := by rw [← HN.out, List.isEmpty_iff.1 hse]; rfl
          have hn1 : ¬ 0 < n := by omega
          have hn2 : ¬ (0 : Int) < n := by omega
          clear hn0 hse
          go_wp2
          (refine region_bel (by kernel_rfl) (by kernel_rfl) ?_; (repeat (first | ((with_reducible refine BigFrame.wpQuiet_skip ?_ ?_); exact rfl; simp only [Act.put, Act.eval, List.setIfInBounds_toArray, List.set_cons_zero, List.set_cons_succ, Array.getD_eq_getD_getElem?, List.getElem?_toArray, List.getElem?_cons_zero, List.getElem?_cons_succ, Option.getD_some]) | (refine q_move _ rfl rfl ?_; simp only [Act.put, Act.eval, List.setIfInBounds_toArray, List.set_cons_zero, List.set_cons_succ, Array.getD_eq_getD_getElem?, List.getElem?_toArray, List.getElem?_cons_zero, List.getElem?_cons_succ, Option.getD_some]) | (refine q_assign _ rfl rfl ?_; simp only [Act.put, Act.eval, List.setIfInBounds_toArray, List.set_cons_zero, List.set_cons_succ, Array.getD_eq_getD_getElem?, List.getElem?_toArray, List.getElem?_cons_zero, List.getElem?_cons_succ, Option.getD_some]) | (refine q_any rfl ?_; apply Exists.intro; refine ⟨fun w hw => ?_, ?_⟩; (go_simp; first | exact ⟨rfl, rfl⟩ | rfl); simp only [Act.put, Act.eval, List.setIfInBounds_toArray, List.set_cons_zero, List.set_cons_succ, Array.getD_eq_getD_getElem?, List.getElem?_toArray, List.getElem?_cons_zero, List.getElem?_cons_succ, Option.getD_some]))); refine wpQuiet_nil ?_; intro w2 hw2)
          have HW2 := Lib.hid hw2
          have HO2 := Lib.hid (own_bel HOR.out hw2)
          have HOA := Lib.hid (HO2.out.alloc (.cells #[.int .i64 k] 3))
          have HBX := Lib.hid (Box.new w2 #[Value.int .i64 k] 3)
          have HGA := Lib.hid ((HGR.out.trans (bel_grown hw2 _)).trans (World.grownBy_alloc w2 (.cells #[.int .i64 k] 3) _))
          have HGX := Lib.hid ((HG.out.grown HGA.out (own_row_ne HO.out hG)))
          clear hw2
          have HSZ := Lib.hid (show base ≤ (w2.alloc (.cells #[Value.int .i64 k] 3)).heap.size from Nat.le_trans HB.out HGA.out.size)
          have HST := Lib.hid (show comp P f (s ++ [k]) = cand P f s k by rw [HC.out, if_pos hgo])
          have HK3 := Lib.hid (show ∀ j ∈ s ++ [k], j < 5 from fun j hj => by
            rcases List.mem_append.1 hj with hj | hj
            · exact HK.out j hj
            · rw [List.mem_singleton.1 hj]; exact hlt)
          have HE3 := Lib.hid (show ∀ (w : World) (v : Value), w.ownsRow base 3 1 v (s ++ [k]).length (intq (toI (s ++ [k]))) ↔ w.ownsRow base 3 1 v (n + 1) (intq (toI s) ++ [.int .i64 k]) by
            intro w v; rw [toI_app, List.length_append, List.length_singleton, HN.out])
          have HL3 := Lib.hid (show (s ++ [k]).length = n + 1 by rw [List.length_append, List.length_singleton, HN.out])
          clear hgo
          cases hcp : comp P f (s ++ [k]) with
          | none =>
            have HCP := Lib.hid hcp
            clear hcp
            go_wp2_with (first | (refine buildI 52 (.tmp 50) rfl rfl 3 i0 Tryz.underlying52 HI.out.1 HI.out.2.1 HI.out.2.2.1 (k : Int) rfl ?_) | (at_builtin; refine wpList_append_both rfl (.tmp 49) (.tmp 51) _ rfl base 3 i0 _ 1 8 Tryz.underlying52 HI.out.1 HI.out.2.1 HI.out.2.2.1 HI.out.2.2.2 rfl (by omega) _ n (intq (toI s)) rfl HOA.out ⟨w2.heap.size, 0, none⟩ 1 1 (by omega) [.int .i64 k] rfl rfl HBX.out.news (by intro u hu; obtain rfl := List.mem_singleton.1 hu; rfl) (by have := H5.out; unfold maxLen; omega) (by have := H5.out; omega) HSZ.out ?_; intro v3 w3 hu3; have HU := Lib.hid hu3; have HCAL := Lib.hid (IH.out (s ++ [k]) v3 w3 y (by have := HY.out; have := HL3.out; omega) (by have := H5.out; have := HL3.out; omega) (by have := HL3.out; omega) (Nat.le_trans HSZ.out hu3.1.size) HK3.out (HGX.out.grown hu3.1 (own_row_ne HOA.out hG)) ((HE3.out _ _).2 hu3.2.1)); clear hu3) | (go_at_call 178; (with_reducible refine HCAL.out.mono ?_); rintro e4 w4 hpost; obtain ⟨p1, p2, rfl⟩ := hpost.no HCP.out; have HF := Lib.hid (HU.out.2.2 w4 p1 ((HE3.out _ _).1 p2)); clear hpost p1 p2))
            go_roundw
            case rel => exact ⟨k + 1, by omega, by go_num, all_succ HD.out (HST.out ▸ HCP.out), HGA.out.trans HF.out.1, HF.out.2⟩
            case measure => simp [intOf]; omega
          | some r =>
            have HCP := Lib.hid hcp
            have HR := Lib.hid (comp_hit hlt HD.out (HST.out ▸ hcp))
            clear hcp
            go_wp2_with (first | (refine buildI 52 (.tmp 50) rfl rfl 3 i0 Tryz.underlying52 HI.out.1 HI.out.2.1 HI.out.2.2.1 (k : Int) rfl ?_) | (at_builtin; refine wpList_append_both rfl (.tmp 49) (.tmp 51) _ rfl base 3 i0 _ 1 8 Tryz.underlying52 HI.out.1 HI.out.2.1 HI.out.2.2.1 HI.out.2.2.2 rfl (by omega) _ n (intq (toI s)) rfl HOA.out ⟨w2.heap.size, 0, none⟩ 1 1 (by omega) [.int .i64 k] rfl rfl HBX.out.news (by intro u hu; obtain rfl := List.mem_singleton.1 hu; rfl) (by have := H5.out; unfold maxLen; omega) (by have := H5.out; omega) HSZ.out ?_; intro v3 w3 hu3; have HU := Lib.hid hu3; have HCAL := Lib.hid (IH.out (s ++ [k]) v3 w3 y (by have := HY.out; have := HL3.out; omega) (by have := H5.out; have := HL3.out; omega) (by have := HL3.out; omega) (Nat.le_trans HSZ.out hu3.1.size) HK3.out (HGX.out.grown hu3.1 (own_row_ne HOA.out hG)) ((HE3.out _ _).2 hu3.2.1)); clear hu3) | (go_at_call 178; (with_reducible refine HCAL.out.mono ?_); rintro e4 w4 hpost; obtain ⟨p1, p2, g4, c4, rfl, p3⟩ := hpost.yes HCP.out; have HF := Lib.hid (HU.out.2.2 w4 p1 ((HE3.out _ _).1 p2)); have HX := Lib.hid p3; clear hpost p1 p2 p3))
            go_ret
            exact ⟨HGA.out.trans HF.out.1, by rw [HN.out]; exact HF.out.2, .inr ⟨r, g4, c4, HR.out, rfl, HX.out⟩⟩
    · obtain rfl : k = 5 := by omega
      have HR := Lib.hid (comp_miss HD.out)
      go_wp2
      go_ret
      exact ⟨HGR.out, by rw [HN.out]; exact HOR.out, .inl ⟨HR.out, rfl⟩⟩
end Go.Proofs.YtnklpifnknmdgaaGreatDoor
set_option linter.all false
set_option maxRecDepth 100000
namespace Go.Proofs.YtnklpifnknmdgaaGreatDoor
open Go Go.RowKit

theorem complete_any (base G : Nat) (hG : G < base) (P : Nat → Nat → Bool) : ∀ f, CompC base G P f
  | 0 => comp_zero base G P
  | f + 1 => comp_next base G hG P f (complete_any base G hG P f)
def CyPost (P : Nat → Nat → Bool) (w : World) (e : Ending) (w' : World) : Prop :=
  ∃ r A c, e = .returned (.slice A r.length c) ∧ RingOk P r ∧ w'.ownsRow w.heap.size 3 1 (.slice A r.length c) r.length (intq (toI r)) ∧ Below w.heap.size w w'
theorem grown_bel {w w' : World} (h : w.grownBy w' none) : Bel w w' := Bel.of ((Below.refl _ w).grown h (Nat.le_refl _) fun k hk => by cases hk)
set_option maxHeartbeats 8000000 in
theorem cycle_any (G : Nat) (P : Nat → Nat → Bool) (w : World) (hg : GBox w G P) (h5 : Five P) : Calls Tryz.prog 146 #[.pointer (some ⟨G, 0, none⟩)] w (CyPost P w) := by
  have HG := Lib.hid hg
  have HLT := Lib.hid (show G < w.heap.size from Box.lt hg)
  have H5 := Lib.hid h5
  clear hg h5
  go_enter Tryz.func146, Tryz.ntmps146
  go_wp2
  go_loopw [3] (fun t wr => ∃ n : Nat, n ≤ 5 ∧ t = .int .i64 ((n : Int) + 1) ∧ (∀ j, j < n → comp P (j + 1) [] = none) ∧ w.grownBy wr none) (fun t _ => 6 - (intOf t).toNat)
  case atStart => exact ⟨0, by omega, rfl, fun j h => by omega, World.grownBy.refl _ _⟩
  case round =>
    obtain ⟨n, hn, rfl, hd, hgr⟩ := hrel
    have HD := Lib.hid hd
    have HGR := Lib.hid hgr
    clear hd hgr
    by_cases hlt : n < 5
    · have hlt' : (n : Int) + 1 ≤ 5 := by omega
      have HC := Lib.hid (complete_any w.heap.size G HLT.out P (n + 1) [] (.slice none 0 0) wr ((n : Int) + 1) (by simp) (by simp; omega) (by simp) HGR.out.size (fun k hk => by cases hk) (HG.out.bel (grown_bel HGR.out)) (World.ownsRow_nil _ _ _ _))
      cases hcp : comp P (n + 1) [] with
      | none =>
        have HCP := Lib.hid hcp
        clear hcp
        go_wp2_with (go_at_call 178; (with_reducible refine HC.out.mono ?_); rintro e4 w4 hpost; obtain ⟨p1, p2, rfl⟩ := hpost.no HCP.out; have HF := Lib.hid p1; clear hpost p1 p2)
        go_roundw
        case rel => exact ⟨n + 1, by omega, by go_num, all_succ HD.out HCP.out, HGR.out.trans HF.out⟩
        case measure => simp [intOf]; omega
      | some r =>
        have HCP := Lib.hid hcp
        have HR := Lib.hid (ring_some H5.out HD.out hcp).1
        clear hcp
        go_wp2_with (go_at_call 178; (with_reducible refine HC.out.mono ?_); rintro e4 w4 hpost; obtain ⟨p1, p2, g4, c4, rfl, p3⟩ := hpost.yes HCP.out; have HF := Lib.hid p1; have HX := Lib.hid p3; clear hpost p1 p2 p3)
        go_ret
        exact ⟨r, some ⟨g4, 0, none⟩, c4, rfl, HR.out, HX.out, (grown_bel (HGR.out.trans HF.out)).out⟩
    · obtain rfl : n = 5 := by omega
      have HR := Lib.hid (ring_none H5.out HD.out)
      go_wp2
      go_ret
      exact ⟨[], none, 0, rfl, HR.out, World.ownsRow_nil _ _ _ _, (grown_bel HGR.out).out⟩
def RingOwn (w : World) (l : List (Int × Int)) (e : Ending) (w' : World) : Prop :=
  ∃ r A d c, e = .returned (.tuple #[.slice A r.length d, .int .i64 c]) ∧ RingB l r c ∧ w'.ownsRow w.heap.size 3 1 (.slice A r.length d) r.length (intq (toI r)) ∧ Below w.heap.size w w'
set_option maxHeartbeats 8000000 in
theorem ring_own (A : Option Addr) (n c : Nat) (l : List (Int × Int)) (w : World) (h : SlQ w A n l) (hnc : n ≤ c) (hc : c ≤ maxLen) : Calls Tryz.prog 112 #[.slice A n c] w (RingOwn w l) := by
  have HC := Lib.hid (graphOf_any A n c l w h hnc hc)
  clear h
  go_enter Tryz.func112, Tryz.ntmps112
  go_wp2_with fail
  refine HC.out.mono ?_
  rintro e w1 ⟨hgo, hb1⟩
  have HB1 := Lib.hid (Bel.of hb1)
  clear hb1
  rcases hgo with ⟨hbad, rfl⟩ | ⟨hok, rfl⟩
  · have HN := Lib.hid hbad
    clear hbad
    go_wp2_with (refine storeB (c' := bs 25 fun _ => false) _ _ _ rfl rfl rfl rfl (Box.new w1 (bs 25 fun _ => false) 204) rfl (by rw [bs_size]; exact TGr) (bs_all _ _) ?_)
    go_ret2
    exact ⟨[], none, 0, 1, rfl, .inl ⟨HN.out, rfl, rfl⟩, World.ownsRow_nil _ _ _ _, below_setRow' (HB1.out.alloc _).out _ _ HB1.out.size⟩
  · have HN := Lib.hid hok
    clear hok
    have HX := Lib.hid ((Box.new w1 (bs 25 fun _ => false) 204).setRow (bs 25 (gcl (Pq l))))
    have HW := Lib.hid (Bel.of (below_setRow' (HB1.out.alloc (.cells (bs 25 fun _ => false) 204)).out w1.heap.size (bs 25 (gcl (Pq l))) HB1.out.size))
    have HCY := Lib.hid (cycle_any w1.heap.size (Pq l) _ HX.out (pq_five HN.out))
    go_wp2_with (first | (refine storeB (c' := bs 25 (gcl (Pq l))) _ _ _ rfl rfl rfl rfl (Box.new w1 (bs 25 fun _ => false) 204) (by rw [bs_size, bs_size]) (by rw [bs_size]; exact TGr) (bs_all _ _) ?_) | (go_at_call 146; refine HCY.out.mono ?_; rintro e w2 ⟨r, A2, c2, rfl, p1, p2, p3⟩; have HP := Lib.hid (And.intro p1 (And.intro p2 p3)); clear p1 p2 p3))
    go_ret2
    exact ⟨r, A2, c2, 0, rfl, .inr ⟨HN.out, rfl, HP.out.1⟩, own_drop_alloc HP.out.2.1 HW.out.size, (HW.out.call HP.out.2.2).out⟩
end Go.Proofs.YtnklpifnknmdgaaGreatDoor

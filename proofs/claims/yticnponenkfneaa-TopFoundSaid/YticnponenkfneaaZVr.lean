import Derived.Shelf.Abstract
import Derived.Test.YticnponenkfneaaZOrder
import Derived.Test.YticnponenkfneaaZAll
import Derived.Test.YticnponenkfneaaZVw
set_option linter.all false
set_option maxRecDepth 100000
namespace Go.Proofs.Yticnponenkfneaa
open Go Go.RowKit Go.Shelf

structure RacS (FB SB M : Nat) (w : World) (s : Option (List Nat)) (O : Nat → Prop) : Prop where
  f : Box w FB #[.bool s.isSome] 4
  v : ∃ v, Box w SB #[v] 36 ∧ w.ownsRow (M + 1) 3 1 v (s.getD []).length (intq (pks (s.getD [])))
  o : ∀ k, O k ↔ (k = FB ∨ k = SB)
theorem RacS.keep {FB SB M : Nat} {w w' : World} {s : Option (List Nat)} {O : Nat → Prop} (h : RacS FB SB M w s O) (hF : FB < M) (hW : SB < M) (k : KMO M (fun _ => False) w w') : RacS FB SB M w' s O := by
  obtain ⟨v, h1, h2⟩ := h.v
  exact ⟨k.box h.f (by omega) (fun h => h), ⟨v, k.box h1 (by omega) (fun h => h), k.own h2 (fun _ _ h => h)⟩, h.o⟩
set_option maxHeartbeats 16000000 in
theorem rac_call {P : List (List Ev)} (hP : OkP P) {FB SB M : Nat} (hF : FB < M) (hW : SB < M) (hFW : FB ≠ SB) {ws : List Nat} (hws : VlP P ps0 ws) (h10 : ws.length ≤ 10) {w : World} {s : Option (List Nat)} {O : Nat → Prop} {PV LV : Value} {m vl hh : Nat → Int} {dd kk : Bool}
    (hs : RacS FB SB M w s O) (hM : M < w.heap.size) (hpv : w.ownsRow (M + 1) 3 1 PV ws.length (intq (pks ws))) (hlv : LVal w LV (goS P ps0 ws).L) :
    Calls Try.prog 27 #[.agg (xV PV m vl hh dd kk LV), .pointer (some ⟨FB, 0, none⟩), .pointer (some ⟨SB, 0, none⟩)] w (VisPost M (visR P) (RacS FB SB M) w s ws O) := by
  have hm : may (goS P ps0 ws).L = 0 := (go_ok hP hws).may hP
  obtain ⟨LA, q, lc, rfl, hsl, hqc, hlm⟩ := hlv.ex
  obtain ⟨B, d, rfl, hsi, hnd, hdm⟩ := own_form hpv
  have hraw : raceW P ws = decide (0 < (rcs (goS P ps0 ws).L).length) := by
    unfold raceW
    cases rcs (goS P ps0 ws).L <;> simp
  have HL := Lib.hid (And.intro hsl (And.intro hqc hlm))
  have HMY := Lib.hid hm
  have HRW := Lib.hid hraw
  have HS := Lib.hid hs
  have HPV := Lib.hid hpv
  have H10 := Lib.hid h10
  have hX := Box.new w (xV (.slice B ws.length d) m vl hh dd kk (.slice LA q lc)) 53
  have HB := Lib.hid ((Bel.refl w).alloc (.cells (xV (.slice B ws.length d) m vl hh dd kk (.slice LA q lc)) 53))
  have hwf : FB < w.heap.size ∧ SB < w.heap.size := ⟨by omega, by omega⟩
  have HS1 := Lib.hid (hs.keep hF hW (KMO.of_bel HB.out))
  have c0 := HS1.out.f.cell 0 (v := .bool s.isSome) rfl
  have cp := hX.cell 0 (v := .slice B ws.length d) (xF_at _ m vl hh dd kk _ (by omega))
  have cl := hX.cell 21 (v := .slice LA q lc) (xF_at _ m vl hh dd kk _ (by omega))
  have HX := Lib.hid hX
  have HKS := Lib.hid (And.intro hF (And.intro hW hM))
  clear hm hsl hqc hlm hsi hnd hdm hraw hs hX hF hW hpv hlv h10
  obtain ⟨rr, hrr⟩ : ∃ rr, (rcs (goS P ps0 ws).L).length = rr := ⟨_, rfl⟩
  have HRR := Lib.hid hrr
  clear hrr
  cases s with
  | some b0 =>
    have hc0 : (some b0).isSome = true := rfl
    rw [hc0] at c0
    clear hc0
    obtain ⟨v0, hv0, hown0⟩ := HS1.out.v
    obtain ⟨B0, d0, hv0e, hsi0, _, _⟩ := own_form hown0
    subst hv0e
    have cv := hv0.cell 0 (v := .slice B0 b0.length d0) rfl
    clear hsi0 hv0 hown0
    by_cases hlen : b0.length ≤ ws.length
    · have hlen' : (b0.length : Int) ≤ ws.length := by omega
      have HR := Lib.hid (show visR P (some b0) ws = (some b0, false) by unfold visR; rw [if_pos (by simpa using hlen)])
      have hge : decide ((b0.length : Int) ≤ ws.length) = true := decide_eq_true hlen'
      go_enter Try.func27, Try.ntmps27
      go_wp2
      go_ret
      unfold VisPost
      rw [HR.out]
      exact ⟨rfl, O, HS1.out, fun k hk => .inl hk, fun k hk => by have := HB.out.size; rcases (HS1.out.o k).1 hk with rfl | rfl <;> omega, KMO.of_bel HB.out, HB.out.block M HKS.out.2.2⟩
    · have hlen' : ¬ (b0.length : Int) ≤ ws.length := by omega
      have HNL := Lib.hid (show ¬ (some b0).any (fun b => decide (b.length ≤ ws.length)) = true by simpa using hlen)
      have hge : decide ((b0.length : Int) ≤ ws.length) = false := decide_eq_false hlen'
      go_enter Try.func27, Try.ntmps27
      go_wp2_with fail
      refine (alle_any LA q lc (goS P ps0 ws).L _ (HL.out.1.bel HB.out)).mono ?_
      rintro e1 w1 ⟨v1, rfl, hown1, hb1⟩
      rw [HRR.out] at hown1
      rw [HMY.out]
      have HB1 := Lib.hid (HB.out.trans (Bel.of hb1))
      have HX1 := Lib.hid ((Bel.of hb1).box HX.out)
      have HS2 := Lib.hid (HS.out.keep HKS.out.1 HKS.out.2.1 (KMO.of_bel HB1.out))
      obtain ⟨RA, rc, rfl, _⟩ := SlR.own hown1
      clear hb1 hown1 c0 cp cl cv
      by_cases hr0 : 0 < rr
      · have hr1 : (0 : Int) < rr := by omega
        have HR := Lib.hid (show visR P (some b0) ws = (some ws, false) by unfold visR; rw [if_neg HNL.out, if_pos (by rw [HRW.out, HRR.out]; exact decide_eq_true hr0)])
        have hq0 : ((rr : Int) == 0) = false := by simp; omega
        obtain ⟨v9, hv9, hown9⟩ := HS2.out.v
        have HV0 := Lib.hid hv9
        have cpv := HX1.out.cell 0 (v := .slice B ws.length d) (xF_at _ m vl hh dd kk _ (by omega))
        have hB3 := (HS2.out.f.set_ne ⟨SB, 0, none⟩ (.slice B ws.length d) (by dsimp only; omega)).set 0 (.bool true)
        have HB3 := Lib.hid hB3
        have HB4 := Lib.hid (((HV0.out.set 0 (.slice B ws.length d)).set_ne ⟨FB, 0, none⟩ (.bool true) (by dsimp only; omega)))
        have hk4 : KMO M O w ((w1.setCell ⟨SB, 0, none⟩ (.slice B ws.length d)).setCell ⟨FB, 0, none⟩ (.bool true)) ∧ ((w1.setCell ⟨SB, 0, none⟩ (.slice B ws.length d)).setCell ⟨FB, 0, none⟩ (.bool true)).heap[M]? = w.heap[M]? := by
          have hblk : ∀ k, k ≠ FB → k ≠ SB → ((w1.setCell ⟨SB, 0, none⟩ (.slice B ws.length d)).setCell ⟨FB, 0, none⟩ (.bool true)).heap[k]? = w1.heap[k]? := fun k h1 h2 => (heap_setCell_other _ ⟨FB, 0, none⟩ k _ h1).trans (heap_setCell_other _ ⟨SB, 0, none⟩ k _ h2)
          refine ⟨⟨HB1.out.os, HB1.out.tape, HB1.out.output, by simpa using HB1.out.size, fun k hk _ hn => (hblk k (fun e => hn ((HS.out.o k).2 (.inl e))) (fun e => hn ((HS.out.o k).2 (.inr e)))).trans (HB1.out.block k hk)⟩, (hblk M (by have := HKS.out; omega) (by have := HKS.out; omega)).trans (HB1.out.block M HKS.out.2.2)⟩
        have HK4 := Lib.hid hk4
        have HO4 := Lib.hid (own_keep (w' := (w1.setCell ⟨SB, 0, none⟩ (.slice B ws.length d)).setCell ⟨FB, 0, none⟩ (.bool true)) (own_bel HPV.out HB1.out) (fun g hg _ => (heap_setCell_other _ ⟨FB, 0, none⟩ g _ (by have := (own_lt HPV.out hg).1; have := HKS.out; dsimp only; omega)).trans (heap_setCell_other _ ⟨SB, 0, none⟩ g _ (by have := (own_lt HPV.out hg).1; have := HKS.out; dsimp only; omega))))
        have HSZ4 := Lib.hid (show ((w1.setCell ⟨SB, 0, none⟩ (.slice B ws.length d)).setCell ⟨FB, 0, none⟩ (.bool true)).heap.size = w1.heap.size by simp)
        have hF5 := HS2.out.f.set_ne ⟨SB, 0, none⟩ (.slice B ws.length d) (by dsimp only; omega)
        have c5 := hF5.cell 0 (v := .bool true) rfl
        have f5 := hF5.frozen 0
        clear hB3 hk4 hv9 hown9 hF5
        go_wp2_with (first | (refine l_cell1 36 _ _ rfl rfl rfl rfl (by kernel_rfl) rfl (by rw [HV0.out.cell 0 rfl]; rfl) (HV0.out.frozen 0) ?_))
        go_ret
        unfold VisPost
        rw [HR.out]
        exact ⟨rfl, O, ⟨HB3.out, ⟨_, HB4.out, HO4.out⟩, HS.out.o⟩, fun k hk => .inl hk, fun k hk => by have h1 := HB1.out.size; have h2 := HSZ4.out; have h3 := HKS.out; rcases (HS.out.o k).1 hk with rfl | rfl <;> omega, HK4.out.1, HK4.out.2⟩
      · obtain rfl : rr = 0 := by omega
        have HR := Lib.hid (show visR P (some b0) ws = (some b0, true) by unfold visR; rw [if_neg HNL.out, if_neg (by rw [HRW.out, HRR.out]; simp)])
        go_wp2
        go_ret
        unfold VisPost
        rw [HR.out]
        exact ⟨rfl, O, HS2.out, fun k hk => .inl hk, fun k hk => by have := HB1.out.size; rcases (HS2.out.o k).1 hk with rfl | rfl <;> omega, KMO.of_bel HB1.out, HB1.out.block M HKS.out.2.2⟩
  | none =>
    have hc0 : (none : Option (List Nat)).isSome = false := rfl
    rw [hc0] at c0
    clear hc0
    have HNL := Lib.hid (show ¬ (none : Option (List Nat)).any (fun b => decide (b.length ≤ ws.length)) = true by simp)
    go_enter Try.func27, Try.ntmps27
    go_wp2_with fail
    refine (alle_any LA q lc (goS P ps0 ws).L _ (HL.out.1.bel HB.out)).mono ?_
    rintro e1 w1 ⟨v1, rfl, hown1, hb1⟩
    rw [HRR.out] at hown1
    rw [HMY.out]
    have HB1 := Lib.hid (HB.out.trans (Bel.of hb1))
    have HX1 := Lib.hid ((Bel.of hb1).box HX.out)
    have HS2 := Lib.hid (HS.out.keep HKS.out.1 HKS.out.2.1 (KMO.of_bel HB1.out))
    obtain ⟨RA, rc, rfl, _⟩ := SlR.own hown1
    clear hb1 hown1 c0 cp cl
    by_cases hr0 : 0 < rr
    · have hr1 : (0 : Int) < rr := by omega
      have HR := Lib.hid (show visR P (none) ws = (some ws, false) by unfold visR; rw [if_neg HNL.out, if_pos (by rw [HRW.out, HRR.out]; exact decide_eq_true hr0)])
      have hq0 : ((rr : Int) == 0) = false := by simp; omega
      obtain ⟨v9, hv9, hown9⟩ := HS2.out.v
      have HV0 := Lib.hid hv9
      have cpv := HX1.out.cell 0 (v := .slice B ws.length d) (xF_at _ m vl hh dd kk _ (by omega))
      have hB3 := (HS2.out.f.set_ne ⟨SB, 0, none⟩ (.slice B ws.length d) (by dsimp only; omega)).set 0 (.bool true)
      have HB3 := Lib.hid hB3
      have HB4 := Lib.hid (((HV0.out.set 0 (.slice B ws.length d)).set_ne ⟨FB, 0, none⟩ (.bool true) (by dsimp only; omega)))
      have hk4 : KMO M O w ((w1.setCell ⟨SB, 0, none⟩ (.slice B ws.length d)).setCell ⟨FB, 0, none⟩ (.bool true)) ∧ ((w1.setCell ⟨SB, 0, none⟩ (.slice B ws.length d)).setCell ⟨FB, 0, none⟩ (.bool true)).heap[M]? = w.heap[M]? := by
        have hblk : ∀ k, k ≠ FB → k ≠ SB → ((w1.setCell ⟨SB, 0, none⟩ (.slice B ws.length d)).setCell ⟨FB, 0, none⟩ (.bool true)).heap[k]? = w1.heap[k]? := fun k h1 h2 => (heap_setCell_other _ ⟨FB, 0, none⟩ k _ h1).trans (heap_setCell_other _ ⟨SB, 0, none⟩ k _ h2)
        refine ⟨⟨HB1.out.os, HB1.out.tape, HB1.out.output, by simpa using HB1.out.size, fun k hk _ hn => (hblk k (fun e => hn ((HS.out.o k).2 (.inl e))) (fun e => hn ((HS.out.o k).2 (.inr e)))).trans (HB1.out.block k hk)⟩, (hblk M (by have := HKS.out; omega) (by have := HKS.out; omega)).trans (HB1.out.block M HKS.out.2.2)⟩
      have HK4 := Lib.hid hk4
      have HO4 := Lib.hid (own_keep (w' := (w1.setCell ⟨SB, 0, none⟩ (.slice B ws.length d)).setCell ⟨FB, 0, none⟩ (.bool true)) (own_bel HPV.out HB1.out) (fun g hg _ => (heap_setCell_other _ ⟨FB, 0, none⟩ g _ (by have := (own_lt HPV.out hg).1; have := HKS.out; dsimp only; omega)).trans (heap_setCell_other _ ⟨SB, 0, none⟩ g _ (by have := (own_lt HPV.out hg).1; have := HKS.out; dsimp only; omega))))
      have HSZ4 := Lib.hid (show ((w1.setCell ⟨SB, 0, none⟩ (.slice B ws.length d)).setCell ⟨FB, 0, none⟩ (.bool true)).heap.size = w1.heap.size by simp)
      have hF5 := HS2.out.f.set_ne ⟨SB, 0, none⟩ (.slice B ws.length d) (by dsimp only; omega)
      have c5 := hF5.cell 0 (v := .bool false) rfl
      have f5 := hF5.frozen 0
      clear hB3 hk4 hv9 hown9 hF5
      go_wp2_with (first | (refine l_cell1 36 _ _ rfl rfl rfl rfl (by kernel_rfl) rfl (by rw [HV0.out.cell 0 rfl]; rfl) (HV0.out.frozen 0) ?_))
      go_ret
      unfold VisPost
      rw [HR.out]
      exact ⟨rfl, O, ⟨HB3.out, ⟨_, HB4.out, HO4.out⟩, HS.out.o⟩, fun k hk => .inl hk, fun k hk => by have h1 := HB1.out.size; have h2 := HSZ4.out; have h3 := HKS.out; rcases (HS.out.o k).1 hk with rfl | rfl <;> omega, HK4.out.1, HK4.out.2⟩
    · obtain rfl : rr = 0 := by omega
      have HR := Lib.hid (show visR P (none) ws = (none, true) by unfold visR; rw [if_neg HNL.out, if_neg (by rw [HRW.out, HRR.out]; simp)])
      go_wp2
      go_ret
      unfold VisPost
      rw [HR.out]
      exact ⟨rfl, O, HS2.out, fun k hk => .inl hk, fun k hk => by have := HB1.out.size; rcases (HS2.out.o k).1 hk with rfl | rfl <;> omega, KMO.of_bel HB1.out, HB1.out.block M HKS.out.2.2⟩
theorem rac_vis {P : List (List Ev)} (hP : OkP P) (h10 : totP P ≤ 10) {W : World} {FB SB M : Nat} (hF : FB < M) (hW : SB < M) (hFW : FB ≠ SB) :
    VisC P W M 27 #[.pointer (some ⟨FB, 0, none⟩), .pointer (some ⟨SB, 0, none⟩)] (visR P) (fun _ => 0) (RacS FB SB M) where
  step _ _ := Nat.zero_le _
  enters := enters_of Try.func27 (by kernel_rfl) rfl
  keep w w' s O h _ k := h.keep hF hW k
  call ws w s O PV LV hv _ hs _ hM _ hpv _ hlv := rac_call hP hF hW hFW hv (Nat.le_trans (vl_tot hP hv) h10) hs hM hpv hlv
set_option maxHeartbeats 8000000 in
theorem eraces_any : ERacesC := by
  intro A n c P w h hnc hcm
  have HP := Lib.hid h
  have HC := Lib.hid (And.intro hnc hcm)
  obtain ⟨hb1, hb2, hb3⟩ := boxes2 w #[.slice none 0 0] #[.bool false] 36 4
  have HB1 := Lib.hid hb1
  have HB2 := Lib.hid hb2
  have HB3 := Lib.hid hb3
  clear h hnc hcm hb1 hb2 hb3
  go_enter Try.func10, Try.ntmps10
  go_upto_region 3 with fail
  generalize (w.alloc (.cells #[.slice none 0 0] 36)).alloc (.cells #[.bool false] 4) = w0 at *
  have hbw : Bel w w0 := HB3.out.1
  have HBW := Lib.hid hbw
  have hsz : w0.heap.size = w.heap.size + 2 := HB3.out.2
  have HSZ := Lib.hid hsz
  by_cases h0 : evC P = 0
  · have hok := evC_ok h0
    have h10 : totP P ≤ 10 := by
      unfold evC at h0
      rw [if_neg (by have := chk_ok.2 hok; omega)] at h0
      by_cases hh : 10 < (P.map (·.length)).sum
      · rw [if_pos hh] at h0; cases h0
      · unfold totP; omega
    have HMD := Lib.hid (mdf_races hok h10 (Nat.lt_succ_self (totP P)))
    have H0 := Lib.hid h0
    have HEX := Lib.hid (explore_yes (vis := visR P) (g := 27) (cb := #[.pointer (some ⟨w.heap.size + 1, 0, none⟩), .pointer (some ⟨w.heap.size, 0, none⟩)]) (St := fun M => RacS (w.heap.size + 1) w.heap.size M) (s := none) (O := fun k => k = w.heap.size + 1 ∨ k = w.heap.size)
      HP.out HC.out.1 HC.out.2 h0 hbw (fun M hM => rac_vis hok h10 (by omega) (by omega) (by omega)) rfl (fun k hk => by omega)
      (fun M w' hM hb => ⟨hb.box HB2.out, ⟨.slice none 0 0, hb.box HB1.out, World.ownsRow_nil _ _ _ _⟩, fun k => Iff.rfl⟩))
    clear h0 hok h10 hbw hsz
    go_wp2_with fail
    refine HEX.out.mono ?_
    rintro e1 w1 ⟨rfl, M, O', hM, hst, hk⟩
    have HST := Lib.hid hst
    have HBF := Lib.hid (show Bel w w1 from HBW.out.out.trans (hk.below (by have := HSZ.out; omega) (by have := HSZ.out; omega) (fun k hk => by omega)))
    have HM := Lib.hid hM
    generalize (mdf (kidsW P) (keyW P) (visR P) (totP P + 1) ([], none) []).2 = s at *
    obtain ⟨v, hv, hown⟩ := HST.out.v
    have cv := hv.cell 0 (v := v) rfl
    have cf := HST.out.f.cell 0 (v := .bool s.isSome) rfl
    have HOW := Lib.hid hown
    clear hM hst hk hv hown HEX HB1 HB2 HB3
    cases s with
    | none =>
      have hc0 : (none : Option (List Nat)).isSome = false := rfl
      rw [hc0] at cf
      clear hc0
      have HFF := Lib.hid (fun (w9 : World) (h9 : Bel w1 w9) => And.intro (h9.cell cf) (h9.cell cv))
      clear cf cv
      go_wp2_with fail
      (refine region_bel (by kernel_rfl) (by kernel_rfl) ?_; (repeat (first | ((with_reducible refine BigFrame.wpQuiet_skip ?_ ?_); exact rfl; simp only [Act.put, Act.eval, List.setIfInBounds_toArray, List.set_cons_zero, List.set_cons_succ, Array.getD_eq_getD_getElem?, List.getElem?_toArray, List.getElem?_cons_zero, List.getElem?_cons_succ, Option.getD_some]) | (refine q_move _ rfl rfl ?_; simp only [Act.put, Act.eval, List.setIfInBounds_toArray, List.set_cons_zero, List.set_cons_succ, Array.getD_eq_getD_getElem?, List.getElem?_toArray, List.getElem?_cons_zero, List.getElem?_cons_succ, Option.getD_some]) | (refine q_assign _ rfl rfl ?_; simp only [Act.put, Act.eval, List.setIfInBounds_toArray, List.set_cons_zero, List.set_cons_succ, Array.getD_eq_getD_getElem?, List.getElem?_toArray, List.getElem?_cons_zero, List.getElem?_cons_succ, Option.getD_some]) | (refine q_any rfl ?_; apply Exists.intro; refine ⟨fun w hw => ?_, ?_⟩; (have fct0 := HFF.out w hw; go_simp; first | exact ⟨rfl, rfl⟩ | rfl); simp only [Act.put, Act.eval, List.setIfInBounds_toArray, List.set_cons_zero, List.set_cons_succ, Array.getD_eq_getD_getElem?, List.getElem?_toArray, List.getElem?_cons_zero, List.getElem?_cons_succ, Option.getD_some]))); refine wpQuiet_nil ?_; intro w2 hw2)
      go_wp2
      go_ret3
      exact ⟨false, v, [], by rw [H0.out]; rfl, .inr (.inl ⟨H0.out, rfl, rfl, HMD.out.2 (by first | rfl | trivial)⟩), own_bel (own_drop_alloc HOW.out (by have := HM.out; have := HSZ.out; omega)) hw2, (HBF.out.trans hw2).out⟩
    | some b =>
      have hc0 : (some b).isSome = true := rfl
      rw [hc0] at cf
      clear hc0
      have HFF := Lib.hid (fun (w9 : World) (h9 : Bel w1 w9) => And.intro (h9.cell cf) (h9.cell cv))
      clear cf cv
      go_wp2_with fail
      (refine region_bel (by kernel_rfl) (by kernel_rfl) ?_; (repeat (first | ((with_reducible refine BigFrame.wpQuiet_skip ?_ ?_); exact rfl; simp only [Act.put, Act.eval, List.setIfInBounds_toArray, List.set_cons_zero, List.set_cons_succ, Array.getD_eq_getD_getElem?, List.getElem?_toArray, List.getElem?_cons_zero, List.getElem?_cons_succ, Option.getD_some]) | (refine q_move _ rfl rfl ?_; simp only [Act.put, Act.eval, List.setIfInBounds_toArray, List.set_cons_zero, List.set_cons_succ, Array.getD_eq_getD_getElem?, List.getElem?_toArray, List.getElem?_cons_zero, List.getElem?_cons_succ, Option.getD_some]) | (refine q_assign _ rfl rfl ?_; simp only [Act.put, Act.eval, List.setIfInBounds_toArray, List.set_cons_zero, List.set_cons_succ, Array.getD_eq_getD_getElem?, List.getElem?_toArray, List.getElem?_cons_zero, List.getElem?_cons_succ, Option.getD_some]) | (refine q_any rfl ?_; apply Exists.intro; refine ⟨fun w hw => ?_, ?_⟩; (have fct0 := HFF.out w hw; go_simp; first | exact ⟨rfl, rfl⟩ | rfl); simp only [Act.put, Act.eval, List.setIfInBounds_toArray, List.set_cons_zero, List.set_cons_succ, Array.getD_eq_getD_getElem?, List.getElem?_toArray, List.getElem?_cons_zero, List.getElem?_cons_succ, Option.getD_some]))); refine wpQuiet_nil ?_; intro w2 hw2)
      go_wp2
      go_ret3
      exact ⟨true, v, b, by rw [H0.out]; rfl, .inr (.inr ⟨H0.out, rfl, HMD.out.1 b (by first | rfl | trivial)⟩), own_bel (own_drop_alloc HOW.out (by have := HM.out; have := HSZ.out; omega)) hw2, (HBF.out.trans hw2).out⟩
  · have HEX := Lib.hid (explore_no (HP.out.bel hbw) HC.out.1 HC.out.2 h0 (.func (.func 27) #[] #[.pointer (some ⟨w.heap.size + 1, 0, none⟩), .pointer (some ⟨w.heap.size, 0, none⟩)]))
    have H0 := Lib.hid h0
    clear h0 hbw hsz
    go_wp2_with fail
    refine HEX.out.mono ?_
    rintro e1 w1 ⟨rfl, hb1⟩
    have cv := (Bel.of hb1).cell (HB1.out.cell 0 (v := .slice none 0 0) rfl)
    have cf := (Bel.of hb1).cell (HB2.out.cell 0 (v := .bool false) rfl)
    have HBF := Lib.hid (HBW.out.trans (Bel.of hb1))
    clear hb1
    have HFF := Lib.hid (fun (w9 : World) (h9 : Bel w1 w9) => And.intro (h9.cell cf) (h9.cell cv))
    clear cf cv
    go_wp2_with fail
    (refine region_bel (by kernel_rfl) (by kernel_rfl) ?_; (repeat (first | ((with_reducible refine BigFrame.wpQuiet_skip ?_ ?_); exact rfl; simp only [Act.put, Act.eval, List.setIfInBounds_toArray, List.set_cons_zero, List.set_cons_succ, Array.getD_eq_getD_getElem?, List.getElem?_toArray, List.getElem?_cons_zero, List.getElem?_cons_succ, Option.getD_some]) | (refine q_move _ rfl rfl ?_; simp only [Act.put, Act.eval, List.setIfInBounds_toArray, List.set_cons_zero, List.set_cons_succ, Array.getD_eq_getD_getElem?, List.getElem?_toArray, List.getElem?_cons_zero, List.getElem?_cons_succ, Option.getD_some]) | (refine q_assign _ rfl rfl ?_; simp only [Act.put, Act.eval, List.setIfInBounds_toArray, List.set_cons_zero, List.set_cons_succ, Array.getD_eq_getD_getElem?, List.getElem?_toArray, List.getElem?_cons_zero, List.getElem?_cons_succ, Option.getD_some]) | (refine q_any rfl ?_; apply Exists.intro; refine ⟨fun w hw => ?_, ?_⟩; (have fct0 := HFF.out w hw; go_simp; first | exact ⟨rfl, rfl⟩ | rfl); simp only [Act.put, Act.eval, List.setIfInBounds_toArray, List.set_cons_zero, List.set_cons_succ, Array.getD_eq_getD_getElem?, List.getElem?_toArray, List.getElem?_cons_zero, List.getElem?_cons_succ, Option.getD_some]))); refine wpQuiet_nil ?_; intro w2 hw2)
    go_wp2
    go_ret3
    exact ⟨false, .slice none 0 0, [], rfl, .inl ⟨H0.out, rfl, rfl⟩, World.ownsRow_nil _ _ _ _, (HBF.out.trans hw2).out⟩
end Go.Proofs.Yticnponenkfneaa

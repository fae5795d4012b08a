import Derived.Shelf.Abstract
import Derived.Test.YtlcldcbdobgdbaaZXp
import Derived.Test.YtlcldcbdobgdbaaZEn
set_option linter.all false
set_option maxRecDepth 100000
namespace Go.Proofs.Ytlcldcbdobgdbaa
open Go Go.RowKit Go.Shelf

theorem xv_endr {w : World} {B : Nat} {PV : Value} {m v h : Nat → Int} {d k : Bool} {LV : Value} {t : TypeId} (hb : Box w B (xV PV m v h d k LV) t) : w.rangeAt B 1 (endc m v h d k) := fun j u hj => by
  have hlt : j < 20 := (List.getElem?_eq_some_iff.1 hj).1
  have hc := hb.cell (1 + j) (v := xF PV m v h d k LV (1 + j)) (vs_get _ (by omega))
  rw [hc]
  have he : (endc m v h d k)[j]? = some (endF m v h d k j) := by
    have := vs_get (n := 20) (endF m v h d k) hlt
    rw [end_vs] at this
    simpa using this
  rw [he] at hj
  rw [← hj]
  unfold xF
  rw [if_neg (by omega), if_pos (by omega), Nat.add_sub_cancel_left]
theorem loadGmW {P : Program} {ops : Array Oper} {rest : List Oper} {o : Oper} {a : Act} {w : World} {Q : Exit → Act → World → Prop} (ty : TypeId) (x : Operand) (ho : o.op = .load ty x) (hw : Region.wanted o (yielded ops a.tmps) = true) {b off : Nat} {cs : List Value} (hx : a.eval x = .pointer (some ⟨b, off, none⟩)) (hr : w.rangeAt b off cs) (hT : RowTy P ty cs.length)
    (h : wpList P ops Q rest (a.put o.dst (.agg cs.toArray)) w) : wpList P ops Q (o :: rest) a w := by
  obtain ⟨d, hu, hd, hi⟩ := hT
  refine BigFrame.wpList_want hw fun _ hK => ?_
  unfold Oper.wp execOp
  simp only [ho, hx, Instr.loadAt, Instr.sureAddr, Sem.run_bind, Sem.run_pure, Result.andThen_ok, run_loadVar_mid w b off ty cs d hr hu hd hi]
  exact hK _ _ h
theorem over_dk {P : List (List Ev)} (ws : List Nat) : overW P ws = (doneP P (goS P ps0 ws) || stuckP P (goS P ps0 ws)) := by
  unfold overW
  rw [Bool.eq_iff_iff, Bool.or_eq_true, Bool.not_eq_true']
  exact goes_end
structure WayS (x : Array Value) (FB EB WB M : Nat) (w : World) (s : Option (List Nat)) (O : Nat → Prop) : Prop where
  f : Box w FB #[.bool s.isSome] 4
  e : Box w EB x 33
  v : ∃ v, Box w WB #[v] 36 ∧ w.ownsRow (M + 1) 3 1 v (s.getD []).length (intq (pks (s.getD [])))
  o : ∀ k, O k ↔ (k = FB ∨ k = WB)
theorem WayS.keep {x : Array Value} {FB EB WB M : Nat} {w w' : World} {s : Option (List Nat)} {O : Nat → Prop} (h : WayS x FB EB WB M w s O) (hF : FB < M) (hE : EB < M) (hW : WB < M) (k : KMO M (fun _ => False) w w') : WayS x FB EB WB M w' s O := by
  obtain ⟨v, h1, h2⟩ := h.v
  exact ⟨k.box h.f (by omega) (fun h => h), k.box h.e (by omega) (fun h => h), ⟨v, k.box h1 (by omega) (fun h => h), k.own h2 (fun _ _ h => h)⟩, h.o⟩
set_option maxHeartbeats 8000000 in
theorem way_call {P : List (List Ev)} {x : Array Value} (hx : EnF x) {FB EB WB M : Nat} (hF : FB < M) (hE : EB < M) (hW : WB < M) (hFE : FB ≠ EB) (hFW : FB ≠ WB) (hEW : EB ≠ WB) {ws : List Nat} {w : World} {s : Option (List Nat)} {O : Nat → Prop} {PV LV : Value}
    (hs : WayS x FB EB WB M w s O) (hM : M < w.heap.size) (hpv : w.ownsRow (M + 1) 3 1 PV ws.length (intq (pks ws))) :
    Calls Try.prog 49 #[.agg (xV PV (nat (goS P ps0 ws).mem) (nat (goS P ps0 ws).vol) (goS P ps0 ws).has (doneP P (goS P ps0 ws)) (stuckP P (goS P ps0 ws)) LV), .pointer (some ⟨FB, 0, none⟩), .pointer (some ⟨EB, 0, none⟩), .pointer (some ⟨WB, 0, none⟩)] w (VisPost M (visW P x) (WayS x FB EB WB M) w s ws O) := by
  have hov := over_dk (P := P) ws
  obtain ⟨be, heq, hbe⟩ := eql_enf (EnF.of P (goS P ps0 ws)) hx
  have hew : endW P ws = (endc (nat (goS P ps0 ws).mem) (nat (goS P ps0 ws).vol) (goS P ps0 ws).has (doneP P (goS P ps0 ws)) (stuckP P (goS P ps0 ws))).toArray := rfl
  rw [show endP P (goS P ps0 ws) = endW P ws from rfl] at heq hbe
  generalize nat (goS P ps0 ws).mem = m at *
  generalize nat (goS P ps0 ws).vol = vl at *
  generalize (goS P ps0 ws).has = hh at *
  generalize doneP P (goS P ps0 ws) = dd at *
  generalize stuckP P (goS P ps0 ws) = kk at *
  rw [hew] at heq
  have HBE := Lib.hid hbe
  have HSZ := Lib.hid (show 20 = x.size by obtain ⟨_, _, _, _, _, rfl⟩ := hx; rfl)
  have HOV := Lib.hid hov
  have HS := Lib.hid hs
  have HPV := Lib.hid hpv
  have hX := Box.new w (xV PV m vl hh dd kk LV) 82
  have HB := Lib.hid ((Bel.refl w).alloc (.cells (xV PV m vl hh dd kk LV) 82))
  have hwf : FB < w.heap.size ∧ EB < w.heap.size ∧ WB < w.heap.size := ⟨by omega, by omega, by omega⟩
  have HS1 := Lib.hid (hs.keep hF hE hW (KMO.of_bel HB.out))
  have c0 := HS1.out.f.cell 0 (v := .bool s.isSome) rfl
  have HX := Lib.hid hX
  have HKS := Lib.hid (And.intro hF (And.intro hE (And.intro hW hM)))
  clear hbe hov hs hX hew hF hE hW
  cases s with
  | some b0 =>
    have hc0 : (some b0).isSome = true := rfl
    rw [hc0] at c0
    have HR := Lib.hid (show visW P x (some b0) ws = (some b0, false) by unfold visW; rw [if_neg (by simp)]; rfl)
    clear hc0
    go_enter Try.func49, Try.ntmps49
    go_wp2
    go_ret
    unfold VisPost
    rw [HR.out]
    exact ⟨rfl, O, HS1.out, fun k hk => .inl hk, fun k hk => by have := HB.out.size; rcases (HS1.out.o k).1 hk with rfl | rfl <;> omega, KMO.of_bel HB.out, HB.out.block M HKS.out.2.2.2⟩
  | none =>
    have hc0 : (none : Option (List Nat)).isSome = false := rfl
    rw [hc0] at c0
    clear hc0
    go_enter Try.func49, Try.ntmps49
    go_wp2_with (first | (refine loadG 82 _ rfl rfl rfl HX.out TXv ?_))
    refine (isover_any _).mono ?_
    rintro e1 w1 ⟨rfl, hb1⟩
    have HB1 := Lib.hid (HB.out.trans (Bel.of hb1))
    have HX1 := Lib.hid ((Bel.of hb1).box HX.out)
    have HS2 := Lib.hid (HS.out.keep HKS.out.1 HKS.out.2.1 HKS.out.2.2.1 (KMO.of_bel HB1.out))
    have c1 := HS2.out.f.cell 0 (v := .bool false) rfl
    clear hb1 c0
    cases ho : dd || kk
    · have HR := Lib.hid (show visW P x none ws = (none, true) by unfold visW; rw [if_neg (by rw [HOV.out, ho]; simp)]; rfl)
      go_wp2
      go_ret
      unfold VisPost
      rw [HR.out]
      exact ⟨rfl, O, HS2.out, fun k hk => .inl hk, fun k hk => by have := HB1.out.size; rcases (HS2.out.o k).1 hk with rfl | rfl <;> omega, KMO.of_bel HB1.out, HB1.out.block M HKS.out.2.2.2⟩
    · cases be
      · have HR := Lib.hid (show visW P x none ws = (none, true) by unfold visW; rw [if_neg (fun h => by have := HBE.out.2 h.2.2; cases this)]; rfl)
        go_wp2_with (first | (refine loadGmW 33 _ rfl rfl rfl (xv_endr HX1.out) (by exact TEnd) ?_) | (refine loadG 33 _ rfl rfl rfl HS2.out.e (HSZ.out ▸ TEnd) ?_))
        go_ret
        unfold VisPost
        rw [HR.out]
        exact ⟨rfl, O, HS2.out, fun k hk => .inl hk, fun k hk => by have := HB1.out.size; rcases (HS2.out.o k).1 hk with rfl | rfl <;> omega, KMO.of_bel HB1.out, HB1.out.block M HKS.out.2.2.2⟩
      · have HR := Lib.hid (show visW P x none ws = (some ws, false) by unfold visW; rw [if_pos ⟨rfl, by rw [HOV.out, ho], HBE.out.1 rfl⟩])
        obtain ⟨v0, hv0, hown0⟩ := HS2.out.v
        have HV0 := Lib.hid hv0
        have cpv := HX1.out.cell 0 (v := PV) (xF_at PV m vl hh dd kk LV (by omega))
        have hB3 := (HS2.out.f.set_ne ⟨WB, 0, none⟩ PV (by dsimp only; omega)).set 0 (.bool true)
        have HB3 := Lib.hid hB3
        have c9 := hB3.cell 0 (v := .bool true) rfl
        have HB4 := Lib.hid (((HV0.out.set 0 PV).set_ne ⟨FB, 0, none⟩ (.bool true) (by dsimp only; omega)))
        have HE4 := Lib.hid ((HS2.out.e.set_ne ⟨WB, 0, none⟩ PV (by dsimp only; omega)).set_ne ⟨FB, 0, none⟩ (.bool true) (by dsimp only; omega))
        have hk4 : KMO M O w ((w1.setCell ⟨WB, 0, none⟩ PV).setCell ⟨FB, 0, none⟩ (.bool true)) ∧ ((w1.setCell ⟨WB, 0, none⟩ PV).setCell ⟨FB, 0, none⟩ (.bool true)).heap[M]? = w.heap[M]? := by
          have hblk : ∀ k, k ≠ FB → k ≠ WB → ((w1.setCell ⟨WB, 0, none⟩ PV).setCell ⟨FB, 0, none⟩ (.bool true)).heap[k]? = w1.heap[k]? := fun k h1 h2 => (heap_setCell_other _ ⟨FB, 0, none⟩ k _ h1).trans (heap_setCell_other _ ⟨WB, 0, none⟩ k _ h2)
          refine ⟨⟨HB1.out.os, HB1.out.tape, HB1.out.output, by simpa using HB1.out.size, fun k hk _ hn => (hblk k (fun e => hn ((HS.out.o k).2 (.inl e))) (fun e => hn ((HS.out.o k).2 (.inr e)))).trans (HB1.out.block k hk)⟩, (hblk M (by have := HKS.out; omega) (by have := HKS.out; omega)).trans (HB1.out.block M HKS.out.2.2.2)⟩
        have HK4 := Lib.hid hk4
        have HO4 := Lib.hid (own_keep (w' := (w1.setCell ⟨WB, 0, none⟩ PV).setCell ⟨FB, 0, none⟩ (.bool true)) (own_bel HPV.out HB1.out) (fun g hg _ => (heap_setCell_other _ ⟨FB, 0, none⟩ g _ (by have := (own_lt HPV.out hg).1; have := HKS.out; dsimp only; omega)).trans (heap_setCell_other _ ⟨WB, 0, none⟩ g _ (by have := (own_lt HPV.out hg).1; have := HKS.out; dsimp only; omega))))
        have HSZ4 := Lib.hid (show ((w1.setCell ⟨WB, 0, none⟩ PV).setCell ⟨FB, 0, none⟩ (.bool true)).heap.size = w1.heap.size by simp)
        have hF5 := HS2.out.f.set_ne ⟨WB, 0, none⟩ PV (by dsimp only; omega)
        have c5 := hF5.cell 0 (v := .bool false) rfl
        have f5 := hF5.frozen 0
        clear hB3 hk4 hv0 hown0 hF5
        go_wp2_with (first | (refine loadGmW 33 _ rfl rfl rfl (xv_endr HX1.out) (by exact TEnd) ?_) | (refine loadG 33 _ rfl rfl rfl HS2.out.e (HSZ.out ▸ TEnd) ?_) | (refine l_cell1 36 _ _ rfl rfl rfl rfl (by kernel_rfl) (own_one HPV.out) (by rw [HV0.out.cell 0 rfl]; rfl) (HV0.out.frozen 0) ?_))
        go_ret
        unfold VisPost
        rw [HR.out]
        exact ⟨rfl, O, ⟨HB3.out, HE4.out, ⟨PV, HB4.out, HO4.out⟩, HS.out.o⟩, fun k hk => .inl hk, fun k hk => by have h1 := HB1.out.size; have h2 := HSZ4.out; have h3 := HKS.out; rcases (HS.out.o k).1 hk with rfl | rfl <;> omega, HK4.out.1, HK4.out.2⟩
theorem way_vis {P : List (List Ev)} {W : World} {x : Array Value} (hx : EnF x) {FB EB WB M : Nat} (hF : FB < M) (hE : EB < M) (hW : WB < M) (hFE : FB ≠ EB) (hFW : FB ≠ WB) (hEW : EB ≠ WB) :
    VisC P W M 49 #[.pointer (some ⟨FB, 0, none⟩), .pointer (some ⟨EB, 0, none⟩), .pointer (some ⟨WB, 0, none⟩)] (visW P x) (fun _ => 0) (WayS x FB EB WB M) where
  step _ _ := Nat.zero_le _
  enters := enters_of Try.func49 (by kernel_rfl) rfl
  keep w w' s O h _ k := h.keep hF hE hW k
  call ws w s O PV LV _ _ hs _ hM _ hpv _ _ := way_call hx hF hE hW hFE hFW hEW hs hM hpv
set_option maxHeartbeats 8000000 in
theorem eway_any : WayC := by
  intro A n c P x w h hnc hcm hx
  have HP := Lib.hid h
  have HC := Lib.hid (And.intro hnc hcm)
  have HX := Lib.hid hx
  obtain ⟨hb1, hb2, hb3⟩ := boxes3 w x #[.slice none 0 0] #[.bool false] 33 36 4
  have HB1 := Lib.hid hb1
  have HB2 := Lib.hid hb2
  have HB3 := Lib.hid hb3
  clear h hnc hcm hx hb1 hb2 hb3
  go_enter Try.func19, Try.ntmps19
  go_upto_region 3 with fail
  generalize ((w.alloc (.cells x 33)).alloc (.cells #[.slice none 0 0] 36)).alloc (.cells #[.bool false] 4) = w0 at *
  have hbw : Bel w w0 := HB3.out.2.1
  have HBW := Lib.hid hbw
  have hsz : w0.heap.size = w.heap.size + 3 := HB3.out.2.2
  have HSZ := Lib.hid hsz
  by_cases h0 : evC P = 0
  · have hok := evC_ok h0
    have h10 : totP P ≤ 10 := by
      unfold evC at h0
      rw [if_neg (by have := chk_ok.2 hok; omega)] at h0
      by_cases hh : 10 < (P.map (·.length)).sum
      · rw [if_pos hh] at h0; cases h0
      · unfold totP; omega
    have HMD := Lib.hid (mdf_way hok h10 x (Nat.lt_succ_self (totP P)))
    have H0 := Lib.hid h0
    have HEX := Lib.hid (explore_yes (vis := visW P x) (g := 49) (cb := #[.pointer (some ⟨w.heap.size + 1 + 1, 0, none⟩), .pointer (some ⟨w.heap.size, 0, none⟩), .pointer (some ⟨w.heap.size + 1, 0, none⟩)]) (St := fun M => WayS x (w.heap.size + 1 + 1) w.heap.size (w.heap.size + 1) M) (s := none) (O := fun k => k = w.heap.size + 1 + 1 ∨ k = w.heap.size + 1)
      HP.out HC.out.1 HC.out.2 h0 hbw (fun M hM => way_vis HX.out (by omega) (by omega) (by omega) (by omega) (by omega) (by omega)) rfl (fun k hk => by omega)
      (fun M w' hM hb => ⟨hb.box HB3.out.1, hb.box HB1.out, ⟨.slice none 0 0, hb.box HB2.out, World.ownsRow_nil _ _ _ _⟩, fun k => Iff.rfl⟩))
    clear h0 hok h10 hbw hsz
    go_wp2_with fail
    refine HEX.out.mono ?_
    rintro e1 w1 ⟨rfl, M, O', hM, hst, hk⟩
    have HST := Lib.hid hst
    have HBF := Lib.hid (show Bel w w1 from HBW.out.out.trans (hk.below (by have := HSZ.out; omega) (by have := HSZ.out; omega) (fun k hk => by omega)))
    have HM := Lib.hid hM
    generalize (mdf (kidsW P) (keyW P) (visW P x) (totP P + 1) ([], none) []).2 = s at *
    obtain ⟨v, hv, hown⟩ := HST.out.v
    have cv := hv.cell 0 (v := v) rfl
    have cf := HST.out.f.cell 0 (v := .bool s.isSome) rfl
    have HOW := Lib.hid hown
    clear hM hst hk hv hown HEX HB1 HB2 HB3
    cases s with
    | none =>
      have hc0 : (none : Option (List Nat)).isSome = false := rfl
      rw [hc0] at cf
      clear hc0
      go_wp2
      go_ret2
      exact ⟨v, [], 7, rfl, .inr (.inl ⟨H0.out, HMD.out.2 (by first | rfl | trivial), rfl, rfl⟩), own_drop_alloc HOW.out (by have := HM.out; have := HSZ.out; omega), HBF.out.out⟩
    | some b =>
      have hc0 : (some b).isSome = true := rfl
      rw [hc0] at cf
      clear hc0
      go_wp2
      go_ret2
      exact ⟨v, b, 0, rfl, .inr (.inr ⟨H0.out, HMD.out.1 b (by first | rfl | trivial), rfl⟩), own_drop_alloc HOW.out (by have := HM.out; have := HSZ.out; omega), HBF.out.out⟩
  · have HEX := Lib.hid (explore_no (HP.out.bel hbw) HC.out.1 HC.out.2 h0 (.func (.func 49) #[] #[.pointer (some ⟨w.heap.size + 1 + 1, 0, none⟩), .pointer (some ⟨w.heap.size, 0, none⟩), .pointer (some ⟨w.heap.size + 1, 0, none⟩)]))
    have H0 := Lib.hid h0
    have hne : (evC P == 0) = false := by simpa using h0
    clear h0 hbw hsz
    go_wp2_with fail
    refine HEX.out.mono ?_
    rintro e1 w1 ⟨rfl, hb1⟩
    have cv := (Bel.of hb1).cell (HB2.out.cell 0 (v := .slice none 0 0) rfl)
    have HBF := Lib.hid (HBW.out.trans (Bel.of hb1))
    clear hb1
    go_wp2
    go_ret2
    exact ⟨.slice none 0 0, [], evC P, rfl, .inl ⟨H0.out, rfl, rfl⟩, World.ownsRow_nil _ _ _ _, HBF.out.out⟩
end Go.Proofs.Ytlcldcbdobgdbaa

import Derived.Shelf.Abstract
import Derived.Test.YtlcldcbdobgdbaaYWc
import Derived.Test.YtlcldcbdobgdbaaYCi
import Derived.Test.YtlcldcbdobgdbaaYKt
import Derived.Test.YtlcldcbdobgdbaaYClock
import Derived.Test.YtlcldcbdobgdbaaYFv
set_option linter.all false
set_option maxRecDepth 100000
namespace Go.Proofs.Ytlcldcbdobgdbaa
open Go Go.RowKit Go.Shelf

def O2 (FB WB : Nat) (k : Nat) : Prop := k = FB ∨ k = WB
theorem ko_two {FB WB : Nat} {w w1 : World} (h : Bel w w1) (a b : Value) : KO (O2 FB WB) w ((w1.setCell ⟨WB, 0, none⟩ a).setCell ⟨FB, 0, none⟩ b) :=
  ⟨h.os, h.tape, h.output, by simpa using h.size, fun k hk hn => ((heap_setCell_other _ ⟨FB, 0, none⟩ k _ (fun e => hn (.inl e))).trans (heap_setCell_other _ ⟨WB, 0, none⟩ k _ (fun e => hn (.inr e)))).trans (h.block k hk)⟩
theorem sli_two {FB WB : Nat} {w1 : World} {v : Value} {l : List Int} (h : SlI w1 v l) (h1 : apartV FB v) (h2 : apartV WB v) (a b : Value) : SlI ((w1.setCell ⟨WB, 0, none⟩ a).setCell ⟨FB, 0, none⟩ b) v l :=
  (ko_two (Bel.refl w1) a b).qv h fun X hX => by rcases hX with rfl | rfl <;> assumption
structure RqS (FB SB : Nat) (w : World) (s : Option (List Nat)) : Prop where
  f : Box w FB #[.bool s.isSome] 4
  v : ∃ v, Box w SB #[v] 36 ∧ SlI w v (pks (s.getD [])) ∧ apartV FB v ∧ apartV SB v
theorem RqS.bel {FB SB : Nat} {w w' : World} {s : Option (List Nat)} (h : RqS FB SB w s) (hb : Bel w w') : RqS FB SB w' s := by
  obtain ⟨v, h1, h2, h3⟩ := h.v
  exact ⟨hb.box h.f, ⟨v, hb.box h1, SlI.bel h2 hb, h3⟩⟩
theorem best_no {p : List Nat → Bool} {b : Option (List Nat)} {w : List Nat} (h : p w = false) : bestL p b [w] = b := by unfold bestL; rw [if_neg (by rw [h]; simp)]; rfl
theorem best_long {p : List Nat → Bool} {b w : List Nat} (h : ¬ w.length < b.length) : bestL p (some b) [w] = some b := by unfold bestL; rw [if_neg (fun g => h (g.2 b rfl))]; rfl
theorem best_yes {p : List Nat → Bool} {b : Option (List Nat)} {w : List Nat} (h : p w = true) (g : ∀ v, b = some v → w.length < v.length) : bestL p b [w] = some w := by unfold bestL; rw [if_pos ⟨h, g⟩]; rfl
theorem SlI.shape {w : World} {v : Value} {ws : List Nat} (h : SlI w v (pks ws)) : ∃ A n c, v = .slice A n c ∧ n = ws.length := by
  obtain ⟨A, n, c, rfl, h1, _⟩ := SlI.form h
  exact ⟨A, n, c, rfl, by have := h1.1; simpa [pks] using this.symm⟩
set_option maxHeartbeats 16000000 in
theorem rq_call {P : List (List Ev)} {A : Option Addr} {nP c : Nat} (hok : OkP P) {FB SB : Nat} (hFW : FB ≠ SB) {ws : List Nat} (hv : VlP P ps0 ws)
    {w : World} {s : Option (List Nat)} {LV QV : Value} (hs : RqS FB SB w s) (hlv : LVal w LV (goS P ps0 ws).L) (hq : SlI w QV (pks ws)) (hap : ∀ X, O2 FB SB X → apartV X LV ∧ apartV X QV) :
    Calls Try.prog 52 #[.agg (vs 29 (gP A nP c (goS P ps0 ws) LV QV false false)), .pointer (some ⟨FB, 0, none⟩), .pointer (some ⟨SB, 0, none⟩)] w (TelPost (visQ P) (RqS FB SB) (O2 FB SB) w s ws) := by
  have hm : may (goS P ps0 ws).L = 0 := (go_ok hok hv).may hok
  have hraw : racing P ws = decide (0 < (rcs (goS P ps0 ws).L).length) := by
    unfold racing
    cases rcs (goS P ps0 ws).L <;> simp
  have hnil : (goS P ps0 ws).L.length = 0 → (rcs (goS P ps0 ws).L).length = 0 := fun h => by rw [List.eq_nil_of_length_eq_zero h]; rw [show rcs ([] : List Ev) = [] by decide +kernel]; rfl
  have hX := Box.new w (vs 29 (gP A nP c (goS P ps0 ws) LV QV false false)) 89
  have hb1 : Bel w (w.alloc (.cells (vs 29 (gP A nP c (goS P ps0 ws) LV QV false false)) 89)) := (Bel.refl w).alloc _
  have HB := Lib.hid hb1
  have HX := Lib.hid hX
  have HLX := Lib.hid (hlv.bel hb1)
  have HQV := Lib.hid (SlI.bel hq hb1)
  have HAP := Lib.hid hap
  have HS := Lib.hid (hs.bel hb1)
  have HNE := Lib.hid hFW
  have HMY := Lib.hid hm
  have HRW := Lib.hid hraw
  obtain ⟨LA, q, lc, rfl, hsl, hqc, hlm⟩ := hlv.ex
  obtain ⟨QA, qn, qc, rfl, rfl⟩ := SlI.shape hq
  have HL := Lib.hid (And.intro (hsl.bel hb1.out) (And.intro hqc hlm))
  have hq63 : (q : Int) ≤ lc := by omega
  have HQL := Lib.hid (show (goS P ps0 ws).L.length = q from hsl.1)
  rw [hsl.1] at hnil
  have HWS := Lib.hid (show ws.length ≤ 72 from Nat.le_trans (vl_tot hok hv) (tot_72 hok))
  obtain ⟨rr, hrr⟩ : ∃ rr, (rcs (goS P ps0 ws).L).length = rr := ⟨_, rfl⟩
  rw [hrr] at hnil
  have HRR := Lib.hid hrr
  have HNI := Lib.hid hnil
  have c0 := HS.out.f.cell 0 (v := .bool s.isSome) rfl
  have c7 := HX.out.cell 7 (v := .slice LA q lc) (vs_get _ (by omega))
  have c28 := HX.out.cell 28 (v := .slice QA ws.length qc) (vs_get _ (by omega))
  clear hm hraw hnil hX hb1 hlv hq hap hs hsl hqc hlm hrr hok hv
  by_cases hq0 : q = 0
  · subst hq0
    have HR := Lib.hid (show visQ P s ws = (s, true) by unfold visQ; rw [best_no (by rw [HRW.out, HRR.out, HNI.out rfl]; rfl)])
    have h00 : ¬ (0 : Int) < 0 := by omega
    clear c0 c28
    go_enter Try.func52, Try.ntmps52
    go_wp2
    go_ret
    unfold TelPost
    rw [HR.out]
    exact ⟨rfl, HS.out, KO.of_bel HB.out⟩
  · have hqp : (0 : Int) < q := by omega
    clear hq0
    cases s with
    | none =>
      have hc0 : (none : Option (List Nat)).isSome = false := rfl
      rw [hc0] at c0
      have HLT := Lib.hid (show ∀ v, (none : Option (List Nat)) = some v → ws.length < v.length from fun v h => by cases h)
      clear hc0
      go_enter Try.func52, Try.ntmps52
      go_wp2_with fail
      refine (races_any LA q lc (goS P ps0 ws).L _ HL.out.1 HMY.out).mono ?_
      rintro e1 w1 ⟨v1, rfl, hown1, hb1⟩
      rw [HRR.out] at hown1
      have HB1 := Lib.hid (HB.out.trans (Bel.of hb1))
      have HX1 := Lib.hid ((Bel.of hb1).box HX.out)
      have HS1 := Lib.hid (HS.out.bel (Bel.of hb1))
      have HQ1 := Lib.hid (SlI.bel HQV.out (Bel.of hb1))
      obtain ⟨RA, rc, rfl, _⟩ := SlR.own hown1
      clear hb1 hown1 c0 c7 c28
      by_cases hr0 : 0 < rr
      · have hr1 : (0 : Int) < rr := by omega
        have HR := Lib.hid (show visQ P none ws = (some ws, true) by unfold visQ; rw [best_yes (by rw [HRW.out, HRR.out]; exact decide_eq_true hr0) HLT.out])
        obtain ⟨v0, hv0, _⟩ := HS1.out.v
        have HV0 := Lib.hid hv0
        have cq := HX1.out.cell 28 (v := .slice QA ws.length qc) (vs_get _ (by omega))
        have HB3 := Lib.hid ((HS1.out.f.set_ne ⟨SB, 0, none⟩ (.slice QA ws.length qc) (by have := HNE.out; dsimp only; omega)).set 0 (.bool true))
        have HB4 := Lib.hid (((HV0.out.set 0 (.slice QA ws.length qc)).set_ne ⟨FB, 0, none⟩ (.bool true) (by have := HNE.out; dsimp only; omega)))
        have HK4 := Lib.hid (ko_two (FB := FB) (WB := SB) HB1.out (.slice QA ws.length qc) (.bool true))
        have HO4 := Lib.hid (sli_two HQ1.out (HAP.out FB (.inl rfl)).2 (HAP.out SB (.inr rfl)).2 (.slice QA ws.length qc) (.bool true))
        have hF5 := HS1.out.f.set_ne ⟨SB, 0, none⟩ (.slice QA ws.length qc) (by have := HNE.out; dsimp only; omega)
        have c5 := hF5.cell 0 (v := .bool false) rfl
        have f5 := hF5.frozen 0
        clear hv0 hF5
        go_wp2_with (first | (refine l_cell1 36 _ _ rfl rfl rfl rfl (by kernel_rfl) rfl (by rw [HV0.out.cell 0 rfl]; rfl) (HV0.out.frozen 0) ?_))
        go_ret
        unfold TelPost
        rw [HR.out]
        exact ⟨rfl, ⟨HB3.out, ⟨_, HB4.out, HO4.out, (HAP.out FB (.inl rfl)).2, (HAP.out SB (.inr rfl)).2⟩⟩, HK4.out⟩
      · obtain rfl : rr = 0 := by omega
        have HR := Lib.hid (show visQ P none ws = (none, true) by unfold visQ; rw [best_no (by rw [HRW.out, HRR.out]; rfl)])
        go_wp2
        go_ret
        unfold TelPost
        rw [HR.out]
        exact ⟨rfl, HS1.out, KO.of_bel HB1.out⟩
    | some b0 =>
      have hc0 : (some b0).isSome = true := rfl
      rw [hc0] at c0
      clear hc0
      obtain ⟨v9, hv9, hsl9, _⟩ := HS.out.v
      obtain ⟨B9, n9, k9, rfl, rfl⟩ := SlI.shape hsl9
      rw [show (some b0 : Option (List Nat)).getD [] = b0 from rfl] at hv9
      have c9 := hv9.cell 0 (v := .slice B9 b0.length k9) rfl
      clear hsl9 hv9
      by_cases hlen : ws.length < b0.length
      · have hlen' : (ws.length : Int) < b0.length := by omega
        have HLT := Lib.hid (show ∀ v, (some b0 : Option (List Nat)) = some v → ws.length < v.length from fun v h => by cases h; exact hlen)
        clear hlen
        go_enter Try.func52, Try.ntmps52
        go_wp2_with fail
        refine (races_any LA q lc (goS P ps0 ws).L _ HL.out.1 HMY.out).mono ?_
        rintro e1 w1 ⟨v1, rfl, hown1, hb1⟩
        rw [HRR.out] at hown1
        have HB1 := Lib.hid (HB.out.trans (Bel.of hb1))
        have HX1 := Lib.hid ((Bel.of hb1).box HX.out)
        have HS1 := Lib.hid (HS.out.bel (Bel.of hb1))
        have HQ1 := Lib.hid (SlI.bel HQV.out (Bel.of hb1))
        obtain ⟨RA, rc, rfl, _⟩ := SlR.own hown1
        clear hb1 hown1 c0 c7 c28 c9
        by_cases hr0 : 0 < rr
        · have hr1 : (0 : Int) < rr := by omega
          have HR := Lib.hid (show visQ P (some b0) ws = (some ws, true) by unfold visQ; rw [best_yes (by rw [HRW.out, HRR.out]; exact decide_eq_true hr0) HLT.out])
          obtain ⟨v0, hv0, _⟩ := HS1.out.v
          have HV0 := Lib.hid hv0
          have cq := HX1.out.cell 28 (v := .slice QA ws.length qc) (vs_get _ (by omega))
          have HB3 := Lib.hid ((HS1.out.f.set_ne ⟨SB, 0, none⟩ (.slice QA ws.length qc) (by have := HNE.out; dsimp only; omega)).set 0 (.bool true))
          have HB4 := Lib.hid (((HV0.out.set 0 (.slice QA ws.length qc)).set_ne ⟨FB, 0, none⟩ (.bool true) (by have := HNE.out; dsimp only; omega)))
          have HK4 := Lib.hid (ko_two (FB := FB) (WB := SB) HB1.out (.slice QA ws.length qc) (.bool true))
          have HO4 := Lib.hid (sli_two HQ1.out (HAP.out FB (.inl rfl)).2 (HAP.out SB (.inr rfl)).2 (.slice QA ws.length qc) (.bool true))
          have hF5 := HS1.out.f.set_ne ⟨SB, 0, none⟩ (.slice QA ws.length qc) (by have := HNE.out; dsimp only; omega)
          have c5 := hF5.cell 0 (v := .bool true) rfl
          have f5 := hF5.frozen 0
          clear hv0 hF5
          go_wp2_with (first | (refine l_cell1 36 _ _ rfl rfl rfl rfl (by kernel_rfl) rfl (by rw [HV0.out.cell 0 rfl]; rfl) (HV0.out.frozen 0) ?_))
          go_ret
          unfold TelPost
          rw [HR.out]
          exact ⟨rfl, ⟨HB3.out, ⟨_, HB4.out, HO4.out, (HAP.out FB (.inl rfl)).2, (HAP.out SB (.inr rfl)).2⟩⟩, HK4.out⟩
        · obtain rfl : rr = 0 := by omega
          have HR := Lib.hid (show visQ P (some b0) ws = ((some b0), true) by unfold visQ; rw [best_no (by rw [HRW.out, HRR.out]; rfl)])
          go_wp2
          go_ret
          unfold TelPost
          rw [HR.out]
          exact ⟨rfl, HS1.out, KO.of_bel HB1.out⟩
      · have hlen' : ¬ (ws.length : Int) < b0.length := by omega
        have HR := Lib.hid (show visQ P (some b0) ws = (some b0, true) by unfold visQ; rw [best_long hlen])
        clear hlen
        go_enter Try.func52, Try.ntmps52
        go_wp2
        go_ret
        unfold TelPost
        rw [HR.out]
        exact ⟨rfl, HS.out, KO.of_bel HB.out⟩
theorem rq_tel {P : List (List Ev)} {W : World} {A : Option Addr} {nP c : Nat} (hok : OkP P) {FB SB : Nat} (hFW : FB ≠ SB) :
    TelC P W A nP c 52 #[.pointer (some ⟨FB, 0, none⟩), .pointer (some ⟨SB, 0, none⟩)] (visQ P) (RqS FB SB) (O2 FB SB) where
  enters := enters_of Try.func52 (by kernel_rfl) rfl
  keep _ _ _ h hb := h.bel hb
  call _ _ _ _ _ hv hs _ _ hl hq ha := rq_call hok hFW hv hs hl hq ha
end Go.Proofs.Ytlcldcbdobgdbaa

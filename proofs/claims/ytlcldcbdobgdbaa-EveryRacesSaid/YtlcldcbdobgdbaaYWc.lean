import Derived.Deep.DeepCutAuto
import Derived.Test.YtlcldcbdobgdbaaYWf
import Derived.Test.YtlcldcbdobgdbaaYVs
import Derived.Test.YtlcldcbdobgdbaaYRpR
import Derived.Test.YtlcldcbdobgdbaaYGt
set_option linter.all false
set_option maxRecDepth 100000
namespace Go.Proofs.Ytlcldcbdobgdbaa
open Go Go.RowKit

structure KO (O : Nat → Prop) (w w' : World) : Prop where
  os : w'.os = w.os
  tape : w'.tape = w.tape
  output : w'.output = w.output
  size : w.heap.size ≤ w'.heap.size
  blk : ∀ k, k < w.heap.size → ¬ O k → w'.heap[k]? = w.heap[k]?
theorem KO.of_bel {O : Nat → Prop} {w w' : World} (h : Bel w w') : KO O w w' := ⟨h.os, h.tape, h.output, h.size, fun k hk _ => h.block k hk⟩
theorem KO.trans {O : Nat → Prop} {w w1 w2 : World} (h : KO O w w1) (k : KO O w1 w2) : KO O w w2 :=
  ⟨k.os.trans h.os, k.tape.trans h.tape, k.output.trans h.output, Nat.le_trans h.size k.size, fun j hj hn => (k.blk j (Nat.lt_of_lt_of_le hj h.size) hn).trans (h.blk j hj hn)⟩
theorem KO.below {N : Nat} {O : Nat → Prop} {w w' : World} (h : KO O w w') (hN : N ≤ w.heap.size) (hO : ∀ k, O k → N ≤ k) : Below N w w' :=
  ⟨h.os, h.tape, h.output, h.size, fun k hk => h.blk k (by omega) (fun ho => by have := hO k ho; omega)⟩
theorem KO.box {O : Nat → Prop} {w w' : World} (h : KO O w w') {B : Nat} {c : Array Value} {t : TypeId} (hb : Box w B c t) (hO : ¬ O B) : Box w' B c t := (h.blk B hb.lt hO).trans hb
theorem KO.lv {O : Nat → Prop} {w w' : World} (h : KO O w w') {LV : Value} {l : List Ev} (hl : LVal w LV l) (ha : ∀ X, O X → apartV X LV) : LVal w' LV l := by
  obtain ⟨B, m, e, rfl, hs, h1, h2⟩ := hl.ex
  refine ⟨B, m, e, rfl, ⟨hs.1, fun h0 => ?_⟩, h1, h2⟩
  obtain ⟨b, off, rfl, hlt, hr⟩ := hs.2 h0
  exact ⟨b, off, rfl, Nat.lt_of_lt_of_le hlt h.size, fun j v hj => (World.cell?_of_block (a := ⟨b, off + j, none⟩) (h.blk b hlt (fun ho => ha b ho b off m e rfl rfl))).trans (hr j v hj)⟩
theorem KO.qv {O : Nat → Prop} {w w' : World} (h : KO O w w') {v : Value} {l : List Int} (hl : SlI w v l) (ha : ∀ X, O X → apartV X v) : SlI w' v l := by
  rcases hl with hl | ⟨b, off, m, e, rfl, h1, h2, h3⟩
  · exact .inl hl
  · refine .inr ⟨b, off, m, e, rfl, h1, h2, fun j hj => ?_⟩
    have hc := h3 j hj
    have hlt : b < w.heap.size := by
      refine Classical.byContradiction fun hn => ?_
      simp [World.cell?, Array.getElem?_eq_none (Nat.le_of_not_lt hn)] at hc
    exact (World.cell?_of_block (a := ⟨b, off + j, none⟩) (h.blk b hlt (fun ho => ha b ho b off m e rfl rfl))).trans hc
theorem tot_72 {P : List (List Ev)} (hP : OkP P) : totP P ≤ 72 := by
  rw [← sum_ops hP.six]
  have := hP.len 0; have := hP.len 1; have := hP.len 2; have := hP.len 3; have := hP.len 4; have := hP.len 5
  omega
theorem pks_snoc (ws : List Nat) (u : Nat) : pks (ws ++ [u]) = pks ws ++ [(u : Int)] := by unfold pks; rw [List.map_append]; rfl
section
variable {σ : Type} (P : List (List Ev)) (W : World) (A : Option Addr) (nP c g : Nat) (cb : Array Value) (vis : σ → List Nat → σ × Bool) (St : World → σ → Prop) (O : Nat → Prop)
def TelPost (w : World) (s : σ) (ws : List Nat) (e : Ending) (w' : World) : Prop := e = .returned (.bool (vis s ws).2) ∧ St w' (vis s ws).1 ∧ KO O w w'
structure TelC : Prop where
  enters : ∀ args w, (callFunc g args).run Try.prog w = .ok (.enter g args) w
  keep : ∀ w w' s, St w s → Bel w w' → St w' s
  call : ∀ ws w s LV QV, VlP P ps0 ws → St w s → Bel W w → (∀ k, O k → k < w.heap.size) → LVal w LV (goS P ps0 ws).L → SlI w QV (pks ws) → (∀ X, O X → apartV X LV ∧ apartV X QV) →
    Calls Try.prog g (#[.agg (vs 29 (gP A nP c (goS P ps0 ws) LV QV false false))] ++ cb) w (TelPost vis St O w s ws)
structure WkH (n : Nat) (s : σ) (ws : List Nat) (LV QV : Value) (w : World) : Prop where
  vl : VlP P ps0 ws
  fuel : ∀ x, VlP P ps0 (ws ++ x) → x.length < n
  bel : Bel W w
  st : St w s
  ob : ∀ k, O k → k < w.heap.size
  lv : LVal w LV (goS P ps0 ws).L
  qv : SlI w QV (pks ws)
  ap : ∀ X, O X → apartV X LV ∧ apartV X QV
def WkPost (n : Nat) (s : σ) (ws : List Nat) (w : World) (e : Ending) (w' : World) : Prop := e = .returned (.bool (fldS vis (runW P n ws) s).2) ∧ St w' (fldS vis (runW P n ws) s).1 ∧ KO O w w'
structure WkR (n : Nat) (s : σ) (ws : List Nat) (w : World) (i : Nat) (wr : World) : Prop where
  yes : (fldS vis (ws :: upW P n ws i) s).2 = true
  st : St wr (fldS vis (ws :: upW P n ws i) s).1
  ko : KO O w wr
end
set_option maxHeartbeats 16000000 in
theorem walkr_any {σ : Type} {P : List (List Ev)} {W : World} {A : Option Addr} {nP c g : Nat} {cb : Array Value} {vis : σ → List Nat → σ × Bool} {St : World → σ → Prop} {O : Nat → Prop} (HT : TelC P W A nP c g cb vis St O)
    (hP : Prg W A nP P) (hnc : nP ≤ c) (hcm : c ≤ maxLen) (hok : OkP P) (hO : ∀ k, O k → W.heap.size ≤ k) :
    ∀ (n : Nat) (s : σ) (ws : List Nat) (LV QV : Value) (w : World), WkH P W St O n s ws LV QV w →
      Calls Try.prog 45 #[.agg (vs 29 (gP A nP c (goS P ps0 ws) LV QV false false)), .func (.func g) #[] cb] w (WkPost P vis St O n s ws w) := by
  intro n
  induction n with
  | zero =>
    intro s ws LV QV w h
    exact absurd (h.fuel [] (by rw [List.append_nil]; exact h.vl)) (Nat.not_lt_zero _)
  | succ n ih =>
    intro s ws LV QV w h
    have HOK := Lib.hid hok
    have HH := Lib.hid h
    have HIH := Lib.hid ih
    have HTT := Lib.hid HT
    have HPR := Lib.hid hP
    have HC := Lib.hid (And.intro hnc (And.intro hcm hO))
    have hE := HT.enters
    have HWS := Lib.hid (show ws.length ≤ 72 from Nat.le_trans (vl_tot hok h.vl) (tot_72 hok))
    have hX := Box.new w (vs 29 (gP A nP c (goS P ps0 ws) LV QV false false)) 89
    have hb1 : Bel w (w.alloc (.cells (vs 29 (gP A nP c (goS P ps0 ws) LV QV false false)) 89)) := (Bel.refl w).alloc _
    have HX := Lib.hid hX
    have HB1 := Lib.hid hb1
    have HG := Lib.hid (show ¬ O w.heap.size from fun ho => Nat.lt_irrefl _ (h.ob _ ho))
    have HPS := Lib.hid (go_ok hok h.vl)
    have HLL := Lib.hid (show (goS P ps0 ws).L.length ≤ 900 by have := go_len hok h.vl; have := HWS.out; omega)
    have HLM := Lib.hid (show LimS (1000 * ((pks ws).length : Int)) (goS P ps0 ws) by rw [← run_pks h.vl]; exact run_lim hok (pks ws))
    have HPL := Lib.hid (show (pks ws).length ≤ 72 by unfold pks; rw [List.length_map]; exact HWS.out)
    clear hok h ih HT hP hnc hcm hO hX
    have hcall := HTT.out.call ws _ s LV QV HH.out.vl (HTT.out.keep _ _ _ HH.out.st hb1) (HH.out.bel.trans hb1) (fun k hk => Nat.lt_of_lt_of_le (HH.out.ob k hk) hb1.size) (HH.out.lv.bel hb1) (SlI.bel HH.out.qv hb1) HH.out.ap
    have HCALL := Lib.hid hcall
    clear hcall hb1
    go_enter Try.func45, Try.ntmps45
    go_wp2_with (first | (refine loadB 89 _ rfl rfl rfl HX.out (TGv _) ?_))
    refine HCALL.out.mono ?_
    clear HCALL
    rintro e2 w2 ⟨rfl, hst2, hk2⟩
    have HST2 := Lib.hid hst2
    have HK2 := Lib.hid ((KO.of_bel HB1.out).trans hk2)
    have HX2 := Lib.hid (hk2.box HX.out HG.out)
    clear hst2 hk2 HX HB1
    cases hv : (vis s ws).2
    · have HR := Lib.hid (show fldS vis (runW P (n + 1) ws) s = ((vis s ws).1, false) by rw [runW_succ]; unfold fldS; rw [if_neg (by rw [hv]; simp)])
      go_wp2
      go_ret
      unfold WkPost
      rw [HR.out]
      exact ⟨rfl, HST2.out, HK2.out⟩
    · have H0 := Lib.hid (show WkR P vis St O n s ws w 0 w2 from ⟨by rw [upW_zero]; unfold fldS; rw [if_pos hv]; rfl, by rw [upW_zero]; unfold fldS; rw [if_pos hv]; exact HST2.out, HK2.out⟩)
      have c0 := HX2.out.cell 0 (v := .slice A nP c) (vs_get _ (by omega))
      have hn6 : (nP : Int) ≤ 6 := by have := HPR.out.1; have := HOK.out.six; omega
      have HXE := Lib.hid (And.intro HX2.out HX2.out.lt)
      clear hv HST2 HK2
      go_wp2
      clear c0
      go_loopw [13] (fun t wr => ∃ i : Nat, i ≤ nP ∧ t = .int .i64 i ∧ WkR P vis St O n s ws w i wr ∧ Box wr w.heap.size (vs 29 (gP A nP c (goS P ps0 ws) LV QV false false)) 89) (fun t _ => nP - (intOf t).toNat)
      case atStart => exact ⟨0, by omega, rfl, H0.out, HX2.out⟩
      case round =>
        obtain ⟨i, hi, rfl, hr, hbx⟩ := hrel
        have HR := Lib.hid hr
        have HXr := Lib.hid hbx
        have HBW := Lib.hid (show Bel W wr from HH.out.bel.out.trans (hr.ko.below HH.out.bel.size HC.out.2.2))
        have HLV := Lib.hid (hr.ko.lv HH.out.lv fun X hX => (HH.out.ap X hX).1)
        have HQV := Lib.hid (hr.ko.qv HH.out.qv fun X hX => (HH.out.ap X hX).2)
        clear hr hbx H0
        by_cases hlt : i < nP
        · have hlt' : (i : Int) < nP := by omega
          go_wp2_with (first | (refine loadB 89 _ rfl rfl rfl HXr.out (TGv _) ?_))
          refine (canr_any (i : Int) (HPR.out.bel HBW.out) HC.out.1 HC.out.2.1 HOK.out HPS.out HLV.out (by unfold In64; omega)).mono ?_
          rintro e3 w3 ⟨rfl, hb3⟩
          have hcv : (decide (0 ≤ (i : Int)) && canP P (goS P ps0 ws) (i : Int).toNat) = canP P (goS P ps0 ws) i := by simp
          rw [hcv]
          have HB3 := Lib.hid (Bel.of hb3)
          have HX3 := Lib.hid ((Bel.of hb3).box HXr.out)
          clear hb3 hcv
          cases hcn : canP P (goS P ps0 ws) i
          · have HFN := Lib.hid (show WkR P vis St O n s ws w (i + 1) w3 from ⟨by rw [upW_no hcn]; exact HR.out.yes, by rw [upW_no hcn]; exact HTT.out.keep _ _ _ HR.out.st HB3.out, HR.out.ko.trans (KO.of_bel HB3.out)⟩)
            clear hcn
            go_wp2
            go_roundw
            case rel => exact ⟨i + 1, by omega, by go_num, HFN.out, HX3.out⟩
            case measure => simp [intOf]; omega
          · obtain ⟨hun, _, oo, hoo, _⟩ := can_op hcn
            have HSO := Lib.hid (show stepO P (goS P ps0 ws) i oo = goS P ps0 (ws ++ [i]) by rw [go_snoc, step_op hoo])
            have HVL := Lib.hid (show VlP P ps0 (ws ++ [i]) from vl_snoc.2 ⟨HH.out.vl, List.mem_filter.2 ⟨List.mem_range.2 hun, hcn⟩⟩)
            have HUP := Lib.hid (show fldS vis (ws :: upW P n ws (i + 1)) s = fldS vis (runW P n (ws ++ [i])) (fldS vis (ws :: upW P n ws i) s).1 by rw [upW_yes hcn, ← List.cons_append, fldS_yes HR.out.yes])
            have HOO := Lib.hid hoo
            clear hun hoo
            go_wp2_with (first | (refine loadG 89 _ rfl rfl rfl HX3.out (TGv _) ?_))
            refine (stepr_any i (Q := pks ws) (K := 1000 * ((pks ws).length : Int)) ((HPR.out.bel HBW.out).bel HB3.out) HC.out.1 HC.out.2.1 HOK.out (HLV.out.bel HB3.out) (SlI.bel HQV.out HB3.out) hlt HOO.out HLL.out (by have := HPL.out; omega) HLM.out (by have := HPL.out; omega)).mono ?_
            rintro e4 w4 ⟨LV', QV', rfl, hlv4, hqv4, hb4, hap4, _⟩
            rw [HSO.out] at hlv4 ⊢
            rw [← pks_snoc] at hqv4
            have HB4 := Lib.hid (Bel.of hb4)
            have HOB := Lib.hid (show ∀ k, O k → k < w3.heap.size from fun k hk => Nat.lt_of_lt_of_le (HH.out.ob k hk) (Nat.le_trans HR.out.ko.size HB3.out.size))
            have HNX := Lib.hid (show WkH P W St O n (fldS vis (ws :: upW P n ws i) s).1 (ws ++ [i]) LV' QV' w4 from
              ⟨HVL.out, fun x hx => by have := HH.out.fuel (i :: x) (by simpa [List.append_assoc] using hx); simp at this; omega, (HBW.out.trans HB3.out).trans HB4.out, HTT.out.keep _ _ _ (HTT.out.keep _ _ _ HR.out.st HB3.out) HB4.out, fun k hk => Nat.lt_of_lt_of_le (HOB.out k hk) HB4.out.size, hlv4, hqv4,
                fun X hX => ⟨(hap4 X (HOB.out X hX)).2 (HH.out.ap X hX).1, (hap4 X (HOB.out X hX)).1⟩⟩)
            have HX4 := Lib.hid (HB4.out.box HX3.out)
            clear hlv4 hqv4 hb4 hap4 hcn HX3 HOB
            go_wp2_with fail
            refine (HIH.out _ _ LV' QV' w4 HNX.out).mono ?_
            rintro e5 w5 ⟨rfl, hst5, hk5⟩
            have HST5 := Lib.hid hst5
            have HK5 := Lib.hid (HR.out.ko.trans ((KO.of_bel HB3.out).trans ((KO.of_bel HB4.out).trans hk5)))
            have HX5 := Lib.hid (hk5.box HX4.out HG.out)
            clear hst5 hk5 HNX HX4
            cases hv5 : (fldS vis (runW P n (ws ++ [i])) (fldS vis (ws :: upW P n ws i) s).1).2
            · obtain ⟨m, hm⟩ := upW_split (P := P) (n := n) (ws := ws) (show i + 1 ≤ P.length by have := HPR.out.1; omega)
              have HRR := Lib.hid (show fldS vis (runW P (n + 1) ws) s = fldS vis (runW P n (ws ++ [i])) (fldS vis (ws :: upW P n ws i) s).1 by
                rw [runW_succ, hm, ← List.cons_append, fldS_cut (by rw [HUP.out]; exact hv5), HUP.out])
              clear hm
              go_wp2
              go_ret
              unfold WkPost
              rw [HRR.out, hv5]
              exact ⟨rfl, HST5.out, HK5.out⟩
            · have HFN := Lib.hid (show WkR P vis St O n s ws w (i + 1) w5 from ⟨by rw [HUP.out]; exact hv5, by rw [HUP.out]; exact HST5.out, HK5.out⟩)
              clear hv5
              go_wp2
              go_roundw
              case rel => exact ⟨i + 1, by omega, by go_num, HFN.out, HX5.out⟩
              case measure => simp [intOf]; omega
        · obtain rfl : i = nP := by omega
          have HRR := Lib.hid (show fldS vis (runW P (n + 1) ws) s = fldS vis (ws :: upW P n ws i) s by rw [runW_succ, HPR.out.1])
          go_wp2
          go_ret
          unfold WkPost
          rw [HRR.out, HR.out.yes]
          exact ⟨rfl, HR.out.st, HR.out.ko⟩
def sumP (P : List (List Ev)) (i : Nat) : Nat := ((P.take i).map (·.length)).sum
theorem sumP_succ {P : List (List Ev)} {i : Nat} (h : i < P.length) : sumP P (i + 1) = sumP P i + (opsP P i).length := by
  unfold sumP
  rw [List.take_succ_eq_append_getElem h, List.map_append, List.sum_append]
  have : opsP P i = P[i] := by unfold opsP; rw [List.getD_eq_getElem?_getD, List.getElem?_eq_getElem h]; rfl
  simp [this]
theorem sumP_le {P : List (List Ev)} (hP : OkP P) : ∀ i, i ≤ P.length → sumP P i ≤ 12 * i
  | 0, _ => by simp [sumP]
  | i + 1, h => by
    rw [sumP_succ (by omega)]
    have := sumP_le hP i (by omega)
    have := hP.len i
    omega
set_option maxHeartbeats 4000000 in
theorem recheck_any (A : Option Addr) (n c : Nat) (P : List (List Ev)) (w : World) (h : Prg w A n P) (hnc : n ≤ c) (hcm : c ≤ maxLen) : Calls Try.prog 16 #[.slice A n c] w fun e w' => e = .returned (.int .i64 (evC P)) ∧ Below w.heap.size w w' := by
  have HP := Lib.hid h
  have HM := Lib.hid (And.intro hnc hcm)
  clear h hnc hcm
  go_enter Try.func16, Try.ntmps16
  go_wp2_with fail
  refine (pchk_any A n c P w HP.out HM.out.1 HM.out.2).mono ?_
  rintro e1 w1 ⟨rfl, hb1⟩
  have HB1 := Lib.hid (Bel.of hb1)
  clear hb1
  by_cases h0 : chkP P = 0
  · have hok := chk_ok.1 h0
    have HOK := Lib.hid hok
    have hq : (chkP P != 0) = false := by simpa using h0
    have hn6 : (n : Int) ≤ 6 := by have := HP.out.1; have := hok.six; omega
    have H0 := Lib.hid h0
    clear hok h0
    go_wp2
    go_loopw [4, 14] (fun v t wr => ∃ i : Nat, i ≤ n ∧ t = .int .i64 i ∧ v = .int .i64 (sumP P i) ∧ wr = w1) (fun _ t _ => n - (intOf t).toNat)
    case atStart => exact ⟨0, by omega, rfl, rfl, by first | trivial | rfl⟩
    case round =>
      obtain ⟨i, hi, rfl, rfl, hw⟩ := hrel
      by_cases hlt : i < n
      · subst hw
        have hlt' : (i : Int) < n := by omega
        have hil : i < P.length := by have := HP.out.1; omega
        obtain ⟨b, off, B, m, d, rfl, hb, hc, hsl, hm, hd⟩ := (HP.out.bel HB1.out).at_ hlt
        have HMO := Lib.hid hsl.1
        have hic : (i : Int) ≤ c := by have := HM.out; omega
        have HSS := Lib.hid (show sumP P (i + 1) = sumP P i + m by rw [sumP_succ hil, hsl.1])
        have hm12 : (m : Int) ≤ 12 := by have := HOK.out.len i; have := hsl.1; omega
        have hs72 : (sumP P i : Int) ≤ 72 := by have := sumP_le HOK.out i (by omega); omega
        clear hsl
        go_wp2
        go_roundw
        case rel => exact ⟨i + 1, by omega, by go_num, by rw [HSS.out]; go_num, by first | trivial | rfl⟩
        case measure => simp [intOf]; omega
      · obtain rfl : i = n := by omega
        subst hw
        have hsum : sumP P i = (P.map (·.length)).sum := by unfold sumP; rw [List.take_of_length_le (by have := HP.out.1; omega)]
        by_cases h10 : 10 < sumP P i
        · have h10' : (10 : Int) < sumP P i := by omega
          have HE := Lib.hid (show evC P = 2 by unfold evC; rw [if_neg (by have := H0.out; omega), ← hsum, if_pos h10])
          clear hsum
          go_wp2
          go_ret
          exact ⟨by rw [HE.out]; rfl, HB1.out.out⟩
        · have h10' : ¬ (10 : Int) < sumP P i := by omega
          have HE := Lib.hid (show evC P = 0 by unfold evC; rw [if_neg (by have := H0.out; omega), ← hsum, if_neg h10])
          clear hsum
          go_wp2
          go_ret
          exact ⟨by rw [HE.out]; rfl, HB1.out.out⟩
  · have hq : (chkP P != 0) = true := by simpa using h0
    have HE := Lib.hid (show evC P = chkP P by unfold evC; rw [if_pos h0])
    go_wp2
    go_ret
    exact ⟨by rw [HE.out]; rfl, HB1.out.out⟩
end Go.Proofs.Ytlcldcbdobgdbaa

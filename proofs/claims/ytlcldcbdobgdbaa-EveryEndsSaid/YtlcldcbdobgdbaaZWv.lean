import Derived.Shelf.Abstract
import Derived.Test.YtlcldcbdobgdbaaZWc
import Derived.Test.YtlcldcbdobgdbaaZEn
import Derived.Test.YtlcldcbdobgdbaaZKt
import Derived.Test.YtlcldcbdobgdbaaZFv
set_option linter.all false
set_option maxRecDepth 100000
namespace Go.Proofs.Ytlcldcbdobgdbaa
open Go Go.RowKit Go.Shelf

theorem over_dkw {P : List (List Ev)} (ws : List Nat) : overW P ws = (doneP P (goS P ps0 ws) || stuckP P (goS P ps0 ws)) := by
  unfold overW
  rw [Bool.eq_iff_iff, Bool.or_eq_true, Bool.not_eq_true']
  exact goes_end
theorem sli_one {w : World} {v : Value} {l : List Int} (h : SlI w v l) : v.oneCell' = true := by
  rcases h with ⟨rfl, _⟩ | ⟨b, o, n, c, rfl, _⟩ <;> rfl
def O2 (FB WB : Nat) (k : Nat) : Prop := k = FB ∨ k = WB
structure WyS (x : Array Value) (FB EB WB : Nat) (w : World) (s : Option (List Nat)) : Prop where
  f : Box w FB #[.bool s.isSome] 4
  e : Box w EB x 33
  v : ∃ v, Box w WB #[v] 36 ∧ SlI w v (pks (s.getD [])) ∧ apartV FB v ∧ apartV WB v
theorem WyS.bel {x : Array Value} {FB EB WB : Nat} {w w' : World} {s : Option (List Nat)} (h : WyS x FB EB WB w s) (hb : Bel w w') : WyS x FB EB WB w' s := by
  obtain ⟨v, h1, h2, h3⟩ := h.v
  exact ⟨hb.box h.f, hb.box h.e, ⟨v, hb.box h1, SlI.bel h2 hb, h3⟩⟩
theorem ko_two {FB WB : Nat} {w w1 : World} (h : Bel w w1) (a b : Value) : KO (O2 FB WB) w ((w1.setCell ⟨WB, 0, none⟩ a).setCell ⟨FB, 0, none⟩ b) :=
  ⟨h.os, h.tape, h.output, by simpa using h.size, fun k hk hn => ((heap_setCell_other _ ⟨FB, 0, none⟩ k _ (fun e => hn (.inl e))).trans (heap_setCell_other _ ⟨WB, 0, none⟩ k _ (fun e => hn (.inr e)))).trans (h.block k hk)⟩
theorem sli_two {FB WB : Nat} {w1 : World} {v : Value} {l : List Int} (h : SlI w1 v l) (h1 : apartV FB v) (h2 : apartV WB v) (a b : Value) : SlI ((w1.setCell ⟨WB, 0, none⟩ a).setCell ⟨FB, 0, none⟩ b) v l :=
  (ko_two (Bel.refl w1) a b).qv h fun X hX => by rcases hX with rfl | rfl <;> assumption
set_option maxHeartbeats 16000000 in
theorem wy_call {P : List (List Ev)} {W : World} {A : Option Addr} {nP c : Nat} (hP : Prg W A nP P) (hnc : nP ≤ c) (hcm : c ≤ maxLen) (hok : OkP P) {x : Array Value} (hx : EnF x) {FB EB WB : Nat} (hFE : FB ≠ EB) (hFW : FB ≠ WB) (hEW : EB ≠ WB) {ws : List Nat} (hv : VlP P ps0 ws)
    {w : World} {s : Option (List Nat)} {LV QV : Value} (hs : WyS x FB EB WB w s) (hb : Bel W w) (hlv : LVal w LV (goS P ps0 ws).L) (hq : SlI w QV (pks ws)) (hap : ∀ X, O2 FB WB X → apartV X LV ∧ apartV X QV) :
    Calls Try.prog 50 #[.agg (vs 29 (gP A nP c (goS P ps0 ws) LV QV false false)), .pointer (some ⟨FB, 0, none⟩), .pointer (some ⟨EB, 0, none⟩), .pointer (some ⟨WB, 0, none⟩)] w (TelPost (visW P x) (WyS x FB EB WB) (O2 FB WB) w s ws) := by
  have hov := over_dkw (P := P) ws
  obtain ⟨be, heq, hbe⟩ := eql_enf (EnF.of P (goS P ps0 ws)) hx
  have hew : endW P ws = endP P (goS P ps0 ws) := rfl
  have HPS := Lib.hid (go_ok hok hv)
  have HSZ := Lib.hid (show 20 = x.size by obtain ⟨_, _, _, _, _, rfl⟩ := hx; rfl)
  have hX := Box.new w (vs 29 (gP A nP c (goS P ps0 ws) LV QV false false)) 89
  have hb1 : Bel w (w.alloc (.cells (vs 29 (gP A nP c (goS P ps0 ws) LV QV false false)) 89)) := (Bel.refl w).alloc _
  have HX := Lib.hid hX
  have HB := Lib.hid hb1
  have HPR := Lib.hid (hP.bel (hb.trans hb1))
  have HC := Lib.hid (And.intro hnc (And.intro hcm hok))
  have HLV := Lib.hid (hlv.bel hb1)
  have HQV := Lib.hid (SlI.bel hq hb1)
  have HAP := Lib.hid hap
  have HS := Lib.hid (hs.bel hb1)
  have HNE := Lib.hid (And.intro hFE (And.intro hFW hEW))
  clear hP hnc hcm hok hX hb1 hlv hq hap hs hb hx hv
  go_enter Try.func50, Try.ntmps50
  go_wp2_with (first | (refine loadB 89 _ rfl rfl rfl HX.out (TGv _) ?_))
  refine (endr_any HPR.out HC.out.1 HC.out.2.1 HC.out.2.2 HPS.out HLV.out).mono ?_
  rintro e1 w1 ⟨rfl, hb1⟩
  have HB1 := Lib.hid (HB.out.trans (Bel.of hb1))
  have HX1 := Lib.hid ((Bel.of hb1).box HX.out)
  have HS1 := Lib.hid (HS.out.bel (Bel.of hb1))
  have HQ1 := Lib.hid (SlI.bel HQV.out (Bel.of hb1))
  clear hb1
  obtain ⟨m, hm⟩ : ∃ m, nat (goS P ps0 ws).mem = m := ⟨_, rfl⟩
  obtain ⟨vl, hvl⟩ : ∃ m, nat (goS P ps0 ws).vol = m := ⟨_, rfl⟩
  obtain ⟨hs, hhs⟩ : ∃ m, (goS P ps0 ws).has = m := ⟨_, rfl⟩
  obtain ⟨dd, hdd⟩ : ∃ m, doneP P (goS P ps0 ws) = m := ⟨_, rfl⟩
  obtain ⟨kk, hkk⟩ : ∃ m, stuckP P (goS P ps0 ws) = m := ⟨_, rfl⟩
  have hen : endP P (goS P ps0 ws) = (endc m vl hs dd kk).toArray := by unfold endP; rw [hm, hvl, hhs, hdd, hkk]
  rw [hdd, hkk] at hov
  rw [hen] at hew heq hbe ⊢
  have HEW := Lib.hid hew
  have HBE := Lib.hid hbe
  have HOV := Lib.hid hov
  clear hm hvl hhs hdd hkk hen hbe hov hew
  go_upto_region 2 with (first | (refine storeB 33 _ _ rfl rfl rfl rfl (Box.new w1 z20 33) rfl (by exact TEnd) (by rw [← end_vs]; exact vs_all endF_one) ?_))
  change Code.wp _ _ _ _ ((w1.alloc (.cells z20 33)).setRow w1.heap.size (endc m vl hs dd kk).toArray)
  have HE2 := Lib.hid ((Box.new w1 z20 33).setRow (endc m vl hs dd kk).toArray)
  have hb2 : Bel w1 ((w1.alloc (.cells z20 33)).setRow w1.heap.size (endc m vl hs dd kk).toArray) := ((Bel.refl w1).alloc (.cells z20 33)).setRow w1.heap.size (Nat.le_refl _) _
  have HB2 := Lib.hid (HB1.out.trans hb2)
  have HX2 := Lib.hid (hb2.box HX1.out)
  have HS2 := Lib.hid (HS1.out.bel hb2)
  have HQ2 := Lib.hid (SlI.bel HQ1.out hb2)
  clear HB1 HX1 HS1 HQ1 hb2 HS HB HX HLV HQV
  simp only [Act.put, Act.eval, List.setIfInBounds_toArray, List.set_cons_zero, List.set_cons_succ, Array.getD_eq_getD_getElem?, List.getElem?_toArray, List.getElem?_cons_zero, List.getElem?_cons_succ, Option.getD_some]
  generalize (w1.alloc (.cells z20 33)).setRow w1.heap.size (endc m vl hs dd kk).toArray = w2 at *
  generalize w1.heap.size = E at *
  have c0 := HS2.out.f.cell 0 (v := .bool s.isSome) rfl
  have c18 := HE2.out.cell 18 (v := .bool dd) rfl
  have c19 := HE2.out.cell 19 (v := .bool kk) rfl
  cases s with
  | some b0 =>
    have hc0 : (some b0).isSome = true := rfl
    rw [hc0] at c0
    have HR := Lib.hid (show visW P x (some b0) ws = (some b0, false) by unfold visW; rw [if_neg (by simp)]; rfl)
    clear hc0 c18 c19 heq
    go_wp2
    go_ret
    unfold TelPost
    rw [HR.out]
    exact ⟨rfl, HS2.out, KO.of_bel HB2.out⟩
  | none =>
    have hc0 : (none : Option (List Nat)).isSome = false := rfl
    rw [hc0] at c0
    clear hc0
    obtain ⟨v0, hv0, hsl0, hap0⟩ := HS2.out.v
    have HV0 := Lib.hid hv0
    have cq := HX2.out.cell 28 (v := QV) (vs_get _ (by omega))
    have HB3 := Lib.hid ((HS2.out.f.set_ne ⟨WB, 0, none⟩ QV (by have := HNE.out; dsimp only; omega)).set 0 (.bool true))
    have HB4 := Lib.hid (((HV0.out.set 0 QV).set_ne ⟨FB, 0, none⟩ (.bool true) (by have := HNE.out; dsimp only; omega)))
    have HE4 := Lib.hid ((HS2.out.e.set_ne ⟨WB, 0, none⟩ QV (by have := HNE.out; dsimp only; omega)).set_ne ⟨FB, 0, none⟩ (.bool true) (by have := HNE.out; dsimp only; omega))
    have HK4 := Lib.hid (ko_two (FB := FB) (WB := WB) HB2.out QV (.bool true))
    have HO4 := Lib.hid (sli_two HQ2.out (HAP.out FB (.inl rfl)).2 (HAP.out WB (.inr rfl)).2 QV (.bool true))
    have hF5 := HS2.out.f.set_ne ⟨WB, 0, none⟩ QV (by have := HNE.out; dsimp only; omega)
    have c5 := hF5.cell 0 (v := .bool false) rfl
    have f5 := hF5.frozen 0
    have c9 := HB3.out.cell 0 (v := .bool true) rfl
    clear hv0 hsl0 hap0 hF5
    cases dd
    · cases kk
      · have HR := Lib.hid (show visW P x none ws = (none, true) by unfold visW; rw [if_neg (by rw [HOV.out]; simp)]; rfl)
        clear cq c5 f5 c9 heq
        go_wp2
        go_ret
        unfold TelPost
        rw [HR.out]
        exact ⟨rfl, HS2.out, KO.of_bel HB2.out⟩
      · cases be
        · have HR := Lib.hid (show visW P x none ws = (none, true) by unfold visW; rw [if_neg (fun h => by have := HBE.out.2 (HEW.out ▸ h.2.2); cases this)]; rfl)
          clear cq c5 f5 c9
          go_wp2_with (first | (refine loadG 33 _ rfl rfl rfl HE2.out (by exact TEnd) ?_) | (refine loadG 33 _ rfl rfl rfl HS2.out.e (HSZ.out ▸ TEnd) ?_))
          go_ret
          unfold TelPost
          rw [HR.out]
          exact ⟨rfl, HS2.out, KO.of_bel HB2.out⟩
        · have HR := Lib.hid (show visW P x none ws = (some ws, false) by unfold visW; rw [if_pos ⟨rfl, by rw [HOV.out]; rfl, HEW.out.trans (HBE.out.1 rfl)⟩])
          go_wp2_with (first | (refine loadG 33 _ rfl rfl rfl HE2.out (by exact TEnd) ?_) | (refine loadG 33 _ rfl rfl rfl HS2.out.e (HSZ.out ▸ TEnd) ?_) | (refine l_cell1 36 _ _ rfl rfl rfl rfl (by kernel_rfl) (sli_one HQ2.out) (by rw [HV0.out.cell 0 rfl]; rfl) (HV0.out.frozen 0) ?_))
          go_ret
          unfold TelPost
          rw [HR.out]
          exact ⟨rfl, ⟨HB3.out, HE4.out, ⟨QV, HB4.out, HO4.out, (HAP.out FB (.inl rfl)).2, (HAP.out WB (.inr rfl)).2⟩⟩, HK4.out⟩
    · cases be
      · have HR := Lib.hid (show visW P x none ws = (none, true) by unfold visW; rw [if_neg (fun h => by have := HBE.out.2 (HEW.out ▸ h.2.2); cases this)]; rfl)
        clear cq c5 f5 c9
        go_wp2_with (first | (refine loadG 33 _ rfl rfl rfl HE2.out (by exact TEnd) ?_) | (refine loadG 33 _ rfl rfl rfl HS2.out.e (HSZ.out ▸ TEnd) ?_))
        go_ret
        unfold TelPost
        rw [HR.out]
        exact ⟨rfl, HS2.out, KO.of_bel HB2.out⟩
      · have HR := Lib.hid (show visW P x none ws = (some ws, false) by unfold visW; rw [if_pos ⟨rfl, by rw [HOV.out]; rfl, HEW.out.trans (HBE.out.1 rfl)⟩])
        go_wp2_with (first | (refine loadG 33 _ rfl rfl rfl HE2.out (by exact TEnd) ?_) | (refine loadG 33 _ rfl rfl rfl HS2.out.e (HSZ.out ▸ TEnd) ?_) | (refine l_cell1 36 _ _ rfl rfl rfl rfl (by kernel_rfl) (sli_one HQ2.out) (by rw [HV0.out.cell 0 rfl]; rfl) (HV0.out.frozen 0) ?_))
        go_ret
        unfold TelPost
        rw [HR.out]
        exact ⟨rfl, ⟨HB3.out, HE4.out, ⟨QV, HB4.out, HO4.out, (HAP.out FB (.inl rfl)).2, (HAP.out WB (.inr rfl)).2⟩⟩, HK4.out⟩
theorem wy_tel {P : List (List Ev)} {W : World} {A : Option Addr} {nP c : Nat} (hP : Prg W A nP P) (hnc : nP ≤ c) (hcm : c ≤ maxLen) (hok : OkP P) {x : Array Value} (hx : EnF x) {FB EB WB : Nat} (hFE : FB ≠ EB) (hFW : FB ≠ WB) (hEW : EB ≠ WB) :
    TelC P W A nP c 50 #[.pointer (some ⟨FB, 0, none⟩), .pointer (some ⟨EB, 0, none⟩), .pointer (some ⟨WB, 0, none⟩)] (visW P x) (WyS x FB EB WB) (O2 FB WB) where
  enters := enters_of Try.func50 (by kernel_rfl) rfl
  keep _ _ _ h hb := h.bel hb
  call _ _ _ _ _ hv hs hb _ hl hq ha := wy_call hP hnc hcm hok hx hFE hFW hEW hv hs hb hl hq ha
structure EnM (HB MB : Nat) (w : World) (s : List (Array Value)) : Prop where
  b : Box w HB #[.map (some MB)] 87
  m : MapA w MB s
  ne : HB ≠ MB
  all : ∀ x ∈ s, EnI x
theorem EnM.bel {HB MB : Nat} {w w' : World} {s : List (Array Value)} (h : EnM HB MB w s) (hb : Bel w w') : EnM HB MB w' s := ⟨hb.box h.b, h.m.bel hb, h.ne, h.all⟩
theorem end_int {P : List (List Ev)} (hok : OkP P) {ws : List Nat} (hv : VlP P ps0 ws) : EnI (endW P ws) := by
  have h := run_lim hok (pks ws)
  rw [run_pks hv] at h
  have hl : (pks ws).length ≤ 72 := by unfold pks; rw [List.length_map]; exact Nat.le_trans (vl_tot hok hv) (tot_72 hok)
  have hb : ∀ x, Lim (1000 * ((pks ws).length : Int)) x → In64 x := fun x hx => by
    have h1 := hx.1; have h2 := hx.2
    unfold In64
    omega
  exact ⟨_, _, _, _, _, rfl, fun i => hb _ (h.mem i), fun i => hb _ (h.vol i), fun i => hb _ (h.has i)⟩
set_option maxHeartbeats 16000000 in
theorem en_call {P : List (List Ev)} {W : World} {A : Option Addr} {nP c : Nat} (hP : Prg W A nP P) (hnc : nP ≤ c) (hcm : c ≤ maxLen) (hok : OkP P) {HB MB : Nat} {ws : List Nat} (hv : VlP P ps0 ws)
    {w : World} {s : List (Array Value)} {LV QV : Value} (hs : EnM HB MB w s) (hb : Bel W w) (hlv : LVal w LV (goS P ps0 ws).L) :
    Calls Try.prog 46 #[.agg (vs 29 (gP A nP c (goS P ps0 ws) LV QV false false)), .pointer (some ⟨HB, 0, none⟩)] w (TelPost (visA P) (EnM HB MB) (fun k => k = MB) w s ws) := by
  have hov := over_dkw (P := P) ws
  have hew : endW P ws = endP P (goS P ps0 ws) := rfl
  have hei := end_int hok hv
  have HPS := Lib.hid (go_ok hok hv)
  have hX := Box.new w (vs 29 (gP A nP c (goS P ps0 ws) LV QV false false)) 89
  have hb1 : Bel w (w.alloc (.cells (vs 29 (gP A nP c (goS P ps0 ws) LV QV false false)) 89)) := (Bel.refl w).alloc _
  have HX := Lib.hid hX
  have HBB := Lib.hid hb1
  have HPR := Lib.hid (hP.bel (hb.trans hb1))
  have HC := Lib.hid (And.intro hnc (And.intro hcm hok))
  have HLV := Lib.hid (hlv.bel hb1)
  have HS := Lib.hid (hs.bel hb1)
  clear hP hnc hcm hok hX hb1 hlv hs hb hv
  go_enter Try.func46, Try.ntmps46
  go_wp2_with (first | (refine loadB 89 _ rfl rfl rfl HX.out (TGv _) ?_))
  refine (endr_any HPR.out HC.out.1 HC.out.2.1 HC.out.2.2 HPS.out HLV.out).mono ?_
  rintro e1 w1 ⟨rfl, hb1⟩
  have HB1 := Lib.hid (HBB.out.trans (Bel.of hb1))
  have HS1 := Lib.hid (HS.out.bel (Bel.of hb1))
  clear hb1
  obtain ⟨m, hm⟩ : ∃ m, nat (goS P ps0 ws).mem = m := ⟨_, rfl⟩
  obtain ⟨vl, hvl⟩ : ∃ m, nat (goS P ps0 ws).vol = m := ⟨_, rfl⟩
  obtain ⟨hs, hhs⟩ : ∃ m, (goS P ps0 ws).has = m := ⟨_, rfl⟩
  obtain ⟨dd, hdd⟩ : ∃ m, doneP P (goS P ps0 ws) = m := ⟨_, rfl⟩
  obtain ⟨kk, hkk⟩ : ∃ m, stuckP P (goS P ps0 ws) = m := ⟨_, rfl⟩
  have hen : endP P (goS P ps0 ws) = (endc m vl hs dd kk).toArray := by unfold endP; rw [hm, hvl, hhs, hdd, hkk]
  rw [hdd, hkk] at hov
  rw [hen] at hew ⊢
  rw [hew] at hei
  have HEW := Lib.hid hew
  have HEI := Lib.hid hei
  have HOV := Lib.hid hov
  clear hm hvl hhs hdd hkk hen hov hew hei
  go_upto_region 2 with (first | (refine storeB 33 _ _ rfl rfl rfl rfl (Box.new w1 z20 33) rfl (by exact TEnd) (by rw [← end_vs]; exact vs_all endF_one) ?_))
  change Code.wp _ _ _ _ ((w1.alloc (.cells z20 33)).setRow w1.heap.size (endc m vl hs dd kk).toArray)
  have HE2 := Lib.hid ((Box.new w1 z20 33).setRow (endc m vl hs dd kk).toArray)
  have hb2 : Bel w1 ((w1.alloc (.cells z20 33)).setRow w1.heap.size (endc m vl hs dd kk).toArray) := ((Bel.refl w1).alloc (.cells z20 33)).setRow w1.heap.size (Nat.le_refl _) _
  have HB2 := Lib.hid (HB1.out.trans hb2)
  have HS2 := Lib.hid (HS1.out.bel hb2)
  clear HB1 HS1 hb2 HS HBB HX HLV
  simp only [Act.put, Act.eval, List.setIfInBounds_toArray, List.set_cons_zero, List.set_cons_succ, Array.getD_eq_getD_getElem?, List.getElem?_toArray, List.getElem?_cons_zero, List.getElem?_cons_succ, Option.getD_some]
  generalize (w1.alloc (.cells z20 33)).setRow w1.heap.size (endc m vl hs dd kk).toArray = w2 at *
  generalize w1.heap.size = E at *
  have c18 := HE2.out.cell 18 (v := .bool dd) rfl
  have c19 := HE2.out.cell 19 (v := .bool kk) rfl
  have cm := HS2.out.b.cell 0 (v := .map (some MB)) rfl
  cases dd
  · cases kk
    · have HR := Lib.hid (show visA P s ws = (s, true) by unfold visA; rw [if_neg (by rw [HOV.out]; simp)])
      clear cm
      go_wp2
      go_ret
      unfold TelPost
      rw [HR.out]
      exact ⟨rfl, HS2.out, KO.of_bel HB2.out⟩
    · by_cases hin : (endc m vl hs false true).toArray ∈ s
      · have HR := Lib.hid (show visA P s ws = (s, true) by unfold visA; rw [if_neg (by rw [HEW.out]; exact fun h => h.2 hin)])
        have HIN := Lib.hid hin
        clear hin
        go_wp2_with (first | (refine loadB 33 _ rfl rfl rfl HE2.out (by exact TEnd) ?_) | (refine updO end_keyT _ _ _ rfl rfl rfl rfl rfl HS2.out.m HS2.out.all HEI.out HIN.out ?_))
        go_ret
        unfold TelPost
        rw [HR.out]
        exact ⟨rfl, HS2.out, KO.of_bel HB2.out⟩
      · have HR := Lib.hid (show visA P s ws = (s ++ [(endc m vl hs false true).toArray], true) by unfold visA; rw [HEW.out, if_pos ⟨by rw [HOV.out]; rfl, hin⟩])
        have HIN := Lib.hid hin
        clear hin
        go_wp2_with (first | (refine loadB 33 _ rfl rfl rfl HE2.out (by exact TEnd) ?_) | (refine updA end_keyT _ _ _ rfl rfl rfl rfl rfl HS2.out.m HS2.out.all HEI.out HIN.out ?_))
        go_ret
        unfold TelPost
        rw [HR.out]
        refine ⟨rfl, ⟨(aset_other w2 MB _ HS2.out.ne).trans HS2.out.b, aset_map _ HS2.out.m.lt, HS2.out.ne, fun x hx => ?_⟩, ?_⟩
        · rcases List.mem_append.1 hx with hx | hx
          · exact HS2.out.all x hx
          · rw [List.mem_singleton.1 hx]; exact HEI.out
        · exact ⟨HB2.out.os, HB2.out.tape, HB2.out.output, by rw [aset_size]; exact HB2.out.size, fun k hk hn => (aset_other w2 MB _ hn).trans (HB2.out.block k hk)⟩
  · by_cases hin : (endc m vl hs true kk).toArray ∈ s
    · have HR := Lib.hid (show visA P s ws = (s, true) by unfold visA; rw [if_neg (by rw [HEW.out]; exact fun h => h.2 hin)])
      have HIN := Lib.hid hin
      clear hin
      go_wp2_with (first | (refine loadB 33 _ rfl rfl rfl HE2.out (by exact TEnd) ?_) | (refine updO end_keyT _ _ _ rfl rfl rfl rfl rfl HS2.out.m HS2.out.all HEI.out HIN.out ?_))
      go_ret
      unfold TelPost
      rw [HR.out]
      exact ⟨rfl, HS2.out, KO.of_bel HB2.out⟩
    · have HR := Lib.hid (show visA P s ws = (s ++ [(endc m vl hs true kk).toArray], true) by unfold visA; rw [HEW.out, if_pos ⟨by rw [HOV.out]; rfl, hin⟩])
      have HIN := Lib.hid hin
      clear hin
      go_wp2_with (first | (refine loadB 33 _ rfl rfl rfl HE2.out (by exact TEnd) ?_) | (refine updA end_keyT _ _ _ rfl rfl rfl rfl rfl HS2.out.m HS2.out.all HEI.out HIN.out ?_))
      go_ret
      unfold TelPost
      rw [HR.out]
      refine ⟨rfl, ⟨(aset_other w2 MB _ HS2.out.ne).trans HS2.out.b, aset_map _ HS2.out.m.lt, HS2.out.ne, fun x hx => ?_⟩, ?_⟩
      · rcases List.mem_append.1 hx with hx | hx
        · exact HS2.out.all x hx
        · rw [List.mem_singleton.1 hx]; exact HEI.out
      · exact ⟨HB2.out.os, HB2.out.tape, HB2.out.output, by rw [aset_size]; exact HB2.out.size, fun k hk hn => (aset_other w2 MB _ hn).trans (HB2.out.block k hk)⟩
theorem en_tel {P : List (List Ev)} {W : World} {A : Option Addr} {nP c : Nat} (hP : Prg W A nP P) (hnc : nP ≤ c) (hcm : c ≤ maxLen) (hok : OkP P) {HB MB : Nat} :
    TelC P W A nP c 46 #[.pointer (some ⟨HB, 0, none⟩)] (visA P) (EnM HB MB) (fun k => k = MB) where
  enters := enters_of Try.func46 (by kernel_rfl) rfl
  keep _ _ _ h hb := h.bel hb
  call _ _ _ _ _ hv hs hb _ hl _ _ := en_call hP hnc hcm hok hv hs hb hl
end Go.Proofs.Ytlcldcbdobgdbaa

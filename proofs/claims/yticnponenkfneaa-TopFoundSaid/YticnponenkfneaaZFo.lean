import Derived.Test.YticnponenkfneaaZMr
import Derived.Test.YticnponenkfneaaZCk3
set_option linter.all false
set_option maxRecDepth 100000
namespace Go.Proofs.Yticnponenkfneaa
open Go Go.RowKit

structure FoR (w : World) (M : Nat) (A : Option Addr) (n c : Nat) (P : List (List Ev)) (ts : List Int) (i : Nat) (wr : World) : Prop where
  ex : ∃ LV, MBx wr M A n c (mcP (runP P (ts.take i))) LV ∧ wr.ownsRow w.heap.size 67 3 LV (runP P (ts.take i)).L.length (evc (runP P (ts.take i)).L) ∧ (∀ g, LV.ownBlock = some g → g ≠ M)
  below : Bel w wr
def FoPost (w : World) (A : Option Addr) (n c : Nat) (P : List (List Ev)) (ts : List Int) (e : Ending) (w' : World) : Prop :=
  ∃ M LV, e = .returned (.tuple #[.pointer (some ⟨M, 0, none⟩), .int .i64 0]) ∧ MBx w' M A n c (mcP (runP P ts)) LV ∧ w'.ownsRow w.heap.size 67 3 LV (runP P ts).L.length (evc (runP P ts).L) ∧ (∀ g, LV.ownBlock = some g → g ≠ M) ∧ w.heap.size ≤ M ∧ Below w.heap.size w w'
set_option maxHeartbeats 16000000 in
theorem follow_yes (HC : CheckC) {A : Option Addr} {n c : Nat} {P : List (List Ev)} {B : Option Addr} {m d : Nat} {ts : List Int} {w : World} (h : Prg w A n P) (hnc : n ≤ c) (hcm : c ≤ maxLen) (hs : SI w B m ts) (hme : m ≤ d) (hem : d ≤ maxLen) (h0 : chkP P = 0) (hm100 : m ≤ 100) :
    Calls Try.prog 29 #[.slice A n c, .slice B m d] w (FoPost w A n c P ts) := by
  unfold CheckC at HC
  have HCK := Lib.hid HC
  have HP := Lib.hid h
  have HS := Lib.hid hs
  have HM := Lib.hid (And.intro hnc hcm)
  have HE := Lib.hid (And.intro hme hem)
  have HC0 := Lib.hid h0
  have hok := chk_ok.1 h0
  have hme' : (m : Int) ≤ d := by omega
  have hm100' : ¬ (100 : Int) < m := by omega
  clear h hs hnc hcm hem hme HC h0
  go_enter Try.func29, Try.ntmps29
  go_wp2_with fail
  refine (HCK.out A n c P _ HP.out HM.out.1 HM.out.2).mono ?_
  rintro e1 w1 ⟨rfl, hb1⟩
  rw [HC0.out]
  have HW1 := Lib.hid (Bel.of hb1)
  have HPW := Lib.hid (HP.out.bel HW1.out)
  clear hb1
  go_wp2_with fail
  refine (mstart_any A n c w1).mono ?_
  rintro e2 w2 ⟨rfl, hm2, hb2⟩
  have HW2 := Lib.hid (HW1.out.trans (Bel.of hb2))
  have hEG : w.heap.size ≤ w1.heap.size := HW1.out.size
  have H0 := Lib.hid (show FoR w w1.heap.size A n c P ts 0 w2 from ⟨⟨.slice none 0 0, hm2, World.ownsRow_nil _ _ _ _, (fun g hg => by cases hg)⟩, HW2.out⟩)
  clear hm2 hb2 HW1 HPW hm100'
  generalize w1.heap.size = M at *
  go_wp2
  go_loopw [22] (fun t wr => ∃ i : Nat, i ≤ m ∧ t = .int .i64 i ∧ FoR w M A n c P ts i wr) (fun t _ => m - (intOf t).toNat)
  case atStart => exact ⟨0, by omega, rfl, H0.out⟩
  case round =>
    obtain ⟨i, hi, rfl, hr⟩ := hrel
    obtain ⟨LV, hg, how, hap⟩ := hr.ex
    have HBL := Lib.hid hr.below
    have HGB := Lib.hid hg
    have HAP := Lib.hid (And.intro how hap)
    have HPw := Lib.hid (HP.out.bel HBL.out)
    have HPR := Lib.hid (runP_ok hok (ts.take i))
    clear hr hg how hap H0
    by_cases hlt : i < m
    · have hlt' : (i : Int) < m := by omega
      obtain ⟨b, o, rfl, hc⟩ := HS.out.2 (by omega)
      have hci := HBL.out.cell (hc i hlt)
      have htl : i < ts.length := by rw [HS.out.1]; exact hlt
      have HSN := Lib.hid (show runP P (ts.take (i + 1)) = pickP P (runP P (ts.take i)) (ts[i]?.getD 0) by rw [take_one htl, runP_snoc])
      have hic : (i : Int) ≤ d := by have := HE.out.1; omega
      clear hc htl
      generalize ts[i]?.getD 0 = t at *
      have HLL := Lib.hid (show (runP P (ts.take i)).L.length ≤ 900 by have := (picks_len P (ts.take i) ps0).1; rw [List.length_take] at this; have h0 : ps0.L.length = 0 := rfl; unfold runP; omega)
      have HLM := Lib.hid (run_lim hok (ts.take i))
      have HLK := Lib.hid (show (1000 : Int) * ((ts.take i).length : Int) ≤ 1000000 by rw [List.length_take]; omega)
      generalize runP P (ts.take i) = s at *
      go_wp2_with fail
      refine (mcan_any t HGB.out HPw.out HM.out.1 hok HPR.out).mono ?_
      rintro e3 w3 ⟨rfl, hb3⟩
      have HB3 := Lib.hid (Bel.of hb3)
      have HG3 := Lib.hid (HGB.out.bel (Bel.of hb3))
      have HP3 := Lib.hid (HPw.out.bel (Bel.of hb3))
      have HO3 := Lib.hid (own_bel HAP.out.1 (Bel.of hb3))
      clear hb3 hci
      cases hcn : (decide (0 ≤ t) && canP P s t.toNat)
      · have HSM := Lib.hid (show runP P (ts.take (i + 1)) = s by rw [HSN.out]; unfold pickP; rw [if_neg]; rintro ⟨h1, h2⟩; rw [decide_eq_true h1, h2] at hcn; cases hcn)
        go_wp2
        go_roundw
        case rel => exact ⟨i + 1, by omega, by go_num, ⟨⟨LV, by rw [HSM.out]; exact HG3.out, by rw [HSM.out]; exact HO3.out, HAP.out.2⟩, HBL.out.trans HB3.out⟩⟩
        case measure => simp [intOf]; omega
      · simp only [Bool.and_eq_true, decide_eq_true_iff] at hcn
        obtain ⟨u, rfl⟩ : ∃ u : Nat, t = u := ⟨t.toNat, by omega⟩
        rw [Int.toNat_natCast] at hcn
        obtain ⟨hun, _, oo, hoo, hco⟩ := can_op hcn.2
        have HU := Lib.hid (show u < n by rw [← HPw.out.1]; exact hun)
        have HOO := Lib.hid hoo
        have HSM := Lib.hid (show runP P (ts.take (i + 1)) = stepO P s u oo by rw [HSN.out]; unfold pickP; rw [if_pos ⟨by omega, by rw [Int.toNat_natCast]; exact hcn.2⟩, Int.toNat_natCast, step_op hoo])
        have hb0 : (decide ((0 : Int) ≤ (u : Int)) && canP P s u) = true := by rw [hcn.2]; simp
        clear hun hoo hco
        have hcv := hcn.2
        clear hcn
        have HA12 := Lib.hid (show s.a u ≤ 12 from Nat.le_trans (HPR.out.le u) (hok.len u))
        go_wp2_with fail
        refine (goon_any u w.heap.size (o := oo) HG3.out HP3.out HM.out.1 hok HU.out HOO.out HLM.out HLK.out HO3.out HAP.out.2 hEG HLL.out HA12.out).mono ?_
        rintro e4 w4 ⟨LV4, rfl, hg4, ho4, hn4, hb4⟩
        have HF4 := Lib.hid (And.intro hg4 (And.intro ho4 hn4))
        have HB4 := Lib.hid (show Bel w w4 from (HBL.out.trans HB3.out).out.trans hb4)
        clear hg4 ho4 hn4 hb4 hb0 hcv
        go_wp2
        go_roundw
        case rel => exact ⟨i + 1, by omega, by go_num, ⟨⟨LV4, by rw [HSM.out]; exact HF4.out.1, by rw [HSM.out]; exact HF4.out.2.1, HF4.out.2.2⟩, HB4.out⟩⟩
        case measure => simp [intOf]; omega
    · obtain rfl : m = i := by omega
      have htk : ts.take m = ts := by rw [← HS.out.1, List.take_length]
      rw [htk] at HGB HPR HAP
      clear htk
      go_wp2
      go_ret2
      exact ⟨M, LV, rfl, HGB.out, HAP.out.1, HAP.out.2, hEG, HBL.out.out⟩
set_option maxHeartbeats 4000000 in
theorem follow_no (HC : CheckC) {A : Option Addr} {n c : Nat} {P : List (List Ev)} {B : Option Addr} {m d : Nat} {ts : List Int} {w : World} {cd : Int} (h : Prg w A n P) (hnc : n ≤ c) (hcm : c ≤ maxLen) (_hs : SI w B m ts) (hme : m ≤ d) (hem : d ≤ maxLen) (h0 : (chkP P ≠ 0 ∧ cd = chkP P) ∨ (chkP P = 0 ∧ 100 < m ∧ cd = 2)) :
    Calls Try.prog 29 #[.slice A n c, .slice B m d] w fun e w' => e = .returned (.tuple #[.pointer none, .int .i64 cd]) ∧ Below w.heap.size w w' := by
  unfold CheckC at HC
  have HCK := Lib.hid HC
  have HP := Lib.hid h
  have HM := Lib.hid (And.intro hnc hcm)
  have hme' : (m : Int) ≤ d := by omega
  clear h hnc hcm hem hme HC
  go_enter Try.func29, Try.ntmps29
  go_wp2_with fail
  refine (HCK.out A n c P _ HP.out HM.out.1 HM.out.2).mono ?_
  rintro e1 w1 ⟨rfl, hb1⟩
  have HW1 := Lib.hid (Bel.of hb1)
  clear hb1
  rcases h0 with ⟨h0, rfl⟩ | ⟨h0, h1, rfl⟩
  · have h2 : (chkP P != 0) = true := by simpa using h0
    clear h0
    go_wp2
    go_ret2
    exact ⟨rfl, HW1.out.out⟩
  · rw [h0]
    have h1' : (100 : Int) < m := by omega
    clear h0
    go_wp2
    go_ret2
    exact ⟨rfl, HW1.out.out⟩
set_option maxHeartbeats 16000000 in
theorem prgrun_any (HC : CheckC) : RunC := by
  intro A n c P B m d ts w h hnc hcm hs hme hem
  have HY := Lib.hid (fun (w : World) (h : Prg w A n P) (hs : SI w B m ts) (h0 : chkP P = 0) (h1 : m ≤ 100) => follow_yes HC h hnc hcm hs hme hem h0 h1)
  have HN := Lib.hid (fun (w : World) (cd : Int) (h : Prg w A n P) (hs : SI w B m ts) (h0 : (chkP P ≠ 0 ∧ cd = chkP P) ∨ (chkP P = 0 ∧ 100 < m ∧ cd = 2)) => follow_no (cd := cd) HC h hnc hcm hs hme hem h0)
  have HP := Lib.hid h
  have HS := Lib.hid hs
  have HM := Lib.hid hnc
  have HR1 := Lib.hid (Box.new w z20 33)
  have HW1 := Lib.hid ((Bel.refl w).alloc (.cells z20 33))
  have HNIL := Lib.hid (fun w' : World => World.ownsRow_nil w' w.heap.size 67 3)
  clear h hs hnc hcm hem hme HC
  have HCD := Lib.hid (show (chkP P ≠ 0 ∨ 100 < m) → ∃ cd, ((chkP P ≠ 0 ∧ cd = chkP P) ∨ (chkP P = 0 ∧ 100 < m ∧ cd = 2)) ∧ (cd != 0) = true by
    intro h
    by_cases h0 : chkP P = 0
    · exact ⟨2, .inr ⟨h0, by rcases h with h | h; exact absurd h0 h; exact h, rfl⟩, rfl⟩
    · exact ⟨chkP P, .inl ⟨h0, rfl⟩, by simpa using h0⟩)
  by_cases hbad : chkP P ≠ 0 ∨ 100 < m
  · obtain ⟨cd, hcd, hne⟩ := HCD.out hbad
    have HCC := Lib.hid hcd
    clear hcd HCD hbad HY
    go_enter Try.func11, Try.ntmps11
    go_wp2_with fail
    refine (HN.out _ _ (HP.out.bel HW1.out) (HS.out.keep HW1.out) HCC.out).mono ?_
    rintro e1 w1 ⟨rfl, hb1⟩
    have HW2 := Lib.hid (HW1.out.trans (Bel.of hb1))
    have HR2 := Lib.hid ((Bel.of hb1).box HR1.out)
    clear hb1
    go_wp2_with (refine storeB 33 _ _ rfl rfl rfl rfl HR2.out rfl (by exact TEnd) z20_all ?_)
    refine bodyPost_ret (res_ctt Try.results11 rfl (B := w.heap.size) (c := z20) (t := 33) (HR2.out.setRow _) TEnd) rfl ?_
    refine ⟨_, _, [], cd, rfl, ?_, HNIL.out _, (HW2.out.setRow w.heap.size (Nat.le_refl _) _).out⟩
    rcases HCC.out with ⟨h1, h2⟩ | ⟨h1, h2, h3⟩
    · exact .inl ⟨h1, rfl, rfl, h2⟩
    · exact .inr (.inl ⟨h1, by rw [HS.out.1]; exact h2, rfl, rfl, h3⟩)
  · have hC : chkP P = 0 := by
      by_cases h0 : chkP P = 0
      · exact h0
      · exact absurd (.inl h0) hbad
    have hm100 : m ≤ 100 := by
      by_cases h0 : m ≤ 100
      · exact h0
      · exact absurd (.inr (by omega)) hbad
    have hok := chk_ok.1 hC
    have HC := Lib.hid hC
    have HM1 := Lib.hid hm100
    clear hbad HCD HN hC hm100
    go_enter Try.func11, Try.ntmps11
    go_wp2_with fail
    refine (HY.out _ (HP.out.bel HW1.out) (HS.out.keep HW1.out) HC.out HM1.out).mono ?_
    rintro e1 wr ⟨M, LV, rfl, hg, how, hap, hsz, hb1⟩
    have HBL := Lib.hid (HW1.out.trans (Bel.of hb1))
    have HRS := Lib.hid ((Bel.of hb1).box HR1.out)
    have HGB := Lib.hid hg
    have HAP := Lib.hid (And.intro (show wr.ownsRow (w.heap.size + 1) 67 3 LV (runP P ts).L.length (evc (runP P ts).L) by simpa using how) hap)
    have HPw := Lib.hid (HP.out.bel HBL.out)
    have HPR := Lib.hid (runP_ok hok ts)
    have hEM : w.heap.size ≠ M := by have : w.heap.size + 1 ≤ M := by simpa using hsz
                                     omega
    clear hg how hap hsz hb1
    have FL := fun (w9 : World) (h9 : Below wr.heap.size wr w9) => (HGB.out.bel (Bel.of h9)).l
    have HEN := Lib.hid (fun (w9 : World) (h9 : Below wr.heap.size wr w9) => outc_any (HGB.out.bel (Bel.of h9)) (HPw.out.bel (Bel.of h9)) HM.out hok HPR.out)
    go_wp2_with fail
    refine region_growT 6 (by kernel_rfl) ?_
    (repeat (first | ((first | refine wpT_goN 0 (by simp only [List.getElem?_toArray, List.getElem?_cons_zero, List.getElem?_cons_succ] <;> rfl) (by decide +kernel) (by decide +kernel) (by kernel_rfl) (by rfl) (by exact fun _ _ _ _ h => h) (Nat.le_refl _) ?_ | refine wpT_goN 1 (by simp only [List.getElem?_toArray, List.getElem?_cons_zero, List.getElem?_cons_succ] <;> rfl) (by decide +kernel) (by decide +kernel) (by kernel_rfl) (by rfl) (by exact fun _ _ _ _ h => h) (Nat.le_refl _) ?_ | refine wpT_goN 2 (by simp only [List.getElem?_toArray, List.getElem?_cons_zero, List.getElem?_cons_succ] <;> rfl) (by decide +kernel) (by decide +kernel) (by kernel_rfl) (by rfl) (by exact fun _ _ _ _ h => h) (Nat.le_refl _) ?_ | refine wpT_goN 3 (by simp only [List.getElem?_toArray, List.getElem?_cons_zero, List.getElem?_cons_succ] <;> rfl) (by decide +kernel) (by decide +kernel) (by kernel_rfl) (by rfl) (by exact fun _ _ _ _ h => h) (Nat.le_refl _) ?_ | refine wpT_goN 4 (by simp only [List.getElem?_toArray, List.getElem?_cons_zero, List.getElem?_cons_succ] <;> rfl) (by decide +kernel) (by decide +kernel) (by kernel_rfl) (by rfl) (by exact fun _ _ _ _ h => h) (Nat.le_refl _) ?_ | refine wpT_goN 5 (by simp only [List.getElem?_toArray, List.getElem?_cons_zero, List.getElem?_cons_succ] <;> rfl) (by decide +kernel) (by decide +kernel) (by kernel_rfl) (by rfl) (by exact fun _ _ _ _ h => h) (Nat.le_refl _) ?_); apply Exists.intro; refine ⟨fun w1 h1 => ?_, ?_⟩; (first | exact g_move _ rfl | exact g_assign _ rfl | (have fct0 := FL w1 h1; go_simp; first | exact ⟨rfl, rfl⟩ | rfl | (go_at_call 30; (with_reducible refine (HEN.out _ h1).mono ?_); rintro e w' ⟨rfl, hb⟩; first | exact ⟨rfl, hb⟩ | exact ⟨rfl, hb ▸ Bel.refl _⟩))); simp only [Act.put, Act.eval, List.setIfInBounds_toArray, List.set_cons_zero, List.set_cons_succ, Array.getD_eq_getD_getElem?, List.getElem?_toArray, List.getElem?_cons_zero, List.getElem?_cons_succ, Option.getD_some]) | ((first | refine wpT_skip 0 (by simp only [List.getElem?_toArray, List.getElem?_cons_zero, List.getElem?_cons_succ] <;> rfl) (by decide +kernel) (by decide +kernel) (by kernel_rfl) (by rfl) (by exact fun _ _ _ _ h => h) (Nat.le_refl _) ?_ | refine wpT_skip 1 (by simp only [List.getElem?_toArray, List.getElem?_cons_zero, List.getElem?_cons_succ] <;> rfl) (by decide +kernel) (by decide +kernel) (by kernel_rfl) (by rfl) (by exact fun _ _ _ _ h => h) (Nat.le_refl _) ?_ | refine wpT_skip 2 (by simp only [List.getElem?_toArray, List.getElem?_cons_zero, List.getElem?_cons_succ] <;> rfl) (by decide +kernel) (by decide +kernel) (by kernel_rfl) (by rfl) (by exact fun _ _ _ _ h => h) (Nat.le_refl _) ?_ | refine wpT_skip 3 (by simp only [List.getElem?_toArray, List.getElem?_cons_zero, List.getElem?_cons_succ] <;> rfl) (by decide +kernel) (by decide +kernel) (by kernel_rfl) (by rfl) (by exact fun _ _ _ _ h => h) (Nat.le_refl _) ?_ | refine wpT_skip 4 (by simp only [List.getElem?_toArray, List.getElem?_cons_zero, List.getElem?_cons_succ] <;> rfl) (by decide +kernel) (by decide +kernel) (by kernel_rfl) (by rfl) (by exact fun _ _ _ _ h => h) (Nat.le_refl _) ?_ | refine wpT_skip 5 (by simp only [List.getElem?_toArray, List.getElem?_cons_zero, List.getElem?_cons_succ] <;> rfl) (by decide +kernel) (by decide +kernel) (by kernel_rfl) (by rfl) (by exact fun _ _ _ _ h => h) (Nat.le_refl _) ?_); simp only [Act.put, Act.eval, List.setIfInBounds_toArray, List.set_cons_zero, List.set_cons_succ, Array.getD_eq_getD_getElem?, List.getElem?_toArray, List.getElem?_cons_zero, List.getElem?_cons_succ, Option.getD_some]) | ((first | refine wpT_goA 0 (by simp only [List.getElem?_toArray, List.getElem?_cons_zero, List.getElem?_cons_succ] <;> rfl) (by decide +kernel) (by decide +kernel) (by kernel_rfl) (by rfl) (by exact fun _ _ _ _ h => h) ?_ | refine wpT_goA 1 (by simp only [List.getElem?_toArray, List.getElem?_cons_zero, List.getElem?_cons_succ] <;> rfl) (by decide +kernel) (by decide +kernel) (by kernel_rfl) (by rfl) (by exact fun _ _ _ _ h => h) ?_ | refine wpT_goA 2 (by simp only [List.getElem?_toArray, List.getElem?_cons_zero, List.getElem?_cons_succ] <;> rfl) (by decide +kernel) (by decide +kernel) (by kernel_rfl) (by rfl) (by exact fun _ _ _ _ h => h) ?_ | refine wpT_goA 3 (by simp only [List.getElem?_toArray, List.getElem?_cons_zero, List.getElem?_cons_succ] <;> rfl) (by decide +kernel) (by decide +kernel) (by kernel_rfl) (by rfl) (by exact fun _ _ _ _ h => h) ?_ | refine wpT_goA 4 (by simp only [List.getElem?_toArray, List.getElem?_cons_zero, List.getElem?_cons_succ] <;> rfl) (by decide +kernel) (by decide +kernel) (by kernel_rfl) (by rfl) (by exact fun _ _ _ _ h => h) ?_ | refine wpT_goA 5 (by simp only [List.getElem?_toArray, List.getElem?_cons_zero, List.getElem?_cons_succ] <;> rfl) (by decide +kernel) (by decide +kernel) (by kernel_rfl) (by rfl) (by exact fun _ _ _ _ h => h) ?_); apply Exists.intro; refine ⟨fun w1 => ?_, ?_⟩; (first | exact a_move _ rfl | exact a_assign _ rfl | (go_simp; first | exact ⟨rfl, rfl⟩ | rfl)); simp only [Act.put, Act.eval, List.setIfInBounds_toArray, List.set_cons_zero, List.set_cons_succ, Array.getD_eq_getD_getElem?, List.getElem?_toArray, List.getElem?_cons_zero, List.getElem?_cons_succ, Option.getD_some])))
    clear FL
    have HRow := Lib.hid (fun (w9 : World) (h9 : w9.ownsRow (w.heap.size + 1) 67 3 LV (runP P ts).L.length (evc (runP P ts).L)) (cs : Array Value) => own_keep (w' := w9.setRow w.heap.size cs) h9 (fun g hg _ => setRow_other w9 w.heap.size g cs (by have := (own_lt h9 hg).1; omega)))
    refine wpT_orL 5 (by decide +kernel) ?_ ?_
    · intro y1 hy1
      refine op_wanted (by simp only [List.getElem?_toArray, List.getElem?_cons_zero, List.getElem?_cons_succ] <;> rfl) rfl ?_
      have c7 := (HGB.out.bel hy1).l
      go_simp
      refine ⟨Below.refl _ _, ?_⟩
      refine wpT_now (by decide +kernel) ?_
      intro y2 hy2
      refine op_wanted (by simp only [List.getElem?_toArray, List.getElem?_cons_zero, List.getElem?_cons_succ] <;> rfl) rfl ?_
      have hE2 := hy1.trans hy2
      refine wp_storeB TEnd _ _ rfl rfl (by rfl) rfl (hE2.box HRS.out) rfl (by unfold endP; rw [← end_vs]; exact vs_all endF_one) ?_
      simp only [Act.put, Act.eval, List.setIfInBounds_toArray, List.set_cons_zero, List.set_cons_succ, Array.getD_eq_getD_getElem?, List.getElem?_toArray, List.getElem?_cons_zero, List.getElem?_cons_succ, Option.getD_some]
      (repeat (first | ((first | refine wpT_goN 7 (by simp only [List.getElem?_toArray, List.getElem?_cons_zero, List.getElem?_cons_succ] <;> rfl) (by decide +kernel) (by decide +kernel) (by kernel_rfl) (by rfl) (by exact fun _ _ _ _ h => h) (Nat.le_trans hE2.size (by simp)) ?_ | refine wpT_goN 8 (by simp only [List.getElem?_toArray, List.getElem?_cons_zero, List.getElem?_cons_succ] <;> rfl) (by decide +kernel) (by decide +kernel) (by kernel_rfl) (by rfl) (by exact fun _ _ _ _ h => h) (Nat.le_trans hE2.size (by simp)) ?_); apply Exists.intro; refine ⟨fun w1 h1 => ?_, ?_⟩; (first | exact g_move _ rfl | exact g_assign _ rfl | (go_simp; first | exact ⟨rfl, rfl⟩ | rfl)); simp only [Act.put, Act.eval, List.setIfInBounds_toArray, List.set_cons_zero, List.set_cons_succ, Array.getD_eq_getD_getElem?, List.getElem?_toArray, List.getElem?_cons_zero, List.getElem?_cons_succ, Option.getD_some]) | ((first | refine wpT_skip 7 (by simp only [List.getElem?_toArray, List.getElem?_cons_zero, List.getElem?_cons_succ] <;> rfl) (by decide +kernel) (by decide +kernel) (by kernel_rfl) (by rfl) (by exact fun _ _ _ _ h => h) (Nat.le_trans hE2.size (by simp)) ?_ | refine wpT_skip 8 (by simp only [List.getElem?_toArray, List.getElem?_cons_zero, List.getElem?_cons_succ] <;> rfl) (by decide +kernel) (by decide +kernel) (by kernel_rfl) (by rfl) (by exact fun _ _ _ _ h => h) (Nat.le_trans hE2.size (by simp)) ?_); simp only [Act.put, Act.eval, List.setIfInBounds_toArray, List.set_cons_zero, List.set_cons_succ, Array.getD_eq_getD_getElem?, List.getElem?_toArray, List.getElem?_cons_zero, List.getElem?_cons_succ, Option.getD_some]) | ((first | refine wpT_goA 7 (by simp only [List.getElem?_toArray, List.getElem?_cons_zero, List.getElem?_cons_succ] <;> rfl) (by decide +kernel) (by decide +kernel) (by kernel_rfl) (by rfl) (by exact fun _ _ _ _ h => h) ?_ | refine wpT_goA 8 (by simp only [List.getElem?_toArray, List.getElem?_cons_zero, List.getElem?_cons_succ] <;> rfl) (by decide +kernel) (by decide +kernel) (by kernel_rfl) (by rfl) (by exact fun _ _ _ _ h => h) ?_); apply Exists.intro; refine ⟨fun w1 => ?_, ?_⟩; (first | exact a_move _ rfl | exact a_assign _ rfl | (go_simp; first | exact ⟨rfl, rfl⟩ | rfl)); simp only [Act.put, Act.eval, List.setIfInBounds_toArray, List.set_cons_zero, List.set_cons_succ, Array.getD_eq_getD_getElem?, List.getElem?_toArray, List.getElem?_cons_zero, List.getElem?_cons_succ, Option.getD_some])))
      refine wpT_done (by decide +kernel) ?_ _
      intro y3 hy3
      have hRy := hy3.box ((hE2.box HRS.out).setRow (endP P (runP P ts)))
      have hOy := own_bel (HRow.out _ (own_bel HAP.out.1 hE2) (endP P (runP P ts))) hy3
      have hBy := ((HBL.out.trans hE2).setRow w.heap.size (Nat.le_refl _) (endP P (runP P ts))).trans hy3
      go_wp2_with fail
      refine bodyPost_ret (res_ctt Try.results11 rfl (B := w.heap.size) (c := endP P (runP P ts)) (t := 33) hRy TEnd) rfl ?_
      exact ⟨_, _, _, 0, rfl, .inr (.inr ⟨HC.out, by rw [HS.out.1]; exact HM1.out, rfl, rfl, rfl⟩), own_drop_alloc hOy (Nat.le_succ _), hBy⟩
    · intro y1 hy1
      refine op_wanted (by simp only [List.getElem?_toArray, List.getElem?_cons_zero, List.getElem?_cons_succ] <;> rfl) rfl ?_
      refine wp_storeB TEnd _ _ rfl rfl (by rfl) rfl (hy1.box HRS.out) rfl (by unfold endP; rw [← end_vs]; exact vs_all endF_one) ?_
      simp only [Act.put, Act.eval, List.setIfInBounds_toArray, List.set_cons_zero, List.set_cons_succ, Array.getD_eq_getD_getElem?, List.getElem?_toArray, List.getElem?_cons_zero, List.getElem?_cons_succ, Option.getD_some]
      refine wpT_one 5 (by decide +kernel) ?_
      intro y2 hy2
      refine op_wanted (by simp only [List.getElem?_toArray, List.getElem?_cons_zero, List.getElem?_cons_succ] <;> rfl) rfl ?_
      have c7 := hy2.cell (((HGB.out.bel hy1).box.setRow_ne w.heap.size (endP P (runP P ts)) (by omega)).cell 38 (v := LV) (vs_get _ (by omega)))
      go_simp
      refine ⟨Below.refl _ _, ?_⟩
      (repeat (first | ((first | refine wpT_goN 7 (by simp only [List.getElem?_toArray, List.getElem?_cons_zero, List.getElem?_cons_succ] <;> rfl) (by decide +kernel) (by decide +kernel) (by kernel_rfl) (by rfl) (by exact fun _ _ _ _ h => h) (Nat.le_trans hy1.size (Nat.le_trans (by simp) hy2.size)) ?_ | refine wpT_goN 8 (by simp only [List.getElem?_toArray, List.getElem?_cons_zero, List.getElem?_cons_succ] <;> rfl) (by decide +kernel) (by decide +kernel) (by kernel_rfl) (by rfl) (by exact fun _ _ _ _ h => h) (Nat.le_trans hy1.size (Nat.le_trans (by simp) hy2.size)) ?_); apply Exists.intro; refine ⟨fun w1 h1 => ?_, ?_⟩; (first | exact g_move _ rfl | exact g_assign _ rfl | (go_simp; first | exact ⟨rfl, rfl⟩ | rfl)); simp only [Act.put, Act.eval, List.setIfInBounds_toArray, List.set_cons_zero, List.set_cons_succ, Array.getD_eq_getD_getElem?, List.getElem?_toArray, List.getElem?_cons_zero, List.getElem?_cons_succ, Option.getD_some]) | ((first | refine wpT_skip 7 (by simp only [List.getElem?_toArray, List.getElem?_cons_zero, List.getElem?_cons_succ] <;> rfl) (by decide +kernel) (by decide +kernel) (by kernel_rfl) (by rfl) (by exact fun _ _ _ _ h => h) (Nat.le_trans hy1.size (Nat.le_trans (by simp) hy2.size)) ?_ | refine wpT_skip 8 (by simp only [List.getElem?_toArray, List.getElem?_cons_zero, List.getElem?_cons_succ] <;> rfl) (by decide +kernel) (by decide +kernel) (by kernel_rfl) (by rfl) (by exact fun _ _ _ _ h => h) (Nat.le_trans hy1.size (Nat.le_trans (by simp) hy2.size)) ?_); simp only [Act.put, Act.eval, List.setIfInBounds_toArray, List.set_cons_zero, List.set_cons_succ, Array.getD_eq_getD_getElem?, List.getElem?_toArray, List.getElem?_cons_zero, List.getElem?_cons_succ, Option.getD_some]) | ((first | refine wpT_goA 7 (by simp only [List.getElem?_toArray, List.getElem?_cons_zero, List.getElem?_cons_succ] <;> rfl) (by decide +kernel) (by decide +kernel) (by kernel_rfl) (by rfl) (by exact fun _ _ _ _ h => h) ?_ | refine wpT_goA 8 (by simp only [List.getElem?_toArray, List.getElem?_cons_zero, List.getElem?_cons_succ] <;> rfl) (by decide +kernel) (by decide +kernel) (by kernel_rfl) (by rfl) (by exact fun _ _ _ _ h => h) ?_); apply Exists.intro; refine ⟨fun w1 => ?_, ?_⟩; (first | exact a_move _ rfl | exact a_assign _ rfl | (go_simp; first | exact ⟨rfl, rfl⟩ | rfl)); simp only [Act.put, Act.eval, List.setIfInBounds_toArray, List.set_cons_zero, List.set_cons_succ, Array.getD_eq_getD_getElem?, List.getElem?_toArray, List.getElem?_cons_zero, List.getElem?_cons_succ, Option.getD_some])))
      refine wpT_done (by decide +kernel) ?_ _
      intro y3 hy3
      have hRy := hy3.box (hy2.box ((hy1.box HRS.out).setRow (endP P (runP P ts))))
      have hOy := own_bel (own_bel (HRow.out _ (own_bel HAP.out.1 hy1) (endP P (runP P ts))) hy2) hy3
      have hBy := ((HBL.out.trans hy1).setRow w.heap.size (Nat.le_refl _) (endP P (runP P ts))).trans (hy2.trans hy3)
      go_wp2_with fail
      refine bodyPost_ret (res_ctt Try.results11 rfl (B := w.heap.size) (c := endP P (runP P ts)) (t := 33) hRy TEnd) rfl ?_
      exact ⟨_, _, _, 0, rfl, .inr (.inr ⟨HC.out, by rw [HS.out.1]; exact HM1.out, rfl, rfl, rfl⟩), own_drop_alloc hOy (Nat.le_succ _), hBy⟩
theorem pgrun_c : RunC := prgrun_any pgcheck_any
end Go.Proofs.Yticnponenkfneaa

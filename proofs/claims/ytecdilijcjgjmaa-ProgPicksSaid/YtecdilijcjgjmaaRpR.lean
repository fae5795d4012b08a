/- The reference's ProgRun. -/
import Derived.Test.YtecdilijcjgjmaaRpC
import Derived.Test.YtecdilijcjgjmaaRpE
import Derived.Test.YtecdilijcjgjmaaRpS
import Derived.Deep.DeepCutAuto
set_option linter.all false
set_option maxRecDepth 100000
namespace Go.Proofs.Ytecdilijcjgjmaa
open Go Go.RowKit

theorem LVal.row {w : World} {LV : Value} {l : List Ev} {G : Nat} (h : LVal w LV l) (ha : apartV G LV) (c : Array Value) : LVal (w.setRow G c) LV l := by
  obtain ⟨B, m, e, rfl, hs, h3, h4⟩ := h.ex
  refine ⟨B, m, e, rfl, ⟨hs.1, fun h0 => ?_⟩, h3, h4⟩
  obtain ⟨b, off, hA, hlt, hr⟩ := hs.2 h0
  have hne := ha b off m e (by rw [hA])
  exact ⟨b, off, hA, by simpa using hlt, fun j v hj => (World.cell?_of_block (a := ⟨b, off + j, none⟩) (setRow_other w G b c hne)).trans (hr j v hj)⟩
theorem sli_row {w : World} {v : Value} {l : List Int} {G : Nat} (h : SlI w v l) (ha : apartV G v) (c : Array Value) : SlI (w.setRow G c) v l := by
  rcases h with ⟨rfl, rfl⟩ | ⟨b, o, n, d, rfl, hl, hm, hc⟩
  · exact .inl ⟨rfl, rfl⟩
  · refine .inr ⟨b, o, n, d, rfl, hl, hm, fun i hi => ?_⟩
    have hne := ha b o n d rfl
    exact (World.cell?_of_block (a := ⟨b, o + i, none⟩) (setRow_other w G b c hne)).trans (hc i hi)
theorem own_row {w : World} {v : Value} {l : List Ev} {G base : Nat} (h : w.ownsRow base 37 3 v l.length (evc l)) (ha : apartV G v) (c : Array Value) : (w.setRow G c).ownsRow base 37 3 v l.length (evc l) :=
  own_keep h (fun g hg _ => setRow_other w G g c (by
    rcases h.2 with ⟨rfl, _⟩ | ⟨g', cap, cur, rfl, _⟩
    · cases hg
    · exact ha g 0 _ cap (by simp [Value.ownBlock] at hg; rw [hg])))
theorem take_one {ts : List Int} {i : Nat} (h : i < ts.length) : ts.take (i + 1) = ts.take i ++ [ts[i]?.getD 0] := by
  rw [List.take_succ_eq_append_getElem h, List.getElem?_eq_getElem h]
  rfl
theorem end0_vs : end0 = z20 := rfl
theorem z20_all : z20.all (·.oneCell') = true := by simp [z20, Value.oneCell']
/-- A Prog between two picks. -/
structure RnR (w : World) (E G : Nat) (A : Option Addr) (n c : Nat) (P : List (List Ev)) (ts : List Int) (i : Nat) (wr : World) : Prop where
  ex : ∃ LV QV Q, GBx wr G A n c (runP P (ts.take i)) LV QV false false ∧ LVal wr LV (runP P (ts.take i)).L ∧ SlI wr QV Q ∧ Q.length ≤ i ∧ apartV G LV ∧ apartV G QV ∧ apartV E LV ∧ wr.ownsRow w.heap.size 37 3 LV (runP P (ts.take i)).L.length (evc (runP P (ts.take i)).L)
  res : Box wr E z20 31
  below : Bel w wr
set_option maxHeartbeats 16000000 in
theorem prun_any (A : Option Addr) (n c : Nat) (P : List (List Ev)) (B : Option Addr) (m e : Nat) (ts : List Int) (w : World) (h : Prg w A n P) (hnc : n ≤ c) (hcm : c ≤ maxLen) (hs : SI w B m ts) (hme : m ≤ e) (hem : e ≤ maxLen) (h64 : ∀ t ∈ ts, In64 t) :
    Calls Try.prog 22 #[.slice A n c, .slice B m e] w (PRunPost w P ts) := by
  have HP := Lib.hid h
  have HS := Lib.hid hs
  have HM := Lib.hid (And.intro hnc hcm)
  have HE := Lib.hid (And.intro hme hem)
  have H64 := Lib.hid h64
  have hme' : (m : Int) ≤ e := by omega
  clear h hs hnc hcm hem h64 hme
  go_enter Try.func22, Try.ntmps22
  go_wp2_with fail
  refine (pchk_any A n c P _ (HP.out.bel ((Bel.refl w).alloc _)) HM.out.1 HM.out.2).mono ?_
  rintro e1 w1 ⟨rfl, hb1⟩
  have HW1 := Lib.hid (((Bel.refl w).alloc (.cells z20 31)).call hb1)
  have HR1 := Lib.hid ((Bel.of hb1).box (Box.new w z20 31))
  have HPW := Lib.hid (HP.out.bel HW1.out)
  have HSW := Lib.hid (HS.out.keep HW1.out)
  clear hb1
  have HNIL := Lib.hid (fun w' : World => World.ownsRow_nil w' w.heap.size 37 3)
  cases h1 : (chkP P != 0)
  · have HC := Lib.hid (show chkP P = 0 by simpa using h1)
    have hok := chk_ok.1 HC.out
    by_cases h2 : 100 < m
    · have h2' : (100 : Int) < m := by omega
      go_wp2_with (refine storeB 31 _ _ rfl rfl rfl rfl HR1.out rfl (by exact TEnd) z20_all ?_)
      refine bodyPost_ret (res_ctt Try.results22 rfl (B := w.heap.size) (c := z20) (t := 31) (HR1.out.setRow _) TEnd) rfl ?_
      exact ⟨_, _, [], 2, rfl, .inr (.inl ⟨HC.out, by rw [HS.out.1]; exact h2, rfl, rfl, rfl⟩), HNIL.out _, (HW1.out.setRow w.heap.size (Nat.le_refl _) _).out⟩
    · have h2' : ¬ (100 : Int) < m := by omega
      have hm100 : m ≤ 100 := by omega
      skip
      go_upto_region 7 with (first | (refine storeB 93 _ _ rfl rfl (c' := (vs 29 (gP A n c ps0 (.slice none 0 0) (.slice none 0 0) false false))) rfl (by exact rfl) (Box.new w1 z29 93) rfl (TGv _) (vs_all (gP_one rfl rfl)) ?_))
      change Code.wp _ _ _ _ ((w1.alloc (.cells z29 93)).setRow w1.heap.size (vs 29 (gP A n c ps0 (.slice none 0 0) (.slice none 0 0) false false)))
      have HB2 := Lib.hid (show Bel w1 ((w1.alloc (.cells z29 93)).setRow w1.heap.size (vs 29 (gP A n c ps0 (.slice none 0 0) (.slice none 0 0) false false))) from ((Bel.refl w1).alloc (.cells z29 93)).setRow w1.heap.size (Nat.le_refl _) _)
      have HG2 := Lib.hid (show GBx ((w1.alloc (.cells z29 93)).setRow w1.heap.size (vs 29 (gP A n c ps0 (.slice none 0 0) (.slice none 0 0) false false))) w1.heap.size A n c ps0 (.slice none 0 0) (.slice none 0 0) false false from ⟨(Box.new w1 z29 93).setRow _⟩)
      have HR2 := Lib.hid (HB2.out.box HR1.out)
      have HW2 := Lib.hid (HW1.out.trans HB2.out)
      have hEG : w.heap.size < w1.heap.size := HR1.out.lt
      clear HB2 HR1 HW1 HPW HSW h1 h2 h2'
      simp only [Act.put, Act.eval, List.setIfInBounds_toArray, List.set_cons_zero, List.set_cons_succ, Array.getD_eq_getD_getElem?, List.getElem?_toArray, List.getElem?_cons_zero, List.getElem?_cons_succ, Option.getD_some]
      generalize ((w1.alloc (.cells z29 93)).setRow w1.heap.size (vs 29 (gP A n c ps0 (.slice none 0 0) (.slice none 0 0) false false))) = w2 at *
      generalize w1.heap.size = G at *
      have H0 := Lib.hid (show RnR w w.heap.size G A n c P ts 0 w2 from ⟨⟨.slice none 0 0, .slice none 0 0, [], HG2.out, ⟨none, 0, 0, rfl, ⟨rfl, fun h => absurd h (Nat.lt_irrefl 0)⟩, Nat.le_refl _, Nat.zero_le _⟩, .inl ⟨rfl, rfl⟩, Nat.le_refl _, (fun b off n c h => by cases h), (fun b off n c h => by cases h), (fun b off n c h => by cases h), World.ownsRow_nil _ _ _ _⟩, HR2.out, HW2.out⟩)
      clear HG2 HR2 HW2
      go_wp2
      go_loopw [25] (fun t wr => ∃ i : Nat, i ≤ m ∧ t = .int .i64 i ∧ RnR w w.heap.size G A n c P ts i wr) (fun t _ => m - (intOf t).toNat)
      case atStart => exact ⟨0, by omega, rfl, H0.out⟩
      case round =>
        obtain ⟨i, hi, rfl, hr⟩ := hrel
        obtain ⟨LV, QV, Q, hg, hlv, hq, hql, hal, haq, hae, how⟩ := hr.ex
        have HRS := Lib.hid hr.res
        have HBL := Lib.hid hr.below
        have HGB := Lib.hid hg
        have HLV := Lib.hid hlv
        have HQV := Lib.hid hq
        have HAP := Lib.hid (And.intro hal (And.intro haq (And.intro hae how)))
        have HPw := Lib.hid (HP.out.bel HBL.out)
        have HBX := Lib.hid hg.box
        have HPR := Lib.hid (runP_ok hok (ts.take i))
        clear hr hg hlv hq hal haq hae how H0
        by_cases hlt : i < m
        · have hlt' : (i : Int) < m := by omega
          obtain ⟨b, o, rfl, hc⟩ := HS.out.2 (by omega)
          have hci := HBL.out.cell (hc i hlt)
          have htl : i < ts.length := by rw [HS.out.1]; exact hlt
          have HT64 := Lib.hid (show In64 (ts[i]?.getD 0) from H64.out _ (by rw [List.getElem?_eq_getElem htl]; exact List.getElem_mem htl))
          have HSN := Lib.hid (show runP P (ts.take (i + 1)) = pickP P (runP P (ts.take i)) (ts[i]?.getD 0) by rw [take_one htl, runP_snoc])
          have hic : (i : Int) ≤ e := by have := HE.out.1; omega
          clear hc htl
          generalize ts[i]?.getD 0 = t at *
          have HLL := Lib.hid (show (runP P (ts.take i)).L.length ≤ 900 by have := (picks_len P (ts.take i) ps0).1; rw [List.length_take] at this; have h0 : ps0.L.length = 0 := rfl; unfold runP; omega)
          have HLM := Lib.hid (run_lim hok (ts.take i))
          have HLK := Lib.hid (show (1000 : Int) * ((ts.take i).length : Int) ≤ 1000000 by rw [List.length_take]; omega)
          go_wp2_with (first | (refine loadB 93 _ rfl rfl rfl HBX.out (TGv _) ?_))
          refine (canr_any t HPw.out HM.out.1 HM.out.2 hok HPR.out HLV.out HT64.out).mono ?_
          rintro e3 w3 ⟨rfl, hb3⟩
          have HB3 := Lib.hid (Bel.of hb3)
          have HG3 := Lib.hid (HGB.out.bel (Bel.of hb3))
          have HX3 := Lib.hid HG3.out.box
          have HL3 := Lib.hid (HLV.out.bel (Bel.of hb3))
          have HQ3 := Lib.hid (SlI.bel HQV.out (Bel.of hb3))
          have HR3 := Lib.hid ((Bel.of hb3).box HRS.out)
          have HP3 := Lib.hid (HPw.out.bel (Bel.of hb3))
          clear hb3 hci
          cases hcn : (decide (0 ≤ t) && canP P (runP P (ts.take i)) t.toNat)
          · have HSM := Lib.hid (show runP P (ts.take (i + 1)) = runP P (ts.take i) by rw [HSN.out]; unfold pickP; rw [if_neg]; rintro ⟨h1, h2⟩; rw [decide_eq_true h1, h2] at hcn; cases hcn)
            go_wp2
            go_roundw
            case rel => exact ⟨i + 1, by omega, by go_num, ⟨⟨LV, QV, Q, by rw [HSM.out]; exact HG3.out, by rw [HSM.out]; exact HL3.out, HQ3.out, by omega, HAP.out.1, HAP.out.2.1, HAP.out.2.2.1, by rw [HSM.out]; exact own_bel HAP.out.2.2.2 HB3.out⟩, HR3.out, HBL.out.trans HB3.out⟩⟩
            case measure => simp [intOf]; omega
          · simp only [Bool.and_eq_true, decide_eq_true_iff] at hcn
            obtain ⟨u, rfl⟩ : ∃ u : Nat, t = u := ⟨t.toNat, by omega⟩
            rw [Int.toNat_natCast] at hcn
            obtain ⟨hun, _, oo, hoo, hco⟩ := can_op hcn.2
            have HU := Lib.hid (show u < n by rw [← HPw.out.1]; exact hun)
            have HOO := Lib.hid hoo
            have HSM := Lib.hid (show runP P (ts.take (i + 1)) = stepO P (runP P (ts.take i)) u oo by rw [HSN.out]; unfold pickP; rw [if_pos ⟨by omega, by rw [Int.toNat_natCast]; exact hcn.2⟩, Int.toNat_natCast, step_op hoo])
            have hb0 : (decide ((0 : Int) ≤ (u : Int)) && canP P (runP P (ts.take i)) u) = true := by rw [hcn.2]; simp
            clear hun hoo hco
            have hcv := hcn.2
            clear hcn
            go_wp2_with (first | (refine loadB 93 _ rfl rfl rfl HX3.out (TGv _) ?_))
            refine (stepr_any u (o := oo) HP3.out HM.out.1 HM.out.2 hok HL3.out HQ3.out HU.out HOO.out HLL.out (by omega) HLM.out HLK.out).mono ?_
            rintro e4 w4 ⟨LV4, QV4, rfl, hl4, hq4, hb4, ha4, how4⟩
            have hGw3 := HX3.out.lt
            have ha5 := ha4 G hGw3
            have ha6 := (ha4 w.heap.size HR3.out.lt).2 HAP.out.2.2.1
            have HF6 := Lib.hid ha6
            have HF4 := Lib.hid (And.intro hl4 (And.intro hq4 (And.intro (ha5.2 HAP.out.1) (And.intro ha5.1 (how4 w.heap.size (HBL.out.trans HB3.out).size (own_bel HAP.out.2.2.2 HB3.out))))))
            have HX4 := Lib.hid ((Bel.of hb4).box HX3.out)
            have HR4 := Lib.hid ((Bel.of hb4).box HR3.out)
            have HB4 := Lib.hid ((HBL.out.trans HB3.out).trans (Bel.of hb4))
            have hLO := hl4.ex
            have h1c : LV4.oneCell' = true := by obtain ⟨B9, m9, e9, rfl, _⟩ := hLO; rfl
            have h2c : QV4.oneCell' = true := by rcases hq4 with ⟨rfl, _⟩ | ⟨b9, o9, n9, c9, rfl, _⟩ <;> rfl
            clear hl4 hq4 hb4 ha4 how4 ha5 ha6 hLO hGw3 hcv hb0
            go_wp2_with (first | (refine storeB 93 _ _ rfl rfl rfl rfl HX4.out (by rw [vs_size, vs_size]) (TGv _) (vs_all (gP_one h1c h2c)) ?_))
            go_roundw
            case rel => exact ⟨i + 1, by omega, by go_num, ⟨⟨LV4, QV4, Q ++ [(u : Int)], by rw [HSM.out]; exact ⟨HX4.out.setRow _⟩, by rw [HSM.out]; exact HF4.out.1.row HF4.out.2.2.1 _, sli_row HF4.out.2.1 HF4.out.2.2.2.1 _, by simp; omega, HF4.out.2.2.1, HF4.out.2.2.2.1, HF6.out, by rw [HSM.out]; exact own_row HF4.out.2.2.2.2 HF4.out.2.2.1 _⟩, HR4.out.setRow_ne _ _ (by omega), HB4.out.setRow G (by omega) _⟩⟩
            case measure => simp [intOf]; omega
        · obtain rfl : m = i := by omega
          have htk : ts.take m = ts := by rw [← HS.out.1, List.take_length]
          rw [htk] at HGB HLV HPR HBX HAP
          have HSL := Lib.hid HLV.out.ex
          have hL1 := HGB.out.l
          have HBF := fun (w9 : World) (h9 : Below wr.heap.size wr w9) => (HGB.out.bel (Bel.of h9)).box
          have FL := fun (w9 : World) (h9 : Below wr.heap.size wr w9) => (HGB.out.bel (Bel.of h9)).l
          have HEN := Lib.hid (fun (w9 : World) (h9 : Below wr.heap.size wr w9) => endr_any (d := false) (k := false) (QV := QV) (HPw.out.bel (Bel.of h9)) HM.out.1 HM.out.2 hok HPR.out (HLV.out.bel (Bel.of h9)))
          clear htk hL1
          go_wp2_with fail
          refine region_growT 4 (by kernel_rfl) ?_
          (repeat (first | (refine wpT_goN 0 (by simp only [List.getElem?_toArray, List.getElem?_cons_zero, List.getElem?_cons_succ] <;> rfl) (by decide +kernel) (by decide +kernel) (by kernel_rfl) (by rfl) (by exact fun _ _ _ _ h => h) (Nat.le_refl _) ?_; apply Exists.intro; refine ⟨fun w1 h1 => ?_, ?_⟩; (first | exact g_move _ rfl | exact g_assign _ rfl | exact g_load _ _ rfl (TGv _) rfl (HBF w1 h1) | (go_simp; first | exact ⟨rfl, rfl⟩ | rfl | (go_at_call 51; (with_reducible refine (HEN.out _ h1).mono ?_); rintro e w' ⟨rfl, hb⟩; first | exact ⟨rfl, hb⟩ | exact ⟨rfl, hb ▸ Bel.refl _⟩))); simp only [Act.put, Act.eval, List.setIfInBounds_toArray, List.set_cons_zero, List.set_cons_succ, Array.getD_eq_getD_getElem?, List.getElem?_toArray, List.getElem?_cons_zero, List.getElem?_cons_succ, Option.getD_some]) | (refine wpT_goN 1 (by simp only [List.getElem?_toArray, List.getElem?_cons_zero, List.getElem?_cons_succ] <;> rfl) (by decide +kernel) (by decide +kernel) (by kernel_rfl) (by rfl) (by exact fun _ _ _ _ h => h) (Nat.le_refl _) ?_; apply Exists.intro; refine ⟨fun w1 h1 => ?_, ?_⟩; (first | exact g_move _ rfl | exact g_assign _ rfl | exact g_load _ _ rfl (TGv _) rfl (HBF w1 h1) | (go_simp; first | exact ⟨rfl, rfl⟩ | rfl | (go_at_call 51; (with_reducible refine (HEN.out _ h1).mono ?_); rintro e w' ⟨rfl, hb⟩; first | exact ⟨rfl, hb⟩ | exact ⟨rfl, hb ▸ Bel.refl _⟩))); simp only [Act.put, Act.eval, List.setIfInBounds_toArray, List.set_cons_zero, List.set_cons_succ, Array.getD_eq_getD_getElem?, List.getElem?_toArray, List.getElem?_cons_zero, List.getElem?_cons_succ, Option.getD_some]) | (refine wpT_goN 2 (by simp only [List.getElem?_toArray, List.getElem?_cons_zero, List.getElem?_cons_succ] <;> rfl) (by decide +kernel) (by decide +kernel) (by kernel_rfl) (by rfl) (by exact fun _ _ _ _ h => h) (Nat.le_refl _) ?_; apply Exists.intro; refine ⟨fun w1 h1 => ?_, ?_⟩; (first | exact g_move _ rfl | exact g_assign _ rfl | exact g_load _ _ rfl (TGv _) rfl (HBF w1 h1) | (go_simp; first | exact ⟨rfl, rfl⟩ | rfl | (go_at_call 51; (with_reducible refine (HEN.out _ h1).mono ?_); rintro e w' ⟨rfl, hb⟩; first | exact ⟨rfl, hb⟩ | exact ⟨rfl, hb ▸ Bel.refl _⟩))); simp only [Act.put, Act.eval, List.setIfInBounds_toArray, List.set_cons_zero, List.set_cons_succ, Array.getD_eq_getD_getElem?, List.getElem?_toArray, List.getElem?_cons_zero, List.getElem?_cons_succ, Option.getD_some]) | (refine wpT_skip 0 (by simp only [List.getElem?_toArray, List.getElem?_cons_zero, List.getElem?_cons_succ] <;> rfl) (by decide +kernel) (by decide +kernel) (by kernel_rfl) (by rfl) (by exact fun _ _ _ _ h => h) (Nat.le_refl _) ?_; simp only [Act.put, Act.eval, List.setIfInBounds_toArray, List.set_cons_zero, List.set_cons_succ, Array.getD_eq_getD_getElem?, List.getElem?_toArray, List.getElem?_cons_zero, List.getElem?_cons_succ, Option.getD_some]) | (refine wpT_skip 1 (by simp only [List.getElem?_toArray, List.getElem?_cons_zero, List.getElem?_cons_succ] <;> rfl) (by decide +kernel) (by decide +kernel) (by kernel_rfl) (by rfl) (by exact fun _ _ _ _ h => h) (Nat.le_refl _) ?_; simp only [Act.put, Act.eval, List.setIfInBounds_toArray, List.set_cons_zero, List.set_cons_succ, Array.getD_eq_getD_getElem?, List.getElem?_toArray, List.getElem?_cons_zero, List.getElem?_cons_succ, Option.getD_some]) | (refine wpT_skip 2 (by simp only [List.getElem?_toArray, List.getElem?_cons_zero, List.getElem?_cons_succ] <;> rfl) (by decide +kernel) (by decide +kernel) (by kernel_rfl) (by rfl) (by exact fun _ _ _ _ h => h) (Nat.le_refl _) ?_; simp only [Act.put, Act.eval, List.setIfInBounds_toArray, List.set_cons_zero, List.set_cons_succ, Array.getD_eq_getD_getElem?, List.getElem?_toArray, List.getElem?_cons_zero, List.getElem?_cons_succ, Option.getD_some]) | (refine wpT_goA 0 (by simp only [List.getElem?_toArray, List.getElem?_cons_zero, List.getElem?_cons_succ] <;> rfl) (by decide +kernel) (by decide +kernel) (by kernel_rfl) (by rfl) (by exact fun _ _ _ _ h => h) ?_; apply Exists.intro; refine ⟨fun w1 => ?_, ?_⟩; (first | exact a_move _ rfl | exact a_assign _ rfl | (go_simp; first | exact ⟨rfl, rfl⟩ | rfl)); simp only [Act.put, Act.eval, List.setIfInBounds_toArray, List.set_cons_zero, List.set_cons_succ, Array.getD_eq_getD_getElem?, List.getElem?_toArray, List.getElem?_cons_zero, List.getElem?_cons_succ, Option.getD_some]) | (refine wpT_goA 1 (by simp only [List.getElem?_toArray, List.getElem?_cons_zero, List.getElem?_cons_succ] <;> rfl) (by decide +kernel) (by decide +kernel) (by kernel_rfl) (by rfl) (by exact fun _ _ _ _ h => h) ?_; apply Exists.intro; refine ⟨fun w1 => ?_, ?_⟩; (first | exact a_move _ rfl | exact a_assign _ rfl | (go_simp; first | exact ⟨rfl, rfl⟩ | rfl)); simp only [Act.put, Act.eval, List.setIfInBounds_toArray, List.set_cons_zero, List.set_cons_succ, Array.getD_eq_getD_getElem?, List.getElem?_toArray, List.getElem?_cons_zero, List.getElem?_cons_succ, Option.getD_some]) | (refine wpT_goA 2 (by simp only [List.getElem?_toArray, List.getElem?_cons_zero, List.getElem?_cons_succ] <;> rfl) (by decide +kernel) (by decide +kernel) (by kernel_rfl) (by rfl) (by exact fun _ _ _ _ h => h) ?_; apply Exists.intro; refine ⟨fun w1 => ?_, ?_⟩; (first | exact a_move _ rfl | exact a_assign _ rfl | (go_simp; first | exact ⟨rfl, rfl⟩ | rfl)); simp only [Act.put, Act.eval, List.setIfInBounds_toArray, List.set_cons_zero, List.set_cons_succ, Array.getD_eq_getD_getElem?, List.getElem?_toArray, List.getElem?_cons_zero, List.getElem?_cons_succ, Option.getD_some])))
          refine wpT_orL 3 (by decide +kernel) ?_ ?_
          · intro y1 hy1
            refine op_wanted (by simp only [List.getElem?_toArray, List.getElem?_cons_zero, List.getElem?_cons_succ] <;> rfl) rfl ?_
            have c7 := (HGB.out.bel hy1).l
            go_simp
            refine ⟨Below.refl _ _, ?_⟩
            refine wpT_now (by decide +kernel) ?_
            intro y2 hy2
            refine op_wanted (by simp only [List.getElem?_toArray, List.getElem?_cons_zero, List.getElem?_cons_succ] <;> rfl) rfl ?_
            have hE2 := hy1.trans hy2
            refine wp_storeB TEnd _ _ rfl rfl (by rfl) rfl (hE2.box HRS.out) rfl (by unfold endP; rw [← end_vs]; exact vs_all endF_one) ?_
            simp only [Act.put, Act.eval, List.setIfInBounds_toArray, List.set_cons_zero, List.set_cons_succ, Array.getD_eq_getD_getElem?, List.getElem?_toArray, List.getElem?_cons_zero, List.getElem?_cons_succ, Option.getD_some]
            (repeat (first | (refine wpT_goN 5 (by simp only [List.getElem?_toArray, List.getElem?_cons_zero, List.getElem?_cons_succ] <;> rfl) (by decide +kernel) (by decide +kernel) (by kernel_rfl) (by rfl) (by exact fun _ _ _ _ h => h) (Nat.le_trans hE2.size (by simp)) ?_; apply Exists.intro; refine ⟨fun w1 h1 => ?_, ?_⟩; (first | exact g_move _ rfl | exact g_assign _ rfl | (go_simp; first | exact ⟨rfl, rfl⟩ | rfl)); simp only [Act.put, Act.eval, List.setIfInBounds_toArray, List.set_cons_zero, List.set_cons_succ, Array.getD_eq_getD_getElem?, List.getElem?_toArray, List.getElem?_cons_zero, List.getElem?_cons_succ, Option.getD_some]) | (refine wpT_goN 6 (by simp only [List.getElem?_toArray, List.getElem?_cons_zero, List.getElem?_cons_succ] <;> rfl) (by decide +kernel) (by decide +kernel) (by kernel_rfl) (by rfl) (by exact fun _ _ _ _ h => h) (Nat.le_trans hE2.size (by simp)) ?_; apply Exists.intro; refine ⟨fun w1 h1 => ?_, ?_⟩; (first | exact g_move _ rfl | exact g_assign _ rfl | (go_simp; first | exact ⟨rfl, rfl⟩ | rfl)); simp only [Act.put, Act.eval, List.setIfInBounds_toArray, List.set_cons_zero, List.set_cons_succ, Array.getD_eq_getD_getElem?, List.getElem?_toArray, List.getElem?_cons_zero, List.getElem?_cons_succ, Option.getD_some]) | (refine wpT_skip 5 (by simp only [List.getElem?_toArray, List.getElem?_cons_zero, List.getElem?_cons_succ] <;> rfl) (by decide +kernel) (by decide +kernel) (by kernel_rfl) (by rfl) (by exact fun _ _ _ _ h => h) (Nat.le_trans hE2.size (by simp)) ?_; simp only [Act.put, Act.eval, List.setIfInBounds_toArray, List.set_cons_zero, List.set_cons_succ, Array.getD_eq_getD_getElem?, List.getElem?_toArray, List.getElem?_cons_zero, List.getElem?_cons_succ, Option.getD_some]) | (refine wpT_skip 6 (by simp only [List.getElem?_toArray, List.getElem?_cons_zero, List.getElem?_cons_succ] <;> rfl) (by decide +kernel) (by decide +kernel) (by kernel_rfl) (by rfl) (by exact fun _ _ _ _ h => h) (Nat.le_trans hE2.size (by simp)) ?_; simp only [Act.put, Act.eval, List.setIfInBounds_toArray, List.set_cons_zero, List.set_cons_succ, Array.getD_eq_getD_getElem?, List.getElem?_toArray, List.getElem?_cons_zero, List.getElem?_cons_succ, Option.getD_some]) | (refine wpT_goA 5 (by simp only [List.getElem?_toArray, List.getElem?_cons_zero, List.getElem?_cons_succ] <;> rfl) (by decide +kernel) (by decide +kernel) (by kernel_rfl) (by rfl) (by exact fun _ _ _ _ h => h) ?_; apply Exists.intro; refine ⟨fun w1 => ?_, ?_⟩; (first | exact a_move _ rfl | exact a_assign _ rfl | (go_simp; first | exact ⟨rfl, rfl⟩ | rfl)); simp only [Act.put, Act.eval, List.setIfInBounds_toArray, List.set_cons_zero, List.set_cons_succ, Array.getD_eq_getD_getElem?, List.getElem?_toArray, List.getElem?_cons_zero, List.getElem?_cons_succ, Option.getD_some]) | (refine wpT_goA 6 (by simp only [List.getElem?_toArray, List.getElem?_cons_zero, List.getElem?_cons_succ] <;> rfl) (by decide +kernel) (by decide +kernel) (by kernel_rfl) (by rfl) (by exact fun _ _ _ _ h => h) ?_; apply Exists.intro; refine ⟨fun w1 => ?_, ?_⟩; (first | exact a_move _ rfl | exact a_assign _ rfl | (go_simp; first | exact ⟨rfl, rfl⟩ | rfl)); simp only [Act.put, Act.eval, List.setIfInBounds_toArray, List.set_cons_zero, List.set_cons_succ, Array.getD_eq_getD_getElem?, List.getElem?_toArray, List.getElem?_cons_zero, List.getElem?_cons_succ, Option.getD_some])))
            refine wpT_done (by decide +kernel) ?_ _
            intro y3 hy3
            have hRy := hy3.box ((hE2.box HRS.out).setRow (endP P (runP P ts)))
            have hOy := own_bel ((own_row (own_bel HAP.out.2.2.2 hE2) HAP.out.2.2.1 (endP P (runP P ts)))) hy3
            have hBy := ((HBL.out.trans hE2).setRow w.heap.size (Nat.le_refl _) (endP P (runP P ts))).trans hy3
            go_wp2_with fail
            refine bodyPost_ret (res_ctt Try.results22 rfl (B := w.heap.size) (c := endP P (runP P ts)) (t := 31) hRy TEnd) rfl ?_
            exact ⟨_, _, _, 0, rfl, .inr (.inr ⟨HC.out, by rw [HS.out.1]; exact hm100, rfl, rfl, rfl⟩), hOy, hBy⟩
          · intro y1 hy1
            refine op_wanted (by simp only [List.getElem?_toArray, List.getElem?_cons_zero, List.getElem?_cons_succ] <;> rfl) rfl ?_
            refine wp_storeB TEnd _ _ rfl rfl (by rfl) rfl (hy1.box HRS.out) rfl (by unfold endP; rw [← end_vs]; exact vs_all endF_one) ?_
            simp only [Act.put, Act.eval, List.setIfInBounds_toArray, List.set_cons_zero, List.set_cons_succ, Array.getD_eq_getD_getElem?, List.getElem?_toArray, List.getElem?_cons_zero, List.getElem?_cons_succ, Option.getD_some]
            refine wpT_one 3 (by decide +kernel) ?_
            intro y2 hy2
            refine op_wanted (by simp only [List.getElem?_toArray, List.getElem?_cons_zero, List.getElem?_cons_succ] <;> rfl) rfl ?_
            have c7 := hy2.cell (((HGB.out.bel hy1).box.setRow_ne w.heap.size (endP P (runP P ts)) (by omega)).cell 7 (v := LV) (vs_get _ (by omega)))
            go_simp
            refine ⟨Below.refl _ _, ?_⟩
            (repeat (first | (refine wpT_goN 5 (by simp only [List.getElem?_toArray, List.getElem?_cons_zero, List.getElem?_cons_succ] <;> rfl) (by decide +kernel) (by decide +kernel) (by kernel_rfl) (by rfl) (by exact fun _ _ _ _ h => h) (Nat.le_trans hy1.size (Nat.le_trans (by simp) hy2.size)) ?_; apply Exists.intro; refine ⟨fun w1 h1 => ?_, ?_⟩; (first | exact g_move _ rfl | exact g_assign _ rfl | (go_simp; first | exact ⟨rfl, rfl⟩ | rfl)); simp only [Act.put, Act.eval, List.setIfInBounds_toArray, List.set_cons_zero, List.set_cons_succ, Array.getD_eq_getD_getElem?, List.getElem?_toArray, List.getElem?_cons_zero, List.getElem?_cons_succ, Option.getD_some]) | (refine wpT_goN 6 (by simp only [List.getElem?_toArray, List.getElem?_cons_zero, List.getElem?_cons_succ] <;> rfl) (by decide +kernel) (by decide +kernel) (by kernel_rfl) (by rfl) (by exact fun _ _ _ _ h => h) (Nat.le_trans hy1.size (Nat.le_trans (by simp) hy2.size)) ?_; apply Exists.intro; refine ⟨fun w1 h1 => ?_, ?_⟩; (first | exact g_move _ rfl | exact g_assign _ rfl | (go_simp; first | exact ⟨rfl, rfl⟩ | rfl)); simp only [Act.put, Act.eval, List.setIfInBounds_toArray, List.set_cons_zero, List.set_cons_succ, Array.getD_eq_getD_getElem?, List.getElem?_toArray, List.getElem?_cons_zero, List.getElem?_cons_succ, Option.getD_some]) | (refine wpT_skip 5 (by simp only [List.getElem?_toArray, List.getElem?_cons_zero, List.getElem?_cons_succ] <;> rfl) (by decide +kernel) (by decide +kernel) (by kernel_rfl) (by rfl) (by exact fun _ _ _ _ h => h) (Nat.le_trans hy1.size (Nat.le_trans (by simp) hy2.size)) ?_; simp only [Act.put, Act.eval, List.setIfInBounds_toArray, List.set_cons_zero, List.set_cons_succ, Array.getD_eq_getD_getElem?, List.getElem?_toArray, List.getElem?_cons_zero, List.getElem?_cons_succ, Option.getD_some]) | (refine wpT_skip 6 (by simp only [List.getElem?_toArray, List.getElem?_cons_zero, List.getElem?_cons_succ] <;> rfl) (by decide +kernel) (by decide +kernel) (by kernel_rfl) (by rfl) (by exact fun _ _ _ _ h => h) (Nat.le_trans hy1.size (Nat.le_trans (by simp) hy2.size)) ?_; simp only [Act.put, Act.eval, List.setIfInBounds_toArray, List.set_cons_zero, List.set_cons_succ, Array.getD_eq_getD_getElem?, List.getElem?_toArray, List.getElem?_cons_zero, List.getElem?_cons_succ, Option.getD_some]) | (refine wpT_goA 5 (by simp only [List.getElem?_toArray, List.getElem?_cons_zero, List.getElem?_cons_succ] <;> rfl) (by decide +kernel) (by decide +kernel) (by kernel_rfl) (by rfl) (by exact fun _ _ _ _ h => h) ?_; apply Exists.intro; refine ⟨fun w1 => ?_, ?_⟩; (first | exact a_move _ rfl | exact a_assign _ rfl | (go_simp; first | exact ⟨rfl, rfl⟩ | rfl)); simp only [Act.put, Act.eval, List.setIfInBounds_toArray, List.set_cons_zero, List.set_cons_succ, Array.getD_eq_getD_getElem?, List.getElem?_toArray, List.getElem?_cons_zero, List.getElem?_cons_succ, Option.getD_some]) | (refine wpT_goA 6 (by simp only [List.getElem?_toArray, List.getElem?_cons_zero, List.getElem?_cons_succ] <;> rfl) (by decide +kernel) (by decide +kernel) (by kernel_rfl) (by rfl) (by exact fun _ _ _ _ h => h) ?_; apply Exists.intro; refine ⟨fun w1 => ?_, ?_⟩; (first | exact a_move _ rfl | exact a_assign _ rfl | (go_simp; first | exact ⟨rfl, rfl⟩ | rfl)); simp only [Act.put, Act.eval, List.setIfInBounds_toArray, List.set_cons_zero, List.set_cons_succ, Array.getD_eq_getD_getElem?, List.getElem?_toArray, List.getElem?_cons_zero, List.getElem?_cons_succ, Option.getD_some])))
            refine wpT_done (by decide +kernel) ?_ _
            intro y3 hy3
            have hRy := hy3.box (hy2.box ((hy1.box HRS.out).setRow (endP P (runP P ts))))
            have hOy := own_bel ((fun z => own_bel z hy2) (own_row (own_bel HAP.out.2.2.2 hy1) HAP.out.2.2.1 (endP P (runP P ts)))) hy3
            have hBy := ((HBL.out.trans hy1).setRow w.heap.size (Nat.le_refl _) (endP P (runP P ts))).trans (hy2.trans hy3)
            go_wp2_with fail
            refine bodyPost_ret (res_ctt Try.results22 rfl (B := w.heap.size) (c := endP P (runP P ts)) (t := 31) hRy TEnd) rfl ?_
            exact ⟨_, _, _, 0, rfl, .inr (.inr ⟨HC.out, by rw [HS.out.1]; exact hm100, rfl, rfl, rfl⟩), hOy, hBy⟩
  · have HC := Lib.hid (show chkP P ≠ 0 by simpa using h1)
    go_wp2_with (refine storeB 31 _ _ rfl rfl rfl rfl HR1.out rfl (by exact TEnd) z20_all ?_)
    refine bodyPost_ret (res_ctt Try.results22 rfl (B := w.heap.size) (c := z20) (t := 31) (HR1.out.setRow _) TEnd) rfl ?_
    exact ⟨_, _, [], chkP P, rfl, .inl ⟨HC.out, rfl, rfl, rfl⟩, HNIL.out _, (HW1.out.setRow w.heap.size (Nat.le_refl _) _).out⟩
end Go.Proofs.Ytecdilijcjgjmaa

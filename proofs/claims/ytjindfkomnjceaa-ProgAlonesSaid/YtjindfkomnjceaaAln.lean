/- Contracts of locking and Alone. -/
import Derived.Test.YtjindfkomnjceaaLk
import Derived.Test.YtjindfkomnjceaaCk3
import Derived.Test.YtjindfkomnjceaaRgF
import Derived.Test.YtjindfkomnjceaaBs
import Derived.Test.YtjindfkomnjceaaCi
set_option linter.all false
set_option maxRecDepth 100000
namespace Go.Proofs.Ytjindfkomnjceaa
open Go Go.RowKit

theorem prsA_congr {R S : Nat → Nat → Bool} (n : Nat) (h : ∀ a b, R a b = S a b) : prsA R n = prsA S n := by rw [show R = S from funext fun a => funext fun b => h a b]
/-- What locking has between two ops. -/
structure AlkR (w : World) (ops : List Ev) (i : Nat) (v : Value) (wr : World) : Prop where
  box : Box wr w.heap.size (bs 5 fun k => hldL (ops.take i) (k : Nat)) 72
  own : wr.ownsRow (w.heap.size + 1) 35 3 v (lckT ops i).length (evc (lckT ops i))
  below : Bel w wr
theorem hld_b {ops : List Ev} {i : Nat} {o : Ev} {v : Nat} (ho : ops[i]? = some o) (hk : o.k = 4 ∨ o.k = 5) (hv : o.t = (v : Int)) : bs 5 (updB (fun k : Nat => hldL (ops.take i) (k : Nat)) v (decide (o.k = 4))) = bs 5 (fun k : Nat => hldL (ops.take (i + 1)) (k : Nat)) :=
  bs_congr fun j _ => by
    rw [hld_next ho]
    unfold updB
    by_cases hj : j = v
    · subst hj; rw [if_pos rfl, if_pos ⟨hk, hv⟩]
    · rw [if_neg hj, if_neg (fun g => hj (by have := g.2; omega))]
set_option maxHeartbeats 16000000 in
theorem locking_any (A : Option Addr) (n c : Nat) (ops : List Ev) (w : World) (hl : Sl w A n ops) (hnc : n ≤ c) (hc : c ≤ 9223372036854775807) (h12 : n ≤ 12) (hop : ∀ o ∈ ops, isOp o = true) :
    Calls Try.prog 24 #[.slice A n c] w fun e w' => ∃ v, e = .returned v ∧ w'.ownsRow w.heap.size 35 3 v (lckT ops ops.length).length (evc (lckT ops ops.length)) ∧ Below w.heap.size w w' := by
  obtain ⟨i0, hi0, hz0, hz1, hz2⟩ := info_parts ev_info
  have HL := Lib.hid hl
  have HLN := Lib.hid hl.1
  have HOP := Lib.hid hop
  have H0 := Lib.hid (show AlkR w ops 0 (.slice none 0 0) (w.alloc (.cells (bs 5 fun _ => false) 72)) from ⟨by simpa [hldL] using Box.new w (bs 5 fun _ => false) 72, World.ownsRow_nil _ _ _ _, (Bel.refl w).alloc _⟩)
  have HLK := Lib.hid (lckR hop)
  clear hl hop
  go_enter Try.func24, Try.ntmps24
  go_upto_region 3 with fail
  change Code.wp _ _ _ _ (w.alloc (.cells (bs 5 fun _ => false) 72))
  generalize w.alloc (.cells (bs 5 fun _ => false) 72) = w1 at *
  go_wp2
  go_loopw [3, 9] (fun v t wr => ∃ i : Nat, i ≤ n ∧ t = .int .i64 i ∧ AlkR w ops i v wr) (fun _ t _ => n - (intOf t).toNat)
  case atStart => exact ⟨0, by omega, rfl, H0.out⟩
  case round =>
    obtain ⟨i, hi, rfl, hr⟩ := hrel
    by_cases hlt : i < n
    · obtain ⟨bb, oo, o, rfl, hbb, ho, hrg⟩ := (HL.out.bel hr.below.out).at_ hlt
      have hlt' : (i : Int) < n := by omega
      have hic : (i : Int) ≤ c := by omega
      have hio := HOP.out o (List.mem_of_getElem? ho)
      obtain ⟨hk1, hk9, h0, _, h4, _⟩ := isOp_obj hio
      obtain ⟨v, hv⟩ : ∃ v : Nat, o.t = v := ⟨o.t.toNat, by omega⟩
      have hR := Lib.hid hrg
      have HOO := Lib.hid ho
      have HV := Lib.hid hv
      have HSC := Lib.hid (lckT_succ ho)
      have HX := Lib.hid (hr.box.below (ewld_below wr o 64) hr.box.lt)
      have HOW := Lib.hid (own_bel hr.own (Bel.of (ewld_below wr o 64)))
      have HBL := Lib.hid (hr.below.trans (Bel.of (ewld_below wr o 64)))
      have HXE := Lib.hid (ewld_box wr o 64)
      have HNE := Lib.hid (show w.heap.size ≠ wr.heap.size by have := hr.box.lt; omega)
      have HLEN := Lib.hid ((HLK.out i (by rw [HLN.out]; omega)).len)
      have hsz : w.heap.size + 1 ≤ wr.heap.size := hr.box.lt
      clear hr hrg ho hbb hio H0
      go_upto_region 6 with (first | (refine load_ev TOp _ rfl rfl rfl hR.out ?_) | (refine ewld_store TOp _ _ rfl rfl _ rfl rfl rfl ?_))
      have HSZ := Lib.hid (show w.heap.size + 1 ≤ (ewld wr o 64).heap.size by have := (ewld_below wr o 64).size; omega)
      generalize hW : ewld wr o 64 = w4 at *
      clear hW
      generalize wr.heap.size = X at *
      have c0 := HXE.out.cell 0 (v := .int .i64 o.k) rfl
      have c1 := (HXE.out.cell 1 (v := .int .i64 o.t) rfl).trans (show _ = some (Value.int .i64 (v : Int)) by rw [hv])
      by_cases k4 : o.k = 4
      · have k4' : (o.k == 4) = true := by simpa using k4
        have k5' : (o.k == 5) = false := by simp; omega
        have hv5 : v < 5 := by have := h4 (.inl k4); omega
        have hv5' : (v : Int) < 5 := by omega
        have HK := Lib.hid k4
        clear k4 hv h4 hk1 hk9 h0
        have g_h := HX.out.cell v (bs_get _ hv5)
        have z_h := HX.out.frozen v
        cases hh : hldL (ops.take i) (v : Int)
        · have HE := Lib.hid (show lckT ops (i + 1) = lckT ops i ++ [⟨3, 0, v⟩] by rw [HSC.out]; unfold evLk; rw [HV.out, if_pos ⟨HK.out, hh⟩])
          rw [hh] at g_h
          clear hh
          have HKF := Lib.hid (show decide (o.k = 4) = true from decide_eq_true HK.out)
          have HBB := Lib.hid (show bs 5 (updB (fun k : Nat => hldL (ops.take i) (k : Nat)) v true) = bs 5 (fun k : Nat => hldL (ops.take (i + 1)) (k : Nat)) from (by rw [← HKF.out]; exact hld_b HOO.out (.inl HK.out) HV.out))
          go_upto_region 8 with fail
          have HX5 := Lib.hid (show Box (w4.setCell ⟨w.heap.size, v, none⟩ (.bool true)) w.heap.size (bs 5 (fun k : Nat => hldL (ops.take (i + 1)) (k : Nat))) 72 by rw [← HBB.out, ← bs_set]; exact HX.out.set v _)
          have HB5 := Lib.hid (HBL.out.setCell ⟨w.heap.size, v, none⟩ (Nat.le_refl _) (.bool true))
          have HO5 := Lib.hid (own_keep (w' := w4.setCell ⟨w.heap.size, v, none⟩ (.bool true)) HOW.out (fun g hg _ => heap_setCell_other w4 ⟨w.heap.size, v, none⟩ g _ (by have := (own_lt HOW.out hg).1; dsimp only; omega)))
          have HZ5 := Lib.hid (show w.heap.size + 1 ≤ (w4.setCell ⟨w.heap.size, v, none⟩ (.bool true)).heap.size by simpa using HSZ.out)
          have d1 := (HXE.out.set_ne ⟨w.heap.size, v, none⟩ (.bool true) (Ne.symm HNE.out)).cell 1 (v := .int .i64 o.t) rfl
          rw [HV.out] at d1
          clear c0 c1 g_h z_h HX HBL HOW HSZ
          generalize w4.setCell ⟨w.heap.size, v, none⟩ (.bool true) = w5 at *
          have HA5 := Lib.hid ((Bel.refl w5).alloc (.cells (evv ⟨3, 0, v⟩) 35))
          go_wp2_with (first | (refine build1 29 _ rfl rfl 35 i0 Try.underlying29 hi0 hz0 hz1 ⟨3, 0, v⟩ rfl ?_) | (at_builtin; refine wpList_append_src rfl (.tmp 27) (.tmp 31) _ rfl (w.heap.size + 1) 35 i0 _ 3 24 Try.underlying29 hi0 hz0 hz1 hz2 rfl (by omega) _ (lckT ops i).length (evc (lckT ops i)) rfl (own_bel HO5.out HA5.out) (some ⟨w5.heap.size, 0, none⟩) 1 1 (evl ⟨3, 0, v⟩) rfl rfl (Src.box (show Box _ w5.heap.size (evl ⟨3, 0, v⟩).toArray 35 from Box.new w5 _ _) 1) (by simp [evl, Value.oneCell']) (by have := HLEN.out; unfold maxLen; omega) (by have := HLEN.out; omega) (Nat.le_trans HZ5.out HA5.out.size) ?_; intro v6 w6 ho6 hg6 hat6))
          have hb6 : Below w.heap.size w w6 := (HB5.out.trans HA5.out).out.trans (grown_below hg6 (own_bel HO5.out HA5.out) (Nat.le_succ _) (by have := HB5.out.size; have := HA5.out.size; omega))
          have hx6 : Box w6 w.heap.size (bs 5 (fun k : Nat => hldL (ops.take (i + 1)) (k : Nat))) 72 := (HA5.out.box HX5.out).grown hg6 (fun e => by have := (own_lt HO5.out e.symm).1; omega)
          rw [show evc (lckT ops i) ++ evl ⟨3, 0, v⟩ = evc (lckT ops i ++ [⟨3, 0, v⟩]) by rw [evc_append]; rfl] at ho6
          have HFN := Lib.hid (show AlkR w ops (i + 1) v6 w6 from ⟨hx6, by rw [HE.out, List.length_append]; exact ho6, Bel.of hb6⟩)
          clear hb6 hx6 ho6 hg6 hat6
          go_roundw
          case rel => exact ⟨i + 1, by omega, by go_num, HFN.out⟩
          case measure => simp [intOf]; omega
        · have HE := Lib.hid (show lckT ops (i + 1) = lckT ops i by rw [HSC.out]; unfold evLk; rw [HV.out, hh, if_neg (by simp), if_neg (by have := HK.out; omega), List.append_nil])
          have HBB := Lib.hid (show bs 5 (fun k : Nat => hldL (ops.take (i + 1)) (k : Nat)) = bs 5 (fun k : Nat => hldL (ops.take i) (k : Nat)) from bs_congr fun j _ => by
            rw [hld_next HOO.out]
            by_cases hj : j = v
            · subst hj; rw [if_pos ⟨.inl HK.out, HV.out⟩, decide_eq_true HK.out, hh]
            · rw [if_neg (fun g => hj (by have := g.2; have := HV.out; omega))])
          rw [hh] at g_h
          clear hh
          go_wp2
          go_roundw
          case rel => exact ⟨i + 1, by omega, by go_num, by rw [HBB.out]; exact HX.out, by rw [HE.out]; exact HOW.out, HBL.out⟩
          case measure => simp [intOf]; omega
      · have k4' : (o.k == 4) = false := by simpa using k4
        by_cases k5 : o.k = 5
        · have k5' : (o.k == 5) = true := by simpa using k5
          have hv5 : v < 5 := by have := h4 (.inr k5); omega
          have hv5' : (v : Int) < 5 := by omega
          have HK := Lib.hid k5
          clear k4 k5 hv h4 hk1 hk9 h0
          have g_h := HX.out.cell v (bs_get _ hv5)
          have z_h := HX.out.frozen v
          cases hh : hldL (ops.take i) (v : Int)
          · have HE := Lib.hid (show lckT ops (i + 1) = lckT ops i by rw [HSC.out]; unfold evLk; rw [HV.out, hh, if_neg (by have := HK.out; omega), if_neg (by simp), List.append_nil])
            have HBB := Lib.hid (show bs 5 (fun k : Nat => hldL (ops.take (i + 1)) (k : Nat)) = bs 5 (fun k : Nat => hldL (ops.take i) (k : Nat)) from bs_congr fun j _ => by
              rw [hld_next HOO.out]
              by_cases hj : j = v
              · subst hj; rw [if_pos ⟨.inr HK.out, HV.out⟩, decide_eq_false (by have := HK.out; omega), hh]
              · rw [if_neg (fun g => hj (by have := g.2; have := HV.out; omega))])
            rw [hh] at g_h
            clear hh
            go_wp2
            go_roundw
            case rel => exact ⟨i + 1, by omega, by go_num, by rw [HBB.out]; exact HX.out, by rw [HE.out]; exact HOW.out, HBL.out⟩
            case measure => simp [intOf]; omega
          · have HE := Lib.hid (show lckT ops (i + 1) = lckT ops i ++ [⟨4, 0, v⟩] by rw [HSC.out]; unfold evLk; rw [HV.out, hh, if_neg (by simp), if_pos ⟨HK.out, rfl⟩])
            rw [hh] at g_h
            clear hh
            have HKF := Lib.hid (show decide (o.k = 4) = false from decide_eq_false (by have := HK.out; omega))
            have HBB := Lib.hid (show bs 5 (updB (fun k : Nat => hldL (ops.take i) (k : Nat)) v false) = bs 5 (fun k : Nat => hldL (ops.take (i + 1)) (k : Nat)) from (by rw [← HKF.out]; exact hld_b HOO.out (.inr HK.out) HV.out))
            go_upto_region 11 with fail
            have HX5 := Lib.hid (show Box (w4.setCell ⟨w.heap.size, v, none⟩ (.bool false)) w.heap.size (bs 5 (fun k : Nat => hldL (ops.take (i + 1)) (k : Nat))) 72 by rw [← HBB.out, ← bs_set]; exact HX.out.set v _)
            have HB5 := Lib.hid (HBL.out.setCell ⟨w.heap.size, v, none⟩ (Nat.le_refl _) (.bool false))
            have HO5 := Lib.hid (own_keep (w' := w4.setCell ⟨w.heap.size, v, none⟩ (.bool false)) HOW.out (fun g hg _ => heap_setCell_other w4 ⟨w.heap.size, v, none⟩ g _ (by have := (own_lt HOW.out hg).1; dsimp only; omega)))
            have HZ5 := Lib.hid (show w.heap.size + 1 ≤ (w4.setCell ⟨w.heap.size, v, none⟩ (.bool false)).heap.size by simpa using HSZ.out)
            have d1 := (HXE.out.set_ne ⟨w.heap.size, v, none⟩ (.bool false) (Ne.symm HNE.out)).cell 1 (v := .int .i64 o.t) rfl
            rw [HV.out] at d1
            clear c0 c1 g_h z_h HX HBL HOW HSZ
            generalize w4.setCell ⟨w.heap.size, v, none⟩ (.bool false) = w5 at *
            have HA5 := Lib.hid ((Bel.refl w5).alloc (.cells (evv ⟨4, 0, v⟩) 35))
            go_wp2_with (first | (refine build1 29 _ rfl rfl 35 i0 Try.underlying29 hi0 hz0 hz1 ⟨4, 0, v⟩ rfl ?_) | (at_builtin; refine wpList_append_src rfl (.tmp 46) (.tmp 50) _ rfl (w.heap.size + 1) 35 i0 _ 3 24 Try.underlying29 hi0 hz0 hz1 hz2 rfl (by omega) _ (lckT ops i).length (evc (lckT ops i)) rfl (own_bel HO5.out HA5.out) (some ⟨w5.heap.size, 0, none⟩) 1 1 (evl ⟨4, 0, v⟩) rfl rfl (Src.box (show Box _ w5.heap.size (evl ⟨4, 0, v⟩).toArray 35 from Box.new w5 _ _) 1) (by simp [evl, Value.oneCell']) (by have := HLEN.out; unfold maxLen; omega) (by have := HLEN.out; omega) (Nat.le_trans HZ5.out HA5.out.size) ?_; intro v6 w6 ho6 hg6 hat6))
            have hb6 : Below w.heap.size w w6 := (HB5.out.trans HA5.out).out.trans (grown_below hg6 (own_bel HO5.out HA5.out) (Nat.le_succ _) (by have := HB5.out.size; have := HA5.out.size; omega))
            have hx6 : Box w6 w.heap.size (bs 5 (fun k : Nat => hldL (ops.take (i + 1)) (k : Nat))) 72 := (HA5.out.box HX5.out).grown hg6 (fun e => by have := (own_lt HO5.out e.symm).1; omega)
            rw [show evc (lckT ops i) ++ evl ⟨4, 0, v⟩ = evc (lckT ops i ++ [⟨4, 0, v⟩]) by rw [evc_append]; rfl] at ho6
            have HFN := Lib.hid (show AlkR w ops (i + 1) v6 w6 from ⟨hx6, by rw [HE.out, List.length_append]; exact ho6, Bel.of hb6⟩)
            clear hb6 hx6 ho6 hg6 hat6
            go_roundw
            case rel => exact ⟨i + 1, by omega, by go_num, HFN.out⟩
            case measure => simp [intOf]; omega
        · have k5' : (o.k == 5) = false := by simpa using k5
          have HE := Lib.hid (show lckT ops (i + 1) = lckT ops i by rw [HSC.out]; unfold evLk; rw [if_neg (fun g => k4 g.1), if_neg (fun g => k5 g.1), List.append_nil])
          have HBB := Lib.hid (show bs 5 (fun k : Nat => hldL (ops.take (i + 1)) (k : Nat)) = bs 5 (fun k : Nat => hldL (ops.take i) (k : Nat)) from bs_congr fun j _ => by
            rw [hld_next HOO.out, if_neg (fun g => by omega)])
          clear k4 k5 hv h4 hk1 hk9 h0
          go_wp2
          go_roundw
          case rel => exact ⟨i + 1, by omega, by go_num, by rw [HBB.out]; exact HX.out, by rw [HE.out]; exact HOW.out, HBL.out⟩
          case measure => simp [intOf]; omega
    · obtain rfl : n = i := by omega
      have HE := Lib.hid (own_drop_alloc hr.own (Nat.le_succ _))
      have HB := Lib.hid hr.below
      clear hr H0
      go_wp2
      go_ret
      exact ⟨_, rfl, by rw [HLN.out]; exact HE.out, HB.out.out⟩
set_option maxHeartbeats 8000000 in
theorem pgalone_any : AloneC := by
  intro A n c P t w h hnc hcm ht64
  have HP := Lib.hid h
  have HLN := Lib.hid h.1
  have HM := Lib.hid (And.intro hnc hcm)
  have hn63 : n ≤ 9223372036854775807 := by unfold maxLen at hcm; omega
  have HNIL := Lib.hid (fun w' : World => World.ownsRow_nil w' w.heap.size 43 2)
  have HCK := Lib.hid pgcheck_any
  unfold CheckC at HCK
  clear h hnc hcm
  go_enter Try.func10, Try.ntmps10
  go_wp2_with fail
  refine (HCK.out A n c P w HP.out HM.out.1 HM.out.2).mono ?_
  rintro e1 w1 ⟨rfl, hb1⟩
  have HB1 := Lib.hid (Bel.of hb1)
  clear hb1
  cases h1 : (chkP P != 0)
  · have HC := Lib.hid (show chkP P = 0 by simpa using h1)
    have hok := chk_ok.1 HC.out
    by_cases h2 : t < 0
    · go_wp2
      go_ret2
      exact ⟨_, [], 1, rfl, .inr (.inl ⟨HC.out, .inl h2, rfl, rfl⟩), HNIL.out _, HB1.out⟩
    · obtain ⟨u, rfl⟩ : ∃ u : Nat, t = u := ⟨t.toNat, by omega⟩
      by_cases h3 : u < n
      · obtain ⟨b, off, B, m, d, rfl, hb, hc, hsl, hm, hd⟩ := (HP.out.bel HB1.out).at_ h3
        have h3' : ¬ (n : Int) ≤ u := by omega
        have h3n : (u : Int) < n := by omega
        have huc : (u : Int) ≤ c := by have := HM.out.1; omega
        have HOP := Lib.hid (hok.op u)
        have H12 := Lib.hid (show (opsP P u).length ≤ 12 from hok.len u)
        have HSL := Lib.hid hsl
        have HD := Lib.hid (And.intro hm hd)
        clear hsl hm hd
        go_wp2_with fail
        refine (locking_any B m d (opsP P u) w1 HSL.out HD.out.1 (by have := HD.out.2; unfold maxLen at this; omega) (by rw [← HSL.out.1]; exact H12.out) HOP.out).mono ?_
        rintro e2 w2 ⟨v2, rfl, ho2, hb2⟩
        obtain ⟨A2, c2, rfl, hs2, hn2, hm2⟩ := Sl.own ho2
        have HB2 := Lib.hid (HB1.out.call hb2)
        have HS2 := Lib.hid hs2
        have HN2 := Lib.hid (And.intro hn2 hm2)
        clear ho2 hs2 hn2 hm2 hb2
        go_wp2_with fail
        refine (graph_ok A2 _ c2 _ w2 HS2.out HN2.out.1 (by have := HN2.out.2; unfold maxLen at this; omega) (lck_may HOP.out H12.out)).mono ?_
        rintro e3 w3 ⟨v3, rfl, ho3, hb3⟩
        rw [prsA_congr 5 (fun a b => lck_edge HOP.out a b)] at ho3
        have HO3 := Lib.hid (own_drop_alloc ho3 HB2.out.size)
        have HB3 := Lib.hid (HB2.out.call hb3)
        clear ho3 hb3
        go_wp2
        go_ret2
        exact ⟨_, _, 0, rfl, .inr (.inr ⟨HC.out, ⟨u, rfl, by rw [HLN.out]; exact h3, rfl⟩, rfl⟩), HO3.out, HB3.out⟩
      · have h3' : (n : Int) ≤ u := by omega
        go_wp2
        go_ret2
        exact ⟨_, [], 1, rfl, .inr (.inl ⟨HC.out, .inr (by rw [HLN.out]; exact h3'), rfl, rfl⟩), HNIL.out _, HB1.out⟩
  · have HC := Lib.hid (show chkP P ≠ 0 by simpa using h1)
    go_wp2
    go_ret2
    exact ⟨_, [], chkP P, rfl, .inl ⟨HC.out, rfl, rfl⟩, HNIL.out _, HB1.out⟩
end Go.Proofs.Ytjindfkomnjceaa

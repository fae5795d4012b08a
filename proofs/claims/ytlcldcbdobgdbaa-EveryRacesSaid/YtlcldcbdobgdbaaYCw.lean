import Derived.Test.YtlcldcbdobgdbaaYCt
import Derived.Test.YtlcldcbdobgdbaaYRest
set_option linter.all false
set_option maxRecDepth 100000
namespace Go.Proofs.Ytlcldcbdobgdbaa
open Go Go.RowKit

theorem eq_en (x y : En) : ∃ b : Bool, (∀ w, (binOp .eql 33 (.agg (enA x)) (.agg (enA y))).run Try.prog w = .ok (.bool b) w) ∧ (∀ w, (binOp .neq 33 (.agg (enA x)) (.agg (enA y))).run Try.prog w = .ok (.bool (!b)) w) ∧ (b = true ↔ enA x = enA y) := by
  obtain ⟨b, h1, h2⟩ := eql_enf (x := enA x) (y := enA y) ⟨_, _, _, _, _, rfl⟩ ⟨_, _, _, _, _, rfl⟩
  refine ⟨b, h1, fun w => ?_, h2⟩
  have h := h1 w
  rw [run_eql_struct] at h
  rw [run_neq_struct]
  cases hq : (Op.equalIn 10000 33 (.agg (enA x)) (.agg (enA y))).run Try.prog w with
  | ok a w1 =>
    rw [hq] at h
    simp only [Result.andThen] at h ⊢
    injection h with h3 h4
    injection h3 with h3
    rw [h3, h4]
  | _ => rw [hq] at h; simp [Result.andThen] at h
structure CtR (w : World) (base g n cap : Nat) (L : List En) (wr : World) : Prop where
  own : wr.ownsRow base 33 20 (.slice (some ⟨g, 0, none⟩) n cap) n (enRow L)
  gr : w.grownBy wr (some g)
theorem CtR.bel {w w1 w2 : World} {base g n cap : Nat} {L : List En} (h : CtR w base g n cap L w1) (hb : Bel w1 w2) : CtR w base g n cap L w2 :=
  ⟨own_bel h.own hb, h.gr.trans ⟨hb.os, hb.tape, hb.output, hb.size, fun k hk _ => hb.block k hk⟩⟩
def storedE (w : World) (g off : Nat) (x : En) : World := w.setCells g off (enE x)
theorem end_sz (c : En) : (Try.prog.info? 33).map (·.size) = some (enA c).size := by
  have h : (Try.prog.info? 33).map (·.size) = some 20 := by kernel_rfl
  exact h
theorem enA_one (c : En) : (enA c).all (·.oneCell') = true := by unfold enA enE; rw [← end_vs]; exact vs_all endF_one
theorem l_store_end {ops : Array Oper} {rest : List Oper} {op : Oper} {a : Act} {w : World} {Q : Exit → Act → World → Prop} (hgd : op.guard = none) (x y : Operand) (ho : op.op = .store 33 x y) {g o : Nat} {c : En} (hx : a.eval x = .pointer (some ⟨g, o, none⟩)) (hy : a.eval y = .agg (enE c).toArray) (ht : w.there g o 20)
    (h : wpList Try.prog ops Q rest (a.put op.dst undef) (storedE w g o c)) : wpList Try.prog ops Q (op :: rest) a w :=
  wpList_store_mid hgd 33 x y ho g o (enA c) hx hy ht (end_sz c) (enA_one c) (by rw [show (enA c).toList = enE c from rfl]; exact h)
theorem TEndx (x : En) : RowTy Try.prog 33 (enE x).length := TEnd
def CptPost (w : World) (base : Nat) (v : Value) (L : List En) (e : Ending) (w' : World) : Prop :=
  ∃ v', e = .returned v' ∧ w'.ownsRow base 33 20 v' L.length (enRow L) ∧ w.grownBy w' v.ownBlock
set_option maxHeartbeats 16000000 in
theorem compact_any {w : World} {base : Nat} {v : Value} {ds : List En} (h : w.ownsRow base 33 20 v ds.length (enRow ds)) (hlen : ds.length < 1977326750) :
    Calls Try.prog 43 #[v] w (CptPost w base v (ddp ds)) := by
  obtain ⟨n, hn⟩ : ∃ n, ds.length = n := ⟨_, rfl⟩
  rw [hn] at h hlen
  by_cases h2 : n < 2
  · have hd : ddp ds = ds := by
      match ds, hn with
      | [], _ => rfl
      | [x], _ => rfl
      | _ :: _ :: _, hn => simp at hn; omega
    have HD := Lib.hid hd
    have HO := Lib.hid h
    have hv : ∃ A c, v = .slice A n c := by
      rcases h.2 with ⟨rfl, rfl⟩ | ⟨g, cap, cur, rfl, _⟩
      · exact ⟨none, 0, rfl⟩
      · exact ⟨_, cap, rfl⟩
    obtain ⟨A, c, rfl⟩ := hv
    have h2' : (n : Int) < 2 := by omega
    have HN := Lib.hid hn
    clear h hd
    go_enter Try.func43, Try.ntmps43
    go_wp2
    go_ret
    exact ⟨_, rfl, by rw [HD.out, HN.out]; exact HO.out, World.grownBy.refl _ _⟩
  · rcases h.2 with ⟨_, h0⟩ | ⟨g, cap, cur, rfl, hg, hh, hnc, hcm, h5, h6⟩
    · omega
    have HO := Lib.hid h
    have HN := Lib.hid hn
    have HC := Lib.hid (And.intro hnc hcm)
    have h2' : ¬ (n : Int) < 2 := by omega
    have hncI : (n : Int) ≤ cap := by omega
    have hnI : (n : Int) < 1977326750 := by omega
    have H0 := Lib.hid (show CtR w base g n cap ds w from ⟨h, World.grownBy.refl _ _⟩)
    have HD1 := Lib.hid (ddp_one (L := ds) (by omega))
    have HL1 := Lib.hid hlen
    clear h hh hcm hg h5 h6 hn h2 hlen cur
    go_enter Try.func43, Try.ntmps43
    go_wp2
    go_loopw [3] (fun t wr => ∃ k : Nat, 1 ≤ k ∧ k ≤ n ∧ t = .int .i64 k ∧ CtR w base g n cap ds wr ∧ Hid (ddp (ds.take k) = ds.take k)) (fun t _ => n - (intOf t).toNat)
    case atStart => exact ⟨1, by omega, by omega, rfl, H0.out, HD1⟩
    case round =>
      obtain ⟨k, hk1, hk, rfl, hr, HDK⟩ := hrel
      have HR := Lib.hid hr
      clear hr H0 HD1
      by_cases hlt : k < n
      · have hlt' : (k : Int) < n := by omega
        obtain ⟨j, hj⟩ : ∃ j, j + 1 = k := ⟨k - 1, by omega⟩
        have hl1 : k < ds.length := by rw [HN.out]; exact hlt
        have hl0 : j < ds.length := by omega
        obtain ⟨b, he1, he2, he3⟩ := eq_en ds[k] ds[j]
        have HA := Lib.hid (fun (w9 : World) (h9 : Bel wr w9) => own_range (own_bel HR.out.own h9) hl1)
        have HB := Lib.hid (fun (w9 : World) (h9 : Bel wr w9) => own_range (own_bel HR.out.own h9) hl0)
        have HSN := Lib.hid (show ddp (ds.take (k + 1)) = if b = true then ddp (ds.take k) else ddp (ds.take k) ++ [ds[k]] by
          subst hj
          rw [ddp_snoc hl1]
          by_cases hb : b = true
          · rw [if_pos hb, if_pos (he3.1 hb).symm, List.append_nil]
          · rw [if_neg hb, if_neg (fun e => hb (he3.2 e.symm))])
        have HTK := Lib.hid (show ds.take (k + 1) = ds.take k ++ [ds[k]] from List.take_succ_eq_append_getElem hl1)
        generalize ds[k] = x at *
        generalize ds[j] = y at *
        clear he2 he3
        have hwj : IntKind.i64.wrap ((k : Int) - 1) = j := by rw [show (k : Int) - 1 = j by omega]; exact IntWalk.i64_in _ (by omega)
        have hjn : (j : Int) < n := by omega
        have HJ := Lib.hid hj
        clear hj hl1 hl0
        go_wp2_with fail
        (refine region_bel (by kernel_rfl) (by kernel_rfl) ?_; (repeat (first | ((with_reducible refine BigFrame.wpQuiet_skip ?_ ?_); exact rfl; simp only [Act.put, Act.eval, List.setIfInBounds_toArray, List.set_cons_zero, List.set_cons_succ, Array.getD_eq_getD_getElem?, List.getElem?_toArray, List.getElem?_cons_zero, List.getElem?_cons_succ, Option.getD_some]) | (refine q_move _ rfl rfl ?_; simp only [Act.put, Act.eval, List.setIfInBounds_toArray, List.set_cons_zero, List.set_cons_succ, Array.getD_eq_getD_getElem?, List.getElem?_toArray, List.getElem?_cons_zero, List.getElem?_cons_succ, Option.getD_some]) | (refine q_assign _ rfl rfl ?_; simp only [Act.put, Act.eval, List.setIfInBounds_toArray, List.set_cons_zero, List.set_cons_succ, Array.getD_eq_getD_getElem?, List.getElem?_toArray, List.getElem?_cons_zero, List.getElem?_cons_succ, Option.getD_some]) | (refine q_load_mid _ _ rfl rfl rfl HA.out (TEndx x) (enA x) rfl ?_; simp only [Act.put, Act.eval, List.setIfInBounds_toArray, List.set_cons_zero, List.set_cons_succ, Array.getD_eq_getD_getElem?, List.getElem?_toArray, List.getElem?_cons_zero, List.getElem?_cons_succ, Option.getD_some]) | (refine q_load_mid _ _ rfl rfl rfl HB.out (TEndx y) (enA y) rfl ?_; simp only [Act.put, Act.eval, List.setIfInBounds_toArray, List.set_cons_zero, List.set_cons_succ, Array.getD_eq_getD_getElem?, List.getElem?_toArray, List.getElem?_cons_zero, List.getElem?_cons_succ, Option.getD_some]) | (refine q_any rfl ?_; apply Exists.intro; refine ⟨fun w hw => ?_, ?_⟩; (go_simp; first | exact ⟨rfl, rfl⟩ | rfl); simp only [Act.put, Act.eval, List.setIfInBounds_toArray, List.set_cons_zero, List.set_cons_succ, Array.getD_eq_getD_getElem?, List.getElem?_toArray, List.getElem?_cons_zero, List.getElem?_cons_succ, Option.getD_some]))); refine wpQuiet_nil ?_; intro w2 hw2)
        have HR2 := Lib.hid (HR.out.bel hw2)
        clear HA HB he1 hw2
        cases b
        · have HD2 := Lib.hid (show ddp (ds.take (k + 1)) = ds.take (k + 1) by rw [HSN.out, HTK.out, if_neg (by simp), HDK.out])
          go_wp2
          go_roundw
          case rel => exact ⟨k + 1, by omega, by omega, by go_num, HR2.out, HD2⟩
          case measure => simp [intOf]; omega
        · have HD2 := Lib.hid (show ddp (ds.take (k + 1)) = ds.take k by rw [HSN.out, if_pos rfl, HDK.out])
          clear HSN HTK HDK HR
          have H1 := Lib.hid (show CtR w base g n cap (ddp (ds.take (k + 1)) ++ ds.drop k) w2 from by rw [HD2.out, List.take_append_drop]; exact HR2.out)
          go_wp2
          go_loopw [3, 5] (fun t u wr => ∃ kk m : Nat, 1 ≤ m ∧ k + m ≤ n ∧ kk + 1 ≤ k + m ∧ k ≤ kk ∧ t = .int .i64 kk ∧ u = .int .i64 m ∧ CtR w base g n cap (ddp (ds.take (k + m)) ++ ds.drop kk) wr ∧ Hid ((ddp (ds.take (k + m))).length = kk)) (fun _ u _ => n - (intOf u).toNat)
          case atStart => exact ⟨k, 1, by omega, by omega, by omega, by omega, rfl, rfl, H1.out, (show (ddp (ds.take (k + 1))).length = k by rw [HD2.out, List.length_take, HN.out]; omega)⟩
          case round =>
            obtain ⟨kk, m, hm1, hm, hkm, hkk, rfl, rfl, hr3, HLN⟩ := hrel
            have HR3 := Lib.hid hr3
            clear hr3 H1
            by_cases hml : k + m < n
            · have hml' : (m : Int) < ((n - k : Nat) : Int) := by omega
              obtain ⟨q, hq⟩ : ∃ q, q + 1 = m := ⟨m - 1, by omega⟩
              have hl1 : k + m < ds.length := by rw [HN.out]; exact hml
              have hl0 : k + q < ds.length := by omega
              obtain ⟨b, he1, he2, he3⟩ := eq_en ds[k + m] ds[k + q]
              have hAL := HLN.out
              have hlm : (ddp (ds.take (k + m)) ++ ds.drop kk).length = n := by rw [List.length_append, hAL, List.length_drop, HN.out]; omega
              have hg1 : (ddp (ds.take (k + m)) ++ ds.drop kk)[k + m]'(by omega) = ds[k + m] := by
                rw [List.getElem_append_right (by omega), List.getElem_drop]; congr 1; omega
              have hg0 : (ddp (ds.take (k + m)) ++ ds.drop kk)[k + q]'(by omega) = ds[k + q] := by
                rw [List.getElem_append_right (by omega), List.getElem_drop]; congr 1; omega
              have HA := Lib.hid (fun (w9 : World) (h9 : Bel wr w9) => show w9.rangeAt g (k * 20 + m * 20) (enE ds[k + m]) from by
                have := own_range (own_bel HR3.out.own h9) (k := k + m) (by omega)
                rw [hg1, Nat.add_mul] at this; exact this)
              have HB := Lib.hid (fun (w9 : World) (h9 : Bel wr w9) => show w9.rangeAt g (k * 20 + q * 20) (enE ds[k + q]) from by
                have := own_range (own_bel HR3.out.own h9) (k := k + q) (by omega)
                rw [hg0, Nat.add_mul] at this; exact this)
              have HSN := Lib.hid (show ddp (ds.take (k + m + 1)) = if b = true then ddp (ds.take (k + m)) else ddp (ds.take (k + m)) ++ [ds[k + m]] by
                subst hq
                have h9 := ddp_snoc (L := ds) (i := k + q) hl1
                rw [show k + (q + 1) + 1 = k + q + 2 by omega, h9]
                have he4 : b = true ↔ enA ds[k + q + 1] = enA ds[k + q] := he3
                by_cases hb : b = true
                · rw [if_pos hb, if_pos (he4.1 hb).symm, List.append_nil]; rfl
                · rw [if_neg hb, if_neg (fun e => hb (he4.2 e.symm))]; rfl)
              have HST := Lib.hid (fun (x9 : En) => show (ddp (ds.take (k + m)) ++ ds.drop kk).set kk x9 = ddp (ds.take (k + m)) ++ [x9] ++ ds.drop (kk + 1) by
                rw [List.set_append_right _ _ (by omega), hAL, Nat.sub_self, List.drop_eq_getElem_cons (by omega), List.set_cons_zero, List.append_assoc]
                rfl)
              have HLM := Lib.hid hlm
              obtain ⟨c2, hc2⟩ : ∃ c2, (!b) = c2 := ⟨_, rfl⟩
              rw [hc2] at he2
              have HCC := Lib.hid hc2
              clear hc2
              generalize ds[k + m] = x2 at *
              generalize ds[k + q] = y2 at *
              clear he1 he3 hg1 hg0
              have hwq : IntKind.i64.wrap ((m : Int) - 1) = q := by rw [show (m : Int) - 1 = q by omega]; exact IntWalk.i64_in _ (by omega)
              have hqn : (q : Int) < ((n - k : Nat) : Int) := by omega
              have HQ := Lib.hid hq
              clear hq hl1 hl0 hAL hlm
              go_wp2_with fail
              (refine region_bel (by kernel_rfl) (by kernel_rfl) ?_; (repeat (first | ((with_reducible refine BigFrame.wpQuiet_skip ?_ ?_); exact rfl; simp only [Act.put, Act.eval, List.setIfInBounds_toArray, List.set_cons_zero, List.set_cons_succ, Array.getD_eq_getD_getElem?, List.getElem?_toArray, List.getElem?_cons_zero, List.getElem?_cons_succ, Option.getD_some]) | (refine q_move _ rfl rfl ?_; simp only [Act.put, Act.eval, List.setIfInBounds_toArray, List.set_cons_zero, List.set_cons_succ, Array.getD_eq_getD_getElem?, List.getElem?_toArray, List.getElem?_cons_zero, List.getElem?_cons_succ, Option.getD_some]) | (refine q_assign _ rfl rfl ?_; simp only [Act.put, Act.eval, List.setIfInBounds_toArray, List.set_cons_zero, List.set_cons_succ, Array.getD_eq_getD_getElem?, List.getElem?_toArray, List.getElem?_cons_zero, List.getElem?_cons_succ, Option.getD_some]) | (refine q_load_mid _ _ rfl rfl rfl HA.out (TEndx x2) (enA x2) rfl ?_; simp only [Act.put, Act.eval, List.setIfInBounds_toArray, List.set_cons_zero, List.set_cons_succ, Array.getD_eq_getD_getElem?, List.getElem?_toArray, List.getElem?_cons_zero, List.getElem?_cons_succ, Option.getD_some]) | (refine q_load_mid _ _ rfl rfl rfl HB.out (TEndx y2) (enA y2) rfl ?_; simp only [Act.put, Act.eval, List.setIfInBounds_toArray, List.set_cons_zero, List.set_cons_succ, Array.getD_eq_getD_getElem?, List.getElem?_toArray, List.getElem?_cons_zero, List.getElem?_cons_succ, Option.getD_some]) | (refine q_any rfl ?_; apply Exists.intro; refine ⟨fun w hw => ?_, ?_⟩; (go_simp; first | exact ⟨rfl, rfl⟩ | rfl); simp only [Act.put, Act.eval, List.setIfInBounds_toArray, List.set_cons_zero, List.set_cons_succ, Array.getD_eq_getD_getElem?, List.getElem?_toArray, List.getElem?_cons_zero, List.getElem?_cons_succ, Option.getD_some]))); refine wpQuiet_nil ?_; intro w2 hw2)
              have HR4 := Lib.hid (HR3.out.bel hw2)
              have HA4 := Lib.hid (HA.out _ hw2)
              clear HA HB he2 hw2
              cases c2
              · have HD5 := Lib.hid (show ddp (ds.take (k + m + 1)) = ddp (ds.take (k + m)) by rw [HSN.out, if_pos (by have := HCC.out; simpa using this)])
                go_wp2
                go_roundw
                case rel => exact ⟨kk, m + 1, by omega, by omega, by omega, by omega, rfl, by go_num, by rw [← Nat.add_assoc, HD5.out]; exact HR4.out, (show (ddp (ds.take (k + (m + 1)))).length = kk by rw [← Nat.add_assoc, HD5.out]; exact HLN.out)⟩
                case measure => simp [intOf]; omega
              · have HS := Lib.hid (own_setE HR4.out.own (k := kk) (by rw [HLM.out]; omega) x2)
                rw [HST.out x2] at HS
                have HD5 := Lib.hid (show ddp (ds.take (k + m + 1)) = ddp (ds.take (k + m)) ++ [x2] by rw [HSN.out, if_neg (by have := HCC.out; simpa using this)])
                have hkkn : (kk : Int) < n := by omega
                have HTH := Lib.hid (own_there HR4.out.own (k := kk) (m := 20) (by omega))
                have HGR := Lib.hid (HR4.out.gr.trans (grown_setCells g (enE x2) (kk * 20) w2))
                go_upto_region 13 with (first | (refine load_row (l := enE x2) (TEndx x2) _ rfl rfl rfl HA4.out ?_) | (refine l_store_end rfl _ _ rfl (c := x2) rfl rfl HTH.out ?_))
                change Code.wp _ _ _ _ (storedE w2 g (kk * 20) x2)
                have HS9 := Lib.hid (show CtR w base g n cap (ddp (ds.take (k + m)) ++ [x2] ++ ds.drop (kk + 1)) (storedE w2 g (kk * 20) x2) from ⟨HS.out, HGR.out⟩)
                generalize storedE w2 g (kk * 20) x2 = w9 at *
                clear HTH HS HGR HA4 HR4
                simp only [Act.put, Act.eval, List.setIfInBounds_toArray, List.set_cons_zero, List.set_cons_succ, Array.getD_eq_getD_getElem?, List.getElem?_toArray, List.getElem?_cons_zero, List.getElem?_cons_succ, Option.getD_some]
                go_wp2
                go_roundw
                case rel => exact ⟨kk + 1, m + 1, by omega, by omega, by omega, by omega, by go_num, by go_num, by rw [← Nat.add_assoc, HD5.out]; exact HS9.out, (show (ddp (ds.take (k + (m + 1)))).length = kk + 1 by rw [← Nat.add_assoc, HD5.out, List.length_append, HLN.out]; rfl)⟩
                case measure => simp [intOf]; omega
            · have hkn : k + m = n := by omega
              have hml' : ¬ (m : Int) < ((n - k : Nat) : Int) := by omega
              have hkkn : kk < n := by omega
              have hkknI : (kk : Int) < n := by omega
              have hkcI : (kk : Int) ≤ cap := by omega
              have htk : ds.take (k + m) = ds := by rw [hkn, ← HN.out, List.take_length]
              rw [htk] at HR3 HLN
              obtain ⟨i0, hi0, hz0, hz1, hz2⟩ := info_parts end_info
              have hth := own_there HR3.out.own (k := kk) (m := (n - kk) * 20) (by omega)
              obtain ⟨vs, hcl⟩ := run_clear20 (P := Try.prog) 23 33 i0 Try.underlying23 hi0 hz0 0 wr g (kk * 20) (n - kk) (cap - kk) (by omega) hth
              have HOC := Lib.hid (own_clear HR3.out.own (k := kk) (by omega) vs)
              rw [List.take_left' HLN.out] at HOC
              have HGC := Lib.hid (HR3.out.gr.trans (grown_setCells g vs (kk * 20) wr))
              have HCL := Lib.hid hcl
              clear hth hi0 hz0 hz1 hz2 htk hcl
              go_wp2
              rw [HCL.out]
              go_wp2
              go_ret
              exact ⟨_, rfl, by rw [HLN.out]; exact HOC.out, HGC.out⟩
      · obtain rfl : k = n := by omega
        have htk : ds.take k = ds := by rw [← HN.out, List.take_length]
        have HD := Lib.hid (show ddp ds = ds by rw [← htk]; exact HDK.out)
        go_wp2
        go_ret
        exact ⟨_, rfl, by rw [HD.out, HN.out]; exact HR.out.own, HR.out.gr⟩
end Go.Proofs.Ytlcldcbdobgdbaa

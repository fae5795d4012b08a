/- Rows of clocks: loaded, compared, kept in variables; the reference's Eq over clocks; the reference's Stamps. -/
import Derived.Test.YtfmkbjgkicipcaaStamp
import Derived.Test.YtfmkbjgkicipcaaAhead2
import Derived.Test.YtfmkbjgkicipcaaClock
set_option linter.all false
set_option maxRecDepth 100000
namespace Go.Proofs.Ytfmkbjgkicipcaa
open Go Go.RowKit

theorem neqC (a b : Nat → Int) (w : World) : (binOp .neq 31 (.agg (clk a)) (.agg (clk b))).run Try.prog w = .ok (.bool (!eqc a b)) w := neq_clk Try.underlying31 Try.underlying3 (by kernel_rfl) a b w
/-- The world behind 'for .. := range c' over clocks, that has taken its next one, or behind 'c := ..'. -/
def cwld (w : World) (c : Nat → Int) (t : TypeId) : World := (w.alloc (.cells (clk fun _ => 0) t)).setRow w.heap.size (clk c)
theorem cwld_box (w : World) (c : Nat → Int) (t : TypeId) : Box (cwld w c t) w.heap.size (clk c) t := (Box.new w _ t).setRow _
theorem cwld_below (w : World) (c : Nat → Int) (t : TypeId) : Below w.heap.size w (cwld w c t) := below_setRow' ((Below.refl _ _).alloc (Nat.le_refl _) _) _ _ (Nat.le_refl _)
theorem cwld_store {P : Program} {ops : Array Oper} {rest : List Oper} {o : Oper} {a : Act} {w' w : World} {Q : Exit → Act → World → Prop} {ty : TypeId} (hT : RowTy P ty 6) (x y : Operand) (ho : o.op = .store ty x y) (hgd : o.guard = none) {c : Nat → Int} (t : TypeId)
    (hy : a.eval y = .agg (clk c)) (hw : w' = w.alloc (.cells (clk fun _ => 0) t)) (hx : a.eval x = .pointer (some ⟨w.heap.size, 0, none⟩))
    (h : wpList P ops Q rest (a.put o.dst undef) (cwld w c t)) : wpList P ops Q (o :: rest) a w' := by
  subst hw
  exact storeB ty x y ho hgd hx hy (Box.new w _ t) rfl hT (clk_all c) h
theorem load_ck {P : Program} {ops : Array Oper} {rest : List Oper} {o : Oper} {a : Act} {w : World} {Q : Exit → Act → World → Prop} {ty : TypeId} (hT : RowTy P ty 6) (x : Operand) (ho : o.op = .load ty x) (hgd : o.guard = none) {b off : Nat} {c : Nat → Int}
    (hx : a.eval x = .pointer (some ⟨b, off, none⟩)) (hr : w.rangeAt b off (clkl c))
    (h : wpList P ops Q rest (a.put o.dst (.agg (clk c))) w) : wpList P ops Q (o :: rest) a w := by
  obtain ⟨d, hu, hd, hi⟩ := hT
  exact wpList_load_mid hgd ty x ho b off hx (clkl c) d hr hu hd hi h
theorem Box.bel {W w : World} {B : Nat} {c : Array Value} {t : TypeId} (h : Box W B c t) (hb : Bel W w) : Box w B c t := hb.box h
theorem eqc_self (a : Nat → Int) : eqc a a = true := (eqc_iff a a).2 fun _ _ => rfl
theorem Cks.lt {w : World} {B n : Nat} {l : List Ev} (h : Cks w B n l) : B < w.heap.size := Box.lt h
set_option maxHeartbeats 4000000 in
theorem eqck_any (A B n : Nat) (l : List Ev) (w : World) (hl : Cks w A n l) (hk : Cks w B n l) (hn : n ≤ 80) :
    Calls Try.prog 13 #[.slice (some ⟨A, 0, none⟩) n n, .slice (some ⟨B, 0, none⟩) n n] w fun e w' => e = .returned (.bool true) ∧ Below w.heap.size w w' := by
  have hw0 := Lib.hid (Bel.refl w)
  have HL := Lib.hid hl
  have HK := Lib.hid hk
  have hne : ((n : Int) != (n : Int)) = false := by simp
  clear hl hk
  go_enter Try.func13, Try.ntmps13
  go_wp2
  go_loopw [14] (fun t wr => ∃ i : Nat, i ≤ n ∧ t = .int .i64 i ∧ Bel w wr) (fun t _ => n - (intOf t).toNat)
  case atStart => exact ⟨0, by omega, rfl, hw0.out⟩
  case round =>
    obtain ⟨i, hi, rfl, hbr⟩ := hrel
    have HB := Lib.hid hbr
    clear hbr
    by_cases hlt : i < n
    · have hlt' : (i : Int) < n := by omega
      have hR := Lib.hid ((HL.out.bel HB.out).row hlt)
      have HEB := Lib.hid (show Bel wr _ from cwld_below wr (kc l i) 31)
      have HB2 := Lib.hid (HB.out.trans HEB.out)
      have HX0 := cwld_box wr (kc l i) 31
      have HF2 := Lib.hid (fun (w' : World) (h : Bel (cwld wr (kc l i) 31) w') => (HK.out.bel (HB2.out.trans h)).row hlt)
      have NE := neqC (kc l i) (kc l i)
      rw [eqc_self] at NE
      have G := grdC
      go_wp2_with (first | (refine load_ck ty28 _ rfl rfl rfl hR.out ?_) | (refine cwld_store ty28 _ _ rfl rfl _ rfl rfl rfl ?_))
      (refine region_bel (by kernel_rfl) (by kernel_rfl) ?_; (repeat (first | ((with_reducible refine BigFrame.wpQuiet_skip ?_ ?_); exact rfl; simp only [Act.put, Act.eval, List.setIfInBounds_toArray, List.set_cons_zero, List.set_cons_succ, Array.getD_eq_getD_getElem?, List.getElem?_toArray, List.getElem?_cons_zero, List.getElem?_cons_succ, Option.getD_some]) | (refine q_move _ rfl rfl ?_; simp only [Act.put, Act.eval, List.setIfInBounds_toArray, List.set_cons_zero, List.set_cons_succ, Array.getD_eq_getD_getElem?, List.getElem?_toArray, List.getElem?_cons_zero, List.getElem?_cons_succ, Option.getD_some]) | (refine q_assign _ rfl rfl ?_; simp only [Act.put, Act.eval, List.setIfInBounds_toArray, List.set_cons_zero, List.set_cons_succ, Array.getD_eq_getD_getElem?, List.getElem?_toArray, List.getElem?_cons_zero, List.getElem?_cons_succ, Option.getD_some]) | (refine q_load _ _ rfl rfl rfl HX0 ty28 ?_; simp only [Act.put, Act.eval, List.setIfInBounds_toArray, List.set_cons_zero, List.set_cons_succ, Array.getD_eq_getD_getElem?, List.getElem?_toArray, List.getElem?_cons_zero, List.getElem?_cons_succ, Option.getD_some]) | (refine q_load_mid _ _ rfl rfl rfl HF2.out ty28 (clk (kc l i)) rfl ?_; simp only [Act.put, Act.eval, List.setIfInBounds_toArray, List.set_cons_zero, List.set_cons_succ, Array.getD_eq_getD_getElem?, List.getElem?_toArray, List.getElem?_cons_zero, List.getElem?_cons_succ, Option.getD_some]) | (refine q_any rfl ?_; apply Exists.intro; refine ⟨fun w hw => ?_, ?_⟩; (go_simp; first | exact ⟨rfl, rfl⟩ | rfl); simp only [Act.put, Act.eval, List.setIfInBounds_toArray, List.set_cons_zero, List.set_cons_succ, Array.getD_eq_getD_getElem?, List.getElem?_toArray, List.getElem?_cons_zero, List.getElem?_cons_succ, Option.getD_some]))); refine wpQuiet_nil ?_; intro w2 hw2)
      have HW2 := Lib.hid hw2
      clear hw2
      go_wp2
      go_roundw
      case rel => exact ⟨i + 1, by omega, by go_num, HB2.out.trans HW2.out⟩
      case measure => simp [intOf]; omega
    · obtain rfl : i = n := by omega
      go_wp2
      go_ret
      exact ⟨rfl, HB.out⟩
def RsPost (w : World) (l : List Ev) (n : Nat) (e : Ending) (w' : World) : Prop := ∃ B, e = .returned (.slice (some ⟨B, 0, none⟩) n n) ∧ Cks w' B n l ∧ w.heap.size ≤ B ∧ Below w.heap.size w w'
set_option maxHeartbeats 8000000 in
theorem rstamps_any (A : Option Addr) (n c : Nat) (l : List Ev) (w : World) (hl : Sl w A n l) (hm : may l = 0) : Calls Try.prog 14 #[.slice A n c] w (RsPost w l n) := by
  have hw0 := Bel.refl w
  have HL := Lib.hid hl
  have HM := Lib.hid hm
  have HN := Lib.hid hl.1
  have hn80 : n ≤ 80 := by rw [← hl.1]; exact ((may_iff l).1 hm).1
  have HT := Lib.hid (fun (i : Nat) (hi : i < l.length) => may_tOf hm hi)
  have HCA := Lib.hid (fun (j t : Nat) (hj : j < l.length) (ht : t < 6) => count_ref (fun i hi => may_tOf hm hi) (l := l) hj ht)
  clear hl hm
  go_enter Try.func14, Try.ntmps14
  go_wp2_with fail
  refine (ahead_any A n c l _ HL.out hn80).mono ?_
  rintro e1 w1 ⟨O, r, rfl, hm1⟩
  have HM1 := Lib.hid hm1
  have HW1 := Lib.hid (hw0.call hm1.below)
  have H0 := Lib.hid (CkR.mk (Box.new w1 _ _) ((Bel.refl w1).alloc _) : CkR w1 n [] (w1.alloc (.cells (ns (n * 6) (cnt [])) 31)))
  clear hm1 hw0
  go_wp2_with (refine makeCk _ _ rfl rfl n (by omega) rfl rfl ?_)
  change Code.wp _ _ _ _ (w1.alloc (.cells (ns (n * 6) (cnt [])) 31))
  generalize hW : w1.alloc (.cells (ns (n * 6) (cnt [])) 31) = w2 at *
  clear hW
  go_loopw [14] (fun t14 wr => ∃ j : Nat, j ≤ n ∧ t14 = .int .i64 j ∧ CkR w1 n (refK l j 0) wr) (fun t14 _ => n - (intOf t14).toNat)
  case atStart => exact ⟨0, by omega, rfl, H0.out⟩
  case round =>
    obtain ⟨j, hj, rfl, hr⟩ := hrel
    have HR := Lib.hid hr
    clear hr H0
    by_cases hlt : j < n
    · have hlt' : (j : Int) < n := by omega
      have hj0 : (0 : Int) ≤ (j : Int) := by omega
      go_wp2
      go_loopw [19] (fun t19 wr => ∃ i : Nat, i ≤ n ∧ t19 = .int .i64 i ∧ CkR w1 n (refK l j i) wr) (fun t19 _ => n - (intOf t19).toNat)
      case atStart => exact ⟨0, by omega, rfl, HR.out⟩
      case round =>
        obtain ⟨i, hi, rfl, hr⟩ := hrel
        have HR2 := Lib.hid hr
        clear hr HR
        by_cases hli : i < n
        · have hli' : (i : Int) < n := by omega
          obtain ⟨bb, off, ⟨ek, et, eo⟩, rfl, hbb, he, hrg⟩ := HL.out.at_ hli
          have het := isEv_t (wrong_isEv (wrong_at HM.out he))
          obtain ⟨t, rfl⟩ := Int.eq_ofNat_of_zero_le het.1
          have HTO := Lib.hid (show tOf l i = t by rw [tOf_at he]; rfl)
          have ht6 : t < 6 := by have := het.2; dsimp only at this; omega
          have ht6' : (t : Int) < 6 := by omega
          have hbw := Bel.of HR2.out.below
          have HRG := Lib.hid (rangeAt_below (HW1.out.trans hbw).out hbb hrg)
          have HM2 := Lib.hid (HM1.out.grow hbw)
          obtain ⟨v, hv⟩ : ∃ v, cnt (refK l j i) (j * 6 + t) = v := ⟨_, rfl⟩
          have hlen : (refK l j i).length ≤ 1000000 := by
            have h1 := refK_len l j i
            have h2 : j * l.length ≤ 80 * 80 := Nat.mul_le_mul (by omega) (by rw [HN.out]; omega)
            omega
          have f1 := cnt_wrap hlen hv
          have HV := Lib.hid hv
          have e1 : wr.cell? ⟨bb, off + i * 3 + 1, none⟩ = some (.int .i64 t) := HRG.out 1 _ rfl
          have d0 : wr.cell? ⟨w1.heap.size, j * 6 + t, none⟩ = some (.int .i64 v) := by rw [← hv]; exact HR2.out.box.cell _ (ns_get _ (by omega))
          have g0 := HR2.out.box.frozen (j * 6 + t)
          have r0 := HM2.out.rowc hli (Nat.le_refl _)
          have r1 := HM2.out.cell hli hlt
          have HUP := Lib.hid (fun (h : (i == j || bef l i j) = true) => ((HR2.out.bel (Bel.refl _).drew).up hv (u := (v : Int) + 1) rfl).to (show _ = refK l j (i + 1) by rw [refK_yes h, HTO.out]))
          have HNO := Lib.hid (fun (h : (i == j || bef l i j) = false) => HR2.out.to (show refK l j i = refK l j (i + 1) by rw [refK_no h]))
          clear he hrg het hv hbw hlen
          by_cases hij : i = j
          · subst hij
            have HX := Lib.hid (HUP.out (by simp))
            have hb : ((i : Int) == (i : Int)) = true := by simp
            clear r0 r1
            go_wp2
            (refine wp_region_still_tail 13 (by kernel_rfl) (by kernel_rfl) ?_; simp only [List.take_succ_cons, List.take_zero, List.drop_succ_cons, List.drop_zero]; (repeat (first | ((with_reducible refine s_skip ?_ ?_); exact rfl; simp only [Act.put, Act.eval, List.setIfInBounds_toArray, List.set_cons_zero, List.set_cons_succ, Array.getD_eq_getD_getElem?, List.getElem?_toArray, List.getElem?_cons_zero, List.getElem?_cons_succ, Option.getD_some]) | ((with_reducible refine wpStill_step ?_); intro K hK; go_simp; (with_reducible refine hK _ ?_); clear hK K))); (with_reducible refine wpStill_nil ?_))
            change wpList _ _ _ _ _ wr.drew
            go_wp2
            go_roundw
            case rel => exact ⟨i + 1, by omega, by go_num, HX.out⟩
            case measure => simp [intOf]; omega
          · have hb : ((i : Int) == (j : Int)) = false := by simp; omega
            have hb' : (i == j) = false := by simpa using hij
            cases hq : bef l i j
            · rw [hq] at r1
              have HX := Lib.hid (HNO.out (by rw [hb', hq]; rfl))
              go_wp2
              go_roundw
              case rel => exact ⟨i + 1, by omega, by go_num, HX.out⟩
              case measure => simp [intOf]; omega
            · rw [hq] at r1
              have HX := Lib.hid (HUP.out (by rw [hb', hq]; rfl))
              go_wp2
              (refine wp_region_still_tail 13 (by kernel_rfl) (by kernel_rfl) ?_; simp only [List.take_succ_cons, List.take_zero, List.drop_succ_cons, List.drop_zero]; (repeat (first | ((with_reducible refine s_skip ?_ ?_); exact rfl; simp only [Act.put, Act.eval, List.setIfInBounds_toArray, List.set_cons_zero, List.set_cons_succ, Array.getD_eq_getD_getElem?, List.getElem?_toArray, List.getElem?_cons_zero, List.getElem?_cons_succ, Option.getD_some]) | ((with_reducible refine wpStill_step ?_); intro K hK; go_simp; (with_reducible refine hK _ ?_); clear hK K))); (with_reducible refine wpStill_nil ?_))
              change wpList _ _ _ _ _ wr.drew
              go_wp2
              go_roundw
              case rel => exact ⟨i + 1, by omega, by go_num, HX.out⟩
              case measure => simp [intOf]; omega
        · obtain rfl : i = n := by omega
          have HE := Lib.hid (HR2.out.to (show refK l j i = refK l (j + 1) 0 by rw [refK_next, HN.out]))
          go_wp2
          go_roundw
          case rel => exact ⟨j + 1, by omega, by go_num, HE.out⟩
          case measure => simp [intOf]; omega
    · obtain rfl : j = n := by omega
      go_wp2
      go_ret
      exact ⟨_, rfl, HR.out.done (fun a t ha ht => by have := HCA.out a t (by rw [HN.out]; exact ha) ht; rw [HN.out] at this; exact this), HW1.out.size, HW1.out.trans (Bel.of HR.out.below)⟩
end Go.Proofs.Ytfmkbjgkicipcaa

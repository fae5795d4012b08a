/- Contracts of the package stamp: Stamps. -/
import Derived.Test.YtfmkbjgkicipcaaKn
import Derived.Test.YtfmkbjgkicipcaaOrder2
import Derived.Test.YtfmkbjgkicipcaaGrowT
set_option linter.all false
set_option maxRecDepth 100000
namespace Go.Proofs.Ytfmkbjgkicipcaa
open Go Go.RowKit

theorem ck_info : (Try.prog.info? 31).map (fun i => (i.zero, i.size, i.bytes)) = some (some (.agg (Array.replicate 6 (.int .i64 0))), 6, 48) := by kernel_rfl
theorem made_ns (m n : Nat) (hn : 0 < n) : madeCells (Array.replicate n (Value.int .i64 0)) m = ns m (fun _ => 0) := by
  apply Array.ext
  · simp [madeCells, ns_size]
  · intro i h1 h2
    have h3 : i < m := by simpa [madeCells] using h1
    have h4 := ns_get (n := m) (fun _ => 0) h3
    rw [Array.getElem?_eq_getElem h2] at h4
    rw [Option.some.inj h4]
    simp [madeCells, Nat.mod_lt _ hn]
section
variable {ops : Array Oper} {rest : List Oper} {o : Oper} {a : Act} {w : World} {Q : Exit → Act → World → Prop}
/-- 'make([]api.Clock, n)'. -/
theorem makeCk (l c : Operand) (ho : o.op = .makeSlice 23 l c) (hg : o.guard = none) (n : Nat) (hn : n ≤ 1000000) (hl : a.eval l = .int .i64 n) (hc : a.eval c = .int .i64 n)
    (h : wpList Try.prog ops Q rest (a.put o.dst (.slice (some ⟨w.heap.size, 0, none⟩) n n)) (w.alloc (.cells (ns (n * 6) (fun _ => 0)) 31))) : wpList Try.prog ops Q (o :: rest) a w := by
  obtain ⟨i, hi, hz, hs, hb⟩ := info_parts ck_info
  have hr := run_make (P := Try.prog) w 23 31 i _ Try.underlying23 hi hz .i64 .i64 n n (by omega) (by omega) (by rw [hb]; omega) (by omega)
  rw [hs, Int.toNat_natCast, show (Value.agg (Array.replicate 6 (Value.int .i64 0))).cells = Array.replicate 6 (Value.int .i64 0) from rfl, made_ns _ _ (by omega)] at hr
  refine wpList_plain hg fun _ hK => ?_
  unfold Oper.wp execOp
  simp only [ho, hl, hc, Sem.run_bind, hr, Result.andThen_ok, Sem.run_pure]
  exact hK _ _ h
end
/-- A block of clocks that is being filled. -/
structure CkR (w : World) (n : Nat) (L : List Nat) (wr : World) : Prop where
  box : Box wr w.heap.size (ns (n * 6) (cnt L)) 31
  below : Below w.heap.size w wr
theorem CkR.bel {w : World} {n : Nat} {L : List Nat} {wr w' : World} (h : CkR w n L wr) (hb : Bel wr w') : CkR w n L w' := ⟨hb.box h.box, h.below.trans (hb.out.mono h.below.size)⟩
theorem CkR.up {w : World} {n : Nat} {L : List Nat} {wr : World} (h : CkR w n L wr) {y v : Nat} (hv : cnt L y = v) {u : Int} (hu : u = (v : Int) + 1) : CkR w n (L ++ [y]) (wr.setCell ⟨w.heap.size, y, none⟩ (.int .i64 u)) := by
  obtain rfl : u = ((cnt L y + 1 : Nat) : Int) := by rw [hu, ← hv]; rfl
  exact ⟨by have := h.box.set y (.int .i64 ((cnt L y + 1 : Nat) : Int)); rwa [ns_set, ← cnt_snoc] at this, h.below.setCell (Nat.le_refl _) _⟩
theorem CkR.to {w : World} {n : Nat} {L L' : List Nat} {wr : World} (h : CkR w n L wr) (e : L = L') : CkR w n L' wr := e ▸ h
theorem CkR.done {w : World} {n : Nat} {L : List Nat} {wr : World} {l : List Ev} (h : CkR w n L wr) (hg : ∀ j t, j < n → t < 6 → cnt L (j * 6 + t) = kn l j t) : Cks wr w.heap.size n l := Cks.of h.box hg
theorem cnt_wrap {L : List Nat} {y v : Nat} (h : L.length ≤ 1000000) (hv : cnt L y = v) : IntKind.i64.wrap ((v : Int) + 1) = (v : Int) + 1 := by
  have := cnt_le L y
  exact IntWalk.i64_in _ (by omega)
def StPost (w : World) (l : List Ev) (n : Nat) (e : Ending) (w' : World) : Prop :=
  ∃ B, e = .returned (.tuple #[.slice (some ⟨B, 0, none⟩) n n, .int .i64 0]) ∧ Cks w' B n l ∧ w.heap.size ≤ B ∧ Below w.heap.size w w'
set_option maxHeartbeats 4000000 in
theorem stamps_bad (A : Option Addr) (n c : Nat) (l : List Ev) (w : World) (hl : Sl w A n l) (hm : may l ≠ 0) :
    Calls Try.prog 10 #[.slice A n c] w fun e w' => e = .returned (.tuple #[.slice none 0 0, .int .i64 (may l)]) ∧ Below w.heap.size w w' := by
  have hw0 := Bel.refl w
  have HL := Lib.hid hl
  have h1 : (may l != 0) = true := by simpa using hm
  clear hl
  go_enter Try.func10, Try.ntmps10
  go_wp2_with fail
  refine (before_any A n c l _ HL.out).mono ?_
  rintro e1 w1 ⟨v1, rfl, hown1, hb1⟩
  have hw1 := hw0.call hb1
  clear hb1
  clear hown1
  go_wp2
  go_ret2
  exact ⟨rfl, hw1⟩
set_option maxHeartbeats 8000000 in
theorem stamps_ok (A : Option Addr) (n c : Nat) (l : List Ev) (w : World) (hl : Sl w A n l) (hm : may l = 0) : Calls Try.prog 10 #[.slice A n c] w (StPost w l n) := by
  have hw0 := Bel.refl w
  have HL := Lib.hid hl
  have HM := Lib.hid hm
  have HN := Lib.hid hl.1
  have hn80 : n ≤ 80 := by rw [← hl.1]; exact ((may_iff l).1 hm).1
  have HT := Lib.hid (fun (i : Nat) (hi : i < l.length) => may_tOf hm hi)
  have HP := Lib.hid (prOf_ok (R := bef) hm rfl)
  have HMEM := Lib.hid (fun (p : Nat × Nat) (h : p ∈ prsA (bef l) l.length) => mem_prsA.1 h)
  have hln : (prsA (bef l) l.length).length ≤ 6480 := prs_small ((may_iff l).1 hm).1 (Nat.le_refl _) (Nat.zero_le _)
  have HCA := Lib.hid (fun (j t : Nat) (hj : j < l.length) (ht : t < 6) => count_all (fun i hi => may_tOf hm hi) (l := l) hj ht)
  clear hl hm
  go_enter Try.func10, Try.ntmps10
  go_wp2_with fail
  refine (before_any A n c l _ HL.out).mono ?_
  rintro e1 w1 ⟨v1, rfl, hown1, hb1⟩
  have hw1 := hw0.call hb1
  clear hb1
  rw [HM.out]
  rw [HP.out] at hown1
  generalize hps : prsA (bef l) l.length = ps at *
  obtain ⟨A1, c1, rfl, hs1, hn1, hm1⟩ := SlP.own hown1
  have HS1 := Lib.hid hs1
  have HW1 := Lib.hid hw1
  have H0 := Lib.hid (CkR.mk (Box.new w1 _ _) ((Bel.refl w1).alloc _) : CkR w1 n [] (w1.alloc (.cells (ns (n * 6) (cnt [])) 31)))
  generalize hm' : ps.length = m at *
  clear hs1 hown1 hn1 hm1 hps hw1 hw0
  go_wp2_with (refine makeCk _ _ rfl rfl n (by omega) rfl rfl ?_)
  change Code.wp _ _ _ _ (w1.alloc (.cells (ns (n * 6) (cnt [])) 31))
  generalize hW : w1.alloc (.cells (ns (n * 6) (cnt [])) 31) = w2 at *
  clear hW
  go_loopw [24] (fun t24 wr => ∃ i : Nat, i ≤ n ∧ t24 = .int .i64 i ∧ CkR w1 n (ownK l i) wr) (fun t24 _ => n - (intOf t24).toNat)
  case atStart => exact ⟨0, by omega, rfl, H0.out⟩
  case round =>
    obtain ⟨i, hi, rfl, hr⟩ := hrel
    have HR := Lib.hid hr
    clear hr H0
    by_cases hlt : i < n
    · obtain ⟨bb, off, ⟨ek, et, eo⟩, rfl, hbb, he, hrg⟩ := HL.out.at_ hlt
      have ht0 := HT.out i (by rw [HN.out]; exact hlt)
      have het := isEv_t (wrong_isEv (wrong_at HM.out he))
      obtain ⟨t, rfl⟩ := Int.eq_ofNat_of_zero_le het.1
      have HTO := Lib.hid (show tOf l i = t by rw [tOf_at he]; rfl)
      have ht6 : t < 6 := by rw [HTO.out] at ht0; exact ht0
      have hlt' : (i : Int) < n := by omega
      have ht6' : (t : Int) < 6 := by omega
      have hR := Lib.hid (rangeAt_below (HW1.out.trans (Bel.of HR.out.below)).out hbb hrg)
      obtain ⟨c0, c1, c2⟩ := ewld_cells wr ⟨ek, (t : Int), eo⟩ 37
      have HR2 := Lib.hid (HR.out.bel (ewld_below wr ⟨ek, (t : Int), eo⟩ 37))
      obtain ⟨v, hv⟩ : ∃ v, cnt (ownK l i) (i * 6 + t) = v := ⟨_, rfl⟩
      have d0 : (ewld wr ⟨ek, (t : Int), eo⟩ 37).cell? ⟨w1.heap.size, i * 6 + t, none⟩ = some (.int .i64 v) := by rw [← hv]; exact HR2.out.box.cell _ (ns_get _ (by omega))
      have g0 := HR2.out.box.frozen (i * 6 + t)
      have f1 := cnt_wrap (by rw [own_len]; omega) hv
      have HV := Lib.hid hv
      clear he hrg ht0 het hv
      go_wp2_with (first | (refine load_ev T36 _ rfl rfl rfl hR.out ?_) | (refine ewld_store T36 _ _ rfl rfl _ rfl rfl rfl ?_))
      generalize ewld wr ⟨ek, (t : Int), eo⟩ 37 = w3 at *
      (refine wp_region_still_tail 10 (by kernel_rfl) (by kernel_rfl) ?_; simp only [List.take_succ_cons, List.take_zero, List.drop_succ_cons, List.drop_zero]; (repeat (first | ((with_reducible refine s_skip ?_ ?_); exact rfl; simp only [Act.put, Act.eval, List.setIfInBounds_toArray, List.set_cons_zero, List.set_cons_succ, Array.getD_eq_getD_getElem?, List.getElem?_toArray, List.getElem?_cons_zero, List.getElem?_cons_succ, Option.getD_some]) | ((with_reducible refine wpStill_step ?_); intro K hK; go_simp; (with_reducible refine hK _ ?_); clear hK K))); (with_reducible refine wpStill_nil ?_))
      change wpList _ _ _ _ _ w3.drew
      go_wp2
      go_roundw
      case rel => exact ⟨i + 1, by omega, by go_num, ((HR2.out.bel (Bel.refl _).drew).up HV.out rfl).to (by rw [own_succ, HTO.out])⟩
      case measure => simp [intOf]; omega
    · obtain rfl : i = n := by omega
      have H1 := Lib.hid (HR.out.to (show ownK l i = ownK l l.length ++ oth l (ps.take 0) by rw [HN.out]; simp [oth]))
      have HLO := Lib.hid (own_len l l.length)
      generalize ownK l l.length = K at *
      have hK : K.length ≤ 80 := by rw [HLO.out, HN.out]; omega
      clear HR
      go_wp2
      go_loopw [42] (fun t42 wr => ∃ k : Nat, k ≤ m ∧ t42 = .int .i64 k ∧ CkR w1 i (K ++ oth l (ps.take k)) wr) (fun t42 _ => m - (intOf t42).toNat)
      case atStart => exact ⟨0, by omega, rfl, H1.out⟩
      case round =>
        obtain ⟨k, hk, rfl, hr⟩ := hrel
        have HR := Lib.hid hr
        clear hr H1
        by_cases hlk : k < m
        · have hlk' : (k : Int) < m := by omega
          obtain ⟨pb, poff, p, rfl, hpb, hp, hprg⟩ := HS1.out.at_ hlk
          have hmp := HMEM.out p (List.mem_of_getElem? hp)
          rw [HN.out] at hmp
          obtain ⟨bb, off, ⟨ek, et, eo⟩, rfl, hbb, he, hrg⟩ := HL.out.at_ hmp.1
          have het := isEv_t (wrong_isEv (wrong_at HM.out he))
          obtain ⟨t, rfl⟩ := Int.eq_ofNat_of_zero_le het.1
          have HTO := Lib.hid (show tOf l p.1 = t by rw [tOf_at he]; rfl)
          have ht6 : t < 6 := by have := het.2; dsimp only at this; omega
          have ht6' : (t : Int) < 6 := by omega
          have hp1 : (p.1 : Int) < i := by omega
          have hp2 : (p.2 : Int) < i := by omega
          have hp2n : p.2 < i := hmp.2.1
          have hR := Lib.hid (rangeAt_below HR.out.below hpb hprg)
          have hw1 := Bel.of HR.out.below
          have HBX := Lib.hid (pwld_below wr p 43)
          have HX := Lib.hid (pwld_box wr p 43)
          have HR2 := Lib.hid (HR.out.bel HBX.out)
          have HRG := Lib.hid (rangeAt_below (HW1.out.trans (hw1.trans HBX.out)).out hbb hrg)
          obtain ⟨v, hv⟩ : ∃ v, cnt (K ++ oth l (ps.take k)) (p.2 * 6 + t) = v := ⟨_, rfl⟩
          have f1 := cnt_wrap (by rw [List.length_append, oth_len, List.length_take]; omega) hv
          have HV := Lib.hid hv
          have HPS := Lib.hid (ptake_snoc hp)
          clear he hrg het hv hmp hp hprg hw1
          go_wp2_with (first | (refine load_pr TPr _ rfl rfl rfl hR.out ?_) | (refine pwld_store TPr _ _ rfl rfl _ rfl rfl rfl ?_))
          generalize hw3 : pwld wr p 43 = w3 at *
          have c0 := HX.out.cell 0 (v := .int .i64 p.1) rfl
          have c1 := HX.out.cell 1 (v := .int .i64 p.2) rfl
          have e1 : w3.cell? ⟨bb, off + p.1 * 3 + 1, none⟩ = some (.int .i64 t) := HRG.out 1 _ rfl
          have d0 : w3.cell? ⟨w1.heap.size, p.2 * 6 + t, none⟩ = some (.int .i64 v) := by rw [← HV.out]; exact HR2.out.box.cell _ (ns_get _ (by omega))
          have g0 := HR2.out.box.frozen (p.2 * 6 + t)
          clear hw3
          (refine wp_region_still_tail 15 (by kernel_rfl) (by kernel_rfl) ?_; simp only [List.take_succ_cons, List.take_zero, List.drop_succ_cons, List.drop_zero]; (repeat (first | ((with_reducible refine s_skip ?_ ?_); exact rfl; simp only [Act.put, Act.eval, List.setIfInBounds_toArray, List.set_cons_zero, List.set_cons_succ, Array.getD_eq_getD_getElem?, List.getElem?_toArray, List.getElem?_cons_zero, List.getElem?_cons_succ, Option.getD_some]) | ((with_reducible refine wpStill_step ?_); intro K hK; go_simp; (with_reducible refine hK _ ?_); clear hK K))); (with_reducible refine wpStill_nil ?_))
          change wpList _ _ _ _ _ w3.drew
          go_wp2
          go_roundw
          case rel => exact ⟨k + 1, by omega, by go_num, ((HR2.out.bel (Bel.refl _).drew).up HV.out rfl).to (by rw [HPS.out, oth_snoc, HTO.out, List.append_assoc])⟩
          case measure => simp [intOf]; omega
        · obtain rfl : k = m := by omega
          have HPA := Lib.hid (ptake_all HS1.out)
          have HE := Lib.hid (HR.out.to (show K ++ oth l (ps.take k) = K ++ oth l ps by rw [HPA.out]))
          go_wp2
          go_ret2
          exact ⟨_, rfl, HE.out.done (fun j t hj ht => HCA.out j t (by rw [HN.out]; exact hj) ht), HW1.out.size, HW1.out.trans (Bel.of HE.out.below)⟩
end Go.Proofs.Ytfmkbjgkicipcaa

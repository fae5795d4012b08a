import Derived.Test.YticnponenkfneaaZAppend
import Derived.Test.YticnponenkfneaaZOr
import Derived.Test.YticnponenkfneaaZRr
import Derived.Test.YticnponenkfneaaZFastC
import Derived.Test.YticnponenkfneaaZFull10
import Derived.Test.YticnponenkfneaaZEqInt
import Derived.ChangeSlices
import Derived.Test.YticnponenkfneaaZOpen
set_option linter.all false
set_option maxRecDepth 100000
namespace Go.Proofs.Yticnponenkfneaa
open Go Go.RowKit

theorem TFl : RowTy Try.prog 49 3 := ⟨_, Try.underlying49, rfl, by kernel_rfl⟩
theorem ev_all_take {l : List Ev} {A : Option Addr} {w : World} {n : Nat} (h : Sl w A n l) : l.take n = l := by rw [← h.1, List.take_length]
theorem neq_fl (a b : Ev) (w : World) : (binOp .neq 49 (.agg (evv a)) (.agg (evv b))).run Try.prog w = .ok (.bool (!decide (a = b))) w := by
  rw [ev_dec]
  unfold evv
  by_cases h1 : a.k = b.k <;> by_cases h2 : a.t = b.t <;> by_cases h3 : a.o = b.o <;> simp [go_sem, h1, h2, h3]
theorem grd_fl : Try.prog.eqGuardType Try.prog.depth 49 = false := by kernel_rfl
set_option maxHeartbeats 4000000 in
theorem eqfl_any (A B : Option Addr) (n c m d : Nat) (l k : List Ev) (w : World) (hl : Sl w A n l) (hk : Sl w B m k) (hnc : n ≤ c) (hmd : m ≤ d) (hc : c ≤ maxLen) (hd : d ≤ maxLen) :
    Calls Try.prog 26 #[.slice A n c, .slice B m d] w fun e w' => e = .returned (.bool (decide (l = k))) ∧ Below w.heap.size w w' := by
  unfold maxLen at hc hd
  have hw0 := Lib.hid (Below.refl w.heap.size w)
  by_cases hnm : n = m
  · subst hnm
    have HL := Lib.hid hl
    have HK := Lib.hid hk
    have hne : ((n : Int) != (n : Int)) = false := by simp
    clear hl hk
    go_enter Try.func26, Try.ntmps26
    go_wp2
    go_loopw [14] (fun t wr => ∃ i : Nat, i ≤ n ∧ t = .int .i64 i ∧ l.take i = k.take i ∧ Below w.heap.size w wr) (fun t _ => n - (intOf t).toNat)
    case atStart => exact ⟨0, by omega, rfl, rfl, hw0.out⟩
    case round =>
      obtain ⟨i, hi, rfl, htk, hbr⟩ := hrel
      have HB := Lib.hid hbr
      have HT := Lib.hid htk
      clear hbr htk
      by_cases hlt : i < n
      · have hlt' : (i : Int) < n := by omega
        obtain ⟨bb, off, e, rfl, hbb, he, hrg⟩ := HL.out.at_ hlt
        obtain ⟨bc, off', f, rfl, hbc, hf, hrg'⟩ := HK.out.at_ hlt
        have hR := Lib.hid (rangeAt_below HB.out hbb hrg)
        have HE := Lib.hid he
        have HF := Lib.hid hf
        have HEB := Lib.hid (show Bel wr _ from ewld_below wr e 49)
        have HEX := Lib.hid (ewld_box wr e 49)
        have HB2 := Lib.hid ((Bel.of (w := w) (w' := wr) HB.out).trans HEB.out)
        have HR2 := Lib.hid (rangeAt_below HB2.out.out hbc hrg')
        have HBC := Lib.hid (Nat.lt_of_lt_of_le hbc HB2.out.size)
        clear he hf hrg hrg' hbb hbc
        have HX0 := HEX.out
        have F := fun (w' : World) (h : Bel (ewld wr e 49) w') => rangeAt_below h.out HBC.out HR2.out
        have HF2 := Lib.hid F
        clear F
        have NE := neq_fl e f
        have G := grd_fl
        cases hq : decide (e = f)
        · rw [hq] at NE
          have HV := Lib.hid (show decide (l = k) = false by
            rw [decide_eq_false_iff_not]; intro hh; subst hh
            have := HE.out; rw [HF.out] at this; cases this; simp at hq)
          go_wp2_with (first | (refine load_ev TFl _ rfl rfl rfl hR.out ?_) | (refine ewld_store TFl _ _ rfl rfl _ rfl rfl rfl ?_))
          (refine region_bel (by kernel_rfl) (by kernel_rfl) ?_; (repeat (first | ((with_reducible refine BigFrame.wpQuiet_skip ?_ ?_); exact rfl; simp only [Act.put, Act.eval, List.setIfInBounds_toArray, List.set_cons_zero, List.set_cons_succ, Array.getD_eq_getD_getElem?, List.getElem?_toArray, List.getElem?_cons_zero, List.getElem?_cons_succ, Option.getD_some]) | (refine q_move _ rfl rfl ?_; simp only [Act.put, Act.eval, List.setIfInBounds_toArray, List.set_cons_zero, List.set_cons_succ, Array.getD_eq_getD_getElem?, List.getElem?_toArray, List.getElem?_cons_zero, List.getElem?_cons_succ, Option.getD_some]) | (refine q_assign _ rfl rfl ?_; simp only [Act.put, Act.eval, List.setIfInBounds_toArray, List.set_cons_zero, List.set_cons_succ, Array.getD_eq_getD_getElem?, List.getElem?_toArray, List.getElem?_cons_zero, List.getElem?_cons_succ, Option.getD_some]) | (refine q_load _ _ rfl rfl rfl HX0 TFl ?_; simp only [Act.put, Act.eval, List.setIfInBounds_toArray, List.set_cons_zero, List.set_cons_succ, Array.getD_eq_getD_getElem?, List.getElem?_toArray, List.getElem?_cons_zero, List.getElem?_cons_succ, Option.getD_some]) | (refine q_load_mid _ _ rfl rfl rfl HF2.out TFl (evv f) rfl ?_; simp only [Act.put, Act.eval, List.setIfInBounds_toArray, List.set_cons_zero, List.set_cons_succ, Array.getD_eq_getD_getElem?, List.getElem?_toArray, List.getElem?_cons_zero, List.getElem?_cons_succ, Option.getD_some]) | (refine q_any rfl ?_; apply Exists.intro; refine ⟨fun w hw => ?_, ?_⟩; (go_simp; first | exact ⟨rfl, rfl⟩ | rfl); simp only [Act.put, Act.eval, List.setIfInBounds_toArray, List.set_cons_zero, List.set_cons_succ, Array.getD_eq_getD_getElem?, List.getElem?_toArray, List.getElem?_cons_zero, List.getElem?_cons_succ, Option.getD_some]))); refine wpQuiet_nil ?_; intro w2 hw2)
          go_wp2
          go_ret
          exact ⟨by rw [HV.out]; rfl, HB2.out.trans hw2⟩
        · rw [hq] at NE
          have HEQ := Lib.hid (of_decide_eq_true hq)
          go_wp2_with (first | (refine load_ev TFl _ rfl rfl rfl hR.out ?_) | (refine ewld_store TFl _ _ rfl rfl _ rfl rfl rfl ?_))
          (refine region_bel (by kernel_rfl) (by kernel_rfl) ?_; (repeat (first | ((with_reducible refine BigFrame.wpQuiet_skip ?_ ?_); exact rfl; simp only [Act.put, Act.eval, List.setIfInBounds_toArray, List.set_cons_zero, List.set_cons_succ, Array.getD_eq_getD_getElem?, List.getElem?_toArray, List.getElem?_cons_zero, List.getElem?_cons_succ, Option.getD_some]) | (refine q_move _ rfl rfl ?_; simp only [Act.put, Act.eval, List.setIfInBounds_toArray, List.set_cons_zero, List.set_cons_succ, Array.getD_eq_getD_getElem?, List.getElem?_toArray, List.getElem?_cons_zero, List.getElem?_cons_succ, Option.getD_some]) | (refine q_assign _ rfl rfl ?_; simp only [Act.put, Act.eval, List.setIfInBounds_toArray, List.set_cons_zero, List.set_cons_succ, Array.getD_eq_getD_getElem?, List.getElem?_toArray, List.getElem?_cons_zero, List.getElem?_cons_succ, Option.getD_some]) | (refine q_load _ _ rfl rfl rfl HX0 TFl ?_; simp only [Act.put, Act.eval, List.setIfInBounds_toArray, List.set_cons_zero, List.set_cons_succ, Array.getD_eq_getD_getElem?, List.getElem?_toArray, List.getElem?_cons_zero, List.getElem?_cons_succ, Option.getD_some]) | (refine q_load_mid _ _ rfl rfl rfl HF2.out TFl (evv f) rfl ?_; simp only [Act.put, Act.eval, List.setIfInBounds_toArray, List.set_cons_zero, List.set_cons_succ, Array.getD_eq_getD_getElem?, List.getElem?_toArray, List.getElem?_cons_zero, List.getElem?_cons_succ, Option.getD_some]) | (refine q_any rfl ?_; apply Exists.intro; refine ⟨fun w hw => ?_, ?_⟩; (go_simp; first | exact ⟨rfl, rfl⟩ | rfl); simp only [Act.put, Act.eval, List.setIfInBounds_toArray, List.set_cons_zero, List.set_cons_succ, Array.getD_eq_getD_getElem?, List.getElem?_toArray, List.getElem?_cons_zero, List.getElem?_cons_succ, Option.getD_some]))); refine wpQuiet_nil ?_; intro w2 hw2)
          have HW2 := Lib.hid hw2
          clear hw2
          go_wp2
          go_roundw
          case rel => exact ⟨i + 1, by omega, by go_num, by rw [take_snoc' HE.out, take_snoc' HF.out, HT.out, HEQ.out], HB2.out.trans HW2.out⟩
          case measure => simp [intOf]; omega
      · obtain rfl : i = n := by omega
        have HV := Lib.hid (show decide (l = k) = true by
          rw [decide_eq_true_iff]
          have h := HT.out
          rw [ev_all_take HL.out, ev_all_take HK.out] at h; exact h)
        go_wp2
        go_ret
        exact ⟨by rw [HV.out]; rfl, HB.out⟩
  · have hne : ((n : Int) != (m : Int)) = true := by rw [bne_iff_ne]; omega
    have HV := Lib.hid (show decide (l = k) = false by
      rw [decide_eq_false_iff_not]; intro hh; apply hnm; rw [← hl.1, ← hk.1, hh])
    clear hl hk
    go_enter Try.func26, Try.ntmps26
    go_wp2
    go_ret
    exact ⟨by rw [HV.out]; rfl, hw0.out⟩
end Go.Proofs.Yticnponenkfneaa
namespace Go.Proofs.Yticnponenkfneaa
open Go Go.RowKit

end Go.Proofs.Yticnponenkfneaa
set_option linter.all false
set_option maxRecDepth 100000
namespace Go.Proofs.Yticnponenkfneaa
open Go Go.RowKit

theorem top_two1 : fflags twoL = [⟨2, 0, 1⟩] := by decide +kernel
theorem top_two2 : flags twoL = [⟨2, 0, 1⟩] := by decide +kernel
theorem top_may : may twoL = 0 := by decide +kernel
set_option maxHeartbeats 4000000 in
theorem works_any (w : World) : Calls Try.prog 9 #[] w fun e w' => e = .returned (.bool true) ∧ Below w.heap.size w w' := by
  have HM := Lib.hid top_may
  have HP := Lib.hid top_two1
  have HQ := Lib.hid top_two2
  have HS := Lib.hid (show Sl (w.alloc (.cells (evc twoL).toArray 67)) (some ⟨w.heap.size, 0, none⟩) 3 twoL from Sl.box (Box.new w (evc twoL).toArray 67) 3 rfl)
  have HW0 := Lib.hid ((Bel.refl w).alloc (.cells (evc twoL).toArray 67))
  go_enter Try.func9, Try.ntmps9
  go_wp2_with fail
  change Calls _ _ _ (w.alloc (.cells (evc twoL).toArray 67)) _
  generalize (w.alloc (.cells (evc twoL).toArray 67)) = w0 at *
  refine (frun_any (some ⟨w.heap.size, 0, none⟩) 3 3 twoL _ HS.out).mono ?_
  rintro e1 w1 ⟨v1, rfl, hown1, hb1⟩
  rw [HM.out]
  rw [HP.out] at hown1
  obtain ⟨A1, c1, rfl, hs1, hn1, hm1⟩ := Sl.own hown1
  have HB1 := Lib.hid (Bel.of hb1)
  have HS1 := Lib.hid hs1
  have HN1 := Lib.hid (And.intro hn1 hm1)
  clear hown1 hs1 hn1 hm1 hb1
  go_wp2_with fail
  refine (run_any (some ⟨w.heap.size, 0, none⟩) 3 3 twoL _ (HS.out.bel HB1.out)).mono ?_
  rintro e2 w2 ⟨v2, rfl, hown2, hb2⟩
  rw [HM.out]
  rw [HQ.out] at hown2
  obtain ⟨A2, c2, rfl, hs2, hn2, hm2⟩ := Sl.own hown2
  have HB2 := Lib.hid (HB1.out.trans (Bel.of hb2))
  have HS12 := Lib.hid (HS1.out.bel (Bel.of hb2))
  have HS2 := Lib.hid hs2
  have HN2 := Lib.hid (And.intro hn2 hm2)
  clear hown2 hs2 hn2 hm2 hb2
  obtain ⟨b, off, e, rfl, hb, he, hr⟩ := HS12.out.at_ (i := 0) (by simp)
  have hev : e = ⟨2, 0, 1⟩ := by simpa using he.symm
  subst hev
  go_wp2_with fail
  refine (eqfl_any _ A2 1 c1 1 c2 _ _ _ HS12.out HS2.out HN1.out.1 HN2.out.1 HN1.out.2 HN2.out.2).mono ?_
  rintro e3 w3 ⟨rfl, hb3⟩
  rw [decide_eq_true rfl]
  have HB3 := Lib.hid (HB2.out.call hb3)
  have hc : w3.cell? ⟨b, off, none⟩ = some (.int .i64 2) := (Bel.of hb3).cell (by have := hr 0 (.int .i64 2) rfl; simpa using this)
  clear hb3 he hr hb
  go_wp2
  go_ret
  exact ⟨rfl, (HW0.out.trans HB3.out).out⟩
end Go.Proofs.Yticnponenkfneaa
set_option linter.all false
set_option maxRecDepth 100000
namespace Go.Proofs.Yticnponenkfneaa
open Go.ChangeShapes Go.WideShapes Go.ChangeAt Go.RowKit

section
variable {H : Type} {enc : TypeId × Value → H} {P : Program} {w : World} {base : Nat} {spare : Nat → Bool} {held : Bool}
theorem open_ints_arg {r : Reach} {b0 : Nat} {t e : TypeId} {v : Value} {d : DataW H} {ps : List MemPlace} (ht : P.underlying t = some (.slice e)) (he : P.underlying e = some (.int .i64)) (hC : P.cellsOf e = 1)
    (hval : Value.okWide P w r b0 t v) (hd : DataW.Trod enc P w base spare held t v d ps) :
    ∃ A n c l, v = .slice A n c ∧ SI w A n l ∧ n ≤ c ∧ c ≤ maxLen ∧ (∀ x ∈ l, In64 x) := by
  obtain ⟨a, len, cap, rfl⟩ := okWide_slice ht hval
  obtain ⟨fuel, hf⟩ := hd
  rcases open_ints ht he hC hf with ⟨hcs, _⟩ | ⟨a', len', cap', zs, hcs, _, hl, hm, hz, _, hc, hw⟩
  · simp [Value.cells] at hcs
    obtain ⟨rfl, rfl, rfl⟩ := hcs
    exact ⟨none, 0, 0, [], rfl, ⟨rfl, fun h => absurd h (by omega)⟩, by omega, by omega, fun _ h => by cases h⟩
  · simp [Value.cells] at hcs
    obtain ⟨rfl, rfl, rfl⟩ := hcs
    have hzl : len ≤ zs.length := by rw [hz]; split <;> omega
    refine ⟨some a', len, cap, zs.take len, rfl, ⟨by rw [List.length_take]; omega, fun h0 => ?_⟩, hl, hm, fun x hx => in64_of (hw x (List.mem_of_mem_take hx))⟩
    obtain ⟨b, off, spot⟩ := a'
    have hs : spot = none := by
      have := World.cell?_spot (hc 0 (by omega))
      simpa [Addr.add] using this
    subst hs
    refine ⟨b, off, rfl, fun i hi => ?_⟩
    have h1 := hc i (by omega)
    have hadd : (⟨b, off, none⟩ : Addr).add i = ⟨b, off + i, none⟩ := by unfold Addr.add; split <;> simp_all
    rw [hadd] at h1
    rw [h1, List.getElem?_take, if_pos hi, List.getD_eq_getElem?_getD]
end
end Go.Proofs.Yticnponenkfneaa

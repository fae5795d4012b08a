/- 'deadheatkeep.TextLine' returns true for every input and leaves its arguments as they are: the row's own list of tables is tied to the program's text; nothing else is asked. -/
import Derived.Test.YticejlepalhmhaaDoorOpenTr
import Derived.Test.YticejlepalhmhaaDoorDoor
import Derived.Test.YticejlepalhmhaaDoorKeepTx
import Derived.Test.YticejlepalhmhaaDoorEqEv
set_option linter.all false
set_option maxRecDepth 100000
namespace Go.Proofs.YticejlepalhmhaaDoor.LTextLine
open Go Go.ChangeShapes Go.WideShapes Go.ChangeAt Go.RowKit

theorem lerr_no {e : Ev} (h : isEv e = false) : lineOf e = [] ∧ lineErr e = 1 := by simp [lineOf, lineErr, h]
theorem lerr_yes {e : Ev} (h : isEv e = true) : lineOf e = lineL e ∧ lineErr e = 0 := by simp [lineOf, lineErr, h]
set_option maxHeartbeats 4000000 in
theorem walk (W : World) (a : Ev) (ka : EvOk a) (b : Ev) (kb : EvOk b) :
    Calls Tryd.prog 7 #[.agg (evv a), .agg (evv b)] W fun r w' => r = .returned (.bool true) ∧ Below W.heap.size W w' := by
  obtain ⟨b1, b2, hB, hz⟩ := boxes2 W (evv a) (evv b) 23 23
  generalize hW : (W.alloc (.cells (evv a) 23)).alloc (.cells (evv b) 23) = W0 at *
  have HX := Lib.hid b1
  have HY := Lib.hid b2
  have HT := Lib.hid (fun (w1 : World) (h : Bel W0 w1) => hB.trans (h.out.mono (by omega)))
  have hw0 := Bel.refl W0
  clear hB hz b1 b2 ka kb
  cases h1 : isEv a
  · have HA := Lib.hid (lerr_no h1)
    go_enter Tryd.func7, Tryd.ntmps7
    go_wp2_with fail
    refine (texted_any _).mono ?_
    rintro e1 w1 ⟨rfl, hb1⟩
    have hw1 := hw0.call hb1
    clear hb1
    have HX1 := Lib.hid (hw1.box HX.out)
    go_wp2_with (refine loadB _ _ rfl rfl rfl HX1.out T36 ?_)
    refine (pline_any a _).mono ?_
    rintro e2 w2 ⟨rfl, hb2⟩
    rw [HA.out.1, HA.out.2]
    have hw2 := hw1.call hb2
    have HY2 := Lib.hid (hw2.box HY.out)
    clear hb2
    go_wp2_with (refine loadB _ _ rfl rfl rfl HY2.out T36 ?_)
    refine (pline_any b _).mono ?_
    rintro e3 w3 ⟨rfl, hb3⟩
    have hw3 := hw2.call hb3
    clear hb3
    have he : (str []).toList.isEmpty = true := str_isEmpty []
    have HW := Lib.hid hw3
    clear hw0 hw1 hw2 hw3
    go_wp2
    all_goals (go_ret; exact ⟨rfl, HT.out _ HW.out⟩)
  · cases h2 : isEv b
    · have HA := Lib.hid (lerr_yes h1)
      have HB := Lib.hid (lerr_no h2)
      go_enter Tryd.func7, Tryd.ntmps7
      go_wp2_with fail
      refine (texted_any _).mono ?_
      rintro e1 w1 ⟨rfl, hb1⟩
      have hw1 := hw0.call hb1
      clear hb1
      have HX1 := Lib.hid (hw1.box HX.out)
      go_wp2_with (refine loadB _ _ rfl rfl rfl HX1.out T36 ?_)
      refine (pline_any a _).mono ?_
      rintro e2 w2 ⟨rfl, hb2⟩
      rw [HA.out.1, HA.out.2]
      have hw2 := hw1.call hb2
      have HY2 := Lib.hid (hw2.box HY.out)
      clear hb2
      go_wp2_with (refine loadB _ _ rfl rfl rfl HY2.out T36 ?_)
      refine (pline_any b _).mono ?_
      rintro e3 w3 ⟨rfl, hb3⟩
      rw [HB.out.1, HB.out.2]
      have hw3 := hw2.call hb3
      clear hb3
      have he : (str []).toList.isEmpty = true := str_isEmpty []
      have HW := Lib.hid hw3
      clear hw0 hw1 hw2 hw3
      go_wp2
      go_ret
      exact ⟨rfl, HT.out _ HW.out⟩
    · have HA := Lib.hid (lerr_yes h1)
      have HB := Lib.hid (lerr_yes h2)
      have HEV := Lib.hid (evOf_line h1)
      have hlen : (lineL a).length ≤ maxLen := by have := line_len a; unfold maxLen; omega
      have HL := Lib.hid hlen
      have hse : ((str (lineL a)).toList == (str (lineL b)).toList) = decide (a = b) := by
        rw [str_beq, Bool.eq_iff_iff, decide_eq_true_iff, decide_eq_true_iff]
        exact ⟨fun h => line_inj h1 h2 h, fun h => by rw [h]⟩
      have HSE := Lib.hid hse
      clear hlen hse
      go_enter Tryd.func7, Tryd.ntmps7
      go_wp2_with fail
      refine (texted_any _).mono ?_
      rintro e1 w1 ⟨rfl, hb1⟩
      have hw1 := hw0.call hb1
      clear hb1
      have HX1 := Lib.hid (hw1.box HX.out)
      go_wp2_with (refine loadB _ _ rfl rfl rfl HX1.out T36 ?_)
      refine (pline_any a _).mono ?_
      rintro e2 w2 ⟨rfl, hb2⟩
      rw [HA.out.1, HA.out.2]
      have hw2 := hw1.call hb2
      have HY2 := Lib.hid (hw2.box HY.out)
      clear hb2
      go_wp2_with (refine loadB _ _ rfl rfl rfl HY2.out T36 ?_)
      refine (pline_any b _).mono ?_
      rintro e3 w3 ⟨rfl, hb3⟩
      rw [HB.out.1, HB.out.2]
      have hw3 := hw2.call hb3
      clear hb3
      go_wp2_with fail
      refine (pevent_any (lineL a) HL.out _).mono ?_
      rintro e4 w4 ⟨rfl, hb4⟩
      rw [HEV.out]
      have hw4 := hw3.call hb4
      have HB5 := Lib.hid (show Bel w4 _ from ewld_below w4 a 23)
      have HX5 := Lib.hid (ewld_box w4 a 23)
      have HX6 := Lib.hid (HB5.out.box (hw4.box HX.out))
      have HY6 := Lib.hid (HB5.out.box (hw4.box HY.out))
      have HW := Lib.hid (hw4.trans HB5.out)
      clear hb4 hw0 hw1 hw2 hw3 hw4
      have NE := eql_ev a b
      have NA := eql_ev a a
      rw [decide_eq_true rfl] at NA
      have G := grd_ev
      have hse := HSE.out
      cases hd : decide (a = b)
      all_goals
        rw [hd] at NE hse
        go_wp2_with (first | (refine load_ev T36 _ rfl rfl rfl hR.out ?_) | (refine ewld_store T36 _ _ rfl rfl _ rfl rfl rfl ?_) | (refine loadG _ _ rfl rfl rfl HX6.out T36 ?_) | (refine loadG _ _ rfl rfl rfl HX5.out T36 ?_) | (refine loadG _ _ rfl rfl rfl HY6.out T36 ?_))
        go_ret
        exact ⟨rfl, HT.out _ HW.out⟩

set_option maxRecDepth 100000 in
theorem contract (H : Type) (enc : TypeId × Value → H) (W : World) (base : Nat) (args : Array Value) (ds gs : List (DataW H)) (before : List MemPlace)
    (hval0 : ∀ (j : Nat) t v, Tryd.f7.params[j]? = some t → args[j]? = some v → Value.okWide Tryd.prog W .any base t v)
    (hW : DataW.Whole enc Tryd.prog Tryd.f7.params.toList Rows.textLineSpec.vars false W args.toList ds gs before)
    (hsz0 : (DataW.weightsEach Tryd.prog (Tryd.f7.params.toList ++ Rows.textLineSpec.plain.varTypes Tryd.prog) (ds ++ gs)).all (· ≤ reachBytes) = true) (hsh : W.ShapedOpen Tryd.prog) :
    Calls Tryd.prog 7 args W fun e W' => ∃ v, e = .returned v ∧ Rows.textLineSpec.post enc Tryd.prog Tryd.f7 false true false false W args v W' := by
  have hsz := hsz0
  clear hsz0
  have hval := hval0
  have hW' := hW
  obtain ⟨p, q, hA0, hV, rfl, hfz, hnd⟩ := hW
  have hA : DataW.TrodAll enc Tryd.prog W 0 (fun _ => true) true Tryd.f7.params.toList args.toList ds p := hA0
  rw [Tryd.params7] at hA hval hsz
  obtain ⟨v0, vs0, d0, ds0, p0, q0, hargs, rfl, rfl, h0, r0⟩ := trodAll_cons hA
  obtain ⟨v1, vs1, d1, ds1, p1, q1, rfl, rfl, rfl, h1, r1⟩ := trodAll_cons r0
  obtain ⟨rfl, rfl, rfl⟩ := trodAll_nil r1
  obtain rfl : args = #[v0, v1] := by cases args; simp_all
  obtain ⟨rfl, rfl⟩ := trodVars_none hV
  have t0 := h0
  have lt0 : ∀ x ∈ p0, x.block < W.heap.size := by obtain ⟨m, hm⟩ := t0; exact DataW.trod_lt m _ _ _ hm
  have t1 := h1
  have lt1 : ∀ x ∈ p1, x.block < W.heap.size := by obtain ⟨m, hm⟩ := t1; exact DataW.trod_lt m _ _ _ hm
  obtain ⟨a0, rfl, k0⟩ := open_ev Tryd.underlying23 ⟨rfl, rfl, rfl⟩ (by kernel_rfl) (by kernel_rfl) Tryd.underlying3 (hval 0 23 v0 rfl rfl) h0
  obtain ⟨a1, rfl, k1⟩ := open_ev Tryd.underlying23 ⟨rfl, rfl, rfl⟩ (by kernel_rfl) (by kernel_rfl) Tryd.underlying3 (hval 1 23 v1 rfl rfl) h1
  clear hA0 hval0
  refine (walk W a0 k0 a1 k1).mono fun e W' ⟨he, bel⟩ => ?_
  subst he
  exact ⟨_, rfl, _, _, _, [], _, [], hW', trodAll_mk1 (shut_bool Tryd.underlying4 _), (trodAll_cons_mk (Below.trod laidOut (by kernel_rfl) (of_decide_eq_true (by kernel_rfl)) t0 bel lt0) (trodAll_cons_mk (Below.trod laidOut (by kernel_rfl) (of_decide_eq_true (by kernel_rfl)) t1 bel lt1) trodAll_mk0)), rfl, bel.frame _, fun h => by cases h⟩

theorem laid_met (os : Os) : laidMet Tryd.prog Rows.textLineRow.laid ((doorW os).forCall (fun _ _ => 0) ⟨#[], #[.agg #[.int .i64 0, .int .i64 0, .int .i64 0], .agg #[.int .i64 0, .int .i64 0, .int .i64 0]], []⟩).memory :=
  laidMet_of_run' 8 (by kernel_rfl) (by kernel_rfl)
theorem reads (os : Os) {H : Type} (enc : TypeId × Value → H) : ∃ places, DataW.whole enc Tryd.prog ((doorW os).forCall (fun _ _ => 0) ⟨#[], #[.agg #[.int .i64 0, .int .i64 0, .int .i64 0], .agg #[.int .i64 0, .int .i64 0, .int .i64 0]], []⟩).memory Tryd.f7.params.toList Rows.textLineSpec.vars false (#[.agg #[.int .i64 0, .int .i64 0, .int .i64 0], .agg #[.int .i64 0, .int .i64 0, .int .i64 0]] : Array Value).toList 8 = some ([.agg [.lit (.int .i64 0), .lit (.int .i64 0), .lit (.int .i64 0)], .agg [.lit (.int .i64 0), .lit (.int .i64 0), .lit (.int .i64 0)]], [], places) :=
  ⟨[], by kernel_rfl⟩
set_option maxRecDepth 100000 in
theorem lifted (os : Os) (started : os.Started) (H : Type) (enc : TypeId × Value → H) (F : Stop.Interp) :
    ReturnsInHanded {} Tryd.checked os 7 .any ((OpenSpec.ofChange Rows.textLineSpec).preRow enc Tryd.prog Tryd.f7 Rows.textLineRow.domain false Rows.textLineRow.laid) (((OpenSpec.ofChange Rows.textLineSpec).at F).post enc Tryd.prog Tryd.f7 false true false false) := by
  obtain ⟨places, hx⟩ := reads os enc
  refine returnsInHanded_of_row (C := Tryd.checked) (s := OpenSpec.ofChange Rows.textLineSpec) own started (by kernel_rfl) Tryd.func7
    (witness_row_at (enc := enc) (C := Tryd.checked) false (doorW os) #[.agg #[.int .i64 0, .int .i64 0, .int .i64 0], .agg #[.int .i64 0, .int .i64 0, .int .i64 0]] rfl (by kernel_rfl) (by kernel_rfl) (by kernel_rfl)
      (OpenSpec.preRow_of_cond 8 hx (by kernel_rfl) (fun k hk => by cases hk) (by kernel_rfl) (laid_met os))) ?_
  intro W base args ds gs before hval hW _ hcond hsz _ hsh _
  exact contract H enc W base args ds gs before hval hW hsz hsh

theorem said : Rows.TextLineSaid :=
  OpenClaim.holds_of_cond 7 Tryd.f7 rfl rfl rfl rfl rfl rfl rfl ⟨rfl, rfl, rfl, rfl, rfl⟩ rfl rfl rfl rfl rfl (by kernel_rfl) Tryd.func7 (by kernel_rfl)
    (of_decide_eq_true (by kernel_rfl)) (by unfold Func.isWrapper; first | (rw [if_pos (by decide +kernel)]; kernel_rfl) | (rw [if_neg (by decide +kernel)]; exact ⟨rfl, rfl⟩))
    (fun os started H enc _ F => by rw [OpenClaim.pre_eq_preRow]; exact lifted os started H enc F)
theorem plain (f : FuncId) (fn : Func) (hf : Tryd.pinned.checked.prog.funcNamed "deadheat/deadheatkeep.TextLine" = some f) (hfn : Tryd.pinned.checked.prog.funcs[f]? = some fn) :
    false = Tryd.pinned.checked.prog.looks [] ∧ ∀ (j : Nat) t, fn.params[j]? = some t → Tryd.pinned.checked.prog.wantsStandIn t = false := by
  obtain rfl : f = 7 := Option.some.inj ((show Tryd.prog.funcNamed "deadheat/deadheatkeep.TextLine" = some 7 by kernel_rfl).symm.trans hf) |>.symm
  obtain rfl : fn = Tryd.f7 := (Option.some.inj (Tryd.func7.symm.trans hfn)).symm
  refine ⟨by kernel_rfl, fun j t ht => ?_⟩
  rw [Tryd.params7] at ht
  have hm := Array.mem_of_getElem? ht
  have hall : (Tryd.f7.params.toList.all fun u => !Tryd.prog.wantsStandIn u) = true := by kernel_rfl
  rw [Tryd.params7] at hall
  exact (show Tryd.prog.wantsStandIn t = false by simpa using List.all_eq_true.1 hall t (by simpa using hm))
theorem proved : Rows.TextLineCardSaid :=
  Claim7.holds_tied_plain_at .later [] _ _ _ _ said (fun _ h => by cases h) (by kernel_rfl) (fun _ h => by cases h) textLine_row_tie rfl ⟨rfl, rfl⟩ (by kernel_rfl) rfl plain (by kernel_rfl)
#print axioms proved
end Go.Proofs.YticejlepalhmhaaDoor.LTextLine

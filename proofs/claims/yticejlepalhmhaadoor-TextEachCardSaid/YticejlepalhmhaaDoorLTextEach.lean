/- 'deadheatkeep.TextEach' returns true for every input and leaves its arguments as they are: the row's own list of tables is tied to the program's text; nothing else is asked. -/
import Derived.Test.YticejlepalhmhaaDoorOpenTr
import Derived.Test.YticejlepalhmhaaDoorDoor
import Derived.Test.YticejlepalhmhaaDoorKeepTx
import Derived.Test.YticejlepalhmhaaDoorText4
import Derived.Test.YticejlepalhmhaaDoorEqEv
import Derived.Test.YticejlepalhmhaaDoorLineTx
set_option linter.all false
set_option maxRecDepth 100000
namespace Go.Proofs.YticejlepalhmhaaDoor.LTextEach
open Go Go.ChangeShapes Go.WideShapes Go.ChangeAt Go.RowKit

set_option maxHeartbeats 4000000 in
theorem walk (W : World) (A : Option Addr) (n c : Nat) (l : List Ev) (sl : Sl W A n l) (hnc : n ≤ c) (x : c ≤ maxLen) (g : ∀ e ∈ l, EvOk e) (m : Int) (hm : W.cell? ⟨0, 0, none⟩ = some (.int .i64 m)) :
    Calls Tryd.prog 9 #[.slice A n c] W fun e w' => e = .returned (.bool true) ∧ Below W.heap.size W w' := by
  have hw0 : Bel W W := Bel.refl _
  have HL := Lib.hid sl
  have HMM := Lib.hid hm
  unfold maxLen at x
  clear sl hm g
  cases h1 : (may l != 0)
  · have h0 : may l = 0 := by simpa using h1
    have HM0 := Lib.hid h0
    have HT := Lib.hid (show textOf l = textL l by rw [textOf, if_pos h0])
    have hlen := text_len l
    have h80 := ((may_iff l).1 h0).1
    have HTL := Lib.hid (show (textL l).length < 4294967281 by omega)
    have HEv := Lib.hid (may_ev h0)
    have HN := Lib.hid HL.out.1
    have hn80 : n ≤ 80 := by have := HL.out.1; omega
    by_cases hn : n = 0
    · have hl0 : l = [] := List.eq_nil_of_length_eq_zero (by rw [HN.out, hn])
      have HE := Lib.hid (show textL l = [] by rw [hl0]; rfl)
      have he := str_isEmpty []
      have he2 : (str []).toList.isEmpty = true := he
      subst hn
      clear h0 h1 hlen h80 hl0 he
      go_enter Tryd.func9, Tryd.ntmps9
      go_wp2_with fail
      refine (texted_any _).mono ?_
      rintro e1 w1 ⟨rfl, hb1⟩
      have hw1 := hw0.call hb1
      clear hb1
      go_wp2_with fail
      refine (ptext_any A 0 c l _ (HL.out.bel hw1.out) hnc (by omega)).mono ?_
      rintro e2 w2 ⟨rfl, hb2⟩
      rw [HT.out, HM0.out, HE.out]
      have hw2 := hw1.call hb2
      clear hb2
      go_wp2
      go_ret
      exact ⟨rfl, hw2⟩
    · have hne : ((n : Int) == 0) = false := by simp; omega
      have HLT := Lib.hid (lines_text h0 (by rw [HN.out]; omega))
      have hn0 : 0 < n := by omega
      clear h0 h1 hlen h80 hn
      go_enter Tryd.func9, Tryd.ntmps9
      go_wp2_with fail
      refine (texted_any _).mono ?_
      rintro e1 w1 ⟨rfl, hb1⟩
      have hw1 := hw0.call hb1
      clear hb1
      go_wp2_with fail
      refine (ptext_any A n c l _ (HL.out.bel hw1.out) hnc (by omega)).mono ?_
      rintro e2 w2 ⟨rfl, hb2⟩
      rw [HT.out, HM0.out]
      have hw2 := hw1.call hb2
      have HM2 := Lib.hid (hw2.cell HMM.out)
      clear hb2
      go_wp2_with fail
      refine (split_any (textL l) HTL.out m _ HM2.out).mono ?_
      rintro e3 w3 ⟨A3, c3, rfl, hs3, hc3, hb3⟩
      rw [HLT.out] at hs3 ⊢
      rw [List.length_map, HN.out]
      have hw3 := hw2.call hb3
      have HS3 := Lib.hid hs3
      have HW3 := Lib.hid hw3
      have hnn : ((n : Int) != n) = false := by simp
      clear hb3 hs3 hw0 hw1 hw2 hw3
      rw [HLT.out, List.length_map, HN.out] at hc3
      go_wp2
      go_loopw [35] (fun t wr => ∃ i : Nat, i ≤ n ∧ t = .int .i64 i ∧ Bel w3 wr) (fun t _ => n - (intOf t).toNat)
      case atStart => exact ⟨0, by omega, rfl, Bel.refl _⟩
      case round =>
        obtain ⟨i, hi, rfl, hb⟩ := hrel
        have HB := Lib.hid hb
        clear hb
        by_cases hlt : i < n
        · have hlt' : (i : Int) < n := by omega
          obtain ⟨bb, off, e, rfl, hbb, he, hrg⟩ := (HL.out.bel (HW3.out.trans HB.out).out).at_ hlt
          have hR := Lib.hid hrg
          obtain ⟨b3, rfl, hb3, hcells⟩ := HS3.out (by rw [List.length_map, HN.out]; omega)
          have hcx := hcells i (lineL e) (by rw [List.getElem?_map, he]; rfl)
          rw [Nat.zero_add] at hcx
          have HCX := Lib.hid hcx
          have HE := Lib.hid he
          have HV2 := Lib.hid (HEv.out e (List.mem_of_getElem? he))
          have HLo := Lib.hid (show lineOf e = lineL e ∧ lineErr e = 0 by simp [lineOf, lineErr, HV2.out])
          have HEB := Lib.hid (show Bel wr _ from ewld_below wr e 23)
          have HEX := Lib.hid (ewld_box wr e 23)
          clear he hrg hbb hcells hb3 hcx
          go_wp2_with (first | (refine load_ev T36 _ rfl rfl rfl hR.out ?_) | (refine ewld_store T36 _ _ rfl rfl _ rfl rfl rfl ?_) | (refine loadB _ _ rfl rfl rfl HEX.out T36 ?_))
          refine (pline_any e _).mono ?_
          rintro e5 w5 ⟨rfl, hb5⟩
          rw [HLo.out.1, HLo.out.2]
          have HB5 := Lib.hid ((HB.out.trans HEB.out).call hb5)
          have hc5 := HB5.out.cell HCX.out
          clear hb5
          go_wp2
          go_roundw
          case rel => exact ⟨i + 1, by omega, by go_num, HB5.out⟩
          case measure => simp [intOf]; omega
        · obtain rfl : i = n := by omega
          go_wp2
          go_ret
          exact ⟨rfl, HW3.out.trans HB.out⟩
  · have HT := Lib.hid (show textOf l = [] by rw [textOf, if_neg (by simpa using h1)])
    have he := str_isEmpty []
    have he2 : (str []).toList.isEmpty = true := he
    clear he
    go_enter Tryd.func9, Tryd.ntmps9
    go_wp2_with fail
    refine (texted_any _).mono ?_
    rintro e1 w1 ⟨rfl, hb1⟩
    have hw1 := hw0.call hb1
    clear hb1
    go_wp2_with fail
    refine (ptext_any A n c l _ (HL.out.bel hw1.out) hnc (by omega)).mono ?_
    rintro e2 w2 ⟨rfl, hb2⟩
    rw [HT.out]
    have hw2 := hw1.call hb2
    clear hb2
    go_wp2
    go_ret
    exact ⟨rfl, hw2⟩

set_option maxRecDepth 100000 in
theorem contract (H : Type) (enc : TypeId × Value → H) (W : World) (base : Nat) (args : Array Value) (ds gs : List (DataW H)) (before : List MemPlace)
    (hval0 : ∀ (j : Nat) t v, Tryd.f9.params[j]? = some t → args[j]? = some v → Value.okWide Tryd.prog W .any base t v)
    (hW : DataW.Whole enc Tryd.prog Tryd.f9.params.toList Rows.textEachSpec.vars false W args.toList ds gs before)
    (hsz0 : (DataW.weightsEach Tryd.prog (Tryd.f9.params.toList ++ Rows.textEachSpec.plain.varTypes Tryd.prog) (ds ++ gs)).all (· ≤ reachBytes) = true) (hsh : W.ShapedOpen Tryd.prog) :
    Calls Tryd.prog 9 args W fun e W' => ∃ v, e = .returned v ∧ Rows.textEachSpec.post enc Tryd.prog Tryd.f9 false true false false W args v W' := by
  have hsz := hsz0
  clear hsz0
  have hval := hval0
  have hW' := hW
  obtain ⟨p, q, hA0, hV, rfl, hfz, hnd⟩ := hW
  have hA : DataW.TrodAll enc Tryd.prog W 0 (fun _ => true) true Tryd.f9.params.toList args.toList ds p := hA0
  rw [Tryd.params9] at hA hval hsz
  obtain ⟨v0, vs0, d0, ds0, p0, q0, hargs, rfl, rfl, h0, r0⟩ := trodAll_cons hA
  obtain ⟨rfl, rfl, rfl⟩ := trodAll_nil r0
  obtain rfl : args = #[v0] := by cases args; simp_all
  obtain ⟨rfl, rfl⟩ := trodVars_none hV
  have t0 := h0
  have lt0 : ∀ x ∈ p0, x.block < W.heap.size := by obtain ⟨m, hm⟩ := t0; exact DataW.trod_lt m _ _ _ hm
  obtain ⟨A0, n0, c0, l0, rfl, s0, m0, x0, g0, z0⟩ := open_evs Tryd.underlying30 Tryd.underlying23 ⟨rfl, rfl, rfl⟩ (by kernel_rfl) (by kernel_rfl) Tryd.underlying3 (hval 0 30 v0 rfl rfl) h0
  have y0 := reach_sl hsz (j := 0) rfl rfl Tryd.underlying30 (b := 24) (by kernel_rfl) z0
  clear hA0 hval0
  obtain ⟨mm, hmm⟩ := Tryd.laysM219.s1_3 W hsh
  refine (walk W A0 n0 c0 l0 s0 m0 x0 g0 mm hmm).mono fun e W' ⟨he, bel⟩ => ?_
  subst he
  exact ⟨_, rfl, _, _, _, [], _, [], hW', trodAll_mk1 (shut_bool Tryd.underlying4 _), (trodAll_cons_mk (Below.trod laidOut (by kernel_rfl) (of_decide_eq_true (by kernel_rfl)) t0 bel lt0) trodAll_mk0), rfl, bel.frame _, fun h => by cases h⟩

theorem laid_met (os : Os) : laidMet Tryd.prog Rows.textEachRow.laid ((doorW os).forCall (fun _ _ => 0) ⟨#[], #[.slice none 0 0], []⟩).memory :=
  laidMet_of_run' 8 (by kernel_rfl) (by kernel_rfl)
theorem reads (os : Os) {H : Type} (enc : TypeId × Value → H) : ∃ places, DataW.whole enc Tryd.prog ((doorW os).forCall (fun _ _ => 0) ⟨#[], #[.slice none 0 0], []⟩).memory Tryd.f9.params.toList Rows.textEachSpec.vars false (#[.slice none 0 0] : Array Value).toList 8 = some ([.nil], [], places) :=
  ⟨[], by kernel_rfl⟩
set_option maxRecDepth 100000 in
theorem lifted (os : Os) (started : os.Started) (H : Type) (enc : TypeId × Value → H) (F : Stop.Interp) :
    ReturnsInHanded {} Tryd.checked os 9 .any ((OpenSpec.ofChange Rows.textEachSpec).preRow enc Tryd.prog Tryd.f9 Rows.textEachRow.domain false Rows.textEachRow.laid) (((OpenSpec.ofChange Rows.textEachSpec).at F).post enc Tryd.prog Tryd.f9 false true false false) := by
  obtain ⟨places, hx⟩ := reads os enc
  refine returnsInHanded_of_row (C := Tryd.checked) (s := OpenSpec.ofChange Rows.textEachSpec) own started (by kernel_rfl) Tryd.func9
    (witness_row_at (enc := enc) (C := Tryd.checked) false (doorW os) #[.slice none 0 0] rfl (by kernel_rfl) (by kernel_rfl) (by kernel_rfl)
      (OpenSpec.preRow_of_cond 8 hx (by kernel_rfl) (fun k hk => by cases hk) (by kernel_rfl) (laid_met os))) ?_
  intro W base args ds gs before hval hW _ hcond hsz _ hsh _
  exact contract H enc W base args ds gs before hval hW hsz hsh

theorem said : Rows.TextEachSaid :=
  OpenClaim.holds_of_cond 9 Tryd.f9 rfl rfl rfl rfl rfl rfl rfl ⟨rfl, rfl, rfl, rfl, rfl⟩ rfl rfl rfl rfl rfl (by kernel_rfl) Tryd.func9 (by kernel_rfl)
    (of_decide_eq_true (by kernel_rfl)) (by unfold Func.isWrapper; first | (rw [if_pos (by decide +kernel)]; kernel_rfl) | (rw [if_neg (by decide +kernel)]; exact ⟨rfl, rfl⟩))
    (fun os started H enc _ F => by rw [OpenClaim.pre_eq_preRow]; exact lifted os started H enc F)
theorem plain (f : FuncId) (fn : Func) (hf : Tryd.pinned.checked.prog.funcNamed "deadheat/deadheatkeep.TextEach" = some f) (hfn : Tryd.pinned.checked.prog.funcs[f]? = some fn) :
    false = Tryd.pinned.checked.prog.looks [] ∧ ∀ (j : Nat) t, fn.params[j]? = some t → Tryd.pinned.checked.prog.wantsStandIn t = false := by
  obtain rfl : f = 9 := Option.some.inj ((show Tryd.prog.funcNamed "deadheat/deadheatkeep.TextEach" = some 9 by kernel_rfl).symm.trans hf) |>.symm
  obtain rfl : fn = Tryd.f9 := (Option.some.inj (Tryd.func9.symm.trans hfn)).symm
  refine ⟨by kernel_rfl, fun j t ht => ?_⟩
  rw [Tryd.params9] at ht
  have hm := Array.mem_of_getElem? ht
  have hall : (Tryd.f9.params.toList.all fun u => !Tryd.prog.wantsStandIn u) = true := by kernel_rfl
  rw [Tryd.params9] at hall
  exact (show Tryd.prog.wantsStandIn t = false by simpa using List.all_eq_true.1 hall t (by simpa using hm))
theorem proved : Rows.TextEachCardSaid :=
  Claim7.holds_tied_plain_at .later [] _ _ _ _ said (fun _ h => by cases h) (by kernel_rfl) (fun _ h => by cases h) textEach_row_tie rfl ⟨rfl, rfl⟩ (by kernel_rfl) rfl plain (by kernel_rfl)
#print axioms proved
end Go.Proofs.YticejlepalhmhaaDoor.LTextEach

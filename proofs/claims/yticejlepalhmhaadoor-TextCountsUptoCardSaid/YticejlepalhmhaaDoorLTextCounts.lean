/- 'deadheatkeep.TextCounts' returns true, and leaves its arguments as they are, for every input of at most 1048576 values and letters: the row's own list of tables is tied to the program's text. -/
import Derived.Test.YticejlepalhmhaaDoorOpenTr
import Derived.Test.YticejlepalhmhaaDoorDoor
import Derived.Test.YticejlepalhmhaaDoorKeepTx
import Derived.Test.YticejlepalhmhaaDoorLineTx
set_option linter.all false
set_option maxRecDepth 100000
namespace Go.Proofs.YticejlepalhmhaaDoor.LTextCounts
open Go Go.ChangeShapes Go.WideShapes Go.ChangeAt Go.RowKit

theorem wrong_ne3 (l : List Ev) (e : Ev) : wrong l e ≠ 3 := by
  unfold wrong; repeat' split
  all_goals omega
theorem may_ne3 (l : List Ev) : may l ≠ 3 := by
  intro h
  unfold may at h
  obtain ⟨_, i, e, _, h2, _⟩ := check_bad (l := l) (by omega) (by omega)
  rw [h2] at h
  exact wrong_ne3 _ _ h
theorem read_cases (s : List UInt8) : ((readL s).2.2 = 3 ∧ ∃ (i : Nat) (x : List UInt8), (linesL s)[i]? = some x ∧ readL s = ([], (i : Int) + 1, 3) ∧ (evOf x).2 = 3 ∧ x.length ≤ s.length) ∨ ((readL s).2.2 ≠ 3 ∧ (readL s).2.1 = 0) := by
  by_cases hl : 2000 < s.length
  · rw [readL_long hl]; right; exact ⟨by simp, rfl⟩
  · by_cases hok : (linesT s).all okLine = true
    · right
      rw [readL_end hl hok]
      split
      · exact ⟨by simp, rfl⟩
      · exact ⟨may_ne3 _, rfl⟩
    · left
      cases hf : (linesT s).findIdx? (fun l => !okLine l) with
      | none =>
        rw [List.findIdx?_eq_none_iff] at hf
        exact absurd (List.all_eq_true.2 fun x hx => by have := hf x hx; simpa using this) hok
      | some i =>
        have hr : readL s = ([], (i : Int) + 1, 3) := by unfold readL; rw [if_neg hl, hf]
        rw [List.findIdx?_eq_some_iff_getElem] at hf
        obtain ⟨hi, hb, _⟩ := hf
        have hx : (linesT s)[i]? = some (linesT s)[i] := List.getElem?_eq_getElem hi
        have hT : linesT s = linesL s := by
          unfold linesT; split
          · rename_i h0; rw [h0] at hi; simp [linesT] at hi
          · rfl
        refine ⟨by rw [hr], i, (linesT s)[i], by rw [← hT]; exact hx, hr, okLine_err (by simpa using hb), ?_⟩
        exact linesL_part s _ (by rw [← hT]; exact List.mem_of_getElem? hx)
theorem count_any (l : List Ev) (n : Nat) (h : may l = 0) (hn : l.length = n) (h0 : 0 < n) (w : World) : Calls Tryd.prog 22 #[.string (str (textL l)), .string ⟨#[10]⟩] w fun e w' => e = .returned (.int .i64 ((n : Int) - 1)) ∧ w = w' := by
  refine (Tryd.strings_Count_one (str (textL l)) 10 w).mono fun e w' ⟨he, hw⟩ => ⟨?_, hw.symm⟩
  have h1 := count_lines (textL l)
  rw [lines_text h (by omega), List.length_map, hn] at h1
  have h2 : Lib.countB (str (textL l)) ⟨#[10]⟩ = Lib.countByte (str (textL l)).data.toList 10 := Lib.count_one 10 _
  rw [he, ← h2]
  congr 2
  omega
set_option maxHeartbeats 4000000 in
theorem walk (W : World) (A : Option Addr) (n c : Nat) (l : List Ev) (sl : Sl W A n l) (hnc : n ≤ c) (x : c ≤ maxLen) (g : ∀ e ∈ l, EvOk e) (s : List UInt8) (hs : s.length ≤ maxLen) (m : Int) (hm : W.cell? ⟨0, 0, none⟩ = some (.int .i64 m)) (hk : s.length ≤ 2000000) :
    Calls Tryd.prog 8 #[.slice A n c, .string (str s)] W fun e w' => e = .returned (.bool true) ∧ Below W.heap.size W w' := by
  have hw0 : Bel W W := Bel.refl _
  have HL := Lib.hid sl
  have HSL := Lib.hid hs
  have HK := Lib.hid (show s.length < 4294967281 by omega)
  have HK2 := Lib.hid hk
  have HMM := Lib.hid hm
  have hrc := read_cases s
  have HRC := Lib.hid hrc
  unfold maxLen at x
  clear sl hs hm g hk hrc
  have hcase : (may l ≠ 0) ∨ (may l = 0 ∧ n = 0) ∨ (may l = 0 ∧ 0 < n) := by omega
  rcases hcase with h0 | ⟨h0, hn⟩ | ⟨h0, hn⟩
  · have hq : (may l == 0) = false := by simpa using h0
    clear h0
    go_enter Tryd.func8, Tryd.ntmps8
    go_wp2_with fail
    refine (texted_any _).mono ?_
    rintro e1 w1 ⟨rfl, hb1⟩
    have hw1 := hw0.call hb1
    clear hb1
    go_wp2_with fail
    refine (ptext_any A n c l _ (HL.out.bel hw1.out) hnc (by omega)).mono ?_
    rintro e2 w2 ⟨rfl, hb2⟩
    have hw2 := hw1.call hb2
    clear hb2
    have HM2 := Lib.hid (hw2.cell HMM.out)
    go_wp2_with fail
    refine (pread_any s HSL.out m _ HM2.out).mono ?_
    rintro e7 w7 ⟨v7, rfl, hown7, hb7⟩
    have hw7 := hw2.call hb7
    have HM7 := Lib.hid (hw7.cell HMM.out)
    clear hown7 hb7
    go_wp2_with fail
    refine (split_any s HK.out m _ HM7.out).mono ?_
    rintro e8 w8 ⟨A8, c8, rfl, hs8, hc8, hb8⟩
    have hw8 := hw7.call hb8
    have HS8 := Lib.hid hs8
    have HW8 := Lib.hid hw8
    clear hb8 hs8 hw0 hw1 hw2 hw7 hw8
    rcases HRC.out with ⟨h3, i, y, hy, hr, hev, hyl⟩ | ⟨h3, hr⟩
    · have hi : i < (linesL s).length := (List.getElem?_eq_some_iff.1 hy).1
      obtain ⟨b8, rfl, hb8, hcells⟩ := HS8.out (by omega)
      have hcx := hcells i y hy
      rw [Nat.zero_add] at hcx
      have HYL := Lib.hid (show y.length ≤ maxLen from Nat.le_trans hyl HSL.out)
      have HEV := Lib.hid hev
      have hi1 : ¬ ((i : Int) + 1 < 1) := by omega
      have hi2 : ((linesL s).length : Int) ≤ 2000001 := by have := linesL_len s; have := HK2.out; omega
      have hi3 : ¬ (((linesL s).length : Int) < (i : Int) + 1) := by omega
      have hi4 : (i : Int) < (linesL s).length := by omega
      rw [hr]
      generalize hlen : (linesL s).length = len at *
      clear hlen hcells hb8 hy hr hev hyl h3
      go_wp2_with fail
      refine (pevent_any y HYL.out _).mono ?_
      rintro e9 w9 ⟨rfl, hb9⟩
      rw [HEV.out]
      have hw9 := HW8.out.call hb9
      have HB9 := Lib.hid (show Bel w9 _ from ewld_below w9 (evOf y).1 23)
      clear hb9
      go_wp2_with (first | (refine load_ev T36 _ rfl rfl rfl hR.out ?_) | (refine ewld_store T36 _ _ rfl rfl _ rfl rfl rfl ?_))
      go_ret
      exact ⟨rfl, hw9.trans HB9.out⟩
    · have h3' : ((readL s).2.2 == 3) = false := by simpa using h3
      rw [hr]
      clear h3 hr
      go_wp2
      go_ret
      exact ⟨rfl, HW8.out⟩
  · have HZ := Lib.hid h0
    subst hn
    clear h0
    go_enter Tryd.func8, Tryd.ntmps8
    go_wp2_with fail
    refine (texted_any _).mono ?_
    rintro e1 w1 ⟨rfl, hb1⟩
    have hw1 := hw0.call hb1
    clear hb1
    go_wp2_with fail
    refine (ptext_any A 0 c l _ (HL.out.bel hw1.out) hnc (by omega)).mono ?_
    rintro e2 w2 ⟨rfl, hb2⟩
    rw [HZ.out]
    have hw2 := hw1.call hb2
    clear hb2
    have HM2 := Lib.hid (hw2.cell HMM.out)
    go_wp2_with fail
    refine (pread_any s HSL.out m _ HM2.out).mono ?_
    rintro e7 w7 ⟨v7, rfl, hown7, hb7⟩
    have hw7 := hw2.call hb7
    have HM7 := Lib.hid (hw7.cell HMM.out)
    clear hown7 hb7
    go_wp2_with fail
    refine (split_any s HK.out m _ HM7.out).mono ?_
    rintro e8 w8 ⟨A8, c8, rfl, hs8, hc8, hb8⟩
    have hw8 := hw7.call hb8
    have HS8 := Lib.hid hs8
    have HW8 := Lib.hid hw8
    clear hb8 hs8 hw0 hw1 hw2 hw7 hw8
    rcases HRC.out with ⟨h3, i, y, hy, hr, hev, hyl⟩ | ⟨h3, hr⟩
    · have hi : i < (linesL s).length := (List.getElem?_eq_some_iff.1 hy).1
      obtain ⟨b8, rfl, hb8, hcells⟩ := HS8.out (by omega)
      have hcx := hcells i y hy
      rw [Nat.zero_add] at hcx
      have HYL := Lib.hid (show y.length ≤ maxLen from Nat.le_trans hyl HSL.out)
      have HEV := Lib.hid hev
      have hi1 : ¬ ((i : Int) + 1 < 1) := by omega
      have hi2 : ((linesL s).length : Int) ≤ 2000001 := by have := linesL_len s; have := HK2.out; omega
      have hi3 : ¬ (((linesL s).length : Int) < (i : Int) + 1) := by omega
      have hi4 : (i : Int) < (linesL s).length := by omega
      rw [hr]
      generalize hlen : (linesL s).length = len at *
      clear hlen hcells hb8 hy hr hev hyl h3
      go_wp2_with fail
      refine (pevent_any y HYL.out _).mono ?_
      rintro e9 w9 ⟨rfl, hb9⟩
      rw [HEV.out]
      have hw9 := HW8.out.call hb9
      have HB9 := Lib.hid (show Bel w9 _ from ewld_below w9 (evOf y).1 23)
      clear hb9
      go_wp2_with (first | (refine load_ev T36 _ rfl rfl rfl hR.out ?_) | (refine ewld_store T36 _ _ rfl rfl _ rfl rfl rfl ?_))
      go_ret
      exact ⟨rfl, hw9.trans HB9.out⟩
    · have h3' : ((readL s).2.2 == 3) = false := by simpa using h3
      rw [hr]
      clear h3 hr
      go_wp2
      go_ret
      exact ⟨rfl, HW8.out⟩
  · have HZ := Lib.hid h0
    have HT := Lib.hid (show textOf l = textL l by rw [textOf, if_pos h0])
    have HC := Lib.hid (fun w => count_any l n HZ.out HL.out.1 hn w)
    have hn0 : (0 : Int) < n := by omega
    have hn9 : (n : Int) ≤ 80 := by have := ((may_iff l).1 h0).1; have := HL.out.1; omega
    clear h0
    go_enter Tryd.func8, Tryd.ntmps8
    go_wp2_with fail
    refine (texted_any _).mono ?_
    rintro e1 w1 ⟨rfl, hb1⟩
    have hw1 := hw0.call hb1
    clear hb1
    go_wp2_with fail
    refine (ptext_any A n c l _ (HL.out.bel hw1.out) hnc (by omega)).mono ?_
    rintro e2 w2 ⟨rfl, hb2⟩
    rw [HZ.out, HT.out]
    have hw2 := hw1.call hb2
    clear hb2
    have HM2 := Lib.hid (hw2.cell HMM.out)
    go_wp2_with (first | (go_at_call 22; (with_reducible refine (HC.out _).mono ?_); rintro _ _ ⟨rfl, rfl⟩))
    refine (pread_any s HSL.out m _ HM2.out).mono ?_
    rintro e7 w7 ⟨v7, rfl, hown7, hb7⟩
    have hw7 := hw2.call hb7
    have HM7 := Lib.hid (hw7.cell HMM.out)
    clear hown7 hb7
    go_wp2_with fail
    refine (split_any s HK.out m _ HM7.out).mono ?_
    rintro e8 w8 ⟨A8, c8, rfl, hs8, hc8, hb8⟩
    have hw8 := hw7.call hb8
    have HS8 := Lib.hid hs8
    have HW8 := Lib.hid hw8
    clear hb8 hs8 hw0 hw1 hw2 hw7 hw8
    rcases HRC.out with ⟨h3, i, y, hy, hr, hev, hyl⟩ | ⟨h3, hr⟩
    · have hi : i < (linesL s).length := (List.getElem?_eq_some_iff.1 hy).1
      obtain ⟨b8, rfl, hb8, hcells⟩ := HS8.out (by omega)
      have hcx := hcells i y hy
      rw [Nat.zero_add] at hcx
      have HYL := Lib.hid (show y.length ≤ maxLen from Nat.le_trans hyl HSL.out)
      have HEV := Lib.hid hev
      have hi1 : ¬ ((i : Int) + 1 < 1) := by omega
      have hi2 : ((linesL s).length : Int) ≤ 2000001 := by have := linesL_len s; have := HK2.out; omega
      have hi3 : ¬ (((linesL s).length : Int) < (i : Int) + 1) := by omega
      have hi4 : (i : Int) < (linesL s).length := by omega
      rw [hr]
      generalize hlen : (linesL s).length = len at *
      clear hlen hcells hb8 hy hr hev hyl h3
      go_wp2_with fail
      refine (pevent_any y HYL.out _).mono ?_
      rintro e9 w9 ⟨rfl, hb9⟩
      rw [HEV.out]
      have hw9 := HW8.out.call hb9
      have HB9 := Lib.hid (show Bel w9 _ from ewld_below w9 (evOf y).1 23)
      clear hb9
      go_wp2_with (first | (refine load_ev T36 _ rfl rfl rfl hR.out ?_) | (refine ewld_store T36 _ _ rfl rfl _ rfl rfl rfl ?_))
      go_ret
      exact ⟨rfl, hw9.trans HB9.out⟩
    · have h3' : ((readL s).2.2 == 3) = false := by simpa using h3
      rw [hr]
      clear h3 hr
      go_wp2
      go_ret
      exact ⟨rfl, HW8.out⟩
set_option maxRecDepth 100000 in
theorem contract (H : Type) (enc : TypeId × Value → H) (W : World) (base : Nat) (args : Array Value) (ds gs : List (DataW H)) (before : List MemPlace)
    (hval0 : ∀ (j : Nat) t v, Tryd.f8.params[j]? = some t → args[j]? = some v → Value.okWide Tryd.prog W .any base t v)
    (hW : DataW.Whole enc Tryd.prog Tryd.f8.params.toList Rows.textCountsSpec.vars false W args.toList ds gs before)
    (hsz0 : (DataW.weightsEach Tryd.prog (Tryd.f8.params.toList ++ Rows.textCountsSpec.plain.varTypes Tryd.prog) (ds ++ gs)).all (· ≤ reachBytes) = true) (hsh : W.ShapedOpen Tryd.prog)
    (hk : Rows.uptoSmall H (ds ++ gs) = true) :
    Calls Tryd.prog 8 args W fun e W' => ∃ v, e = .returned v ∧ Rows.textCountsSpec.post enc Tryd.prog Tryd.f8 false true false false W args v W' := by
  have hsz := hsz0
  clear hsz0
  have hval := hval0
  have hW' := hW
  obtain ⟨p, q, hA0, hV, rfl, hfz, hnd⟩ := hW
  have hA : DataW.TrodAll enc Tryd.prog W 0 (fun _ => true) true Tryd.f8.params.toList args.toList ds p := hA0
  rw [Tryd.params8] at hA hval hsz
  obtain ⟨v0, vs0, d0, ds0, p0, q0, hargs, rfl, rfl, h0, r0⟩ := trodAll_cons hA
  obtain ⟨v1, vs1, d1, ds1, p1, q1, rfl, rfl, rfl, h1, r1⟩ := trodAll_cons r0
  obtain ⟨rfl, rfl, rfl⟩ := trodAll_nil r1
  obtain rfl : args = #[v0, v1] := by cases args; simp_all
  obtain ⟨rfl, rfl⟩ := trodVars_none hV
  have t0 := h0
  have lt0 : ∀ x ∈ p0, x.block < W.heap.size := by obtain ⟨m, hm⟩ := t0; exact DataW.trod_lt m _ _ _ hm
  have t1 := h1
  have lt1 : ∀ x ∈ p1, x.block < W.heap.size := by obtain ⟨m, hm⟩ := t1; exact DataW.trod_lt m _ _ _ hm
  obtain ⟨A0, n0, c0, l0, rfl, s0, m0, x0, g0, z0⟩ := open_evs Tryd.underlying30 Tryd.underlying23 ⟨rfl, rfl, rfl⟩ (by kernel_rfl) (by kernel_rfl) Tryd.underlying3 (hval 0 30 v0 rfl rfl) h0
  have y0 := reach_sl hsz (j := 0) rfl rfl Tryd.underlying30 (b := 24) (by kernel_rfl) z0
  obtain ⟨l1, rfl, e1, x1⟩ := open_str Tryd.underlying9 (hval 1 9 v1 rfl rfl) h1
  clear hA0 hval0
  obtain ⟨mm, hmm⟩ := Tryd.laysM219.s1_3 W hsh
  have hk := of_decide_eq_true hk
  simp only [Rows.uptoBulkAll, Rows.uptoBulk, e1, List.cons_append, List.nil_append, List.append_nil] at hk
  refine (walk W A0 n0 c0 l0 s0 m0 x0 g0 l1 x1 mm hmm (by omega)).mono fun e W' ⟨he, bel⟩ => ?_
  subst he
  exact ⟨_, rfl, _, _, _, [], _, [], hW', trodAll_mk1 (shut_bool Tryd.underlying4 _), (trodAll_cons_mk (Below.trod laidOut (by kernel_rfl) (of_decide_eq_true (by kernel_rfl)) t0 bel lt0) (trodAll_cons_mk (Below.trod laidOut (by kernel_rfl) (of_decide_eq_true (by kernel_rfl)) t1 bel lt1) trodAll_mk0)), rfl, bel.frame _, fun h => by cases h⟩

theorem laid_met (os : Os) : laidMet Tryd.prog Rows.textCountsRow.laid ((doorW os).forCall (fun _ _ => 0) ⟨#[], #[.slice none 0 0, .string ⟨#[]⟩], []⟩).memory :=
  laidMet_of_run' 8 (by kernel_rfl) (by kernel_rfl)
theorem reads (os : Os) {H : Type} (enc : TypeId × Value → H) : ∃ places, DataW.whole enc Tryd.prog ((doorW os).forCall (fun _ _ => 0) ⟨#[], #[.slice none 0 0, .string ⟨#[]⟩], []⟩).memory Tryd.f8.params.toList Rows.textCountsSpec.vars false (#[.slice none 0 0, .string ⟨#[]⟩] : Array Value).toList 8 = some ([.nil, .lit (.string [])], [], places) :=
  ⟨[], by kernel_rfl⟩
set_option maxRecDepth 100000 in
theorem lifted (os : Os) (started : os.Started) (H : Type) (enc : TypeId × Value → H) (F : Stop.Interp) :
    ReturnsInHanded {} Tryd.checked os 8 .any ((Rows.OpenSpec.upto Rows.textCountsSpec).preRow enc Tryd.prog Tryd.f8 Rows.textCountsUptoRow.domain false Rows.textCountsUptoRow.laid) (((Rows.OpenSpec.upto Rows.textCountsSpec).at F).post enc Tryd.prog Tryd.f8 false true false false) := by
  obtain ⟨places, hx⟩ := reads os enc
  refine returnsInHanded_of_row (C := Tryd.checked) (s := Rows.OpenSpec.upto Rows.textCountsSpec) own started (by kernel_rfl) Tryd.func8
    (witness_row_at (enc := enc) (C := Tryd.checked) false (doorW os) #[.slice none 0 0, .string ⟨#[]⟩] rfl (by kernel_rfl) (by kernel_rfl) (by kernel_rfl)
      (OpenSpec.preRow_of_cond 8 hx (by kernel_rfl) (fun k hk => by cases hk; kernel_rfl) (by kernel_rfl) (laid_met os))) ?_
  intro W base args ds gs before hval hW _ hcond hsz _ hsh _
  exact contract H enc W base args ds gs before hval hW hsz hsh (hcond _ rfl)

theorem said : Rows.TextCountsUptoSaid :=
  OpenClaim.holds_of_cond 8 Tryd.f8 rfl rfl rfl rfl rfl rfl rfl ⟨rfl, rfl, rfl, rfl, rfl⟩ rfl rfl rfl rfl rfl (by kernel_rfl) Tryd.func8 (by kernel_rfl)
    (of_decide_eq_true (by kernel_rfl)) (by unfold Func.isWrapper; first | (rw [if_pos (by decide +kernel)]; kernel_rfl) | (rw [if_neg (by decide +kernel)]; exact ⟨rfl, rfl⟩))
    (fun os started H enc _ F => by rw [OpenClaim.pre_eq_preRow]; exact lifted os started H enc F)
theorem plain (f : FuncId) (fn : Func) (hf : Tryd.pinned.checked.prog.funcNamed "deadheat/deadheatkeep.TextCounts" = some f) (hfn : Tryd.pinned.checked.prog.funcs[f]? = some fn) :
    false = Tryd.pinned.checked.prog.looks [] ∧ ∀ (j : Nat) t, fn.params[j]? = some t → Tryd.pinned.checked.prog.wantsStandIn t = false := by
  obtain rfl : f = 8 := Option.some.inj ((show Tryd.prog.funcNamed "deadheat/deadheatkeep.TextCounts" = some 8 by kernel_rfl).symm.trans hf) |>.symm
  obtain rfl : fn = Tryd.f8 := (Option.some.inj (Tryd.func8.symm.trans hfn)).symm
  refine ⟨by kernel_rfl, fun j t ht => ?_⟩
  rw [Tryd.params8] at ht
  have hm := Array.mem_of_getElem? ht
  have hall : (Tryd.f8.params.toList.all fun u => !Tryd.prog.wantsStandIn u) = true := by kernel_rfl
  rw [Tryd.params8] at hall
  exact (show Tryd.prog.wantsStandIn t = false by simpa using List.all_eq_true.1 hall t (by simpa using hm))
theorem proved : Rows.TextCountsUptoCardSaid :=
  Claim7.holds_tied_plain_at .later [] _ _ _ _ said (fun _ h => by cases h) (by kernel_rfl) (fun _ h => by cases h) textCountsUpto_row_tie rfl ⟨rfl, rfl⟩ (by kernel_rfl) rfl plain (by kernel_rfl)
#print axioms proved
end Go.Proofs.YticejlepalhmhaaDoor.LTextCounts

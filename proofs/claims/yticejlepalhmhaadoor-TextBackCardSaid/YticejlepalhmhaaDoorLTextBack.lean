/- 'deadheatkeep.TextBack' returns true for every input and leaves its arguments as they are: the row's own list of tables is tied to the program's text; nothing else is asked. -/
import Derived.Test.YticejlepalhmhaaDoorOpenTr
import Derived.Test.YticejlepalhmhaaDoorDoor
import Derived.Test.YticejlepalhmhaaDoorKeepTx
import Derived.Test.YticejlepalhmhaaDoorText5
import Derived.Test.YticejlepalhmhaaDoorEqEv
set_option linter.all false
set_option maxRecDepth 100000
namespace Go.Proofs.YticejlepalhmhaaDoor.LTextBack
open Go Go.ChangeShapes Go.WideShapes Go.ChangeAt Go.RowKit

/-! A printed trace is read unchanged; a text that is read is printed unchanged. -/
theorem lines_line (e : List UInt8) (h : (10 : UInt8) ∉ e) : linesL e = [e] := by
  rw [linesL_cut]
  have : cutF 10 e = false := by unfold cutF; rw [Bool.eq_false_iff]; intro hc; exact h (by simpa using hc)
  rw [this]; rfl
theorem lines_app (e r : List UInt8) (h : (10 : UInt8) ∉ e) : linesL (e ++ 10 :: r) = e :: linesL r := by
  induction e with
  | nil => simp [linesL]
  | cons c e ih =>
    have hc : c ≠ 10 := fun hh => h (by rw [hh]; exact List.mem_cons_self ..)
    rw [List.cons_append, linesL, if_neg hc, ih (fun hh => h (List.mem_cons_of_mem _ hh))]
theorem lineL_ne (e : Ev) : lineL e ≠ [] := by simp [lineL]
theorem linesT_text : ∀ l : List Ev, (∀ e ∈ l, isEv e = true) → linesT (textL l) = l.map lineL
  | [], _ => rfl
  | [e], h => by
    show linesT (lineL e) = _
    rw [linesT, if_neg (lineL_ne e), lines_line _ (line_lf (h e (List.mem_cons_self ..)))]; rfl
  | e :: f :: l, h => by
    have ih := linesT_text (f :: l) (fun x hx => h x (List.mem_cons_of_mem _ hx))
    have hne : textL (f :: l) ≠ [] := by
      cases l with
      | nil => exact lineL_ne f
      | cons g l => simp [textL, lineL]
    rw [linesT, if_neg hne] at ih
    rw [textL, linesT, if_neg (by simp [lineL]), lines_app _ _ (line_lf (h e (List.mem_cons_self ..))), ih]; rfl
theorem may_ev {l : List Ev} (h : may l = 0) : ∀ e ∈ l, isEv e = true := fun e he => by
  obtain ⟨i, hi⟩ := List.getElem?_of_mem he
  exact wrong_isEv (((may_iff l).1 h).2 i e hi)
theorem evs_lines {l : List Ev} (h : ∀ e ∈ l, isEv e = true) : evsOf (l.map lineL) = l := by
  unfold evsOf
  rw [List.map_map]
  conv => rhs; rw [← List.map_id l]
  exact List.map_congr_left fun e he => by simp [evOf_line (h e he)]
theorem ok_lines {l : List Ev} (h : ∀ e ∈ l, isEv e = true) : (l.map lineL).all okLine = true := by
  rw [List.all_eq_true]
  intro x hx
  obtain ⟨e, he, rfl⟩ := List.mem_map.1 hx
  unfold okLine; rw [evOf_line (h e he)]; rfl
theorem read_text {l : List Ev} (h : may l = 0) : readL (textL l) = (l, 0, 0) := by
  have he := may_ev h
  have h80 := ((may_iff l).1 h).1
  have hlen := text_len l
  rw [readL_end (by omega) (by rw [linesT_text l he]; exact ok_lines he), linesT_text l he, evs_lines he, if_pos h]
theorem text_lines : ∀ ls : List (List UInt8), ls.all okLine = true → textL (evsOf ls) = Lib.join ls [10]
  | [], _ => rfl
  | [x], h => by
    have hx : okLine x = true := by simpa using h
    rw [Lib.join_one]
    show lineL (evOf x).1 = x
    exact (evOf_some (by simpa [okLine] using hx)).2
  | x :: y :: ls, h => by
    have hx : okLine x = true := by simp at h; exact h.1
    have ih := text_lines (y :: ls) (by simp at h ⊢; exact h.2)
    have e1 := (evOf_some (s := x) (by simpa [okLine] using hx)).2
    show lineL (evOf x).1 ++ 10 :: textL (evsOf (y :: ls)) = _
    rw [ih, e1, Lib.join_cons, Lib.join_cons]
    simp [Lib.joinTail]
theorem join_lines : ∀ s : List UInt8, Lib.join (linesL s) [10] = s
  | [] => rfl
  | c :: s => by
    have ih := join_lines s
    by_cases hc : c = 10
    · subst hc
      rw [linesL, if_pos rfl]
      cases hq : linesL s with
      | nil => exact absurd hq (linesL_ne s)
      | cons x r =>
        rw [hq, Lib.join_cons] at ih
        rw [Lib.join_cons]
        simp only [Lib.joinTail, List.map_cons, List.flatten_cons, List.nil_append] at ih ⊢
        rw [List.append_assoc, ih]; rfl
    · rw [linesL, if_neg hc]
      cases hq : linesL s with
      | nil => exact absurd hq (linesL_ne s)
      | cons x r =>
        rw [hq, Lib.join_cons] at ih
        show Lib.join ((c :: x) :: r) [10] = _
        rw [Lib.join_cons, List.cons_append, ih]
theorem text_read {s : List UInt8} (h : (readL s).2.2 = 0) : may (readL s).1 = 0 ∧ textL (readL s).1 = s ∧ (readL s).2.1 = 0 := by
  by_cases hl : 2000 < s.length
  · rw [readL_long hl] at h; cases h
  · by_cases hok : (linesT s).all okLine = true
    · rw [readL_end hl hok] at h ⊢
      by_cases hm : may (evsOf (linesT s)) = 0
      · rw [if_pos hm]
        refine ⟨hm, ?_, rfl⟩
        show textL (evsOf (linesT s)) = s
        rw [text_lines _ hok]
        unfold linesT
        split
        · rename_i h0; rw [h0]; rfl
        · exact join_lines s
      · rw [if_neg hm] at h; exact absurd h hm
    · exfalso
      unfold readL at h
      rw [if_neg hl] at h
      cases hf : (linesT s).findIdx? (fun l => !okLine l) with
      | none =>
        rw [List.findIdx?_eq_none_iff] at hf
        exact hok (List.all_eq_true.2 fun x hx => by have := hf x hx; simpa using this)
      | some i => rw [hf] at h; cases h
theorem read_nil {s : List UInt8} (h : (readL s).2.2 ≠ 0) : (readL s).1 = [] := by
  unfold readL at *
  split
  · rfl
  · split
    · rfl
    · split
      · rename_i h1 _ h2 h3; exfalso; apply h; rw [if_neg h1, h2, if_pos h3]
      · rfl
set_option maxHeartbeats 4000000 in
theorem walk (W : World) (A : Option Addr) (n c : Nat) (l : List Ev) (sl : Sl W A n l) (hnc : n ≤ c) (x : c ≤ maxLen) (g : ∀ e ∈ l, EvOk e) (s : List UInt8) (hs : s.length ≤ maxLen) (m : Int) (hm : W.cell? ⟨0, 0, none⟩ = some (.int .i64 m)) :
    Calls Tryd.prog 6 #[.slice A n c, .string (str s)] W fun e w' => e = .returned (.bool true) ∧ Below W.heap.size W w' := by
  have hw0 : Bel W W := Bel.refl _
  have HL := Lib.hid sl
  have HSL := Lib.hid hs
  have HMM := Lib.hid hm
  have HC := Lib.hid x
  unfold maxLen at x
  clear sl hs hm g
  cases h1 : (may l == 0)
  · have HF := Lib.hid h1
    go_enter Tryd.func6, Tryd.ntmps6
    go_wp2_with fail
    refine (texted_any _).mono ?_
    rintro e1 w1 ⟨rfl, hb1⟩
    have hw1 := hw0.call hb1
    clear hb1
    go_wp2_with fail
    refine (ptext_any A n c l _ (HL.out.bel hw1.out) hnc (by omega)).mono ?_
    rintro e2 w2 ⟨rfl, hb2⟩
    have hw2 := hw1.call hb2
    clear hb2
    go_wp2_with fail
    refine (may_any A n c l _ (HL.out.bel hw2.out)).mono ?_
    rintro e3 w3 ⟨rfl, hb3⟩
    have hw3 := hw2.call hb3
    clear hb3
    have HM3 := Lib.hid (hw3.cell HMM.out)
    go_wp2_with fail
    refine (pread_any s HSL.out m _ HM3.out).mono ?_
    rintro e7 w7 ⟨v7, rfl, hown7, hb7⟩
    have hw7 := hw3.call hb7
    obtain ⟨A7, c7, rfl, hs7, hc7, hm7⟩ := Sl.own hown7
    have HS7 := Lib.hid hs7
    unfold maxLen at hm7
    clear hown7 hs7 hb7
    go_wp2_with fail
    refine (ptext_any A7 _ c7 _ _ HS7.out hc7 (by omega)).mono ?_
    rintro e8 w8 ⟨rfl, hb8⟩
    have hw8 := hw7.call hb8
    clear hb8
    cases hz : ((readL s).2.2 != 0)
    · have h0 : (readL s).2.2 = 0 := by simpa using hz
      obtain ⟨h1, h2, h3⟩ := text_read h0
      have h4 : textOf (readL s).1 = s := by rw [textOf, if_pos h1, h2]
      rw [h4, h1, h0]
      have HW := Lib.hid hw8
      clear h0 h1 h2 h3 h4 hz
      go_wp2
      go_ret
      exact ⟨rfl, HW.out⟩
    · have hn : (readL s).1.length = 0 := by rw [read_nil (by simpa using hz)]; rfl
      rw [hn]
      have HW := Lib.hid hw8
      go_wp2
      all_goals (go_ret; exact ⟨rfl, HW.out⟩)
  · have h0 : may l = 0 := by simpa using h1
    have HR := Lib.hid (read_text h0)
    have HT := Lib.hid (show textOf l = textL l by rw [textOf, if_pos h0])
    have HM0 := Lib.hid h0
    have hlen := text_len l
    have h80 := ((may_iff l).1 h0).1
    have HTL := Lib.hid (show (textL l).length ≤ maxLen by unfold maxLen; omega)
    have HN := Lib.hid (HL.out.1)
    clear h0 hlen h80
    go_enter Tryd.func6, Tryd.ntmps6
    go_wp2_with fail
    refine (texted_any _).mono ?_
    rintro e1 w1 ⟨rfl, hb1⟩
    have hw1 := hw0.call hb1
    clear hb1
    go_wp2_with fail
    refine (ptext_any A n c l _ (HL.out.bel hw1.out) hnc (by omega)).mono ?_
    rintro e2 w2 ⟨rfl, hb2⟩
    rw [HT.out, HM0.out]
    have hw2 := hw1.call hb2
    clear hb2
    go_wp2_with fail
    refine (may_any A n c l _ (HL.out.bel hw2.out)).mono ?_
    rintro e3 w3 ⟨rfl, hb3⟩
    rw [h1]
    have hw3 := hw2.call hb3
    clear hb3
    have HM3 := Lib.hid (hw3.cell HMM.out)
    go_wp2_with fail
    refine (pread_any (textL l) HTL.out m _ HM3.out).mono ?_
    rintro e4 w4 ⟨v4, rfl, hown4, hb4⟩
    rw [HR.out] at hown4 ⊢
    have hw4 := hw3.call hb4
    obtain ⟨A4, c4, rfl, hs4, hc4, hm4⟩ := Sl.own hown4
    have HS4 := Lib.hid hs4
    have HL4 := Lib.hid (HL.out.bel hw4.out)
    clear hown4 hs4 hb4
    go_wp2_with fail
    refine (eqev_any A4 A _ c4 _ c _ _ _ HS4.out HL4.out hc4 hnc hm4 HC.out).mono ?_
    rintro e5 w5 ⟨rfl, hb5⟩
    rw [decide_eq_true rfl]
    have hw5 := hw4.call hb5
    clear hb5
    have HM5 := Lib.hid (hw5.cell HMM.out)
    go_wp2_with fail
    refine (pread_any s HSL.out m _ HM5.out).mono ?_
    rintro e7 w7 ⟨v7, rfl, hown7, hb7⟩
    have hw7 := hw5.call hb7
    obtain ⟨A7, c7, rfl, hs7, hc7, hm7⟩ := Sl.own hown7
    have HS7 := Lib.hid hs7
    unfold maxLen at hm7
    clear hown7 hs7 hb7
    go_wp2_with fail
    refine (ptext_any A7 _ c7 _ _ HS7.out hc7 (by omega)).mono ?_
    rintro e8 w8 ⟨rfl, hb8⟩
    have hw8 := hw7.call hb8
    clear hb8
    cases hz : ((readL s).2.2 != 0)
    · have h0 : (readL s).2.2 = 0 := by simpa using hz
      obtain ⟨h1, h2, h3⟩ := text_read h0
      have h4 : textOf (readL s).1 = s := by rw [textOf, if_pos h1, h2]
      rw [h4, h1, h0]
      have HW := Lib.hid hw8
      clear h0 h1 h2 h3 h4 hz
      go_wp2
      go_ret
      exact ⟨rfl, HW.out⟩
    · have hn : (readL s).1.length = 0 := by rw [read_nil (by simpa using hz)]; rfl
      rw [hn]
      have HW := Lib.hid hw8
      go_wp2
      all_goals (go_ret; exact ⟨rfl, HW.out⟩)

set_option maxRecDepth 100000 in
theorem contract (H : Type) (enc : TypeId × Value → H) (W : World) (base : Nat) (args : Array Value) (ds gs : List (DataW H)) (before : List MemPlace)
    (hval0 : ∀ (j : Nat) t v, Tryd.f6.params[j]? = some t → args[j]? = some v → Value.okWide Tryd.prog W .any base t v)
    (hW : DataW.Whole enc Tryd.prog Tryd.f6.params.toList Rows.textBackSpec.vars false W args.toList ds gs before)
    (hsz0 : (DataW.weightsEach Tryd.prog (Tryd.f6.params.toList ++ Rows.textBackSpec.plain.varTypes Tryd.prog) (ds ++ gs)).all (· ≤ reachBytes) = true) (hsh : W.ShapedOpen Tryd.prog) :
    Calls Tryd.prog 6 args W fun e W' => ∃ v, e = .returned v ∧ Rows.textBackSpec.post enc Tryd.prog Tryd.f6 false true false false W args v W' := by
  have hsz := hsz0
  clear hsz0
  have hval := hval0
  have hW' := hW
  obtain ⟨p, q, hA0, hV, rfl, hfz, hnd⟩ := hW
  have hA : DataW.TrodAll enc Tryd.prog W 0 (fun _ => true) true Tryd.f6.params.toList args.toList ds p := hA0
  rw [Tryd.params6] at hA hval hsz
  obtain ⟨v0, vs0, d0, ds0, p0, q0, hargs, rfl, rfl, h0, r0⟩ := trodAll_cons hA
  obtain ⟨v1, vs1, d1, ds1, p1, q1, rfl, rfl, rfl, h1, r1⟩ := trodAll_cons r0
  obtain ⟨rfl, rfl, rfl⟩ := trodAll_nil r1
  obtain rfl : args = #[v0, v1] := by cases args; simp_all
  obtain ⟨rfl, rfl⟩ := trodVars_none hV
  have t0 := h0
  have lt0 : ∀ x ∈ p0, x.block < W.heap.size := by obtain ⟨m, hm⟩ := t0; exact DataW.trod_lt m _ _ _ hm
  have t1 := h1
  have lt1 : ∀ x ∈ p1, x.block < W.heap.size := by obtain ⟨m, hm⟩ := t1; exact DataW.trod_lt m _ _ _ hm
  obtain ⟨A0, n0, c0, l0, rfl, s0, m0, x0, g0, z0⟩ := open_evs Tryd.underlying30 Tryd.underlying23 ⟨rfl, rfl, rfl⟩ (by kernel_rfl) (by kernel_rfl) Tryd.underlying3 (hval 0 30 v0 rfl rfl) h0
  have y0 := reach_sl hsz (j := 0) rfl rfl Tryd.underlying30 (b := 24) (by kernel_rfl) z0
  obtain ⟨l1, rfl, e1, x1⟩ := open_str Tryd.underlying9 (hval 1 9 v1 rfl rfl) h1
  clear hA0 hval0
  obtain ⟨mm, hmm⟩ := Tryd.laysM219.s1_3 W hsh
  refine (walk W A0 n0 c0 l0 s0 m0 x0 g0 l1 x1 mm hmm).mono fun e W' ⟨he, bel⟩ => ?_
  subst he
  exact ⟨_, rfl, _, _, _, [], _, [], hW', trodAll_mk1 (shut_bool Tryd.underlying4 _), (trodAll_cons_mk (Below.trod laidOut (by kernel_rfl) (of_decide_eq_true (by kernel_rfl)) t0 bel lt0) (trodAll_cons_mk (Below.trod laidOut (by kernel_rfl) (of_decide_eq_true (by kernel_rfl)) t1 bel lt1) trodAll_mk0)), rfl, bel.frame _, fun h => by cases h⟩

theorem laid_met (os : Os) : laidMet Tryd.prog Rows.textBackRow.laid ((doorW os).forCall (fun _ _ => 0) ⟨#[], #[.slice none 0 0, .string ⟨#[]⟩], []⟩).memory :=
  laidMet_of_run' 8 (by kernel_rfl) (by kernel_rfl)
theorem reads (os : Os) {H : Type} (enc : TypeId × Value → H) : ∃ places, DataW.whole enc Tryd.prog ((doorW os).forCall (fun _ _ => 0) ⟨#[], #[.slice none 0 0, .string ⟨#[]⟩], []⟩).memory Tryd.f6.params.toList Rows.textBackSpec.vars false (#[.slice none 0 0, .string ⟨#[]⟩] : Array Value).toList 8 = some ([.nil, .lit (.string [])], [], places) :=
  ⟨[], by kernel_rfl⟩
set_option maxRecDepth 100000 in
theorem lifted (os : Os) (started : os.Started) (H : Type) (enc : TypeId × Value → H) (F : Stop.Interp) :
    ReturnsInHanded {} Tryd.checked os 6 .any ((OpenSpec.ofChange Rows.textBackSpec).preRow enc Tryd.prog Tryd.f6 Rows.textBackRow.domain false Rows.textBackRow.laid) (((OpenSpec.ofChange Rows.textBackSpec).at F).post enc Tryd.prog Tryd.f6 false true false false) := by
  obtain ⟨places, hx⟩ := reads os enc
  refine returnsInHanded_of_row (C := Tryd.checked) (s := OpenSpec.ofChange Rows.textBackSpec) own started (by kernel_rfl) Tryd.func6
    (witness_row_at (enc := enc) (C := Tryd.checked) false (doorW os) #[.slice none 0 0, .string ⟨#[]⟩] rfl (by kernel_rfl) (by kernel_rfl) (by kernel_rfl)
      (OpenSpec.preRow_of_cond 8 hx (by kernel_rfl) (fun k hk => by cases hk) (by kernel_rfl) (laid_met os))) ?_
  intro W base args ds gs before hval hW _ hcond hsz _ hsh _
  exact contract H enc W base args ds gs before hval hW hsz hsh

theorem said : Rows.TextBackSaid :=
  OpenClaim.holds_of_cond 6 Tryd.f6 rfl rfl rfl rfl rfl rfl rfl ⟨rfl, rfl, rfl, rfl, rfl⟩ rfl rfl rfl rfl rfl (by kernel_rfl) Tryd.func6 (by kernel_rfl)
    (of_decide_eq_true (by kernel_rfl)) (by unfold Func.isWrapper; first | (rw [if_pos (by decide +kernel)]; kernel_rfl) | (rw [if_neg (by decide +kernel)]; exact ⟨rfl, rfl⟩))
    (fun os started H enc _ F => by rw [OpenClaim.pre_eq_preRow]; exact lifted os started H enc F)
theorem plain (f : FuncId) (fn : Func) (hf : Tryd.pinned.checked.prog.funcNamed "deadheat/deadheatkeep.TextBack" = some f) (hfn : Tryd.pinned.checked.prog.funcs[f]? = some fn) :
    false = Tryd.pinned.checked.prog.looks [] ∧ ∀ (j : Nat) t, fn.params[j]? = some t → Tryd.pinned.checked.prog.wantsStandIn t = false := by
  obtain rfl : f = 6 := Option.some.inj ((show Tryd.prog.funcNamed "deadheat/deadheatkeep.TextBack" = some 6 by kernel_rfl).symm.trans hf) |>.symm
  obtain rfl : fn = Tryd.f6 := (Option.some.inj (Tryd.func6.symm.trans hfn)).symm
  refine ⟨by kernel_rfl, fun j t ht => ?_⟩
  rw [Tryd.params6] at ht
  have hm := Array.mem_of_getElem? ht
  have hall : (Tryd.f6.params.toList.all fun u => !Tryd.prog.wantsStandIn u) = true := by kernel_rfl
  rw [Tryd.params6] at hall
  exact (show Tryd.prog.wantsStandIn t = false by simpa using List.all_eq_true.1 hall t (by simpa using hm))
theorem proved : Rows.TextBackCardSaid :=
  Claim7.holds_tied_plain_at .later [] _ _ _ _ said (fun _ h => by cases h) (by kernel_rfl) (fun _ h => by cases h) textBack_row_tie rfl ⟨rfl, rfl⟩ (by kernel_rfl) rfl plain (by kernel_rfl)
#print axioms proved
end Go.Proofs.YticejlepalhmhaaDoor.LTextBack

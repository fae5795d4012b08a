/- 'deadheattop.TopAgain' returns true for every input and leaves its arguments as they are: the row's own list of tables is tied to the program's text; nothing else is asked. -/
import Derived.Test.YtbkmkeaabcgifaaGreatDoorOpen
import Derived.Test.YtbkmkeaabcgifaaGreatDoorDoor
import Derived.Test.YtbkmkeaabcgifaaGreatDoorKeepTp
import Derived.Test.YtbkmkeaabcgifaaGreatDoorText3
import Derived.Test.YtbkmkeaabcgifaaGreatDoorLineTx
import Derived.Test.YtbkmkeaabcgifaaGreatDoorPack3
import Derived.Test.YtbkmkeaabcgifaaGreatDoorPack
import Derived.Test.YtbkmkeaabcgifaaGreatDoorEqEv
import Derived.Test.YtbkmkeaabcgifaaGreatDoorAll
set_option linter.all false
set_option maxRecDepth 100000
namespace Go.Proofs.YtbkmkeaabcgifaaGreatDoor.LTopAgain
open Go Go.ChangeShapes Go.WideShapes Go.ChangeAt Go.RowKit

set_option maxHeartbeats 4000000 in
theorem walk (W : World) (A : Option Addr) (n c : Nat) (l : List Ev) (sl : Sl W A n l) (hnc : n ≤ c) (x : c ≤ maxLen) (g : ∀ e ∈ l, EvOk e) (m : Int) (hm : W.cell? ⟨0, 0, none⟩ = some (.int .i64 m)) :
    Calls Tryz.prog 3 #[.slice A n c] W fun e w' => e = .returned (.bool true) ∧ Below W.heap.size W w' := by
  have hw0 : Bel W W := Bel.refl _
  have HL := Lib.hid sl
  have HMM := Lib.hid hm
  have HC := Lib.hid x
  unfold maxLen at x
  clear sl hm g
  cases h1 : (may l != 0)
  · have h0 : may l = 0 := by simpa using h1
    have HR := Lib.hid (read_text h0)
    have HRP := Lib.hid (read_packL h0)
    have HT := Lib.hid (show textOf l = textL l by rw [textOf, if_pos h0])
    have HTP := Lib.hid (show packOf l = packL l by rw [packOf, if_pos h0])
    have HM0 := Lib.hid h0
    have hlen := text_len l
    have hlep := packL_length l
    have h80 := ((may_iff l).1 h0).1
    have HTL := Lib.hid (show (textL l).length ≤ maxLen by unfold maxLen; omega)
    have HPL := Lib.hid (show (packL l).length ≤ 140737488355328 by omega)
    have HN := Lib.hid (HL.out.1)
    clear h0 hlen h80 hlep h1
    go_enter Tryz.func3, Tryz.ntmps3
    go_wp2_with fail
    refine (works_any _).mono ?_
    rintro e1 w1 ⟨rfl, hb1⟩
    have hw1 := hw0.call hb1
    clear hb1
    go_wp2_with fail
    refine (ptext_any A n c l _ (HL.out.bel hw1.out) hnc (by omega)).mono ?_
    rintro e2 w2 ⟨rfl, hb2⟩
    rw [HT.out, HM0.out]
    have hw2 := hw1.call hb2
    clear hb2
    go_wp2_with fail
    refine (ppack_any A n c l _ (HL.out.bel hw2.out) hnc (by omega)).mono ?_
    rintro e3 w3 ⟨rfl, hb3⟩
    rw [HTP.out, HM0.out]
    have hw3 := hw2.call hb3
    clear hb3
    have HM3 := Lib.hid (hw3.cell HMM.out)
    go_wp2_with fail
    refine (pread_any (textL l) HTL.out m _ HM3.out).mono ?_
    rintro e4 w4 ⟨v4, rfl, hown4, hb4⟩
    rw [HR.out] at hown4 ⊢
    have hw4 := hw3.call hb4
    obtain ⟨A4, c4, rfl, hs4, hc4, hm4⟩ := Sl.own hown4
    have HS4 := Lib.hid hs4
    have HQ4 := Lib.hid (And.intro hc4 hm4)
    clear hown4 hs4 hb4 hc4 hm4
    go_wp2_with fail
    refine (kread_any (packL l) HPL.out _).mono ?_
    rintro e5 w5 ⟨v5, rfl, hown5, hb5⟩
    rw [HRP.out] at hown5 ⊢
    have hw5 := hw4.call hb5
    have HS45 := Lib.hid (HS4.out.bel (Bel.of hb5))
    obtain ⟨A5, c5, rfl, hs5, hc5, hm5⟩ := Sl.own hown5
    have HS5 := Lib.hid hs5
    have HQ5 := Lib.hid (And.intro hc5 hm5)
    clear hown5 hs5 hb5 hc5 hm5
    go_wp2_with fail
    refine (eqev_any A4 A5 _ c4 _ c5 _ _ _ HS45.out HS5.out HQ4.out.1 HQ5.out.1 HQ4.out.2 HQ5.out.2).mono ?_
    rintro e6 w6 ⟨rfl, hb6⟩
    rw [decide_eq_true rfl]
    have hw6 := hw5.call hb6
    have HS46 := Lib.hid (HS45.out.bel (Bel.of hb6))
    clear hb6
    go_wp2_with fail
    refine (eqev_any A4 A _ c4 _ c _ _ _ HS46.out (HL.out.bel hw6) HQ4.out.1 hnc HQ4.out.2 HC.out).mono ?_
    rintro e7 w7 ⟨rfl, hb7⟩
    rw [decide_eq_true rfl]
    have hw7 := hw6.call hb7
    have HS47 := Lib.hid (HS46.out.bel (Bel.of hb7))
    clear hb7
    go_wp2_with fail
    refine (all_ok A n c l _ (HL.out.bel hw7) HM0.out).mono ?_
    rintro e8 w8 ⟨v8, rfl, hown8, hb8⟩
    rw [HM0.out]
    have hw8 := hw7.call hb8
    have HS48 := Lib.hid (HS47.out.bel (Bel.of hb8))
    obtain ⟨A8, c8, rfl, hs8, hc8, hm8⟩ := SlR.own hown8
    have HS8 := Lib.hid hs8
    have HQ8 := Lib.hid (And.intro hc8 hm8)
    clear hown8 hs8 hb8 hc8 hm8
    go_wp2_with fail
    refine (all_ok A4 _ c4 l _ HS48.out HM0.out).mono ?_
    rintro e9 w9 ⟨v9, rfl, hown9, hb9⟩
    rw [HM0.out]
    have hw9 := hw8.call hb9
    have HS89 := Lib.hid (HS8.out.bel (Bel.of hb9))
    obtain ⟨A9, c9, rfl, hs9, hc9, hm9⟩ := SlR.own hown9
    have HS9 := Lib.hid hs9
    have HQ9 := Lib.hid (And.intro hc9 hm9)
    clear hown9 hs9 hb9 hc9 hm9
    go_wp2_with fail
    refine (eqrc_any A8 A9 _ c8 _ c9 _ _ _ HS89.out HS9.out HQ8.out.1 HQ9.out.1 HQ8.out.2 HQ9.out.2).mono ?_
    rintro e10 w10 ⟨rfl, hb10⟩
    rw [decide_eq_true rfl]
    have hw10 := hw9.call hb10
    clear hb10
    go_wp2
    go_ret
    exact ⟨rfl, hw10⟩
  · have h0 : ¬ may l = 0 := by simpa using h1
    have HT := Lib.hid (show textOf l = [] by rw [textOf, if_neg h0])
    have HTP := Lib.hid (show packOf l = [] by rw [packOf, if_neg h0])
    have he := str_isEmpty []
    have he2 : (str []).toList.isEmpty = true := he
    clear h0
    go_enter Tryz.func3, Tryz.ntmps3
    go_wp2_with fail
    refine (works_any _).mono ?_
    rintro e1 w1 ⟨rfl, hb1⟩
    have hw1 := hw0.call hb1
    clear hb1
    go_wp2_with fail
    refine (ptext_any A n c l _ (HL.out.bel hw1.out) hnc (by omega)).mono ?_
    rintro e2 w2 ⟨rfl, hb2⟩
    rw [HT.out]
    have hw2 := hw1.call hb2
    clear hb2
    go_wp2_with fail
    refine (ppack_any A n c l _ (HL.out.bel hw2.out) hnc (by omega)).mono ?_
    rintro e3 w3 ⟨rfl, hb3⟩
    rw [HTP.out]
    have hw3 := hw2.call hb3
    clear hb3
    go_wp2
    go_ret
    exact ⟨rfl, hw3⟩

set_option maxRecDepth 100000 in
theorem contract (H : Type) (enc : TypeId × Value → H) (W : World) (base : Nat) (args : Array Value) (ds gs : List (DataW H)) (before : List MemPlace)
    (hval0 : ∀ (j : Nat) t v, Tryz.f3.params[j]? = some t → args[j]? = some v → Value.okWide Tryz.prog W .any base t v)
    (hW : DataW.Whole enc Tryz.prog Tryz.f3.params.toList Rows.topAgainSpec.vars false W args.toList ds gs before)
    (hsz0 : (DataW.weightsEach Tryz.prog (Tryz.f3.params.toList ++ Rows.topAgainSpec.plain.varTypes Tryz.prog) (ds ++ gs)).all (· ≤ reachBytes) = true) (hsh : W.ShapedOpen Tryz.prog) :
    Calls Tryz.prog 3 args W fun e W' => ∃ v, e = .returned v ∧ Rows.topAgainSpec.post enc Tryz.prog Tryz.f3 false true false false W args v W' := by
  have hsz := hsz0
  clear hsz0
  have hval := hval0
  have hW' := hW
  obtain ⟨p, q, hA0, hV, rfl, hfz, hnd⟩ := hW
  have hA : DataW.TrodAll enc Tryz.prog W 0 (fun _ => true) true Tryz.f3.params.toList args.toList ds p := hA0
  rw [Tryz.params3] at hA hval hsz
  obtain ⟨v0, vs0, d0, ds0, p0, q0, hargs, rfl, rfl, h0, r0⟩ := trodAll_cons hA
  obtain ⟨rfl, rfl, rfl⟩ := trodAll_nil r0
  obtain rfl : args = #[v0] := by cases args; simp_all
  obtain ⟨rfl, rfl⟩ := trodVars_none hV
  have t0 := h0
  have lt0 : ∀ x ∈ p0, x.block < W.heap.size := by obtain ⟨m, hm⟩ := t0; exact DataW.trod_lt m _ _ _ hm
  obtain ⟨A0, n0, c0, l0, rfl, s0, m0, x0, g0, z0⟩ := open_evs Tryz.underlying22 Tryz.underlying33 ⟨rfl, rfl, rfl⟩ (by kernel_rfl) (by kernel_rfl) Tryz.underlying3 (hval 0 22 v0 rfl rfl) h0
  have y0 := reach_sl hsz (j := 0) rfl rfl Tryz.underlying22 (b := 24) (by kernel_rfl) z0
  clear hA0 hval0
  obtain ⟨mm, hmm⟩ := Tryz.laysM219.s1_3 W hsh
  refine (walk W A0 n0 c0 l0 s0 m0 x0 g0 mm hmm).mono fun e W' ⟨he, bel⟩ => ?_
  subst he
  exact ⟨_, rfl, _, _, _, [], _, [], hW', trodAll_mk1 (shut_bool Tryz.underlying4 _), (trodAll_cons_mk (Below.trod laidOut (by kernel_rfl) (of_decide_eq_true (by kernel_rfl)) t0 bel lt0) trodAll_mk0), rfl, bel.frame _, fun h => by cases h⟩

theorem laid_met (os : Os) : laidMet Tryz.prog Rows.topAgainRow.laid ((doorW os).forCall (fun _ _ => 0) ⟨#[], #[.slice none 0 0], []⟩).memory :=
  laidMet_of_run' 8 (by kernel_rfl) (by kernel_rfl)
theorem reads (os : Os) {H : Type} (enc : TypeId × Value → H) : ∃ places, DataW.whole enc Tryz.prog ((doorW os).forCall (fun _ _ => 0) ⟨#[], #[.slice none 0 0], []⟩).memory Tryz.f3.params.toList Rows.topAgainSpec.vars false (#[.slice none 0 0] : Array Value).toList 8 = some ([.nil], [], places) :=
  ⟨[], by kernel_rfl⟩
set_option maxRecDepth 100000 in
theorem lifted (os : Os) (started : os.Started) (H : Type) (enc : TypeId × Value → H) (F : Stop.Interp) :
    ReturnsInHanded {} Tryz.checked os 3 .any ((OpenSpec.ofChange Rows.topAgainSpec).preRow enc Tryz.prog Tryz.f3 Rows.topAgainRow.domain false Rows.topAgainRow.laid) (((OpenSpec.ofChange Rows.topAgainSpec).at F).post enc Tryz.prog Tryz.f3 false true false false) := by
  obtain ⟨places, hx⟩ := reads os enc
  refine returnsInHanded_of_row (C := Tryz.checked) (s := OpenSpec.ofChange Rows.topAgainSpec) own started (by kernel_rfl) Tryz.func3
    (witness_row_at (enc := enc) (C := Tryz.checked) false (doorW os) #[.slice none 0 0] rfl (by kernel_rfl) (by kernel_rfl) (by kernel_rfl)
      (OpenSpec.preRow_of_cond 8 hx (by kernel_rfl) (fun k hk => by cases hk) (by kernel_rfl) (laid_met os))) ?_
  intro W base args ds gs before hval hW _ hcond hsz _ hsh _
  exact contract H enc W base args ds gs before hval hW hsz hsh

theorem said : Rows.TopAgainSaid :=
  OpenClaim.holds_of_cond 3 Tryz.f3 rfl rfl rfl rfl rfl rfl rfl ⟨rfl, rfl, rfl, rfl, rfl⟩ rfl rfl rfl rfl rfl (by kernel_rfl) Tryz.func3 (by kernel_rfl)
    (of_decide_eq_true (by kernel_rfl)) (by unfold Func.isWrapper; first | (rw [if_pos (by decide +kernel)]; kernel_rfl) | (rw [if_neg (by decide +kernel)]; exact ⟨rfl, rfl⟩))
    (fun os started H enc _ F => by rw [OpenClaim.pre_eq_preRow]; exact lifted os started H enc F)
theorem plain (f : FuncId) (fn : Func) (hf : Tryz.pinned.checked.prog.funcNamed "deadheat/deadheattop.TopAgain" = some f) (hfn : Tryz.pinned.checked.prog.funcs[f]? = some fn) :
    true = Tryz.pinned.checked.prog.looks [] ∧ ∀ (j : Nat) t, fn.params[j]? = some t → Tryz.pinned.checked.prog.wantsStandIn t = false := by
  obtain rfl : f = 3 := Option.some.inj ((show Tryz.prog.funcNamed "deadheat/deadheattop.TopAgain" = some 3 by kernel_rfl).symm.trans hf) |>.symm
  obtain rfl : fn = Tryz.f3 := (Option.some.inj (Tryz.func3.symm.trans hfn)).symm
  refine ⟨by kernel_rfl, fun j t ht => ?_⟩
  rw [Tryz.params3] at ht
  have hm := Array.mem_of_getElem? ht
  have hall : (Tryz.f3.params.toList.all fun u => !Tryz.prog.wantsStandIn u) = true := by kernel_rfl
  rw [Tryz.params3] at hall
  exact (show Tryz.prog.wantsStandIn t = false by simpa using List.all_eq_true.1 hall t (by simpa using hm))
theorem proved : Rows.TopAgainCardSaid :=
  Claim7.holds_tied_plain_at .later [] _ _ _ _ said (fun _ h => by cases h) (by kernel_rfl) (fun _ h => by cases h) topAgain_row_tie rfl ⟨rfl, rfl⟩ (by kernel_rfl) rfl plain (by kernel_rfl)
#print axioms proved
end Go.Proofs.YtbkmkeaabcgifaaGreatDoor.LTopAgain

import Derived.Test.YtnklpifnknmdgaaGreatDoorZOr
import Derived.Test.YtnklpifnknmdgaaGreatDoorZCy
import Derived.Test.YtnklpifnknmdgaaGreatDoorZDkL
set_option linter.all false
set_option maxRecDepth 100000
namespace Go.Proofs.YtnklpifnknmdgaaGreatDoor.LDeskClear
open Go Go.ChangeShapes Go.WideShapes Go.ChangeAt Go.RowKit

theorem sums (n n' N : Nat) (hk : n + n' ≤ 1048576) (hN : N = n + 1 + n') : IntKind.i64.wrap ((n : Int) + 1) = (n : Int) + 1 ∧ IntKind.i64.wrap ((n : Int) + 1 + (n' : Int)) = (N : Int) ∧ wrap64 ((n : Int) + 1) = (n : Int) + 1 ∧
    wrap64 ((n : Int) + 1 + (n' : Int)) = (N : Int) ∧ (n : Int) < (N : Int) ∧ (n : Int) + 1 ≤ (N : Int) := by
  refine ⟨IntWalk.i64_in _ (by omega), ?_, ?_, ?_, by omega, by omega⟩
  · rw [IntWalk.i64_in _ (by omega)]; omega
  · unfold wrap64; omega
  · unfold wrap64; omega
set_option maxHeartbeats 16000000 in
theorem walk (W : World) (A : Option Addr) (n c : Nat) (l : List Wd) (s : WS W A n l) (m : n ≤ c) (x : c ≤ maxLen) (g : ∀ x ∈ l, x.length ≤ maxLen) (A' : Option Addr) (n' c' : Nat) (l' : List Wd) (s' : WS W A' n' l') (m' : n' ≤ c') (x' : c' ≤ maxLen) (g' : ∀ x ∈ l', x.length ≤ maxLen) (ht : Tabs W) (hk : n + n' ≤ 1048576) :
    Calls Tryz.prog 6 #[.slice A n c, .slice A' n' c'] W fun e w' => e = .returned (.bool true) ∧ Below W.heap.size W w' := by
  have HL := Lib.hid s
  have HL' := Lib.hid s'
  have HG := Lib.hid g
  have HGG := Lib.hid (show ∀ x ∈ l ++ l', x.length ≤ maxLen from fun x hx => (List.mem_append.1 hx).elim (g x) (g' x))
  have HT := Lib.hid ht
  have HLN := Lib.hid s.1
  have HLN' := Lib.hid s'.1
  have HNM := Lib.hid (show n ≤ maxLen by unfold maxLen; omega)
  have HNN := Lib.hid (show n + n' ≤ maxLen by unfold maxLen; omega)
  have HGM := Lib.hid g'
  have HGA := Lib.hid (show ∀ x ∈ l ++ [clrW] ++ l', x.length ≤ maxLen from fun x hx => by
    rw [List.append_assoc, List.mem_append, List.mem_append, List.mem_singleton] at hx
    rcases hx with hx | rfl | hx
    · exact g x hx
    · unfold maxLen; decide
    · exact g' x hx)
  have HNB := Lib.hid (show n' ≤ maxLen by unfold maxLen; omega)
  have HNC := Lib.hid (show n + 1 + n' ≤ maxLen by unfold maxLen; omega)
  obtain ⟨i0, hi0, hz0, hz1, hz2⟩ := info_parts str_info
  have J := Lib.hid (And.intro hi0 (And.intro hz0 (And.intro hz1 hz2)))
  have HL3 := Lib.hid HL.out.src
  have HLL3 := Lib.hid (show (sts l).length = n * 1 by rw [List.length_map, HLN.out, Nat.mul_one])
  have HLL3' := Lib.hid (show (sts l').length = n' * 1 by rw [List.length_map, HLN'.out, Nat.mul_one])
  clear s m x g s' m' x' g' ht hi0 hz0 hz1 hz2
  go_enter Tryz.func6, Tryz.ntmps6
  go_wp2_with (first
    | (at_builtin; refine wpList_append_src rfl (.const (.slice none 0 0)) (.tmp 10) _ rfl W.heap.size 9 i0 _ 1 16 Tryz.underlying22 J.out.1 J.out.2.1 J.out.2.2.1 J.out.2.2.2 rfl (by omega) (.slice none 0 0) 0 [] rfl (World.ownsRow_nil _ _ _ _) A n c (sts l) rfl HLL3.out HL3.out (sts_one l) (by have := HNM.out; omega) (by omega) (Nat.le_refl _) ?_; intro v4 w4 hown4 hg4 hat4
       have H4 := Lib.hid (show Bel W w4 from Bel.of (grown_below (v := .slice none 0 0) hg4 (World.ownsRow_nil W W.heap.size 9 1) (Nat.le_refl _) (Nat.le_refl _)))
       have H4b := Lib.hid (H4.out.alloc (.cells #[.string ⟨#[99, 108, 101, 97, 114]⟩] 9))
       have HO4 := Lib.hid (own_bel hown4 ((Bel.refl w4).alloc (.cells #[.string ⟨#[99, 108, 101, 97, 114]⟩] 9)))
       have HL4 := Lib.hid (ws_lit (xs := [clrW]) (Box.new w4 #[.string ⟨#[99, 108, 101, 97, 114]⟩] 9)).src
       clear hown4 hg4 hat4)
    | (at_builtin; refine wpList_append_src rfl (.tmp 11) (.tmp 12) _ rfl W.heap.size 9 i0 _ 1 16 Tryz.underlying22 J.out.1 J.out.2.1 J.out.2.2.1 J.out.2.2.2 rfl (by omega) _ (0 + n) ([] ++ sts l) rfl HO4.out (some ⟨w4.heap.size, 0, none⟩) 1 1 (sts [clrW]) rfl rfl HL4.out (sts_one [clrW]) (by have := HNC.out; omega) (by omega) H4b.out.size ?_; intro v5 w5 hown5 hg5 hat5
       have H5 := Lib.hid (show Bel W w5 from Bel.of (H4b.out.out.trans (grown_below hg5 HO4.out (Nat.le_refl _) H4b.out.size)))
       have HO5 := Lib.hid hown5
       have HL5 := Lib.hid (HL'.out.bel H5.out).src
       clear hown5 hg5 hat5)
    | (at_builtin; refine wpList_append_src rfl (.tmp 13) (.tmp 14) _ rfl W.heap.size 9 i0 _ 1 16 Tryz.underlying22 J.out.1 J.out.2.1 J.out.2.2.1 J.out.2.2.2 rfl (by omega) _ (0 + n + 1) ([] ++ sts l ++ sts [clrW]) rfl HO5.out A' n' c' (sts l') rfl HLL3'.out HL5.out (sts_one l') (by have := HNC.out; omega) (by omega) H5.out.size ?_; intro v6 w6 hown6 hg6 hat6
       have H6 := Lib.hid (show Bel W w6 from Bel.of (H5.out.out.trans (grown_below hg6 HO5.out (Nat.le_refl _) H5.out.size)))
       have HO6 := Lib.hid hown6
       clear hown6 hg6 hat6))
  obtain ⟨q, hq⟩ : ∃ q, q = l ++ [clrW] ++ l' := ⟨_, rfl⟩
  have HQE := Lib.hid hq
  have HGQ := Lib.hid (show ∀ x ∈ q, x.length ≤ maxLen by rw [hq]; exact HGA.out)
  clear hq
  have HLA := Lib.hid (show q.length = n + 1 + n' by rw [HQE.out, List.length_append, List.length_append, HLN.out, HLN'.out]; rfl)
  have HA6 := Lib.hid (show w6.ownsRow W.heap.size 9 1 v6 q.length (sts q) by
    have := HO6.out
    rw [List.nil_append, ← sts_app, ← sts_app] at this
    rw [← HQE.out] at this
    rwa [show 0 + n + 1 + n' = q.length by rw [HLA.out]; omega] at this)
  obtain ⟨A6, c6, rfl, hw6, _, _⟩ := ws_own HA6.out
  have HW6 := Lib.hid hw6
  clear hw6
  refine (drun_any A6 _ c6 q _ HW6.out HGQ.out (by rw [HLA.out]; exact HNC.out) (HT.out.bel H6.out)).mono ?_
  rintro e7 w7 ⟨v7, rfl, ho7, hb7⟩
  obtain ⟨A7, c7, rfl, hw7, hn7, hm7⟩ := ws_own ho7
  have H7 := Lib.hid (H6.out.call hb7)
  have HW7 := Lib.hid hw7
  have HC7 := Lib.hid hn7
  clear ho7 hb7 hw7 hn7 hm7
  go_wp2_with fail
  refine (drun_any A' n' c' l' _ (HL'.out.bel H7.out) HGM.out HNB.out (HT.out.bel H7.out)).mono ?_
  rintro e8 w8 ⟨v8, rfl, ho8, hb8⟩
  obtain ⟨A8, c8, rfl, hw8, _, _⟩ := ws_own ho8
  have H8 := Lib.hid (H7.out.call hb8)
  have HW8 := Lib.hid (And.intro (HW7.out.bel (Bel.of hb8)) hw8)
  clear ho8 hb8 hw8
  by_cases hE : runE q = 0
  · have hEq := hE
    rw [HQE.out] at hEq
    obtain ⟨hE1, hE2⟩ := runE_app hEq
    obtain ⟨hE3, _⟩ := runE_app hE1
    obtain ⟨NN, hNN⟩ : ∃ NN, NN = n + 1 + n' := ⟨_, rfl⟩
    have hT := runT_clear hEq
    rw [← HQE.out] at hT
    have hRL : (runT q).length = NN := by rw [runT_len hE, HLA.out, hNN]
    have hR1 : (runT l).length = n := by rw [runT_len hE3, HLN.out]
    have hR2 : (runT l').length = n' := by rw [runT_len hE2, HLN'.out]
    rw [hE, hE2]
    rw [hRL] at HW8 HC7 ⊢
    rw [hR2] at HW8 ⊢
    obtain ⟨b, off, rfl, hlt, hr⟩ := HW8.out.1.2 (by omega)
    have hgo : (runT q)[n]? = some [111, 107] := by
      rw [hT, List.append_assoc, List.getElem?_append_right (by omega), hR1, Nat.sub_self]; rfl
    have cn := hr n _ hgo
    have HD := Lib.hid (show WS w8 (some ⟨b, off + (n + 1), none⟩) n' (runT l') by
      have := HW8.out.1.drop (n + 1)
      rw [show NN - (n + 1) = n' by omega] at this
      have hd : (runT q).drop (n + 1) = runT l' := by
        rw [hT, List.drop_left' (by rw [List.length_append, hR1]; rfl)]
      rwa [hd] at this)
    obtain ⟨hq0, hq1, hq2, hq3, hq5, hq6⟩ := sums n n' NN hk hNN
    have HNS := Lib.hid (show NN - (n + 1) = n' by clear hq0 hq1 hq2 hq3; omega)
    clear hNN
    have hbe : ((str [111, 107]).toList == [111, 107]) = true := by rw [ByteArray.toList_eq]; rfl
    clear hE hEq hE1 hE2 hE3 hT hRL hR1 hR2 hr hgo
    clear hq2 hq3 hk hlt
    go_wp2_with fail
    · have hz : n' = 0 := by have h1 := HC7.out; have h2 := HNS.out; clear hq0 hq1 hq5 hq6; omega
      rw [HNS.out]
      refine (eqstr_any _ _ n' 0 n' c8 (runT l') (runT l') _ ⟨HW8.out.2.1, fun h => absurd h (by rw [hz]; exact Nat.lt_irrefl 0)⟩ HW8.out.2 HNB.out).mono ?_
      rintro _ _ ⟨rfl, rfl⟩
      rw [decide_eq_true rfl]
      have H8' := H8.out
      clear hq0 hq1 hq5 hq6 hbe cn
      go_wp2
      go_ret
      exact ⟨rfl, H8'⟩
    · rw [HNS.out]
      refine (eqstr_any _ _ n' _ n' c8 (runT l') (runT l') _ HD.out HW8.out.2 HNB.out).mono ?_
      rintro _ _ ⟨rfl, rfl⟩
      rw [decide_eq_true rfl]
      have H8' := H8.out
      clear hq0 hq1 hq5 hq6 hbe cn
      go_wp2
      go_ret
      exact ⟨rfl, H8'⟩
  · obtain ⟨h1, h2⟩ := runT_bad hE
    rw [h1, h2]
    have H8' := H8.out
    clear hE
    go_wp2
    go_ret
    exact ⟨rfl, H8'⟩
set_option maxRecDepth 100000 in
theorem contract (H : Type) (enc : TypeId × Value → H) (W : World) (base : Nat) (args : Array Value) (ds gs : List (DataW H)) (before : List MemPlace)
    (hval0 : ∀ (j : Nat) t v, Tryz.f6.params[j]? = some t → args[j]? = some v → Value.okWide Tryz.prog W .any base t v)
    (hW : DataW.Whole enc Tryz.prog Tryz.f6.params.toList Rows.deskClearSpec.vars false W args.toList ds gs before)
    (hsz0 : (DataW.weightsEach Tryz.prog (Tryz.f6.params.toList ++ Rows.deskClearSpec.plain.varTypes Tryz.prog) (ds ++ gs)).all (· ≤ reachBytes) = true) (hsh : W.ShapedOpen Tryz.prog)
    (hk : Rows.uptoSmall H (ds ++ gs) = true)
    (hlaid : laidMetH Tryz.prog Rows.deskClearUptoRow.laid W) :
    Calls Tryz.prog 6 args W fun e W' => ∃ v, e = .returned v ∧ Rows.deskClearSpec.post enc Tryz.prog Tryz.f6 false true false false W args v W' := by
  have hsz := hsz0
  clear hsz0
  have hval := hval0
  have hW' := hW
  obtain ⟨p, q, hA0, hV, rfl, hfz, hnd⟩ := hW
  have hA : DataW.TrodAll enc Tryz.prog W 0 (fun _ => true) true Tryz.f6.params.toList args.toList ds p := hA0
  rw [Tryz.params6] at hA hval hsz
  obtain ⟨v0, vs0, d0, ds0, p0, q0, hargs, rfl, rfl, h0, r0⟩ := trodAll_cons hA
  obtain ⟨v1, vs1, d1, ds1, p1, q1, rfl, rfl, rfl, h1, r1⟩ := trodAll_cons r0
  obtain ⟨rfl, rfl, rfl⟩ := trodAll_nil r1
  obtain rfl : args = #[v0, v1] := by cases args; simp_all
  obtain ⟨rfl, rfl⟩ := trodVars_none hV
  have t0 := h0
  have lt0 : ∀ x ∈ p0, x.block < W.heap.size := by obtain ⟨m, hm⟩ := t0; exact DataW.trod_lt m _ _ _ hm
  have t1 := h1
  have lt1 : ∀ x ∈ p1, x.block < W.heap.size := by obtain ⟨m, hm⟩ := t1; exact DataW.trod_lt m _ _ _ hm
  obtain ⟨A0, n0, c0, l0, rfl, s0, m0, x0, g0, z0⟩ := open_strs_arg Tryz.underlying22 Tryz.underlying9 (by kernel_rfl) (hval 0 22 v0 rfl rfl) h0
  have b0 := bulk_sl z0
  obtain ⟨A1, n1, c1, l1, rfl, s1, m1, x1, g1, z1⟩ := open_strs_arg Tryz.underlying22 Tryz.underlying9 (by kernel_rfl) (hval 1 22 v1 rfl rfl) h1
  have b1 := bulk_sl z1
  clear hA0 hval0
  have hk := of_decide_eq_true hk
  simp only [Rows.uptoBulkAll, Rows.uptoBulk, List.cons_append, List.nil_append, List.append_nil] at hk
  refine (walk W A0 n0 c0 l0 s0 m0 x0 g0 A1 n1 c1 l1 s1 m1 x1 g1 (tabs5 hlaid) (by omega)).mono fun e W' ⟨he, bel⟩ => ?_
  subst he
  exact ⟨_, rfl, _, _, _, [], _, [], hW', trodAll_mk1 (shut_bool Tryz.underlying4 _), (trodAll_cons_mk (Below.trod laidOut (by kernel_rfl) (of_decide_eq_true (by kernel_rfl)) t0 bel lt0) (trodAll_cons_mk (Below.trod laidOut (by kernel_rfl) (of_decide_eq_true (by kernel_rfl)) t1 bel lt1) trodAll_mk0)), rfl, bel.frame _, fun h => by cases h⟩

theorem laid_met (os : Os) : laidMet Tryz.prog Rows.deskClearRow.laid ((doorW os).forCall (fun _ _ => 0) ⟨#[], #[.slice none 0 0, .slice none 0 0], []⟩).memory :=
  laidMet_of_run' 8 (by kernel_rfl) (by kernel_rfl)
theorem reads (os : Os) {H : Type} (enc : TypeId × Value → H) : ∃ places, DataW.whole enc Tryz.prog ((doorW os).forCall (fun _ _ => 0) ⟨#[], #[.slice none 0 0, .slice none 0 0], []⟩).memory Tryz.f6.params.toList Rows.deskClearSpec.vars false (#[.slice none 0 0, .slice none 0 0] : Array Value).toList 8 = some ([.nil, .nil], [], places) :=
  ⟨[], by kernel_rfl⟩
set_option maxRecDepth 100000 in
theorem lifted (os : Os) (started : os.Started) (H : Type) (enc : TypeId × Value → H) (F : Stop.Interp) :
    ReturnsInHanded {} Tryz.checked os 6 .any ((Rows.OpenSpec.upto Rows.deskClearSpec).preRow enc Tryz.prog Tryz.f6 Rows.deskClearUptoRow.domain false Rows.deskClearUptoRow.laid) (((Rows.OpenSpec.upto Rows.deskClearSpec).at F).post enc Tryz.prog Tryz.f6 false true false false) := by
  obtain ⟨places, hx⟩ := reads os enc
  refine returnsInHanded_of_row (C := Tryz.checked) (s := Rows.OpenSpec.upto Rows.deskClearSpec) own started (by kernel_rfl) Tryz.func6
    (witness_row_at (enc := enc) (C := Tryz.checked) false (doorW os) #[.slice none 0 0, .slice none 0 0] rfl (by kernel_rfl) (by kernel_rfl) (by kernel_rfl)
      (OpenSpec.preRow_of_cond 8 hx (by kernel_rfl) (fun k hk => by cases hk; kernel_rfl) (by kernel_rfl) (laid_met os))) ?_
  intro W base args ds gs before hval hW _ hcond hsz hlaid hsh _
  exact contract H enc W base args ds gs before hval hW hsz hsh (hcond _ rfl) hlaid

theorem said : Rows.DeskClearUptoSaid :=
  OpenClaim.holds_of_cond 6 Tryz.f6 rfl rfl rfl rfl rfl rfl rfl ⟨rfl, rfl, rfl, rfl, rfl⟩ rfl rfl rfl rfl rfl (by kernel_rfl) Tryz.func6 (by kernel_rfl)
    (of_decide_eq_true (by kernel_rfl)) (by unfold Func.isWrapper; first | (rw [if_pos (by decide +kernel)]; kernel_rfl) | (rw [if_neg (by decide +kernel)]; exact ⟨rfl, rfl⟩))
    (fun os started H enc _ F => by rw [OpenClaim.pre_eq_preRow]; exact lifted os started H enc F)
theorem plain (f : FuncId) (fn : Func) (hf : Tryz.pinned.checked.prog.funcNamed "deadheat/deadheatkeep.DeskClear" = some f) (hfn : Tryz.pinned.checked.prog.funcs[f]? = some fn) :
    true = Tryz.pinned.checked.prog.looks [] ∧ ∀ (j : Nat) t, fn.params[j]? = some t → Tryz.pinned.checked.prog.wantsStandIn t = false := by
  obtain rfl : f = 6 := Option.some.inj ((show Tryz.prog.funcNamed "deadheat/deadheatkeep.DeskClear" = some 6 by kernel_rfl).symm.trans hf) |>.symm
  obtain rfl : fn = Tryz.f6 := (Option.some.inj (Tryz.func6.symm.trans hfn)).symm
  refine ⟨by kernel_rfl, fun j t ht => ?_⟩
  rw [Tryz.params6] at ht
  have hm := Array.mem_of_getElem? ht
  have hall : (Tryz.f6.params.toList.all fun u => !Tryz.prog.wantsStandIn u) = true := by kernel_rfl
  rw [Tryz.params6] at hall
  exact (show Tryz.prog.wantsStandIn t = false by simpa using List.all_eq_true.1 hall t (by simpa using hm))
theorem proved : Rows.DeskClearUptoCardSaid :=
  Claim7.holds_tied_plain_at .later [] _ _ _ _ said (fun _ h => by cases h) (by kernel_rfl) (fun _ h => by cases h) deskClearUpto_row_tie rfl ⟨rfl, rfl⟩ (by kernel_rfl) rfl plain (by kernel_rfl)
#print axioms proved
end Go.Proofs.YtnklpifnknmdgaaGreatDoor.LDeskClear

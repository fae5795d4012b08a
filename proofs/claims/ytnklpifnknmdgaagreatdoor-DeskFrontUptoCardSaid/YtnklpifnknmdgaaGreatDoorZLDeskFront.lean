import Derived.Test.YtnklpifnknmdgaaGreatDoorZOr
import Derived.Test.YtnklpifnknmdgaaGreatDoorZCy
import Derived.Test.YtnklpifnknmdgaaGreatDoorZDkL
set_option linter.all false
set_option maxRecDepth 100000
namespace Go.Proofs.YtnklpifnknmdgaaGreatDoor.LDeskFront
open Go Go.ChangeShapes Go.WideShapes Go.ChangeAt Go.RowKit

set_option maxHeartbeats 16000000 in
theorem walk (W : World) (A : Option Addr) (n c : Nat) (l : List Wd) (s : WS W A n l) (m : n ≤ c) (x : c ≤ maxLen) (g : ∀ x ∈ l, x.length ≤ maxLen) (A' : Option Addr) (n' c' : Nat) (l' : List Wd) (s' : WS W A' n' l') (m' : n' ≤ c') (x' : c' ≤ maxLen) (g' : ∀ x ∈ l', x.length ≤ maxLen) (ht : Tabs W) (hk : n + n' ≤ 1048576) :
    Calls Tryz.prog 4 #[.slice A n c, .slice A' n' c'] W fun e w' => e = .returned (.bool true) ∧ Below W.heap.size W w' := by
  have HL := Lib.hid s
  have HL' := Lib.hid s'
  have HG := Lib.hid g
  have HGG := Lib.hid (show ∀ x ∈ l ++ l', x.length ≤ maxLen from fun x hx => (List.mem_append.1 hx).elim (g x) (g' x))
  have HT := Lib.hid ht
  have HLN := Lib.hid s.1
  have HLN' := Lib.hid s'.1
  obtain ⟨hs1, hs2⟩ := run_five
  have HS1 := Lib.hid hs1
  have H0 := Lib.hid ((Bel.refl W).alloc (.cells #[.string ⟨#[116, 48, 32, 102, 111, 114, 107, 32, 116, 49]⟩, .string ⟨#[116, 48, 32, 119, 114, 105, 116, 101, 32, 120, 48]⟩, .string ⟨#[116, 49, 32, 119, 114, 105, 116, 101, 32, 120, 48]⟩, .string ⟨#[114, 97, 99, 101, 115]⟩, .string ⟨#[119, 104, 97, 116]⟩] 9))
  have HW0 := Lib.hid (ws_lit (xs := fiveL) (Box.new W #[.string ⟨#[116, 48, 32, 102, 111, 114, 107, 32, 116, 49]⟩, .string ⟨#[116, 48, 32, 119, 114, 105, 116, 101, 32, 120, 48]⟩, .string ⟨#[116, 49, 32, 119, 114, 105, 116, 101, 32, 120, 48]⟩, .string ⟨#[114, 97, 99, 101, 115]⟩, .string ⟨#[119, 104, 97, 116]⟩] 9))
  have HF5 := Lib.hid (show ∀ x ∈ fiveL, x.length ≤ maxLen by unfold maxLen; decide)
  have HM5 := Lib.hid (show 5 ≤ maxLen by unfold maxLen; omega)
  have HNM := Lib.hid (show n ≤ maxLen by unfold maxLen; omega)
  have HNN := Lib.hid (show n + n' ≤ maxLen by unfold maxLen; omega)
  clear s m x g s' m' x' g' ht hs1
  go_enter Tryz.func4, Tryz.ntmps4
  go_wp2_with fail
  refine (drun_any _ 5 5 fiveL _ HW0.out HF5.out HM5.out (HT.out.bel H0.out)).mono ?_
  rintro e1 w1 ⟨v1, rfl, ho1, hb1⟩
  rw [hs2]
  rw [HS1.out] at ho1
  obtain ⟨A1, c1, rfl, hw1, _, _⟩ := ws_own ho1
  have H1 := Lib.hid (H0.out.call hb1)
  have H1b := Lib.hid ((Bel.refl w1).alloc (.cells #[.string ⟨#[111, 107]⟩, .string ⟨#[111, 107]⟩, .string ⟨#[111, 107]⟩, .string ⟨#[49, 45, 50]⟩, .string ⟨#[101, 114, 114, 111, 114, 32, 51]⟩] 9))
  have HW1 := Lib.hid (hw1.bel H1b.out)
  have HWB := Lib.hid (ws_lit (xs := fiveO) (Box.new w1 #[.string ⟨#[111, 107]⟩, .string ⟨#[111, 107]⟩, .string ⟨#[111, 107]⟩, .string ⟨#[49, 45, 50]⟩, .string ⟨#[101, 114, 114, 111, 114, 32, 51]⟩] 9))
  clear ho1 hb1 hw1 hs2
  go_wp2_with fail
  refine (eqstr_any _ _ 5 c1 5 5 fiveO fiveO _ HW1.out HWB.out HM5.out).mono ?_
  rintro _ _ ⟨rfl, rfl⟩
  rw [decide_eq_true rfl]
  have H2 := Lib.hid (H1.out.trans H1b.out)
  generalize w1.alloc (.cells #[.string ⟨#[111, 107]⟩, .string ⟨#[111, 107]⟩, .string ⟨#[111, 107]⟩, .string ⟨#[49, 45, 50]⟩, .string ⟨#[101, 114, 114, 111, 114, 32, 51]⟩] 9) = w2 at *
  clear H0 HW0 HW1 HWB H1b
  go_wp2_with fail
  refine (drun_any A n c l _ (HL.out.bel H2.out) HG.out HNM.out (HT.out.bel H2.out)).mono ?_
  rintro e3 w3 ⟨v3, rfl, ho3, hb3⟩
  obtain ⟨A3, c3, rfl, hw3, hn3, hm3⟩ := ws_own ho3
  have H3 := Lib.hid (H2.out.call hb3)
  have HW3 := Lib.hid hw3
  have HC3 := Lib.hid (And.intro hn3 hm3)
  obtain ⟨i0, hi0, hz0, hz1, hz2⟩ := info_parts str_info
  have J := Lib.hid (And.intro hi0 (And.intro hz0 (And.intro hz1 hz2)))
  have HL3 := Lib.hid (HL.out.bel H3.out).src
  have HLL3 := Lib.hid (show (sts l).length = n * 1 by rw [List.length_map, HLN.out, Nat.mul_one])
  have HLL3' := Lib.hid (show (sts l').length = n' * 1 by rw [List.length_map, HLN'.out, Nat.mul_one])
  clear ho3 hb3 hw3 hn3 hm3 hi0 hz0 hz1 hz2
  generalize hrl : (runT l).length = rl at *
  have HRL := Lib.hid hrl
  clear hrl
  go_wp2_with (first
    | (at_builtin; refine wpList_append_src rfl (.const (.slice none 0 0)) (.tmp 30) _ rfl w3.heap.size 9 i0 _ 1 16 Tryz.underlying22 J.out.1 J.out.2.1 J.out.2.2.1 J.out.2.2.2 rfl (by omega) (.slice none 0 0) 0 [] rfl (World.ownsRow_nil _ _ _ _) A n c (sts l) rfl HLL3.out HL3.out (sts_one l) (by have := HNM.out; omega) (by omega) (Nat.le_refl _) ?_; intro v4 w4 hown4 hg4 hat4
       have H4 := Lib.hid (show Bel w3 w4 from Bel.of (grown_below (v := .slice none 0 0) hg4 (World.ownsRow_nil w3 w3.heap.size 9 1) (Nat.le_refl _) (Nat.le_refl _)))
       have HO4 := Lib.hid hown4
       have HL4 := Lib.hid ((HL'.out.bel (H3.out.trans H4.out)).src)
       clear hown4 hg4 hat4)
    | (at_builtin; refine wpList_append_src rfl (.tmp 31) (.tmp 32) _ rfl w3.heap.size 9 i0 _ 1 16 Tryz.underlying22 J.out.1 J.out.2.1 J.out.2.2.1 J.out.2.2.2 rfl (by omega) _ (0 + n) ([] ++ sts l) rfl HO4.out A' n' c' (sts l') rfl HLL3'.out HL4.out (sts_one l') (by have := HNN.out; omega) (by omega) H4.out.size ?_; intro v5 w5 hown5 hg5 hat5
       have H5 := Lib.hid (show Bel w3 w5 from Bel.of (H4.out.out.trans (grown_below hg5 HO4.out (Nat.le_refl _) H4.out.size)))
       have HO5 := Lib.hid hown5
       clear hown5 hg5 hat5))
  have HA5 := Lib.hid (show w5.ownsRow w3.heap.size 9 1 v5 (l ++ l').length (sts (l ++ l')) by
    have := HO5.out
    rw [List.nil_append, ← sts_app] at this
    rwa [show 0 + n + n' = (l ++ l').length by rw [List.length_append, HLN.out, HLN'.out]; omega] at this)
  obtain ⟨A5, c5, rfl, hw5, hn5, hm5⟩ := ws_own HA5.out
  have HW5 := Lib.hid hw5
  have HLA := Lib.hid (show (l ++ l').length = n + n' by rw [List.length_append, HLN.out, HLN'.out])
  have HW35 := Lib.hid (HW3.out.bel H5.out)
  clear hw5 hn5 hm5
  refine (drun_any A5 _ c5 (l ++ l') _ HW5.out HGG.out (by rw [HLA.out]; exact HNN.out) (HT.out.bel (H3.out.trans H5.out))).mono ?_
  rintro e6 w6 ⟨v6, rfl, ho6, hb6⟩
  obtain ⟨A6, c6, rfl, hw6, hn6, hm6⟩ := ws_own ho6
  have H6 := Lib.hid ((H3.out.trans H5.out).call hb6)
  have HW6 := Lib.hid (And.intro (HW35.out.bel (Bel.of hb6)) hw6)
  have HC6 := Lib.hid (And.intro hn6 hm6)
  clear ho6 hb6 hw6 hn6 hm6
  by_cases hE : runE (l ++ l') = 0
  · obtain ⟨hE1, _⟩ := runE_app hE
    obtain ⟨r, hr, hrl⟩ := runT_app hE
    have hrn : rl = n := by rw [← HRL.out, runT_len hE1, HLN.out]
    have hRL2 : (runT (l ++ l')).length = n + n' := by rw [runT_len hE, HLA.out]
    rw [hE, hE1]
    subst hrn
    have HQ := Lib.hid (show (runT (l ++ l')).take rl = runT l by rw [hr, List.take_left' HRL.out])
    have HW6b := Lib.hid (show WS w6 A6 rl (runT l) by rw [← HQ.out]; exact HW6.out.2.take (by rw [hRL2]; omega))
    rw [hRL2] at HC6 ⊢
    have hq1 : IntKind.i64.wrap ((rl : Int) + (n' : Int)) = (((rl + n' : Nat)) : Int) := by rw [IntWalk.i64_in _ (by omega)]; omega
    have hq2 : wrap64 ((rl : Int) + (n' : Int)) = (((rl + n' : Nat)) : Int) := by unfold wrap64; omega
    have hq3 : (((rl + n' : Nat) : Int) == ((rl + n' : Nat) : Int)) = true := by simp
    have hq4 : (rl : Int) ≤ (c6 : Int) := Int.ofNat_le.2 (Nat.le_trans (Nat.le_add_right _ _) HC6.out.1)
    clear hE hE1 hr hRL2
    go_wp2_with fail
    refine (eqstr_any _ _ rl c3 rl c6 (runT l) (runT l) _ HW6.out.1 HW6b.out HNM.out).mono ?_
    rintro _ _ ⟨rfl, rfl⟩
    rw [decide_eq_true rfl]
    go_wp2
    go_ret
    exact ⟨rfl, H6.out⟩
  · obtain ⟨h1, h2⟩ := runT_bad hE
    rw [h1, h2]
    have H6' := H6.out
    clear hE
    go_wp2
    go_ret
    exact ⟨rfl, H6'⟩
set_option maxRecDepth 100000 in
theorem contract (H : Type) (enc : TypeId × Value → H) (W : World) (base : Nat) (args : Array Value) (ds gs : List (DataW H)) (before : List MemPlace)
    (hval0 : ∀ (j : Nat) t v, Tryz.f4.params[j]? = some t → args[j]? = some v → Value.okWide Tryz.prog W .any base t v)
    (hW : DataW.Whole enc Tryz.prog Tryz.f4.params.toList Rows.deskFrontSpec.vars false W args.toList ds gs before)
    (hsz0 : (DataW.weightsEach Tryz.prog (Tryz.f4.params.toList ++ Rows.deskFrontSpec.plain.varTypes Tryz.prog) (ds ++ gs)).all (· ≤ reachBytes) = true) (hsh : W.ShapedOpen Tryz.prog)
    (hk : Rows.uptoSmall H (ds ++ gs) = true)
    (hlaid : laidMetH Tryz.prog Rows.deskFrontUptoRow.laid W) :
    Calls Tryz.prog 4 args W fun e W' => ∃ v, e = .returned v ∧ Rows.deskFrontSpec.post enc Tryz.prog Tryz.f4 false true false false W args v W' := by
  have hsz := hsz0
  clear hsz0
  have hval := hval0
  have hW' := hW
  obtain ⟨p, q, hA0, hV, rfl, hfz, hnd⟩ := hW
  have hA : DataW.TrodAll enc Tryz.prog W 0 (fun _ => true) true Tryz.f4.params.toList args.toList ds p := hA0
  rw [Tryz.params4] at hA hval hsz
  obtain ⟨v0, vs0, d0, ds0, p0, q0, hargs, rfl, rfl, h0, r0⟩ := trodAll_cons hA
  obtain ⟨v1, vs1, d1, ds1, p1, q1, rfl, rfl, rfl, h1, r1⟩ := trodAll_cons r0
  obtain ⟨rfl, rfl, rfl⟩ := trodAll_nil r1
  obtain rfl : args = #[v0, v1] := by cases args; simp_all
  obtain ⟨rfl, rfl⟩ := trodVars_none hV
  have t0 := h0
  have lt0 : ∀ x ∈ p0, x.block < W.heap.size := by obtain ⟨m, hm⟩ := t0; exact DataW.trod_lt m _ _ _ hm
  have t1 := h1
  have lt1 : ∀ x ∈ p1, x.block < W.heap.size := by obtain ⟨m, hm⟩ := t1; exact DataW.trod_lt m _ _ _ hm
  obtain ⟨A0, n0, c0, l0, rfl, s0, m0, x0, g0, z0⟩ := open_strs_arg Tryz.underlying22 Tryz.underlying9 (by kernel_rfl) (hval 0 22 v0 rfl rfl) h0
  have b0 := bulk_sl z0
  obtain ⟨A1, n1, c1, l1, rfl, s1, m1, x1, g1, z1⟩ := open_strs_arg Tryz.underlying22 Tryz.underlying9 (by kernel_rfl) (hval 1 22 v1 rfl rfl) h1
  have b1 := bulk_sl z1
  clear hA0 hval0
  have hk := of_decide_eq_true hk
  simp only [Rows.uptoBulkAll, Rows.uptoBulk, List.cons_append, List.nil_append, List.append_nil] at hk
  refine (walk W A0 n0 c0 l0 s0 m0 x0 g0 A1 n1 c1 l1 s1 m1 x1 g1 (tabs5 hlaid) (by omega)).mono fun e W' ⟨he, bel⟩ => ?_
  subst he
  exact ⟨_, rfl, _, _, _, [], _, [], hW', trodAll_mk1 (shut_bool Tryz.underlying4 _), (trodAll_cons_mk (Below.trod laidOut (by kernel_rfl) (of_decide_eq_true (by kernel_rfl)) t0 bel lt0) (trodAll_cons_mk (Below.trod laidOut (by kernel_rfl) (of_decide_eq_true (by kernel_rfl)) t1 bel lt1) trodAll_mk0)), rfl, bel.frame _, fun h => by cases h⟩

theorem laid_met (os : Os) : laidMet Tryz.prog Rows.deskFrontRow.laid ((doorW os).forCall (fun _ _ => 0) ⟨#[], #[.slice none 0 0, .slice none 0 0], []⟩).memory :=
  laidMet_of_run' 8 (by kernel_rfl) (by kernel_rfl)
theorem reads (os : Os) {H : Type} (enc : TypeId × Value → H) : ∃ places, DataW.whole enc Tryz.prog ((doorW os).forCall (fun _ _ => 0) ⟨#[], #[.slice none 0 0, .slice none 0 0], []⟩).memory Tryz.f4.params.toList Rows.deskFrontSpec.vars false (#[.slice none 0 0, .slice none 0 0] : Array Value).toList 8 = some ([.nil, .nil], [], places) :=
  ⟨[], by kernel_rfl⟩
set_option maxRecDepth 100000 in
theorem lifted (os : Os) (started : os.Started) (H : Type) (enc : TypeId × Value → H) (F : Stop.Interp) :
    ReturnsInHanded {} Tryz.checked os 4 .any ((Rows.OpenSpec.upto Rows.deskFrontSpec).preRow enc Tryz.prog Tryz.f4 Rows.deskFrontUptoRow.domain false Rows.deskFrontUptoRow.laid) (((Rows.OpenSpec.upto Rows.deskFrontSpec).at F).post enc Tryz.prog Tryz.f4 false true false false) := by
  obtain ⟨places, hx⟩ := reads os enc
  refine returnsInHanded_of_row (C := Tryz.checked) (s := Rows.OpenSpec.upto Rows.deskFrontSpec) own started (by kernel_rfl) Tryz.func4
    (witness_row_at (enc := enc) (C := Tryz.checked) false (doorW os) #[.slice none 0 0, .slice none 0 0] rfl (by kernel_rfl) (by kernel_rfl) (by kernel_rfl)
      (OpenSpec.preRow_of_cond 8 hx (by kernel_rfl) (fun k hk => by cases hk; kernel_rfl) (by kernel_rfl) (laid_met os))) ?_
  intro W base args ds gs before hval hW _ hcond hsz hlaid hsh _
  exact contract H enc W base args ds gs before hval hW hsz hsh (hcond _ rfl) hlaid

theorem said : Rows.DeskFrontUptoSaid :=
  OpenClaim.holds_of_cond 4 Tryz.f4 rfl rfl rfl rfl rfl rfl rfl ⟨rfl, rfl, rfl, rfl, rfl⟩ rfl rfl rfl rfl rfl (by kernel_rfl) Tryz.func4 (by kernel_rfl)
    (of_decide_eq_true (by kernel_rfl)) (by unfold Func.isWrapper; first | (rw [if_pos (by decide +kernel)]; kernel_rfl) | (rw [if_neg (by decide +kernel)]; exact ⟨rfl, rfl⟩))
    (fun os started H enc _ F => by rw [OpenClaim.pre_eq_preRow]; exact lifted os started H enc F)
theorem plain (f : FuncId) (fn : Func) (hf : Tryz.pinned.checked.prog.funcNamed "deadheat/deadheatkeep.DeskFront" = some f) (hfn : Tryz.pinned.checked.prog.funcs[f]? = some fn) :
    true = Tryz.pinned.checked.prog.looks [] ∧ ∀ (j : Nat) t, fn.params[j]? = some t → Tryz.pinned.checked.prog.wantsStandIn t = false := by
  obtain rfl : f = 4 := Option.some.inj ((show Tryz.prog.funcNamed "deadheat/deadheatkeep.DeskFront" = some 4 by kernel_rfl).symm.trans hf) |>.symm
  obtain rfl : fn = Tryz.f4 := (Option.some.inj (Tryz.func4.symm.trans hfn)).symm
  refine ⟨by kernel_rfl, fun j t ht => ?_⟩
  rw [Tryz.params4] at ht
  have hm := Array.mem_of_getElem? ht
  have hall : (Tryz.f4.params.toList.all fun u => !Tryz.prog.wantsStandIn u) = true := by kernel_rfl
  rw [Tryz.params4] at hall
  exact (show Tryz.prog.wantsStandIn t = false by simpa using List.all_eq_true.1 hall t (by simpa using hm))
theorem proved : Rows.DeskFrontUptoCardSaid :=
  Claim7.holds_tied_plain_at .later [] _ _ _ _ said (fun _ h => by cases h) (by kernel_rfl) (fun _ h => by cases h) deskFrontUpto_row_tie rfl ⟨rfl, rfl⟩ (by kernel_rfl) rfl plain (by kernel_rfl)
#print axioms proved
end Go.Proofs.YtnklpifnknmdgaaGreatDoor.LDeskFront

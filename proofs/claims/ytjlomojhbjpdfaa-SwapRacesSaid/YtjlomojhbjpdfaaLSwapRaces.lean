/- 'deadheatkeep.SwapRaces' returns true for every input and leaves its arguments as they are. No condition. -/
import Derived.Test.YtjlomojhbjpdfaaOpen
import Derived.Test.YtjlomojhbjpdfaaAll
import Derived.Test.YtjlomojhbjpdfaaSwS
import Derived.Test.YtjlomojhbjpdfaaKeepSw
import Derived.Test.YtjlomojhbjpdfaaKeepTr2
import Derived.Test.YtjlomojhbjpdfaaHasRc
set_option linter.all false
set_option maxRecDepth 100000
namespace Go.Proofs.Ytjlomojhbjpdfaa.LSwapRaces
open Go Go.ChangeShapes Go.WideShapes Go.ChangeAt Go.RowKit

def AllPost' (w : World) (l : List Ev) (e : Ending) (w' : World) : Prop :=
  ∃ v, e = .returned (.tuple #[v, .int .i64 (may l)]) ∧ w'.ownsRow w.heap.size 56 4 v (rcs l).length (rcc (rcs l)) ∧ Below w.heap.size w w'
def AllC : Prop := ∀ (A : Option Addr) (n c : Nat) (l : List Ev) (w : World), Sl w A n l → may l = 0 → Calls Try.prog 32 #[.slice A n c] w (AllPost' w l)
theorem all_c : AllC := fun A n c l w h hm => all_ok A n c l w h hm
theorem rcs_at {i : Nat} {l r : List Ev} (h : SwAt i l r) {x : Rc} (hx : x ∈ rcsA l) : (⟨tr i x.a, tr i x.b, x.v, x.k⟩ : Rc) ∈ rcsA r := by
  unfold rcsA at hx
  obtain ⟨⟨a, b⟩, hp, rfl⟩ := List.mem_map.1 hx
  obtain ⟨h1, h2, h3⟩ := mem_prsA.1 hp
  refine List.mem_map.2 ⟨(tr i a, tr i b), mem_prsA.2 ⟨h.tr_len h1, h.tr_len h2, ?_⟩, ?_⟩
  · show racB r (tr i a) (tr i b) = true
    rw [h.rac h2]; exact h3
  · unfold rcOf
    simp only [h.evZ]
theorem tr2_any (I i k : Nat) (w : World) (hc : w.cell? ⟨I, 0, none⟩ = some (.int .i64 (i : Nat))) (hi : i ≤ 1000) : Calls Try.prog 33 #[.int .i64 (k : Nat), .pointer (some ⟨I, 0, none⟩)] w fun e w' => e = .returned (.int .i64 (tr i k : Nat)) ∧ w = w' := by
  have hw : IntKind.i64.wrap ((i : Int) + 1) = (i : Int) + 1 := IntWalk.i64_in _ (by omega)
  go_enter Try.func33, Try.ntmps33
  by_cases h1 : k = i
  · have h1' : ((k : Int) == (i : Int)) = true := by simp; omega
    have HT := Lib.hid (show tr i k = i + 1 by unfold tr; rw [if_pos h1])
    clear h1
    go_wp2
    go_ret
    exact ⟨by rw [HT.out]; rfl, rfl⟩
  · have h1' : ((k : Int) == (i : Int)) = false := by simp; omega
    by_cases h2 : k = i + 1
    · have h2' : ((k : Int) == (i : Int) + 1) = true := by simp; omega
      have HT := Lib.hid (show tr i k = i by unfold tr; rw [if_neg h1, if_pos h2])
      clear h1 h2
      go_wp2
      go_ret
      exact ⟨by rw [HT.out]; rfl, rfl⟩
    · have h2' : ((k : Int) == (i : Int) + 1) = false := by simp; omega
      have HT := Lib.hid (show tr i k = k by unfold tr; rw [if_neg h1, if_neg h2])
      clear h1 h2
      go_wp2
      go_ret
      exact ⟨by rw [HT.out]; rfl, rfl⟩
set_option maxHeartbeats 8000000 in
theorem walkH (HS : SwapC) (HA : ApartC) (HAll : AllC) (W : World) (A : Option Addr) (n c : Nat) (l : List Ev) (s : Sl W A n l) (m : n ≤ c) (x : c ≤ maxLen) (_g : ∀ e ∈ l, EvOk e) (i : Int) (ki : In64 i) :
    Calls Try.prog 10 #[.slice A n c, .int .i64 i] W fun e w' => e = .returned (.bool true) ∧ Below W.heap.size W w' := by
  have HSW := Lib.hid (fun w => swapped_any HS HA w)
  have HSC := Lib.hid HS
  have HAL := Lib.hid HAll
  have HB0 := Lib.hid ((Bel.refl W).alloc (.cells #[.int .i64 i] 3))
  have HX := Lib.hid (Box.new W #[Value.int .i64 i] 3)
  have HL := Lib.hid (s.bel HB0.out)
  have HMX := Lib.hid (And.intro m x)
  have HK := Lib.hid ki
  clear s m x HS HA ki HAll
  go_enter Try.func10, Try.ntmps10
  go_wp2_with fail
  generalize W.alloc (.cells #[.int .i64 i] 3) = W0 at *
  generalize hI : W.heap.size = I at *
  have HI := Lib.hid hI
  clear hI
  refine (HSW.out _).mono ?_
  rintro e w1 ⟨rfl, hb1⟩
  have HB1 := Lib.hid (Bel.of hb1)
  have ci := (HB1.out.box HX.out).cell 0 (v := .int .i64 i) rfl
  clear hb1
  go_wp2_with fail
  refine (HSC.out A n c l i w1 (HL.out.bel HB1.out) HMX.out.1 HMX.out.2 HK.out).mono ?_
  rintro e w2 ⟨r, cc, hB, A2, n2, d2, rfl, hs2, hn2, hd2, hb2⟩
  have HB2 := Lib.hid (HB1.out.call hb2)
  clear ci
  by_cases hcc : cc = 0
  · obtain ⟨hm, k, hik, hat⟩ := swB_ok hB hcc
    subst hcc; subst hik
    have HM := Lib.hid hm
    have HMR := Lib.hid (hat.sw.may hm)
    have hk80 : k ≤ 80 := by have := hat.lt; have := ((may_iff l).1 hm).1; omega
    have HAT := Lib.hid (fun (x : Rc) (hx : x ∈ rcsA l) => rcs_at hat hx)
    have HE1 := Lib.hid (rcs_ok hm)
    have HE2 := Lib.hid (rcs_ok (hat.sw.may hm))
    have HLN := Lib.hid hat.rac_len
    have HN := Lib.hid (show (rcsA l).length ≤ 6480 by unfold rcsA; rw [List.length_map]; exact prs_small ((may_iff l).1 hm).1 (Nat.le_refl _) (Nat.zero_le _))
    have HS2 := Lib.hid hs2
    clear hB hs2 hn2 hd2 hb2 hat hm
    go_wp2_with fail
    refine (HAL.out A n c l w2 (HL.out.bel HB2.out) HM.out).mono ?_
    rintro e w3 ⟨v3, rfl, ho3, hb3⟩
    rw [HM.out]
    rw [HE1.out] at ho3
    obtain ⟨A3, c3, rfl, hs3, hn3, hm3⟩ := SlR.own ho3
    have HB3 := Lib.hid (HB2.out.call hb3)
    have HS3 := Lib.hid hs3
    clear ho3 hs3
    go_wp2_with fail
    refine (HAL.out A2 n2 d2 r w3 (HS2.out.bel (Bel.of hb3)) HMR.out).mono ?_
    rintro e w4 ⟨v4, rfl, ho4, hb4⟩
    rw [HMR.out]
    rw [HE2.out] at ho4
    obtain ⟨A4, c4, rfl, hs4, hn4, hm4⟩ := SlR.own ho4
    rw [HLN.out] at *
    have HP := Lib.hid (SlR.bel HS3.out (Bel.of hb4))
    have HQ := Lib.hid hs4
    have HB4 := Lib.hid (HB3.out.call hb4)
    have hN := HN.out
    clear hb3 ho4 hs4 hb4 hn4 hm4 HS3 HE1 HE2
    generalize (rcsA l).length = np at *
    generalize rcsA l = ps at *
    generalize rcsA r = qs at *
    unfold maxLen at hm3
    go_wp2
    go_loopw [50] (fun t wr => ∃ j : Nat, j ≤ np ∧ t = .int .i64 j ∧ Bel w4 wr) (fun t _ => np - (intOf t).toNat)
    case atStart => exact ⟨0, by omega, rfl, Bel.refl _⟩
    case round =>
      obtain ⟨j, hj, rfl, hbr⟩ := hrel
      have HB := Lib.hid hbr
      clear hbr
      by_cases hlt : j < np
      · obtain ⟨b, o, e, rfl, hbb, he, hrg⟩ := (HP.out.bel HB.out).at_ hlt
        have hin := HAT.out e (List.mem_of_getElem? he)
        have hlt' : (j : Int) < np := by omega
        have hic : (j : Int) ≤ c3 := by omega
        have hR := Lib.hid hrg
        have HX1 := Lib.hid (rwld_box wr e 56)
        have HBW := Lib.hid (HB.out.trans (rwld_below wr e 56))
        have c0 := HX1.out.cell 0 (v := .int .i64 e.a) rfl
        have c1 := HX1.out.cell 1 (v := .int .i64 e.b) rfl
        have g0 := HX1.out.frozen 0
        have g1 := HX1.out.frozen 1
        have HT := Lib.hid (show ∀ (q : Nat) (w' : World), Bel (rwld wr e 56) w' → Calls Try.prog 33 #[.int .i64 (q : Nat), .pointer (some ⟨I, 0, none⟩)] w' fun e w2 => e = .returned (.int .i64 (tr k q : Nat)) ∧ w2 = w' from fun q w' h =>
          (tr2_any I k q w' ((((HB4.out.trans HBW.out).trans h).box HX.out).cell 0 rfl) (by omega)).mono fun e w2 ⟨h1, h2⟩ => ⟨h1, h2.symm⟩)
        have HIN := Lib.hid (decide_eq_true hin)
        have HWX := Lib.hid (show wr.heap.size ≥ w4.heap.size from HB.out.size)
        clear hrg he hbb hin
        go_wp2_with (first | (refine load_rc TRc _ rfl rfl rfl hR.out ?_) | (refine rwld_store TRc _ _ rfl rfl _ rfl rfl rfl ?_))
        generalize rwld wr e 56 = wx at *
        generalize wr.heap.size = X at *
        (refine wp_region_still_tail 9 (by kernel_rfl) (by kernel_rfl) ?_; simp only [List.take_succ_cons, List.take_zero, List.drop_succ_cons, List.drop_zero]; (repeat (first | ((with_reducible refine s_skip ?_ ?_); exact rfl; simp only [Act.put, Act.eval, List.setIfInBounds_toArray, List.set_cons_zero, List.set_cons_succ, Array.getD_eq_getD_getElem?, List.getElem?_toArray, List.getElem?_cons_zero, List.getElem?_cons_succ, Option.getD_some]) | ((with_reducible refine wpStill_step ?_); intro K hK; go_simp; (with_reducible refine hK _ ?_); clear hK K) | (((with_reducible refine wpStill_step ?_); intro K hK; go_simp; (with_reducible refine ⟨_, HT.out e.a _ (Bel.refl _).drew, hK _ ?_⟩); clear hK K); try simp only [Act.put, Act.eval, List.setIfInBounds_toArray, List.set_cons_zero, List.set_cons_succ, Array.getD_eq_getD_getElem?, List.getElem?_toArray, List.getElem?_cons_zero, List.getElem?_cons_succ, Option.getD_some]) | (((with_reducible refine wpStill_step ?_); intro K hK; go_simp; (with_reducible refine ⟨_, HT.out e.b _ (Bel.refl _).drew, hK _ ?_⟩); clear hK K); try simp only [Act.put, Act.eval, List.setIfInBounds_toArray, List.set_cons_zero, List.set_cons_succ, Array.getD_eq_getD_getElem?, List.getElem?_toArray, List.getElem?_cons_zero, List.getElem?_cons_succ, Option.getD_some]))); (with_reducible refine wpStill_nil ?_))
        change wpList _ _ _ _ _ wx.drew
        have HX2 := Lib.hid (show Box ((wx.drew.setCell ⟨X, 0, none⟩ (.int .i64 (tr k e.a : Nat))).setCell ⟨X, 1, none⟩ (.int .i64 (tr k e.b : Nat))) X (rcv ⟨tr k e.a, tr k e.b, e.v, e.k⟩) 56 from
          Box.set (Box.set (Box.bel HX1.out (Bel.refl _).drew) 0 (.int .i64 (tr k e.a : Nat))) 1 (.int .i64 (tr k e.b : Nat)))
        have HB9 := Lib.hid (show Bel w4 ((wx.drew.setCell ⟨X, 0, none⟩ (.int .i64 (tr k e.a : Nat))).setCell ⟨X, 1, none⟩ (.int .i64 (tr k e.b : Nat))) from
          Bel.of (((HBW.out.trans (Bel.refl _).drew).out.setCell (by have := HWX.out; simp; omega) _).setCell (by have := HWX.out; simp; omega) _))
        go_wp2_with (refine loadB _ _ rfl rfl rfl HX2.out TRc ?_)
        refine (hasrc_any A4 np c4 qs ⟨tr k e.a, tr k e.b, e.v, e.k⟩ _ (HQ.out.bel HB9.out) (by omega)).mono ?_
        rintro e9 w9 ⟨rfl, hb9⟩
        rw [HIN.out]
        have HB10 := Lib.hid (HB9.out.call hb9)
        clear hb9
        go_wp2
        go_roundw
        case rel => exact ⟨j + 1, by omega, by go_num, HB10.out⟩
        case measure => simp [intOf]; omega
      · obtain rfl : j = np := by omega
        go_wp2
        go_ret
        exact ⟨rfl, HI.out ▸ (HB0.out.trans (HB4.out.trans HB.out)).out⟩
  · have hcc' : (cc != 0) = true := by simpa using hcc
    clear hB hs2 hn2 hd2 hb2
    go_wp2
    go_ret
    exact ⟨rfl, HI.out ▸ (HB0.out.trans HB2.out).out⟩
theorem walk (W : World) (A : Option Addr) (n c : Nat) (l : List Ev) (s : Sl W A n l) (m : n ≤ c) (x : c ≤ maxLen) (g : ∀ e ∈ l, EvOk e) (i : Int) (ki : In64 i) :
    Calls Try.prog 10 #[.slice A n c, .int .i64 i] W fun e w' => e = .returned (.bool true) ∧ Below W.heap.size W w' := walkH swap_any apart_any all_c W A n c l s m x g i ki
set_option maxRecDepth 100000 in
theorem lifted (os : Os) (started : os.Started) (H : Type) (enc : TypeId × Value → H) :
    ReturnsInHanded {} Try.checked os 10 .any (Rows.swapRacesSpec.pre6 enc Try.prog Try.f10 Rows.swapRacesRow.domain false) (Rows.swapRacesSpec.post enc Try.prog Try.f10 false true false false) := by
  refine returnsInHanded_of_change_sized (C := Try.checked) own started (by kernel_rfl) Try.func10
    (ChangeSpec.witness6 (enc := enc) (C := Try.checked) false ⟨#[], #[.slice none 0 0, .int .i64 0], []⟩ 8 (by kernel_rfl) (by kernel_rfl) (by kernel_rfl) (by kernel_rfl)) ?_
  intro W base args ds gs before hval0 hW hcnd hsz0 _
  have hsz : (DataW.weightsEach Try.prog (Try.f10.params.toList ++ Rows.swapRacesSpec.plain.varTypes Try.prog) (ds ++ gs)).all (· ≤ reachBytes) = true := hsz0
  clear hsz0
  have hval : ∀ (j : Nat) t v, Try.f10.params[j]? = some t → args[j]? = some v → Value.okWide Try.prog W .any base t v := hval0
  have hW' := hW
  obtain ⟨p, q, hA0, hV, rfl, hfz, hnd⟩ := hW
  have hA : DataW.TrodAll enc Try.prog W 0 (fun _ => true) true Try.f10.params.toList args.toList ds p := hA0
  rw [Try.params10] at hA hval hsz
  obtain ⟨v0, vs0, d0, ds0, p0, q0, hargs, rfl, rfl, h0, r0⟩ := trodAll_cons hA
  obtain ⟨v1, vs1, d1, ds1, p1, q1, rfl, rfl, rfl, h1, r1⟩ := trodAll_cons r0
  obtain ⟨rfl, rfl, rfl⟩ := trodAll_nil r1
  obtain rfl : args = #[v0, v1] := by cases args; simp_all
  obtain ⟨rfl, rfl⟩ := trodVars_none hV
  have t0 := h0
  have lt0 : ∀ x ∈ p0, x.block < W.heap.size := by obtain ⟨m, hm⟩ := t0; exact DataW.trod_lt m _ _ _ hm
  have t1 := h1
  have lt1 : ∀ x ∈ p1, x.block < W.heap.size := by obtain ⟨m, hm⟩ := t1; exact DataW.trod_lt m _ _ _ hm
  obtain ⟨A0, n0, c0, l0, rfl, s0, m0, x0, g0, z0⟩ := open_evs Try.underlying25 Try.underlying23 ⟨rfl, rfl, rfl⟩ (by kernel_rfl) (by kernel_rfl) Try.underlying3 (hval 0 25 v0 rfl rfl) h0
  have y0 := reach_sl hsz (j := 0) rfl rfl Try.underlying25 (b := 24) (by kernel_rfl) z0
  obtain ⟨a1, rfl, _, _, x1⟩ := open_int Try.underlying3 (hval 1 3 v1 rfl rfl) h1
  have k1 := in64_of x1
  clear hA0 hval0
  refine (walk W A0 n0 c0 l0 s0 m0 x0 g0 a1 k1).mono fun e W' ⟨he, bel⟩ => ?_
  subst he
  exact ⟨_, rfl, _, _, _, [], _, [], hW', trodAll_mk1 (shut_bool Try.underlying4 _), (trodAll_cons_mk (Below.trod laidOut (by kernel_rfl) (of_decide_eq_true (by kernel_rfl)) t0 bel lt0) (trodAll_cons_mk (Below.trod laidOut (by kernel_rfl) (of_decide_eq_true (by kernel_rfl)) t1 bel lt1) trodAll_mk0)), rfl, bel.frame _, fun h => by cases h⟩

theorem over : Rows.swapRacesRow.holds Try.pinned (OpenSpec.ofChange Rows.swapRacesSpec) :=
  OpenClaim.holds_of_wide 10 Try.f10 rfl rfl rfl rfl rfl rfl rfl ⟨rfl, rfl, rfl, rfl, rfl⟩ rfl rfl rfl rfl rfl (by kernel_rfl) Try.func10 (by kernel_rfl)
    (of_decide_eq_true (by kernel_rfl)) (by unfold Func.isWrapper; first | (rw [if_pos (by decide +kernel)]; kernel_rfl) | (rw [if_neg (by decide +kernel)]; exact ⟨rfl, rfl⟩))
    (fun os started H enc _ => lifted os started H enc)

theorem proved : Rows.SwapRacesSaid := over
#print axioms proved
end Go.Proofs.Ytjlomojhbjpdfaa.LSwapRaces

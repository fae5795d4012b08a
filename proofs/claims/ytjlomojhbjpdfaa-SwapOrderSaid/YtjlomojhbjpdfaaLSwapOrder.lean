/- 'deadheatkeep.SwapOrder' returns true for every input and leaves its arguments as they are. No condition. -/
import Derived.Test.YtjlomojhbjpdfaaOpen
import Derived.Test.YtjlomojhbjpdfaaSwU
import Derived.Test.YtjlomojhbjpdfaaSwS
import Derived.Test.YtjlomojhbjpdfaaKeepSw
import Derived.Test.YtjlomojhbjpdfaaKeepTr2
import Derived.Test.YtjlomojhbjpdfaaOrder2
import Derived.Test.YtjlomojhbjpdfaaPi
set_option linter.all false
set_option maxRecDepth 100000
namespace Go.Proofs.Ytjlomojhbjpdfaa.LSwapOrder
open Go Go.ChangeShapes Go.WideShapes Go.ChangeAt Go.RowKit

theorem hasp_at (A : Option Addr) (n c : Nat) (l : List (Int × Int)) (a b : Int) (w : World) (h : SlQ w A n l) (hm : n ≤ 9223372036854775807) :
    Calls Try.prog 31 #[.slice A n c, .agg #[.int .i64 a, .int .i64 b]] w fun e w' => e = .returned (.bool (decide ((a, b) ∈ l))) ∧ Below w.heap.size w w' := hasp_any A n c l (a, b) w h hm
def befI (l : List Ev) : List (Int × Int) := (prsA (bef l) l.length).map intp
theorem befI_at {i : Nat} {l r : List Ev} (h : SwAt i l r) {x : Int × Int} (hx : x ∈ befI l) : ∃ a b : Nat, x = ((a : Int), (b : Int)) ∧ (((tr i a : Nat) : Int), ((tr i b : Nat) : Int)) ∈ befI r := by
  unfold befI at hx
  obtain ⟨⟨a, b⟩, hp, rfl⟩ := List.mem_map.1 hx
  obtain ⟨h1, h2, h3⟩ := mem_prsA.1 hp
  refine ⟨a, b, rfl, List.mem_map.2 ⟨(tr i a, tr i b), mem_prsA.2 ⟨h.tr_len h1, h.tr_len h2, ?_⟩, rfl⟩⟩
  show bef r (tr i a) (tr i b) = true
  rw [h.bef]; exact h3
set_option maxHeartbeats 8000000 in
theorem walkH (HS : SwapC) (HA : ApartC) (W : World) (A : Option Addr) (n c : Nat) (l : List Ev) (s : Sl W A n l) (m : n ≤ c) (x : c ≤ maxLen) (_g : ∀ e ∈ l, EvOk e) (i : Int) (ki : In64 i) :
    Calls Try.prog 9 #[.slice A n c, .int .i64 i] W fun e w' => e = .returned (.bool true) ∧ Below W.heap.size W w' := by
  have HSW := Lib.hid (fun w => swapped_any HS HA w)
  have HSC := Lib.hid HS
  have HB0 := Lib.hid ((Bel.refl W).alloc (.cells #[.int .i64 i] 3))
  have HX := Lib.hid (Box.new W #[Value.int .i64 i] 3)
  have HL := Lib.hid (s.bel HB0.out)
  have HMX := Lib.hid (And.intro m x)
  have HK := Lib.hid ki
  clear s m x HS HA ki
  go_enter Try.func9, Try.ntmps9
  go_wp2_with fail
  generalize W.alloc (.cells #[.int .i64 i] 3) = W0 at *
  generalize hI : W.heap.size = I at *
  have HI := Lib.hid hI
  clear hI
  refine (HSW.out _).mono ?_
  rintro e w1 ⟨rfl, hb1⟩
  have HB1 := Lib.hid (Bel.of hb1)
  have ci := (HB1.out.box HX.out).cell 0 (v := .int .i64 i) rfl
  clear hb1
  go_wp2_with fail
  refine (HSC.out A n c l i w1 (HL.out.bel HB1.out) HMX.out.1 HMX.out.2 HK.out).mono ?_
  rintro e w2 ⟨r, cc, hB, A2, n2, d2, rfl, hs2, hn2, hd2, hb2⟩
  have HB2 := Lib.hid (HB1.out.call hb2)
  clear ci
  by_cases hcc : cc = 0
  · obtain ⟨hm, k, hik, hat⟩ := swB_ok hB hcc
    subst hcc; subst hik
    have HM := Lib.hid hm
    have HMR := Lib.hid (hat.sw.may hm)
    have hk80 : k ≤ 80 := by have := hat.lt; have := ((may_iff l).1 hm).1; omega
    have HAT := Lib.hid (fun (x : Int × Int) (hx : x ∈ befI l) => befI_at hat hx)
    have HLN := Lib.hid (show (prOf bef r).length = (prOf bef l).length by rw [prOf_ok hm rfl, prOf_ok (hat.sw.may hm) rfl]; exact hat.bef_len)
    have HE1 := Lib.hid (show (prOf bef l).map intp = befI l by unfold befI; rw [prOf_ok hm rfl])
    have HE2 := Lib.hid (show (prOf bef r).map intp = befI r by unfold befI; rw [prOf_ok (hat.sw.may hm) rfl])
    have HN := Lib.hid (show (prOf bef l).length ≤ 6480 by rw [prOf_ok hm rfl]; exact prs_small ((may_iff l).1 hm).1 (Nat.le_refl _) (Nat.zero_le _))
    have HS2 := Lib.hid hs2
    clear hB hs2 hn2 hd2 hb2 hat hm
    go_wp2_with fail
    refine (before_any A n c l w2 (HL.out.bel HB2.out)).mono ?_
    rintro e w3 ⟨v3, rfl, ho3, hb3⟩
    rw [HM.out]
    obtain ⟨A3, c3, rfl, hs3, hn3, hm3⟩ := SlP.own ho3
    have HB3 := Lib.hid (HB2.out.call hb3)
    have HS3 := Lib.hid hs3
    clear ho3 hs3
    go_wp2_with fail
    refine (before_any A2 n2 d2 r w3 (HS2.out.bel (Bel.of hb3))).mono ?_
    rintro e w4 ⟨v4, rfl, ho4, hb4⟩
    rw [HMR.out]
    obtain ⟨A4, c4, rfl, hs4, hn4, hm4⟩ := SlP.own ho4
    rw [HLN.out] at *
    have HP := Lib.hid (show SlQ w4 A3 (prOf bef l).length (befI l) by rw [← HE1.out]; exact SlP.q (SlP.bel HS3.out (Bel.of hb4)))
    have HQ := Lib.hid (show SlQ w4 A4 (prOf bef l).length (befI r) by rw [← HE2.out]; exact SlP.q hs4)
    have HB4 := Lib.hid (HB3.out.call hb4)
    have hN := HN.out
    clear hb3 ho4 hs4 hb4 hn4 hm4 HS3 HE1 HE2
    generalize (prOf bef l).length = np at *
    generalize befI l = ps at *
    generalize befI r = qs at *
    unfold maxLen at hm3
    go_wp2
    go_loopw [50] (fun t wr => ∃ j : Nat, j ≤ np ∧ t = .int .i64 j ∧ Bel w4 wr) (fun t _ => np - (intOf t).toNat)
    case atStart => exact ⟨0, by omega, rfl, Bel.refl _⟩
    case round =>
      obtain ⟨j, hj, rfl, hbr⟩ := hrel
      have HB := Lib.hid hbr
      clear hbr
      by_cases hlt : j < np
      · obtain ⟨b, o, e, rfl, hbb, he, hrg⟩ := (HP.out.bel HB.out).at_ hlt
        obtain ⟨ea, eb, rfl, hin⟩ := HAT.out e (List.mem_of_getElem? he)
        have hlt' : (j : Int) < np := by omega
        have hic : (j : Int) ≤ c3 := by omega
        have HR := Lib.hid hrg
        have HX1 := Lib.hid (qwld_box wr ((ea : Int), (eb : Int)) 50)
        have HBW := Lib.hid (HB.out.trans (qwld_below wr ((ea : Int), (eb : Int)) 50))
        have F0 := Lib.hid (fun (w' : World) (h : Bel (qwld wr ((ea : Int), (eb : Int)) 50) w') => h.cell (HX1.out.cell 0 (v := .int .i64 ea) rfl))
        have F1 := Lib.hid (fun (w' : World) (h : Bel (qwld wr ((ea : Int), (eb : Int)) 50) w') => h.cell (HX1.out.cell 1 (v := .int .i64 eb) rfl))
        have HT := Lib.hid (show ∀ (q : Nat) (w' : World), Bel (qwld wr ((ea : Int), (eb : Int)) 50) w' → Calls Try.prog 30 #[.int .i64 (q : Nat), .pointer (some ⟨I, 0, none⟩)] w' fun e w2 => e = .returned (.int .i64 (tr k q : Nat)) ∧ Below w'.heap.size w' w2 from fun q w' h =>
          (tr_any I k q w' ((((HB4.out.trans HBW.out).trans h).box HX.out).cell 0 rfl) (by omega)).mono fun e w2 ⟨h1, h2⟩ => ⟨h1, h2 ▸ Below.refl _ _⟩)
        have HH := Lib.hid (show ∀ w', Bel (qwld wr ((ea : Int), (eb : Int)) 50) w' → Calls Try.prog 31 #[.slice A4 np c4, .agg #[.int .i64 (tr k ea : Nat), .int .i64 (tr k eb : Nat)]] w' fun e w2 => e = .returned (.bool true) ∧ Below w'.heap.size w' w2 from fun w' h => by
          have h9 := hasp_at A4 np c4 qs (tr k ea : Nat) (tr k eb : Nat) w' (HQ.out.bel (HBW.out.trans h)) (by omega)
          rwa [decide_eq_true hin] at h9)
        clear hrg he hbb hin
        go_wp2_with (first | (refine load_qr TPr _ rfl rfl rfl HR.out ?_) | (refine qwld_store TPr _ _ rfl rfl _ rfl rfl rfl ?_))
        (refine region_bel (by kernel_rfl) (by kernel_rfl) ?_; (repeat (first | ((with_reducible refine BigFrame.wpQuiet_skip ?_ ?_); exact rfl; simp only [Act.put, Act.eval, List.setIfInBounds_toArray, List.set_cons_zero, List.set_cons_succ, Array.getD_eq_getD_getElem?, List.getElem?_toArray, List.getElem?_cons_zero, List.getElem?_cons_succ, Option.getD_some]) | (refine q_move _ rfl rfl ?_; simp only [Act.put, Act.eval, List.setIfInBounds_toArray, List.set_cons_zero, List.set_cons_succ, Array.getD_eq_getD_getElem?, List.getElem?_toArray, List.getElem?_cons_zero, List.getElem?_cons_succ, Option.getD_some]) | (refine q_assign _ rfl rfl ?_; simp only [Act.put, Act.eval, List.setIfInBounds_toArray, List.set_cons_zero, List.set_cons_succ, Array.getD_eq_getD_getElem?, List.getElem?_toArray, List.getElem?_cons_zero, List.getElem?_cons_succ, Option.getD_some]) | (refine q_any rfl ?_; apply Exists.intro; refine ⟨fun w hw => ?_, ?_⟩; (have fct0 := F0.out w hw; have fct1 := F1.out w hw; go_simp; first | exact ⟨rfl, rfl⟩ | rfl | (go_at_call 30; (with_reducible refine (HT.out ea w hw).mono ?_); rintro e w' ⟨rfl, hb⟩; exact ⟨rfl, hw.call hb⟩) | (go_at_call 30; (with_reducible refine (HT.out eb w hw).mono ?_); rintro e w' ⟨rfl, hb⟩; exact ⟨rfl, hw.call hb⟩) | (go_at_call 31; (with_reducible refine (HH.out w hw).mono ?_); rintro e w' ⟨rfl, hb⟩; exact ⟨rfl, hw.call hb⟩)); simp only [Act.put, Act.eval, List.setIfInBounds_toArray, List.set_cons_zero, List.set_cons_succ, Array.getD_eq_getD_getElem?, List.getElem?_toArray, List.getElem?_cons_zero, List.getElem?_cons_succ, Option.getD_some]))); refine wpQuiet_nil ?_; intro w2 hw2)
        have HB9 := Lib.hid (HBW.out.trans hw2)
        clear hw2
        go_wp2
        go_roundw
        case rel => exact ⟨j + 1, by omega, by go_num, HB9.out⟩
        case measure => simp [intOf]; omega
      · obtain rfl : j = np := by omega
        go_wp2
        go_ret
        exact ⟨rfl, HI.out ▸ (HB0.out.trans (HB4.out.trans HB.out)).out⟩
  · have hcc' : (cc != 0) = true := by simpa using hcc
    clear hB hs2 hn2 hd2 hb2
    go_wp2
    go_ret
    exact ⟨rfl, HI.out ▸ (HB0.out.trans HB2.out).out⟩
theorem walk (W : World) (A : Option Addr) (n c : Nat) (l : List Ev) (s : Sl W A n l) (m : n ≤ c) (x : c ≤ maxLen) (g : ∀ e ∈ l, EvOk e) (i : Int) (ki : In64 i) :
    Calls Try.prog 9 #[.slice A n c, .int .i64 i] W fun e w' => e = .returned (.bool true) ∧ Below W.heap.size W w' := walkH swap_any apart_any W A n c l s m x g i ki
set_option maxRecDepth 100000 in
theorem lifted (os : Os) (started : os.Started) (H : Type) (enc : TypeId × Value → H) :
    ReturnsInHanded {} Try.checked os 9 .any (Rows.swapOrderSpec.pre6 enc Try.prog Try.f9 Rows.swapOrderRow.domain false) (Rows.swapOrderSpec.post enc Try.prog Try.f9 false true false false) := by
  refine returnsInHanded_of_change_sized (C := Try.checked) own started (by kernel_rfl) Try.func9
    (ChangeSpec.witness6 (enc := enc) (C := Try.checked) false ⟨#[], #[.slice none 0 0, .int .i64 0], []⟩ 8 (by kernel_rfl) (by kernel_rfl) (by kernel_rfl) (by kernel_rfl)) ?_
  intro W base args ds gs before hval0 hW hcnd hsz0 _
  have hsz : (DataW.weightsEach Try.prog (Try.f9.params.toList ++ Rows.swapOrderSpec.plain.varTypes Try.prog) (ds ++ gs)).all (· ≤ reachBytes) = true := hsz0
  clear hsz0
  have hval : ∀ (j : Nat) t v, Try.f9.params[j]? = some t → args[j]? = some v → Value.okWide Try.prog W .any base t v := hval0
  have hW' := hW
  obtain ⟨p, q, hA0, hV, rfl, hfz, hnd⟩ := hW
  have hA : DataW.TrodAll enc Try.prog W 0 (fun _ => true) true Try.f9.params.toList args.toList ds p := hA0
  rw [Try.params9] at hA hval hsz
  obtain ⟨v0, vs0, d0, ds0, p0, q0, hargs, rfl, rfl, h0, r0⟩ := trodAll_cons hA
  obtain ⟨v1, vs1, d1, ds1, p1, q1, rfl, rfl, rfl, h1, r1⟩ := trodAll_cons r0
  obtain ⟨rfl, rfl, rfl⟩ := trodAll_nil r1
  obtain rfl : args = #[v0, v1] := by cases args; simp_all
  obtain ⟨rfl, rfl⟩ := trodVars_none hV
  have t0 := h0
  have lt0 : ∀ x ∈ p0, x.block < W.heap.size := by obtain ⟨m, hm⟩ := t0; exact DataW.trod_lt m _ _ _ hm
  have t1 := h1
  have lt1 : ∀ x ∈ p1, x.block < W.heap.size := by obtain ⟨m, hm⟩ := t1; exact DataW.trod_lt m _ _ _ hm
  obtain ⟨A0, n0, c0, l0, rfl, s0, m0, x0, g0, z0⟩ := open_evs Try.underlying25 Try.underlying23 ⟨rfl, rfl, rfl⟩ (by kernel_rfl) (by kernel_rfl) Try.underlying3 (hval 0 25 v0 rfl rfl) h0
  have y0 := reach_sl hsz (j := 0) rfl rfl Try.underlying25 (b := 24) (by kernel_rfl) z0
  obtain ⟨a1, rfl, _, _, x1⟩ := open_int Try.underlying3 (hval 1 3 v1 rfl rfl) h1
  have k1 := in64_of x1
  clear hA0 hval0
  refine (walk W A0 n0 c0 l0 s0 m0 x0 g0 a1 k1).mono fun e W' ⟨he, bel⟩ => ?_
  subst he
  exact ⟨_, rfl, _, _, _, [], _, [], hW', trodAll_mk1 (shut_bool Try.underlying4 _), (trodAll_cons_mk (Below.trod laidOut (by kernel_rfl) (of_decide_eq_true (by kernel_rfl)) t0 bel lt0) (trodAll_cons_mk (Below.trod laidOut (by kernel_rfl) (of_decide_eq_true (by kernel_rfl)) t1 bel lt1) trodAll_mk0)), rfl, bel.frame _, fun h => by cases h⟩

theorem over : Rows.swapOrderRow.holds Try.pinned (OpenSpec.ofChange Rows.swapOrderSpec) :=
  OpenClaim.holds_of_wide 9 Try.f9 rfl rfl rfl rfl rfl rfl rfl ⟨rfl, rfl, rfl, rfl, rfl⟩ rfl rfl rfl rfl rfl (by kernel_rfl) Try.func9 (by kernel_rfl)
    (of_decide_eq_true (by kernel_rfl)) (by unfold Func.isWrapper; first | (rw [if_pos (by decide +kernel)]; kernel_rfl) | (rw [if_neg (by decide +kernel)]; exact ⟨rfl, rfl⟩))
    (fun os started H enc _ => lifted os started H enc)

theorem proved : Rows.SwapOrderSaid := over
#print axioms proved
end Go.Proofs.Ytjlomojhbjpdfaa.LSwapOrder

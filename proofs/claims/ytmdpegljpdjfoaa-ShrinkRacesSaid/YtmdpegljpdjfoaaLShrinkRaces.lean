/- 'deadheatkeep.ShrinkRaces' returns true for every input and leaves its arguments as they are. No condition. -/
import Derived.Test.YtmdpegljpdjfoaaShM
import Derived.Test.YtmdpegljpdjfoaaOpen
import Derived.Test.YtmdpegljpdjfoaaKeepSh
import Derived.Test.YtmdpegljpdjfoaaAllE
set_option linter.all false
set_option maxRecDepth 100000
namespace Go.Proofs.Ytmdpegljpdjfoaa.LShrinkRaces
open Go Go.ChangeShapes Go.WideShapes Go.ChangeAt Go.RowKit

/-- What of a pattern is still to come. -/
def gm1 (p : List Ev) (x : Ev) : List Ev := match p with
  | [] => []
  | y :: q => if y = x then q else y :: q
def gm (p l : List Ev) : List Ev := l.foldl gm1 p
theorem gm_snoc (p l : List Ev) (x : Ev) : gm p (l ++ [x]) = gm1 (gm p l) x := by unfold gm; rw [List.foldl_append]; rfl
theorem gm_cons (p l : List Ev) (x : Ev) : gm p (x :: l) = gm (gm1 p x) l := rfl
theorem gm_nil : ∀ l : List Ev, gm [] l = []
  | [] => rfl
  | x :: l => by rw [gm_cons]; exact gm_nil l
theorem gm_sub : ∀ {l p : List Ev}, p.Sublist l → gm p l = []
  | [], p, h => by cases h; rfl
  | x :: l, [], _ => gm_nil _
  | x :: l, y :: q, h => by
    rw [gm_cons]
    by_cases hy : y = x
    · have h1 : gm1 (y :: q) x = q := if_pos hy
      rw [h1]
      cases h with
      | cons _ h => exact gm_sub ((List.sublist_cons_self _ _).trans h)
      | cons_cons _ h => exact gm_sub h
    · have h1 : gm1 (y :: q) x = y :: q := if_neg hy
      rw [h1]
      cases h with
      | cons _ h => exact gm_sub h
      | cons_cons _ h => exact absurd rfl hy
theorem gm_yes {r l : List Ev} {i k : Nat} {x : Ev} (h : r.drop k = gm r (l.take i)) (hx : l[i]? = some x) (hk : r[k]? = some x) : r.drop (k + 1) = gm r (l.take (i + 1)) := by
  obtain ⟨h1, h2⟩ := List.getElem?_eq_some_iff.1 hk
  rw [take_snoc' hx, gm_snoc, ← h, List.drop_eq_getElem_cons h1, h2]
  exact (if_pos rfl).symm
theorem gm_no {r l : List Ev} {i k : Nat} {x : Ev} (h : r.drop k = gm r (l.take i)) (hx : l[i]? = some x) (hk : r[k]? ≠ some x) : r.drop k = gm r (l.take (i + 1)) := by
  rw [take_snoc' hx, gm_snoc, ← h]
  rcases Nat.lt_or_ge k r.length with h1 | h1
  · rw [List.drop_eq_getElem_cons h1]
    exact (if_neg (fun e => hk (by rw [List.getElem?_eq_getElem h1, e]))).symm
  · rw [List.drop_eq_nil_of_le h1]; rfl
set_option maxHeartbeats 8000000 in
theorem walkH (HMi : MinC) (W : World) (A : Option Addr) (n c : Nat) (l : List Ev) (s : Sl W A n l) (m : n ≤ c) (x : c ≤ maxLen) (_g : ∀ e ∈ l, EvOk e) :
    Calls Try.prog 6 #[.slice A n c] W fun e w' => e = .returned (.bool true) ∧ Below W.heap.size W w' := by
  have hw0 : Bel W W := Bel.refl _
  have HL := Lib.hid s
  have HMX := Lib.hid (And.intro m x)
  have HSH := Lib.hid (fun w => shrunk_any HMi w)
  unfold MinC at HMi
  have HMC := Lib.hid HMi
  clear s m x HMi
  go_enter Try.func6, Try.ntmps6
  go_wp2_with fail
  refine (HSH.out _).mono ?_
  rintro e1 w1 ⟨rfl, hb1⟩
  have hw1 := hw0.call hb1
  clear hb1
  go_wp2_with fail
  refine (HMC.out A n c l w1 (HL.out.bel hw1.out) HMX.out.1 HMX.out.2).mono ?_
  rintro e2 w2 ⟨r, cc, hB, v, rfl, ho, hb2⟩
  obtain ⟨A2, d2, rfl, hs2, hn2, hm2⟩ := Sl.own ho
  have HW2 := Lib.hid (hw1.call hb2)
  have HS2 := Lib.hid (And.intro hs2 (And.intro hn2 hm2))
  clear hw0 hw1 ho hs2 hn2 hm2 hb2
  go_wp2_with fail
  refine (alle_any A n c l w2 (HL.out.bel HW2.out.out)).mono ?_
  rintro e3 w3 ⟨v3, rfl, ho3, hb3⟩
  obtain ⟨A3, d3, rfl, _, _, _⟩ := SlR.own ho3
  have HW3 := Lib.hid (HW2.out.call hb3)
  have HB3 := Lib.hid (Bel.of hb3)
  clear ho3 hb3
  by_cases hcc : cc = 0
  · obtain ⟨hok, hred⟩ := minB_ok hB hcc
    have HSB := Lib.hid (gm_sub hred.sub)
    have hokr := hred.ok hok
    have HM := Lib.hid (And.intro hok.1 hokr.1)
    have hpos : 0 < (rcs r).length := List.length_pos_iff.2 hokr.2
    have HPO := Lib.hid hpos
    have hn80 : n ≤ 80 := by rw [← HL.out.1]; exact ((may_iff l).1 hok.1).1
    have hrn : r.length ≤ n := by rw [← HL.out.1]; exact hred.len
    rw [hok.1]
    have GR := grd_ev
    subst hcc
    have HS3 := Lib.hid (HS2.out.1.bel HB3.out.out)
    have HDN := Lib.hid HS2.out.2
    clear hB hok hred hokr hpos
    generalize hr : r.length = q at *
    have HR := Lib.hid hr
    clear hr
    go_wp2
    go_loopw [7, 48] (fun v t wr => ∃ i k : Nat, i ≤ n ∧ k ≤ q ∧ v = .int .i64 k ∧ t = .int .i64 i ∧ r.drop k = gm r (l.take i) ∧ Bel w3 wr) (fun _ t _ => n - (intOf t).toNat)
    case atStart => exact ⟨0, 0, by omega, by omega, rfl, rfl, rfl, Bel.refl _⟩
    case round =>
      obtain ⟨i, k, hi, hk, rfl, rfl, hgm, hbr⟩ := hrel
      have HB := Lib.hid hbr
      have HG := Lib.hid hgm
      clear hbr hgm
      by_cases hlt : i < n
      · have hlt' : (i : Int) < n := by omega
        obtain ⟨b, off, x, rfl, hbb, hx, hrg⟩ := (HL.out.bel (HW3.out.trans HB.out).out).at_ hlt
        have HE := Lib.hid hx
        have hR := Lib.hid hrg
        have HX := ewld_box wr x 29
        have HB2 := Lib.hid (show Bel wr _ from ewld_below wr x 29)
        clear hx hrg hbb
        by_cases hkq : k < q
        · obtain ⟨b2, o2, y, rfl, _, hy, hrg2⟩ := (HS3.out.bel (HB.out.trans HB2.out).out).at_ hkq
          have hb2 : b2 < (ewld wr x 29).heap.size := by assumption
          have HF2 := Lib.hid (fun (w' : World) (h : Bel (ewld wr x 29) w') => rangeAt_below h.out hb2 hrg2)
          have HY := Lib.hid hy
          have EQ := eql_ev y x
          have hkq' : (k : Int) < q := by omega
          have hwk : IntKind.i64.wrap ((k : Int) + 1) = (k : Int) + 1 := IntWalk.i64_in _ (by omega)
          clear hy hrg2 hb2
          cases hq : decide (y = x)
          · rw [hq] at EQ
            have HQ := Lib.hid (of_decide_eq_false hq)
            go_wp2_with (first | (refine load_ev T36 _ rfl rfl rfl hR.out ?_) | (refine ewld_store T36 _ _ rfl rfl _ rfl rfl rfl ?_))
            (refine region_bel (by kernel_rfl) (by kernel_rfl) ?_; (repeat (first | ((with_reducible refine BigFrame.wpQuiet_skip ?_ ?_); exact rfl; simp only [Act.put, Act.eval, List.setIfInBounds_toArray, List.set_cons_zero, List.set_cons_succ, Array.getD_eq_getD_getElem?, List.getElem?_toArray, List.getElem?_cons_zero, List.getElem?_cons_succ, Option.getD_some]) | (refine q_move _ rfl rfl ?_; simp only [Act.put, Act.eval, List.setIfInBounds_toArray, List.set_cons_zero, List.set_cons_succ, Array.getD_eq_getD_getElem?, List.getElem?_toArray, List.getElem?_cons_zero, List.getElem?_cons_succ, Option.getD_some]) | (refine q_assign _ rfl rfl ?_; simp only [Act.put, Act.eval, List.setIfInBounds_toArray, List.set_cons_zero, List.set_cons_succ, Array.getD_eq_getD_getElem?, List.getElem?_toArray, List.getElem?_cons_zero, List.getElem?_cons_succ, Option.getD_some]) | (refine q_load _ _ rfl rfl rfl HX T36 ?_; simp only [Act.put, Act.eval, List.setIfInBounds_toArray, List.set_cons_zero, List.set_cons_succ, Array.getD_eq_getD_getElem?, List.getElem?_toArray, List.getElem?_cons_zero, List.getElem?_cons_succ, Option.getD_some]) | (refine q_load_mid _ _ rfl rfl rfl HF2.out T36 (evv y) rfl ?_; simp only [Act.put, Act.eval, List.setIfInBounds_toArray, List.set_cons_zero, List.set_cons_succ, Array.getD_eq_getD_getElem?, List.getElem?_toArray, List.getElem?_cons_zero, List.getElem?_cons_succ, Option.getD_some]) | (refine q_any rfl ?_; apply Exists.intro; refine ⟨fun w hw => ?_, ?_⟩; (go_simp; first | exact ⟨rfl, rfl⟩ | rfl); simp only [Act.put, Act.eval, List.setIfInBounds_toArray, List.set_cons_zero, List.set_cons_succ, Array.getD_eq_getD_getElem?, List.getElem?_toArray, List.getElem?_cons_zero, List.getElem?_cons_succ, Option.getD_some]))); refine wpQuiet_nil ?_; intro w2 hw2)
            have HWR := Lib.hid (HB.out.trans (HB2.out.trans hw2))
            clear hw2 EQ hq HX
            go_wp2
            go_roundw
            case rel => exact ⟨i + 1, k, by omega, by omega, rfl, by go_num, gm_no HG.out HE.out (by rw [HY.out]; intro e; exact HQ.out (Option.some.inj e)), HWR.out⟩
            case measure => simp [intOf]; omega
          · rw [hq] at EQ
            obtain rfl := of_decide_eq_true hq
            go_wp2_with (first | (refine load_ev T36 _ rfl rfl rfl hR.out ?_) | (refine ewld_store T36 _ _ rfl rfl _ rfl rfl rfl ?_))
            (refine region_bel (by kernel_rfl) (by kernel_rfl) ?_; (repeat (first | ((with_reducible refine BigFrame.wpQuiet_skip ?_ ?_); exact rfl; simp only [Act.put, Act.eval, List.setIfInBounds_toArray, List.set_cons_zero, List.set_cons_succ, Array.getD_eq_getD_getElem?, List.getElem?_toArray, List.getElem?_cons_zero, List.getElem?_cons_succ, Option.getD_some]) | (refine q_move _ rfl rfl ?_; simp only [Act.put, Act.eval, List.setIfInBounds_toArray, List.set_cons_zero, List.set_cons_succ, Array.getD_eq_getD_getElem?, List.getElem?_toArray, List.getElem?_cons_zero, List.getElem?_cons_succ, Option.getD_some]) | (refine q_assign _ rfl rfl ?_; simp only [Act.put, Act.eval, List.setIfInBounds_toArray, List.set_cons_zero, List.set_cons_succ, Array.getD_eq_getD_getElem?, List.getElem?_toArray, List.getElem?_cons_zero, List.getElem?_cons_succ, Option.getD_some]) | (refine q_load _ _ rfl rfl rfl HX T36 ?_; simp only [Act.put, Act.eval, List.setIfInBounds_toArray, List.set_cons_zero, List.set_cons_succ, Array.getD_eq_getD_getElem?, List.getElem?_toArray, List.getElem?_cons_zero, List.getElem?_cons_succ, Option.getD_some]) | (refine q_load_mid _ _ rfl rfl rfl HF2.out T36 (evv y) rfl ?_; simp only [Act.put, Act.eval, List.setIfInBounds_toArray, List.set_cons_zero, List.set_cons_succ, Array.getD_eq_getD_getElem?, List.getElem?_toArray, List.getElem?_cons_zero, List.getElem?_cons_succ, Option.getD_some]) | (refine q_any rfl ?_; apply Exists.intro; refine ⟨fun w hw => ?_, ?_⟩; (go_simp; first | exact ⟨rfl, rfl⟩ | rfl); simp only [Act.put, Act.eval, List.setIfInBounds_toArray, List.set_cons_zero, List.set_cons_succ, Array.getD_eq_getD_getElem?, List.getElem?_toArray, List.getElem?_cons_zero, List.getElem?_cons_succ, Option.getD_some]))); refine wpQuiet_nil ?_; intro w2 hw2)
            have HWR := Lib.hid (HB.out.trans (HB2.out.trans hw2))
            clear hw2 EQ hq HX
            go_wp2
            go_roundw
            case rel => exact ⟨i + 1, k + 1, by omega, by omega, by go_num, by go_num, gm_yes HG.out HE.out HY.out, HWR.out⟩
            case measure => simp [intOf]; omega
        · have hkd : decide (k < q) = false := decide_eq_false (by omega)
          have HN := Lib.hid (show r[k]? ≠ some x from fun e => by have := (List.getElem?_eq_some_iff.1 e).1; have := HR.out; omega)
          clear hkq
          go_wp2_with (first | (refine load_ev T36 _ rfl rfl rfl hR.out ?_) | (refine ewld_store T36 _ _ rfl rfl _ rfl rfl rfl ?_))
          (refine region_bel (by kernel_rfl) (by kernel_rfl) ?_; (repeat (first | ((with_reducible refine BigFrame.wpQuiet_skip ?_ ?_); exact rfl; simp only [Act.put, Act.eval, List.setIfInBounds_toArray, List.set_cons_zero, List.set_cons_succ, Array.getD_eq_getD_getElem?, List.getElem?_toArray, List.getElem?_cons_zero, List.getElem?_cons_succ, Option.getD_some]) | (refine q_move _ rfl rfl ?_; simp only [Act.put, Act.eval, List.setIfInBounds_toArray, List.set_cons_zero, List.set_cons_succ, Array.getD_eq_getD_getElem?, List.getElem?_toArray, List.getElem?_cons_zero, List.getElem?_cons_succ, Option.getD_some]) | (refine q_assign _ rfl rfl ?_; simp only [Act.put, Act.eval, List.setIfInBounds_toArray, List.set_cons_zero, List.set_cons_succ, Array.getD_eq_getD_getElem?, List.getElem?_toArray, List.getElem?_cons_zero, List.getElem?_cons_succ, Option.getD_some]) | (refine q_load _ _ rfl rfl rfl HX T36 ?_; simp only [Act.put, Act.eval, List.setIfInBounds_toArray, List.set_cons_zero, List.set_cons_succ, Array.getD_eq_getD_getElem?, List.getElem?_toArray, List.getElem?_cons_zero, List.getElem?_cons_succ, Option.getD_some]) | (refine q_any rfl ?_; apply Exists.intro; refine ⟨fun w hw => ?_, ?_⟩; (go_simp; first | exact ⟨rfl, rfl⟩ | rfl); simp only [Act.put, Act.eval, List.setIfInBounds_toArray, List.set_cons_zero, List.set_cons_succ, Array.getD_eq_getD_getElem?, List.getElem?_toArray, List.getElem?_cons_zero, List.getElem?_cons_succ, Option.getD_some]))); refine wpQuiet_nil ?_; intro w2 hw2)
          have HWR := Lib.hid (HB.out.trans (HB2.out.trans hw2))
          clear hw2 HX hkd
          go_wp2
          go_roundw
          case rel => exact ⟨i + 1, k, by omega, by omega, rfl, by go_num, gm_no HG.out HE.out HN.out, HWR.out⟩
          case measure => simp [intOf]; omega
      · obtain rfl : i = n := by omega
        have hkq : k = q := by
          have h1 := HG.out
          rw [show l.take i = l by rw [← HL.out.1, List.take_length], HSB.out] at h1
          have h2 := congrArg List.length h1
          rw [List.length_drop, HR.out, List.length_nil] at h2
          omega
        subst hkq
        go_wp2_with fail
        refine (alle_any A2 _ d2 _ wr (HS3.out.bel HB.out.out)).mono ?_
        rintro e4 w4 ⟨v4, rfl, ho4, hb4⟩
        rw [HM.out.2]
        obtain ⟨A4, d4, rfl, _, _, _⟩ := SlR.own ho4
        have HW4 := Lib.hid ((HW3.out.trans HB.out).call hb4)
        have HS4 := Lib.hid ((HS3.out.bel HB.out.out).bel hb4)
        have hp := HPO.out
        generalize (rcs r).length = z at *
        have hp' : (0 : Int) < z := by omega
        have hkk : ((k : Int) == (k : Int)) = true := by simp
        clear ho4 hb4
        go_wp2_with fail
        refine (may_any A2 _ d2 _ w4 HS4.out).mono ?_
        rintro e5 w5 ⟨rfl, hb5⟩
        rw [HM.out.2]
        have HW5 := Lib.hid (HW4.out.call hb5)
        clear hb5
        go_wp2
        go_ret
        exact ⟨rfl, HW5.out.out⟩
  · have hr := minB_no hB hcc
    subst hr
    have h9 : (cc != 0) = true := by simpa using hcc
    rcases hB with ⟨h1, _, h3⟩ | ⟨h1, h4, _, h3⟩ | ⟨_, _, h3⟩
    · have h5 := rcs_no h1
      have h6 : (may l != 0) = true := by simpa using h1
      have h7 : (may l == 0) = false := by simpa using h1
      subst h3
      rw [h5]
      clear h1 h9 hcc h5
      go_wp2
      go_ret
      exact ⟨rfl, HW3.out.out⟩
    · subst h3
      rw [h4, h1]
      clear h9 hcc h4 h1
      go_wp2
      go_ret
      exact ⟨rfl, HW3.out.out⟩
    · exact absurd h3 hcc
theorem walk (W : World) (A : Option Addr) (n c : Nat) (l : List Ev) (s : Sl W A n l) (m : n ≤ c) (x : c ≤ maxLen) (_g : ∀ e ∈ l, EvOk e) :
    Calls Try.prog 6 #[.slice A n c] W fun e w' => e = .returned (.bool true) ∧ Below W.heap.size W w' := walkH min_any W A n c l s m x _g
set_option maxRecDepth 100000 in
theorem lifted (os : Os) (started : os.Started) (H : Type) (enc : TypeId × Value → H) :
    ReturnsInHanded {} Try.checked os 6 .any (Rows.shrinkRacesSpec.pre6 enc Try.prog Try.f6 Rows.shrinkRacesRow.domain false) (Rows.shrinkRacesSpec.post enc Try.prog Try.f6 false true false false) := by
  refine returnsInHanded_of_change_sized (C := Try.checked) own started (by kernel_rfl) Try.func6
    (ChangeSpec.witness6 (enc := enc) (C := Try.checked) false ⟨#[], #[.slice none 0 0], []⟩ 8 (by kernel_rfl) (by kernel_rfl) (by kernel_rfl) (by kernel_rfl)) ?_
  intro W base args ds gs before hval0 hW hcnd hsz0 _
  have hsz : (DataW.weightsEach Try.prog (Try.f6.params.toList ++ Rows.shrinkRacesSpec.plain.varTypes Try.prog) (ds ++ gs)).all (· ≤ reachBytes) = true := hsz0
  clear hsz0
  have hval : ∀ (j : Nat) t v, Try.f6.params[j]? = some t → args[j]? = some v → Value.okWide Try.prog W .any base t v := hval0
  have hW' := hW
  obtain ⟨p, q, hA0, hV, rfl, hfz, hnd⟩ := hW
  have hA : DataW.TrodAll enc Try.prog W 0 (fun _ => true) true Try.f6.params.toList args.toList ds p := hA0
  rw [Try.params6] at hA hval hsz
  obtain ⟨v0, vs0, d0, ds0, p0, q0, hargs, rfl, rfl, h0, r0⟩ := trodAll_cons hA
  obtain ⟨rfl, rfl, rfl⟩ := trodAll_nil r0
  obtain rfl : args = #[v0] := by cases args; simp_all
  obtain ⟨rfl, rfl⟩ := trodVars_none hV
  have t0 := h0
  have lt0 : ∀ x ∈ p0, x.block < W.heap.size := by obtain ⟨m, hm⟩ := t0; exact DataW.trod_lt m _ _ _ hm
  obtain ⟨A0, n0, c0, l0, rfl, s0, m0, x0, g0, z0⟩ := open_evs Try.underlying22 Try.underlying29 ⟨rfl, rfl, rfl⟩ (by kernel_rfl) (by kernel_rfl) Try.underlying3 (hval 0 22 v0 rfl rfl) h0
  have y0 := reach_sl hsz (j := 0) rfl rfl Try.underlying22 (b := 24) (by kernel_rfl) z0
  clear hA0 hval0
  refine (walk W A0 n0 c0 l0 s0 m0 x0 g0).mono fun e W' ⟨he, bel⟩ => ?_
  subst he
  exact ⟨_, rfl, _, _, _, [], _, [], hW', trodAll_mk1 (shut_bool Try.underlying4 _), (trodAll_cons_mk (Below.trod laidOut (by kernel_rfl) (of_decide_eq_true (by kernel_rfl)) t0 bel lt0) trodAll_mk0), rfl, bel.frame _, fun h => by cases h⟩

theorem over : Rows.shrinkRacesRow.holds Try.pinned (OpenSpec.ofChange Rows.shrinkRacesSpec) :=
  OpenClaim.holds_of_wide 6 Try.f6 rfl rfl rfl rfl rfl rfl rfl ⟨rfl, rfl, rfl, rfl, rfl⟩ rfl rfl rfl rfl rfl (by kernel_rfl) Try.func6 (by kernel_rfl)
    (of_decide_eq_true (by kernel_rfl)) (by unfold Func.isWrapper; first | (rw [if_pos (by decide +kernel)]; kernel_rfl) | (rw [if_neg (by decide +kernel)]; exact ⟨rfl, rfl⟩))
    (fun os started H enc _ => lifted os started H enc)

theorem proved : Rows.ShrinkRacesSaid := over
#print axioms proved
end Go.Proofs.Ytmdpegljpdjfoaa.LShrinkRaces

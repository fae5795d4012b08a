/- 'deadheatlaw.BoardTells' returns true for every input and leaves its arguments as they are. No condition. -/
import Derived.Test.YteihildhlcggoaaOpen
import Derived.Test.YteihildhlcggoaaBdF
import Derived.Test.YteihildhlcggoaaRefFaC
import Derived.Test.YteihildhlcggoaaEqFl
import Derived.Test.YteihildhlcggoaaEqEv
import Derived.Test.YteihildhlcggoaaRefTr
import Derived.Test.YteihildhlcggoaaCp
set_option linter.all false
set_option maxRecDepth 100000
namespace Go.Proofs.Yteihildhlcggoaa.LBoardTells
open Go Go.ChangeShapes Go.WideShapes Go.ChangeAt Go.RowKit

/-- The board and the list that is wanted. -/
structure BI (W : World) (N : Nat) (w : World) (v u : Value) (L : List Ev) : Prop where
  bd : Bd w N N 0 v L
  own : w.ownsRow N 50 3 u L.length (evc L)
  ap : ∀ g, u.ownBlock = some g → g ≠ N ∧ v.ownBlock ≠ some g
  below : Below N W w
theorem BI.bel {W w w' : World} {N : Nat} {v u : Value} {L : List Ev} (h : BI W N w v u L) (hb : Bel w w') : BI W N w' v u L :=
  ⟨h.bd.bel hb, own_bel h.own hb, h.ap, h.below.trans (hb.out.mono (Nat.le_of_lt h.bd.box.lt))⟩
/-- Behind a Tell. -/
theorem BI.told {W w w' : World} {N : Nat} {v u v' : Value} {L L' : List Ev} (h : BI W N w v u L) (hb : Bd w' N N 0 v' L') (hg : BdG w w' N v) (ha : v'.ownBlock = v.ownBlock ∨ ∀ k, v'.ownBlock = some k → w.heap.size ≤ k) :
    w'.ownsRow N 50 3 u L.length (evc L) ∧ (∀ g, u.ownBlock = some g → g ≠ N ∧ v'.ownBlock ≠ some g) ∧ Below N W w' := by
  refine ⟨hg.own h.own h.ap, fun g hg' => ⟨(h.ap g hg').1, fun e => ?_⟩, h.below.trans (hg.below h.bd (Nat.le_refl _) (Nat.le_of_lt h.bd.box.lt))⟩
  rcases ha with ha | ha
  · exact (h.ap g hg').2 (ha ▸ e)
  · have h1 := ha g e
    have h2 := (own_lt h.own hg').2
    omega
/-- An event is added to what is wanted. -/
theorem BI.push {W w w' : World} {N n : Nat} {v u u' : Value} {L : List Ev} {xs : List Value} (hb : Bd w N N 0 v L) (ho : w.ownsRow N 50 3 u n xs) (ha : ∀ g, u.ownBlock = some g → g ≠ N ∧ v.ownBlock ≠ some g) (hl : Below N W w)
    (hg : w.grownBy w' u.ownBlock) (hat : u'.ownBlock = u.ownBlock ∨ u'.ownBlock = some w.heap.size) (ho' : w'.ownsRow N 50 3 u' L.length (evc L)) : BI W N w' v u' L := by
  refine ⟨⟨hb.box.grown hg (fun e => (ha N e.symm).1 rfl), own_keep hb.own fun g hg' hl => hg.block g hl (fun e => (ha g e.symm).2 hg'), hb.ne, hb.ok⟩, ho', fun g hg' => ?_, hl.trans ⟨hg.os, hg.tape, hg.output, hg.size, fun k hk => hg.block k (by have := hb.box.lt; omega) (fun e => by have := (own_lt ho e.symm).1; omega)⟩⟩
  rcases hat with h | h
  · exact ha g (h ▸ hg')
  · rw [h] at hg'
    cases hg'
    have h1 := hb.box.lt
    exact ⟨by omega, fun e => by have := (own_lt hb.own e).2; omega⟩
theorem tell_zero (L : List Ev) : tellA L ⟨0, 0, 0⟩ = (0, if 80 ≤ L.length then 2 else 1) := by
  have hw : wrong L ⟨0, 0, 0⟩ = 1 := by
    have : isEv ⟨0, 0, 0⟩ = false := by decide
    unfold wrong; simp [this]
  unfold tellA
  split
  · rfl
  · rw [hw]; rfl
set_option maxHeartbeats 16000000 in
theorem walk (W : World) (A : Option Addr) (n c : Nat) (l : List Ev) (s : Sl W A n l) (m : n ≤ c) (x : c ≤ maxLen) (g : ∀ e ∈ l, EvOk e) :
    Calls Try.prog 12 #[.slice A n c] W fun e w' => e = .returned (.bool true) ∧ Below W.heap.size W w' := by
  unfold maxLen at x
  have HL := Lib.hid s
  clear s g
  go_enter Try.func12, Try.ntmps12
  go_wp2_with fail
  refine (bnew_any _).mono ?_
  rintro e1 w1 ⟨rfl, hbx1, hb1⟩
  have H1 := Lib.hid (show BI W W.heap.size w1 (.slice none 0 0) (.slice none 0 0) [] from ⟨⟨hbx1, World.ownsRow_nil _ _ _ _, fun g hg => (by cases hg), by decide⟩, World.ownsRow_nil _ _ _ _, fun g hg => (by cases hg), hb1⟩)
  have HLW := Lib.hid (fun (wr : World) (h : Below W.heap.size W wr) => HL.out.below h (Nat.le_refl _))
  clear hbx1 hb1 HL
  generalize hNN : W.heap.size = N at *
  have HNN := Lib.hid hNN
  clear hNN
  go_wp2
  go_loopw [4, 19] (fun u t wr => ∃ (i : Nat) (v : Value) (L : List Ev), i ≤ n ∧ t = .int .i64 i ∧ BI W N wr v u L) (fun _ t _ => n - (intOf t).toNat)
  case atStart => exact ⟨0, _, _, by omega, rfl, H1.out⟩
  case round =>
    obtain ⟨i, v, L, hi, rfl, hbi⟩ := hrel
    have HI := Lib.hid hbi
    obtain ⟨Au, cu, rfl, hsu, hnu, hmu⟩ := Sl.own hbi.own
    have HSU := Lib.hid hsu
    have HLN := Lib.hid (show L.length ≤ 80 from ((may_iff L).1 hbi.bd.ok).1)
    clear hbi hsu H1
    by_cases hlt : i < n
    · have hlt' : (i : Int) < n := by omega
      obtain ⟨bb, off, e, rfl, hbb, he, hrg⟩ := (HLW.out wr HI.out.below).at_ hlt
      have hR := Lib.hid hrg
      have HEB := Lib.hid (show Bel wr _ from ewld_below wr e 50)
      have HEX := Lib.hid (ewld_box wr e 50)
      have hwi : IntKind.i64.wrap ((i : Int) + 1) = (i : Int) + 1 := IntWalk.i64_in _ (by omega)
      have HI3 := Lib.hid (HI.out.bel HEB.out)
      clear hrg hbb he
      go_wp2_with (first | (refine load_ev T36 _ rfl rfl rfl hR.out ?_) | (refine ewld_store T36 _ _ rfl rfl _ rfl rfl rfl ?_) | (refine loadB _ _ rfl rfl rfl HEX.out T36 ?_))
      refine (tell_any N N v L e _ HI3.out.bd (Nat.le_of_lt HI3.out.bd.box.lt)).mono ?_
      rintro e4 w4 ⟨v4, rfl, hbd4, hg4, ha4⟩
      have HB4 := Lib.hid hbd4
      have HT4 := Lib.hid (HI3.out.told hbd4 hg4 ha4)
      have HX4 := Lib.hid (show Box w4 wr.heap.size (evv e) 50 from by
        have h1 := HEX.out
        exact (hg4.block wr.heap.size h1.lt (by have := HI.out.bd.box.lt; omega) (fun e => by have := (own_lt HI.out.bd.own e).2; omega)).trans h1)
      clear hbd4 hg4 ha4
      by_cases h80 : 80 ≤ L.length
      · have hta : tellA L e = (0, 2) := by unfold tellA; rw [if_pos h80]
        have htl : tellL L e = L := by unfold tellL; rw [if_neg (by omega)]
        rw [hta]
        have HI5 := Lib.hid (show BI W N w4 v4 (.slice Au L.length cu) L from ⟨by have := HB4.out; rwa [htl] at this, HT4.out.1, HT4.out.2.1, HT4.out.2.2⟩)
        have hq : ¬ ((L.length : Int) < 80) := by omega
        clear hta htl h80
        go_wp2
        go_roundw
        case rel => exact ⟨i + 1, v4, L, by omega, by go_num, HI5.out⟩
        case measure => simp [intOf]; omega
      · by_cases hw : wrong L e = 0
        · have hta : tellA L e = ((L.length : Int), 0) := by unfold tellA; rw [if_neg h80, if_pos hw]
          have htl : tellL L e = L ++ [e] := by unfold tellL; rw [if_pos ⟨by omega, hw⟩]
          rw [hta]
          have HBN := Lib.hid (show Bd w4 N N 0 v4 (L ++ [e]) from by have := HB4.out; rwa [htl] at this)
          obtain ⟨Au', cu', he', hs4, _, _⟩ := Sl.own HT4.out.1
          cases he'
          have HS4 := Lib.hid hs4
          have HW := Lib.hid hw
          have HQ := Lib.hid (show ¬ 80 ≤ L.length from h80)
          have hq : (L.length : Int) < 80 := by omega
          obtain ⟨i0, hi0, hz0, hz1, hz2⟩ := info_parts ev_info
          have J := Lib.hid (And.intro hi0 (And.intro hz0 (And.intro hz1 hz2)))
          clear hta htl hw h80 hs4 hi0 hz0 hz1 hz2
          go_wp2_with (refine loadB _ _ rfl rfl rfl HX4.out T36 ?_)
          refine (rwrong_any Au L.length cu L e _ HS4.out (by omega)).mono ?_
          rintro e5 w5 ⟨rfl, hb5⟩
          rw [HW.out]
          have H5 := Lib.hid (Bel.of hb5)
          have HX5 := Lib.hid ((Bel.of hb5).box HX4.out)
          have HA := Lib.hid (show Bel w4 (w5.alloc (.cells (evv e) 50)) from (Bel.of hb5).alloc _)
          have HNW := Lib.hid (Box.new w5 (evv e) 50)
          have HOA := Lib.hid (own_bel HT4.out.1 HA.out)
          have HSZ := Lib.hid (show N ≤ (w5.alloc (.cells (evv e) 50)).heap.size from Nat.le_trans (Nat.le_of_lt HBN.out.box.lt) HA.out.size)
          clear hb5
          go_wp2_with (first | (refine loadB _ _ rfl rfl rfl HX5.out T36 ?_) | (refine build1 22 _ rfl rfl 50 i0 Try.underlying22 J.out.1 J.out.2.1 J.out.2.2.1 e rfl ?_) | (at_builtin; refine wpList_append_srcE rfl (.tmp 58) (.tmp 60) _ rfl N 50 i0 _ 3 24 Try.underlying22 J.out.1 J.out.2.1 J.out.2.2.1 J.out.2.2.2 rfl (by omega) (.slice Au L.length cu) L.length (evc L) rfl HOA.out (some ⟨w5.heap.size, 0, none⟩) 1 1 (evl e) rfl rfl (Src.box HNW.out 1) (by simp [evl, Value.oneCell']) (by have := HQ.out; unfold maxLen; omega) (by have := HQ.out; omega) HSZ.out ?_; intro v6 w6 ho6 hg6 hat6; rw [show evc L ++ evl e = evc (L ++ [e]) by rw [evc_append]; rfl] at ho6; have HI6 := Lib.hid (BI.push (u' := v6) (HBN.out.bel HA.out) HOA.out HT4.out.2.1 (HT4.out.2.2.trans (HA.out.out.mono (Nat.le_of_lt HBN.out.box.lt))) hg6 hat6 (by rw [show (L ++ [e]).length = L.length + 1 by simp]; exact ho6)); clear ho6 hg6 hat6))
          go_roundw
          case rel => exact ⟨i + 1, v4, L ++ [e], by omega, by go_num, HI6.out⟩
          case measure => simp [intOf]; omega
        · have hta : tellA L e = (0, wrong L e) := by unfold tellA; rw [if_neg h80, if_neg hw]
          have htl : tellL L e = L := by unfold tellL; rw [if_neg (fun h => hw h.2)]
          rw [hta]
          have HI5 := Lib.hid (show BI W N w4 v4 (.slice Au L.length cu) L from ⟨by have := HB4.out; rwa [htl] at this, HT4.out.1, HT4.out.2.1, HT4.out.2.2⟩)
          obtain ⟨Au', cu', he', hs4, _, _⟩ := Sl.own HT4.out.1
          cases he'
          have HS4 := Lib.hid hs4
          have HQ := Lib.hid (show ¬ 80 ≤ L.length from h80)
          have hq : (L.length : Int) < 80 := by omega
          have hk0 : (wrong L e == 0) = false := by simpa using hw
          have hk1 : (wrong L e != 0) = true := by simpa using hw
          clear hta htl hw h80 hs4
          go_wp2_with (refine loadB _ _ rfl rfl rfl HX4.out T36 ?_)
          refine (rwrong_any Au L.length cu L e _ HS4.out (by omega)).mono ?_
          rintro e5 w5 ⟨rfl, hb5⟩
          have HI6 := Lib.hid (HI5.out.bel (Bel.of hb5))
          have hk2 : (wrong L e != wrong L e) = false := by simp
          generalize wrong L e = k at *
          clear hb5
          go_wp2
          go_roundw
          case rel => exact ⟨i + 1, v4, L, by omega, by go_num, HI6.out⟩
          case measure => simp [intOf]; omega
    · obtain rfl : i = n := by omega
      go_wp2_with fail
      refine (rfast_any Au L.length cu L _ HSU.out HI.out.bd.ok).mono ?_
      rintro e5 w5 ⟨v5, rfl, ho5, hb5⟩
      obtain ⟨A5, c5, rfl, hs5, hn5, hm5⟩ := Sl.own ho5
      have HI5 := Lib.hid (HI.out.bel (Bel.of hb5))
      have HO5 := Lib.hid ho5
      have HNW := Lib.hid (Nat.le_of_lt HI.out.bd.box.lt)
      clear hs5 hn5 hm5
      go_wp2_with fail
      refine (tell_any N N v L ⟨0, 0, 0⟩ _ HI5.out.bd (Nat.le_of_lt HI5.out.bd.box.lt)).mono ?_
      rintro e6 w6 ⟨v6, rfl, hbd6, hg6, ha6⟩
      have hne : (tellA L ⟨0, 0, 0⟩).2 ≠ 0 := by rw [tell_zero]; dsimp only; split <;> decide
      rw [((check_tell HI5.out.bd.ok ⟨0, 0, 0⟩).2.2 hne).1] at hbd6
      obtain ⟨z, hz, hz2⟩ : ∃ z : Int, tellA L ⟨0, 0, 0⟩ = (0, z) ∧ (80 ≤ L.length ∧ z = 2 ∨ ¬ 80 ≤ L.length ∧ z = 1) := ⟨_, tell_zero L, by
        by_cases h : 80 ≤ L.length
        · exact .inl ⟨h, if_pos h⟩
        · exact .inr ⟨h, if_neg h⟩⟩
      rw [hz]
      have HZ := Lib.hid hz2
      clear hz hz2
      have HT6 := Lib.hid (HI5.out.told hbd6 hg6 ha6)
      have HI6 := Lib.hid (show BI W N w6 v6 (.slice Au L.length cu) L from ⟨hbd6, HT6.out.1, HT6.out.2.1, HT6.out.2.2⟩)
      have HO6 := Lib.hid (hg6.own HO5.out fun g hg => by
        have h1 := (own_lt HO5.out hg).1
        have h2 := HI.out.bd.box.lt
        exact ⟨by omega, fun e => by have := (own_lt HI.out.bd.own e).2; omega⟩)
      clear hbd6 hg6 ha6 hne hb5 ho5 HI5 HO5 HSU HI
      go_wp2_with fail
      refine (btrace_any N N v6 L _ HI6.out.bd).mono ?_
      rintro e7 w7 ⟨v7, rfl, ho7, hb7⟩
      obtain ⟨A7, c7, rfl, hs7, hn7, hm7⟩ := Sl.own ho7
      have HI7 := Lib.hid (HI6.out.bel (Bel.of hb7))
      have HO7 := Lib.hid (own_bel HO6.out (Bel.of hb7))
      obtain ⟨Au', cu', he', hs8, hn8, hm8⟩ := Sl.own HI7.out.own
      cases he'
      go_wp2_with fail
      refine (eqev_any A7 Au L.length c7 L.length cu L L _ hs7 hs8 hn7 hn8 hm7 hm8).mono ?_
      rintro e8 w8 ⟨rfl, hb8⟩
      rw [decide_eq_true rfl]
      have HI8 := Lib.hid (HI7.out.bel (Bel.of hb8))
      have HO8 := Lib.hid (own_bel HO7.out (Bel.of hb8))
      clear ho7 hb7 hs7 hn7 hm7 hs8 hn8 hm8 hb8 HI7 HO7 HI6 HO6
      go_wp2_with fail
      refine (bflags_any N N v6 L _ HI8.out.bd).mono ?_
      rintro e9 w9 ⟨v9, rfl, ho9, hb9⟩
      obtain ⟨A9, c9, rfl, hs9, hn9, hm9⟩ := Sl.own ho9
      obtain ⟨A5', c5', he5, hs5, hn5, hm5⟩ := Sl.own (own_bel HO8.out (Bel.of hb9))
      cases he5
      have HI9 := Lib.hid (HI8.out.bel (Bel.of hb9))
      go_wp2_with fail
      refine (eqfl_any A9 A5 _ c9 _ c5 _ _ _ hs9 hs5 hn9 hn5 hm9 hm5).mono ?_
      rintro e10 w10 ⟨rfl, hb10⟩
      rw [decide_eq_true rfl]
      have HI10 := Lib.hid (HI9.out.bel (Bel.of hb10))
      clear ho9 hb9 hs9 hn9 hm9 hs5 hn5 hm5 hb10 HI9 HI8 HO8
      rcases HZ.out with ⟨h80, rfl⟩ | ⟨h80, rfl⟩
      · have hq : ((L.length : Int) == 80) = true := by rw [beq_iff_eq]; have := HLN.out; omega
        clear h80
        go_wp2
        go_ret
        exact ⟨rfl, by rw [HNN.out]; exact HI10.out.below⟩
      · clear h80
        go_wp2
        go_ret
        exact ⟨rfl, by rw [HNN.out]; exact HI10.out.below⟩
set_option maxRecDepth 100000 in
theorem lifted (os : Os) (started : os.Started) (H : Type) (enc : TypeId × Value → H) :
    ReturnsInHanded {} Try.checked os 12 .any (Rows.boardTellsSpec.pre6 enc Try.prog Try.f12 Rows.boardTellsRow.domain false) (Rows.boardTellsSpec.post enc Try.prog Try.f12 false true false false) := by
  refine returnsInHanded_of_change_sized (C := Try.checked) own started (by kernel_rfl) Try.func12
    (ChangeSpec.witness6 (enc := enc) (C := Try.checked) false ⟨#[], #[.slice none 0 0], []⟩ 8 (by kernel_rfl) (by kernel_rfl) (by kernel_rfl) (by kernel_rfl)) ?_
  intro W base args ds gs before hval0 hW hcnd hsz0 _
  have hsz : (DataW.weightsEach Try.prog (Try.f12.params.toList ++ Rows.boardTellsSpec.plain.varTypes Try.prog) (ds ++ gs)).all (· ≤ reachBytes) = true := hsz0
  clear hsz0
  have hval : ∀ (j : Nat) t v, Try.f12.params[j]? = some t → args[j]? = some v → Value.okWide Try.prog W .any base t v := hval0
  have hW' := hW
  obtain ⟨p, q, hA0, hV, rfl, hfz, hnd⟩ := hW
  have hA : DataW.TrodAll enc Try.prog W 0 (fun _ => true) true Try.f12.params.toList args.toList ds p := hA0
  rw [Try.params12] at hA hval hsz
  obtain ⟨v0, vs0, d0, ds0, p0, q0, hargs, rfl, rfl, h0, r0⟩ := trodAll_cons hA
  obtain ⟨rfl, rfl, rfl⟩ := trodAll_nil r0
  obtain rfl : args = #[v0] := by cases args; simp_all
  obtain ⟨rfl, rfl⟩ := trodVars_none hV
  have t0 := h0
  have lt0 : ∀ x ∈ p0, x.block < W.heap.size := by obtain ⟨m, hm⟩ := t0; exact DataW.trod_lt m _ _ _ hm
  obtain ⟨A0, n0, c0, l0, rfl, s0, m0, x0, g0, z0⟩ := open_evs Try.underlying22 Try.underlying50 ⟨rfl, rfl, rfl⟩ (by kernel_rfl) (by kernel_rfl) Try.underlying3 (hval 0 22 v0 rfl rfl) h0
  have y0 := reach_sl hsz (j := 0) rfl rfl Try.underlying22 (b := 24) (by kernel_rfl) z0
  clear hA0 hval0
  refine (walk W A0 n0 c0 l0 s0 m0 x0 g0).mono fun e W' ⟨he, bel⟩ => ?_
  subst he
  exact ⟨_, rfl, _, _, _, [], _, [], hW', trodAll_mk1 (shut_bool Try.underlying4 _), (trodAll_cons_mk (Below.trod laidOut (by kernel_rfl) (of_decide_eq_true (by kernel_rfl)) t0 bel lt0) trodAll_mk0), rfl, bel.frame _, fun h => by cases h⟩

theorem over : Rows.boardTellsRow.holds Try.pinned (OpenSpec.ofChange Rows.boardTellsSpec) :=
  OpenClaim.holds_of_wide 12 Try.f12 rfl rfl rfl rfl rfl rfl rfl ⟨rfl, rfl, rfl, rfl, rfl⟩ rfl rfl rfl rfl rfl (by kernel_rfl) Try.func12 (by kernel_rfl)
    (of_decide_eq_true (by kernel_rfl)) (by unfold Func.isWrapper; first | (rw [if_pos (by decide +kernel)]; kernel_rfl) | (rw [if_neg (by decide +kernel)]; exact ⟨rfl, rfl⟩))
    (fun os started H enc _ => lifted os started H enc)

theorem proved : Rows.BoardTellsSaid := over
#print axioms proved
end Go.Proofs.Yteihildhlcggoaa.LBoardTells

/- Contracts of the reference: Wrong, Check, May, Held. -/
import Derived.Test.YtnjaeampnakbbaaRefTr
set_option linter.all false
set_option maxRecDepth 100000
namespace Go.Proofs.Ytnjaeampnakbbaa
open Go.RowKit

theorem Box.cells3 {w : World} {B : Nat} {e : Ev} {t : TypeId} (h : Box w B (evv e) t) : w.cell? ⟨B, 0, none⟩ = some (.int .i64 e.k) ∧ w.cell? ⟨B, 1, none⟩ = some (.int .i64 e.t) ∧ w.cell? ⟨B, 2, none⟩ = some (.int .i64 e.o) :=
  ⟨h.cell 0 rfl, h.cell 1 rfl, h.cell 2 rfl⟩

set_option maxHeartbeats 4000000 in
theorem rwrong_any (A : Option Addr) (n c : Nat) (l : List Ev) (e : Ev) (w : World) (hl0 : Sl w A n l) (hn : n ≤ 9223372036854775807) :
    Calls Try.prog 52 #[.slice A n c, .agg (evv e)] w fun e' w' => e' = .returned (.int .i64 (wrong l e)) ∧ Below w.heap.size w w' := by
  obtain ⟨b1, hB, hs⟩ := boxes1 w (evv e) 45
  have hl := hl0.bel hB
  generalize hW : w.alloc (.cells (evv e) 45) = W at *
  have HB := Lib.hid hB
  have HL := Lib.hid hl
  have L1 : w.heap.size < W.heap.size := by omega
  have HC := Lib.hid (fun (w' : World) (h : Bel W w') => (h.box b1).cells3)
  have HX := Lib.hid b1
  have HT := Lib.hid (fun (w1 : World) (h : Bel W w1) => HB.out.trans (h.out.mono (Nat.le_of_lt L1)))
  obtain ⟨c0, c1, c2⟩ := b1.cells3
  clear hB hs hl hl0 b1
  obtain ⟨k, t, o⟩ := e
  cases h1 : isEv ⟨k, t, o⟩
  · have HV := Lib.hid (wrong_bad (p := l) h1)
    go_enter Try.func52, Try.ntmps52
    go_wp2_with (refine loadB _ _ rfl rfl rfl HX.out T36 ?_)
    refine (isEvent_any _ _).mono ?_
    rintro e' w1 ⟨rfl, hb⟩
    go_wp2
    go_ret
    exact ⟨by rw [HV.out]; rfl, HT.out _ hb⟩
  cases h2 : begun l t
  · have HV := Lib.hid (show wrong l ⟨k, t, o⟩ = 11 by simp [wrong, h1, h2])
    go_enter Try.func52, Try.ntmps52
    go_wp2_with (refine loadB _ _ rfl rfl rfl HX.out T36 ?_)
    refine (isEvent_any _ _).mono ?_
    rintro e' w1 ⟨rfl, hb⟩
    have hw1 : Bel W w1 := hb
    clear hb
    obtain ⟨x0, x1, x2⟩ := HC.out w1 hw1
    go_wp2_with fail
    refine (begun_any A n c l t _ (HL.out.bel hw1) hn).mono ?_
    rintro e' w2 ⟨rfl, hb⟩
    have hw2 : Bel W w2 := hw1.call hb
    clear hb
    go_wp2
    go_ret
    exact ⟨by rw [HV.out]; rfl, HT.out _ hw2⟩
  cases h3 : did l 6 t
  case true =>
    have HV := Lib.hid (show wrong l ⟨k, t, o⟩ = 11 by simp [wrong, h1, h2, h3])
    go_enter Try.func52, Try.ntmps52
    go_wp2_with (refine loadB _ _ rfl rfl rfl HX.out T36 ?_)
    refine (isEvent_any _ _).mono ?_
    rintro e' w1 ⟨rfl, hb⟩
    have hw1 : Bel W w1 := hb
    clear hb
    obtain ⟨x0, x1, x2⟩ := HC.out w1 hw1
    go_wp2_with fail
    refine (begun_any A n c l t _ (HL.out.bel hw1) hn).mono ?_
    rintro e' w2 ⟨rfl, hb⟩
    have hw2 : Bel W w2 := hw1.call hb
    clear hb
    obtain ⟨y0, y1, y2⟩ := HC.out w2 hw2
    go_wp2_with fail
    refine (did_any A n c l 6 t _ (HL.out.bel hw2) hn).mono ?_
    rintro e' w3 ⟨rfl, hb⟩
    have hw3 : Bel W w3 := hw2.call hb
    clear hb
    go_wp2
    go_ret
    exact ⟨by rw [HV.out]; rfl, HT.out _ hw3⟩
  have HV := Lib.hid (show wrong l ⟨k, t, o⟩ = (if k = 3 then (if 0 ≤ owner l o then 9 else 0) else if k = 4 then (if owner l o = t then 0 else 10) else if k = 5 then (if begun l o = true then 8 else 0)
    else if k = 6 then (if begun l o = false ∨ o = t then 7 else 0) else 0) by simp [wrong, h1, h2, h3])
  have hkk : (nobj k = 0) → False := fun h => by
    have := isEv_o h1
    simp only at this
    omega
  rcases kinds k with rfl | rfl | rfl | rfl | rfl | rfl | rfl | rfl | hk
  case inr.inr.inr.inr.inr.inr.inr.inr => exact (hkk (nobj_else hk)).elim
  case inr.inr.inl =>
    clear hkk
    cases h4 : decide (0 ≤ owner l o)
    all_goals
      have HV2 := Lib.hid h4
      go_enter Try.func52, Try.ntmps52
      go_wp2_with (refine loadB _ _ rfl rfl rfl HX.out T36 ?_)
      refine (isEvent_any _ _).mono ?_
      rintro e' w1 ⟨rfl, hb⟩
      have hw1 : Bel W w1 := hb
      clear hb
      obtain ⟨x0, x1, x2⟩ := HC.out w1 hw1
      go_wp2_with fail
      refine (begun_any A n c l t _ (HL.out.bel hw1) hn).mono ?_
      rintro e' w2 ⟨rfl, hb⟩
      have hw2 : Bel W w2 := hw1.call hb
      clear hb
      obtain ⟨y0, y1, y2⟩ := HC.out w2 hw2
      go_wp2_with fail
      refine (did_any A n c l 6 t _ (HL.out.bel hw2) hn).mono ?_
      rintro e' w3 ⟨rfl, hb⟩
      have hw3 : Bel W w3 := hw2.call hb
      clear hb
      obtain ⟨v0, v1, v2⟩ := HC.out w3 hw3
      go_wp2_with fail
      refine (owner_any A n c l o _ (HL.out.bel hw3) hn).mono ?_
      rintro e' w4 ⟨rfl, hb⟩
      have hw4 : Bel W w4 := hw3.call hb
      clear hb
      go_wp2
      go_ret
      exact ⟨ret_val (by rw [HV.out]; have := HV2.out; simp_all), HT.out _ hw4⟩
  case inr.inr.inr.inl =>
    clear hkk
    cases h4 : (owner l o != t)
    all_goals
      have HV2 := Lib.hid h4
      go_enter Try.func52, Try.ntmps52
      go_wp2_with (refine loadB _ _ rfl rfl rfl HX.out T36 ?_)
      refine (isEvent_any _ _).mono ?_
      rintro e' w1 ⟨rfl, hb⟩
      have hw1 : Bel W w1 := hb
      clear hb
      obtain ⟨x0, x1, x2⟩ := HC.out w1 hw1
      go_wp2_with fail
      refine (begun_any A n c l t _ (HL.out.bel hw1) hn).mono ?_
      rintro e' w2 ⟨rfl, hb⟩
      have hw2 : Bel W w2 := hw1.call hb
      clear hb
      obtain ⟨y0, y1, y2⟩ := HC.out w2 hw2
      go_wp2_with fail
      refine (did_any A n c l 6 t _ (HL.out.bel hw2) hn).mono ?_
      rintro e' w3 ⟨rfl, hb⟩
      have hw3 : Bel W w3 := hw2.call hb
      clear hb
      obtain ⟨v0, v1, v2⟩ := HC.out w3 hw3
      go_wp2_with fail
      have F : ∀ w', Bel w3 w' → _ := fun w' h => HC.out w' (hw3.trans h)
      (refine region_bel (by kernel_rfl) (by kernel_rfl) ?_; (repeat (first | ((with_reducible refine BigFrame.wpQuiet_skip ?_ ?_); exact rfl; simp only [Act.put, Act.eval, List.setIfInBounds_toArray, List.set_cons_zero, List.set_cons_succ, Array.getD_eq_getD_getElem?, List.getElem?_toArray, List.getElem?_cons_zero, List.getElem?_cons_succ, Option.getD_some]) | (refine q_move _ rfl rfl ?_; simp only [Act.put, Act.eval, List.setIfInBounds_toArray, List.set_cons_zero, List.set_cons_succ, Array.getD_eq_getD_getElem?, List.getElem?_toArray, List.getElem?_cons_zero, List.getElem?_cons_succ, Option.getD_some]) | (refine q_assign _ rfl rfl ?_; simp only [Act.put, Act.eval, List.setIfInBounds_toArray, List.set_cons_zero, List.set_cons_succ, Array.getD_eq_getD_getElem?, List.getElem?_toArray, List.getElem?_cons_zero, List.getElem?_cons_succ, Option.getD_some]) | (refine q_any rfl ?_; apply Exists.intro; refine ⟨fun w hw => ?_, ?_⟩; (have fct0 := F w hw; go_simp; first | exact ⟨rfl, rfl⟩ | rfl | (go_at_call 70; (with_reducible refine (owner_any A n c l o _ (HL.out.bel (hw3.trans hw).out) hn).mono ?_); rintro e w' ⟨rfl, hb⟩; exact ⟨rfl, hw.call hb⟩)); simp only [Act.put, Act.eval, List.setIfInBounds_toArray, List.set_cons_zero, List.set_cons_succ, Array.getD_eq_getD_getElem?, List.getElem?_toArray, List.getElem?_cons_zero, List.getElem?_cons_succ, Option.getD_some]))); refine wpQuiet_nil ?_; intro w2 hw2)
      have hw4 := hw3.trans hw2
      go_wp2
      go_ret
      exact ⟨ret_val (by rw [HV.out]; have := HV2.out; simp_all), HT.out _ hw4⟩
  case inr.inr.inr.inr.inl =>
    clear hkk
    cases h4 : begun l o
    all_goals
      have HV2 := Lib.hid h4
      go_enter Try.func52, Try.ntmps52
      go_wp2_with (refine loadB _ _ rfl rfl rfl HX.out T36 ?_)
      refine (isEvent_any _ _).mono ?_
      rintro e' w1 ⟨rfl, hb⟩
      have hw1 : Bel W w1 := hb
      clear hb
      obtain ⟨x0, x1, x2⟩ := HC.out w1 hw1
      go_wp2_with fail
      refine (begun_any A n c l t _ (HL.out.bel hw1) hn).mono ?_
      rintro e' w2 ⟨rfl, hb⟩
      have hw2 : Bel W w2 := hw1.call hb
      clear hb
      obtain ⟨y0, y1, y2⟩ := HC.out w2 hw2
      go_wp2_with fail
      refine (did_any A n c l 6 t _ (HL.out.bel hw2) hn).mono ?_
      rintro e' w3 ⟨rfl, hb⟩
      have hw3 : Bel W w3 := hw2.call hb
      clear hb
      obtain ⟨v0, v1, v2⟩ := HC.out w3 hw3
      go_wp2_with fail
      refine (begun_any A n c l o _ (HL.out.bel hw3) hn).mono ?_
      rintro e' w4 ⟨rfl, hb⟩
      have hw4 : Bel W w4 := hw3.call hb
      clear hb
      go_wp2
      go_ret
      exact ⟨ret_val (by rw [HV.out]; have := HV2.out; simp_all), HT.out _ hw4⟩
  case inr.inr.inr.inr.inr.inl =>
    clear hkk
    cases h4 : begun l o
    · have HV2 := Lib.hid h4
      go_enter Try.func52, Try.ntmps52
      go_wp2_with (refine loadB _ _ rfl rfl rfl HX.out T36 ?_)
      refine (isEvent_any _ _).mono ?_
      rintro e' w1 ⟨rfl, hb⟩
      have hw1 : Bel W w1 := hb
      clear hb
      obtain ⟨x0, x1, x2⟩ := HC.out w1 hw1
      go_wp2_with fail
      refine (begun_any A n c l t _ (HL.out.bel hw1) hn).mono ?_
      rintro e' w2 ⟨rfl, hb⟩
      have hw2 : Bel W w2 := hw1.call hb
      clear hb
      obtain ⟨y0, y1, y2⟩ := HC.out w2 hw2
      go_wp2_with fail
      refine (did_any A n c l 6 t _ (HL.out.bel hw2) hn).mono ?_
      rintro e' w3 ⟨rfl, hb⟩
      have hw3 : Bel W w3 := hw2.call hb
      clear hb
      obtain ⟨v0, v1, v2⟩ := HC.out w3 hw3
      go_wp2_with fail
      refine (begun_any A n c l o _ (HL.out.bel hw3) hn).mono ?_
      rintro e' w4 ⟨rfl, hb⟩
      have hw4 : Bel W w4 := hw3.call hb
      clear hb
      go_wp2
      go_ret
      exact ⟨ret_val (by rw [HV.out]; have := HV2.out; simp_all), HT.out _ hw4⟩
    · cases h5 : (o == t)
      all_goals
        have HV2 := Lib.hid h4
        have HV3 := Lib.hid h5
        go_enter Try.func52, Try.ntmps52
        go_wp2_with (refine loadB _ _ rfl rfl rfl HX.out T36 ?_)
        refine (isEvent_any _ _).mono ?_
        rintro e' w1 ⟨rfl, hb⟩
        have hw1 : Bel W w1 := hb
        clear hb
        obtain ⟨x0, x1, x2⟩ := HC.out w1 hw1
        go_wp2_with fail
        refine (begun_any A n c l t _ (HL.out.bel hw1) hn).mono ?_
        rintro e' w2 ⟨rfl, hb⟩
        have hw2 : Bel W w2 := hw1.call hb
        clear hb
        obtain ⟨y0, y1, y2⟩ := HC.out w2 hw2
        go_wp2_with fail
        refine (did_any A n c l 6 t _ (HL.out.bel hw2) hn).mono ?_
        rintro e' w3 ⟨rfl, hb⟩
        have hw3 : Bel W w3 := hw2.call hb
        clear hb
        obtain ⟨v0, v1, v2⟩ := HC.out w3 hw3
        go_wp2_with fail
        refine (begun_any A n c l o _ (HL.out.bel hw3) hn).mono ?_
        rintro e' w4 ⟨rfl, hb⟩
        have hw4 : Bel W w4 := hw3.call hb
        clear hb
        obtain ⟨z0, z1, z2⟩ := HC.out w4 hw4
        go_wp2
        go_ret
        exact ⟨ret_val (by rw [HV.out]; have := HV2.out; have := HV3.out; simp_all), HT.out _ hw4⟩
  all_goals
    clear hkk
    go_enter Try.func52, Try.ntmps52
    go_wp2_with (refine loadB _ _ rfl rfl rfl HX.out T36 ?_)
    refine (isEvent_any _ _).mono ?_
    rintro e' w1 ⟨rfl, hb⟩
    have hw1 : Bel W w1 := hb
    clear hb
    obtain ⟨x0, x1, x2⟩ := HC.out w1 hw1
    go_wp2_with fail
    refine (begun_any A n c l t _ (HL.out.bel hw1) hn).mono ?_
    rintro e' w2 ⟨rfl, hb⟩
    have hw2 : Bel W w2 := hw1.call hb
    clear hb
    obtain ⟨y0, y1, y2⟩ := HC.out w2 hw2
    go_wp2_with fail
    refine (did_any A n c l 6 t _ (HL.out.bel hw2) hn).mono ?_
    rintro e' w3 ⟨rfl, hb⟩
    have hw3 : Bel W w3 := hw2.call hb
    clear hb
    obtain ⟨v0, v1, v2⟩ := HC.out w3 hw3
    go_wp2
    go_ret
    exact ⟨ret_val (by rw [HV.out]; simp), HT.out _ hw3⟩

theorem Sl.take {w : World} {A : Option Addr} {n : Nat} {l : List Ev} (h : Sl w A n l) {i : Nat} (hi : i ≤ n) : Sl w A i (l.take i) := by
  refine ⟨by rw [List.length_take, h.1]; omega, fun h0 => ?_⟩
  obtain ⟨b, off, hA, hlt, hr⟩ := h.2 (by omega)
  refine ⟨b, off, hA, hlt, fun j v hv => hr j v ?_⟩
  rw [← evc_take, List.getElem?_take] at hv
  split at hv
  · exact hv
  · cases hv
structure CRel (w : World) (l : List Ev) (i : Nat) (wr : World) : Prop where
  below : Below w.heap.size w wr
  chk : chk [] l = chk (l.take i) (l.drop i)
set_option maxHeartbeats 4000000 in
theorem rcheck_any (A : Option Addr) (n c : Nat) (l : List Ev) (w : World) (hl : Sl w A n l) (hnc : n ≤ c) (hcm : c ≤ 9223372036854775807) :
    Calls Try.prog 36 #[.slice A n c] w fun e w' => e = .returned (.tuple #[.int .i64 (check l).1, .int .i64 (check l).2]) ∧ Below w.heap.size w w' := by
  by_cases hn : 80 < n
  · have HC := Lib.hid (show check l = (0, 2) by unfold check; rw [if_pos (by rw [hl.1]; exact hn)])
    have hn' : (80 : Int) < n := by omega
    go_enter Try.func36, Try.ntmps36
    go_wp2
    go_ret2
    exact ⟨by rw [HC.out]; rfl, Below.refl _ _⟩
  · have hn80 : n ≤ 80 := by omega
    have HC := Lib.hid (show check l = chk [] l by unfold check; rw [if_neg (by rw [hl.1]; omega)])
    go_enter Try.func36, Try.ntmps36
    go_wp2
    go_loopw [12] (fun t wr => ∃ i : Nat, i ≤ n ∧ t = .int .i64 i ∧ CRel w l i wr) (fun t _ => n - (intOf t).toNat)
    case atStart => exact ⟨0, by omega, rfl, ⟨Below.refl _ _, by simp⟩⟩
    case round =>
      obtain ⟨i, hi, rfl, hr⟩ := hrel
      have HR := Lib.hid hr
      have HL := Lib.hid hl
      by_cases hlt : i < n
      · obtain ⟨bb, off, e, rfl, hbb, he, hrg⟩ := hl.at_ hlt
        have hlt' : (i : Int) < n := by omega
        have HH := Lib.hid (chk_step he)
        have hR := Lib.hid (rangeAt_below hr.below hbb hrg)
        have hic : (i : Int) ≤ c := by omega
        clear hr he hl hrg
        have HW := Lib.hid (HR.out.below.trans ((ewld_below wr e 45).mono HR.out.below.size))
        have HS := Lib.hid ((HL.out.below HW.out (Nat.le_refl _)).take hi)
        have HX := Lib.hid (ewld_box wr e 45)
        have hb0 := HX.out
        generalize hE : ewld wr e 45 = E at *
        cases hw : (wrong (l.take i) e != 0)
        · have h0 : wrong (l.take i) e = 0 := by simpa using hw
          have H0 := Lib.hid h0
          clear h0
          go_wp2_with (first | (refine load_ev T36 _ rfl rfl rfl hR.out ?_) | (refine ewld_store T36 _ _ rfl rfl _ rfl rfl rfl ?_))
          rw [hE]
          clear hE
          (refine region_bel (by kernel_rfl) (by kernel_rfl) ?_; (repeat (first | ((with_reducible refine BigFrame.wpQuiet_skip ?_ ?_); exact rfl; simp only [Act.put, Act.eval, List.setIfInBounds_toArray, List.set_cons_zero, List.set_cons_succ, Array.getD_eq_getD_getElem?, List.getElem?_toArray, List.getElem?_cons_zero, List.getElem?_cons_succ, Option.getD_some]) | (refine q_move _ rfl rfl ?_; simp only [Act.put, Act.eval, List.setIfInBounds_toArray, List.set_cons_zero, List.set_cons_succ, Array.getD_eq_getD_getElem?, List.getElem?_toArray, List.getElem?_cons_zero, List.getElem?_cons_succ, Option.getD_some]) | (refine q_assign _ rfl rfl ?_; simp only [Act.put, Act.eval, List.setIfInBounds_toArray, List.set_cons_zero, List.set_cons_succ, Array.getD_eq_getD_getElem?, List.getElem?_toArray, List.getElem?_cons_zero, List.getElem?_cons_succ, Option.getD_some]) | (refine q_load _ _ rfl rfl rfl hb0 T36 ?_; simp only [Act.put, Act.eval, List.setIfInBounds_toArray, List.set_cons_zero, List.set_cons_succ, Array.getD_eq_getD_getElem?, List.getElem?_toArray, List.getElem?_cons_zero, List.getElem?_cons_succ, Option.getD_some]) | (refine q_any rfl ?_; apply Exists.intro; refine ⟨fun w hw => ?_, ?_⟩; (go_simp; first | exact ⟨rfl, rfl⟩ | rfl | (go_at_call 52; (with_reducible refine (rwrong_any (some ⟨bb, off, none⟩) i c (l.take i) e _ (HS.out.bel hw.out) (by omega)).mono ?_); rintro e w' ⟨rfl, hb⟩; exact ⟨rfl, hw.call hb⟩)); simp only [Act.put, Act.eval, List.setIfInBounds_toArray, List.set_cons_zero, List.set_cons_succ, Array.getD_eq_getD_getElem?, List.getElem?_toArray, List.getElem?_cons_zero, List.getElem?_cons_succ, Option.getD_some]))); refine wpQuiet_nil ?_; intro w2 hw2)
          go_wp2
          go_roundw
          case rel => exact ⟨i + 1, by omega, by go_num, ⟨HW.out.trans (hw2.out.mono HW.out.size), by rw [HR.out.chk, HH.out, H0.out]; simp⟩⟩
          case measure => simp [intOf]; omega
        · have HF := Lib.hid (show check l = ((i : Int), wrong (l.take i) e) by rw [HC.out, HR.out.chk, HH.out, if_pos (by simpa using hw)])
          go_wp2_with (first | (refine load_ev T36 _ rfl rfl rfl hR.out ?_) | (refine ewld_store T36 _ _ rfl rfl _ rfl rfl rfl ?_))
          rw [hE]
          clear hE
          (refine region_bel (by kernel_rfl) (by kernel_rfl) ?_; (repeat (first | ((with_reducible refine BigFrame.wpQuiet_skip ?_ ?_); exact rfl; simp only [Act.put, Act.eval, List.setIfInBounds_toArray, List.set_cons_zero, List.set_cons_succ, Array.getD_eq_getD_getElem?, List.getElem?_toArray, List.getElem?_cons_zero, List.getElem?_cons_succ, Option.getD_some]) | (refine q_move _ rfl rfl ?_; simp only [Act.put, Act.eval, List.setIfInBounds_toArray, List.set_cons_zero, List.set_cons_succ, Array.getD_eq_getD_getElem?, List.getElem?_toArray, List.getElem?_cons_zero, List.getElem?_cons_succ, Option.getD_some]) | (refine q_assign _ rfl rfl ?_; simp only [Act.put, Act.eval, List.setIfInBounds_toArray, List.set_cons_zero, List.set_cons_succ, Array.getD_eq_getD_getElem?, List.getElem?_toArray, List.getElem?_cons_zero, List.getElem?_cons_succ, Option.getD_some]) | (refine q_load _ _ rfl rfl rfl hb0 T36 ?_; simp only [Act.put, Act.eval, List.setIfInBounds_toArray, List.set_cons_zero, List.set_cons_succ, Array.getD_eq_getD_getElem?, List.getElem?_toArray, List.getElem?_cons_zero, List.getElem?_cons_succ, Option.getD_some]) | (refine q_any rfl ?_; apply Exists.intro; refine ⟨fun w hw => ?_, ?_⟩; (go_simp; first | exact ⟨rfl, rfl⟩ | rfl | (go_at_call 52; (with_reducible refine (rwrong_any (some ⟨bb, off, none⟩) i c (l.take i) e _ (HS.out.bel hw.out) (by omega)).mono ?_); rintro e w' ⟨rfl, hb⟩; exact ⟨rfl, hw.call hb⟩)); simp only [Act.put, Act.eval, List.setIfInBounds_toArray, List.set_cons_zero, List.set_cons_succ, Array.getD_eq_getD_getElem?, List.getElem?_toArray, List.getElem?_cons_zero, List.getElem?_cons_succ, Option.getD_some]))); refine wpQuiet_nil ?_; intro w2 hw2)
          go_wp2
          go_ret2
          exact ⟨by rw [HF.out]; rfl, HW.out.trans (hw2.out.mono HW.out.size)⟩
      · obtain rfl : i = n := by omega
        have HF := Lib.hid (show check l = (0, 0) by rw [HC.out, hr.chk, ← hl.1]; exact chk_end l)
        clear hr hl
        go_wp2
        go_ret2
        exact ⟨by rw [HF.out]; rfl, HR.out.below⟩

theorem rmay_any (A : Option Addr) (n c : Nat) (l : List Ev) (w : World) (hl : Sl w A n l) (hnc : n ≤ c) (hcm : c ≤ 9223372036854775807) :
    Calls Try.prog 19 #[.slice A n c] w fun e w' => e = .returned (.int .i64 (may l)) ∧ Below w.heap.size w w' := by
  have HL := Lib.hid hl
  clear hl
  go_enter Try.func19, Try.ntmps19
  go_wp2_with fail
  refine (rcheck_any A n c l _ HL.out hnc hcm).mono ?_
  rintro e w1 ⟨rfl, hb⟩
  go_wp2
  go_ret
  exact ⟨rfl, hb⟩

end Go.Proofs.Ytnjaeampnakbbaa

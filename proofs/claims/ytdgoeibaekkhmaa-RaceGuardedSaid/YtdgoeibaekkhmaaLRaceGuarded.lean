/- 'deadheatkeep.RaceGuarded' returns true for every input and leaves its arguments as they are. No condition. -/
import Derived.Test.YtdgoeibaekkhmaaOpenTr
import Derived.Test.YtdgoeibaekkhmaaTwoRow
import Derived.Test.YtdgoeibaekkhmaaTrace4
import Derived.Test.YtdgoeibaekkhmaaRest
import Derived.Test.YtdgoeibaekkhmaaLst
set_option linter.all false
set_option maxRecDepth 100000
namespace Go.Proofs.Ytdgoeibaekkhmaa.LRaceGuarded
open Go Go.ChangeShapes Go.WideShapes Go.ChangeAt Go.RowKit

def keepP (p : List Ev) (q : Nat) (e : Ev) : Bool := decide (2 < e.k) || ((pheld p e.t).2 == 0 && (bits .and .i64 ((pheld p e.t).1 / 2 ^ q) 1 == 1))
theorem keepP_owner {p : List Ev} {q : Nat} {e : Ev} (hq : q < 5) (h : keepP p q e = true) (hk : e.k ≤ 2) : owner p q = e.t := by
  unfold keepP at h
  rw [decide_eq_false (by omega), Bool.false_or, Bool.and_eq_true] at h
  obtain ⟨h1, h2⟩ := h
  have h3 : (pheld p e.t).2 = 0 := by simpa using h1
  have h4 : (pheld p e.t).1 = held p e.t := by
    unfold pheld at h3 ⊢
    split
    · rename_i hm
      rw [if_pos hm] at h3
      split
      · rfl
      · rename_i hb; rw [if_neg hb] at h3; cases h3
    · rename_i hm; rw [if_neg hm] at h3; exact absurd h3 hm
  rw [h4] at h2
  unfold held at h2
  rw [has_bit (fun q => decide (owner p q = e.t)) q hq] at h2
  exact of_decide_eq_true h2
/-- The guarded trace of the first i events. -/
def gdTo (l : List Ev) (q : Nat) : Nat → List Ev
  | 0 => []
  | i + 1 => if keepP (l.take i) q (evZ l i) = true then gdTo l q i ++ [evZ l i] else gdTo l q i
theorem gdTo_yes {l : List Ev} {q i : Nat} {e : Ev} (he : l[i]? = some e) (h : keepP (l.take i) q e = true) : gdTo l q (i + 1) = gdTo l q i ++ [e] := by
  rw [gdTo, evZ_at he, if_pos h]
theorem gdTo_no {l : List Ev} {q i : Nat} {e : Ev} (he : l[i]? = some e) (h : keepP (l.take i) q e = false) : gdTo l q (i + 1) = gdTo l q i := by
  rw [gdTo, evZ_at he, if_neg (by rw [h]; decide)]
theorem gdTo_len (l : List Ev) (q : Nat) : ∀ i, (gdTo l q i).length ≤ i
  | 0 => by simp [gdTo]
  | i + 1 => by
    have := gdTo_len l q i
    rw [gdTo]
    split
    · rw [List.length_append, List.length_singleton]; omega
    · omega
theorem owner_skip {p : List Ev} {e : Ev} (h : e.k ≤ 2) (k : Int) : owner (p ++ [e]) k = owner p k := by
  rw [owner_snoc, ownB, if_neg (by omega), if_neg (by omega)]
theorem gd_owner (l : List Ev) (q : Nat) (k : Int) : ∀ i, i ≤ l.length → owner (gdTo l q i) k = owner (l.take i) k
  | 0, _ => by simp [gdTo]
  | i + 1, hi => by
    have he := List.getElem?_eq_getElem (show i < l.length by omega)
    have ih := gd_owner l q k i (by omega)
    rw [take_snoc' he]
    cases hk : keepP (l.take i) q l[i]
    · rw [gdTo_no he hk, ih, owner_skip]
      rcases Int.lt_or_le 2 l[i].k with h | h
      · unfold keepP at hk; rw [decide_eq_true h] at hk; cases hk
      · exact h
    · rw [gdTo_yes he hk, owner_snoc, owner_snoc, ih]
/-- Each access of the guarded trace is under the lock. -/
theorem gd_under {l : List Ev} {q : Nat} (hq : q < 5) : ∀ i, i ≤ l.length → ∀ p e, (gdTo l q i)[p]? = some e → e.k ≤ 2 → owner ((gdTo l q i).take p) q = e.t
  | 0, _, p, e, h, _ => by simp [gdTo] at h
  | i + 1, hi, p, e, h, hk => by
    have he := List.getElem?_eq_getElem (show i < l.length by omega)
    cases hp : keepP (l.take i) q l[i]
    · rw [gdTo_no he hp] at h ⊢; exact gd_under hq i (by omega) p e h hk
    · rw [gdTo_yes he hp] at h ⊢
      rcases Nat.lt_or_ge p (gdTo l q i).length with hl | hl
      · rw [List.getElem?_append_left hl] at h
        rw [List.take_append_of_le_length (by omega)]
        exact gd_under hq i (by omega) p e h hk
      · rw [List.getElem?_append_right hl] at h
        have hpe : p = (gdTo l q i).length := by
          have := (List.getElem?_eq_some_iff.1 h).1
          simp at this; omega
        subst hpe
        rw [Nat.sub_self] at h
        have : l[i] = e := by simpa using h
        rw [List.take_left, gd_owner l q q i (by omega), ← this]
        exact keepP_owner hq hp (by rw [this]; exact hk)
theorem gd_nil {l : List Ev} {q : Nat} (hq : q < 5) (hm : may (gdTo l q l.length) = 0) : rcsA (gdTo l q l.length) = [] := by
  have hu := gd_under (l := l) hq l.length (Nat.le_refl _)
  generalize gdTo l q l.length = d at *
  refine rcsA_nil fun i j a b ha hb hij hc => ?_
  have hk := conf_bin (l := d) hc
  have oa := hu i a ha (by omega)
  have ob := hu j b hb (by omega)
  have ta := isEv_t (wrong_isEv (wrong_at hm ha))
  have tb := isEv_t (wrong_isEv (wrong_at hm hb))
  have hj : j < d.length := (List.getElem?_eq_some_iff.1 hb).1
  by_cases ht : a.t = b.t
  · exact dir_bef (thread_dir ha hb hij ht)
  · obtain ⟨r, e, h1, h2, he, h3, h4, h5⟩ := lost hm ta.1 oa (show i ≤ j by omega) (by omega) (by rw [ob]; exact Ne.symm ht)
    have hne : r ≠ i := fun e1 => by
      subst e1; rw [ha] at he; cases he; omega
    have or := owner_rel he h3
    obtain ⟨s, f, g1, g2, hf, g3, g4, g5⟩ := gained (l := d) (o := q) (t := b.t) tb.1 (i := r + 1) (by rw [← h5, or]; omega) (j := j) (by omega) (by omega) ob
    exact bef_trans (dir_bef (thread_dir ha he (by omega) h4.symm)) (bef_trans (dir_bef (handed_dir he hf (by omega) h3 g3 (by omega))) (dir_bef (thread_dir hf hb g2 g4)))
structure GdR (w : World) (L : List Ev) (v : Value) (wr : World) : Prop where
  own : wr.ownsRow w.heap.size 43 3 v L.length (evc L)
  below : Bel w wr
set_option maxHeartbeats 16000000 in
theorem walk (W : World) (A : Option Addr) (n c : Nat) (l : List Ev) (s : Sl W A n l) (m : n ≤ c) (x : c ≤ maxLen) (g : ∀ e ∈ l, EvOk e) (y : n * 24 ≤ 140737488351232) (t : Int) (kt : In64 t) :
    Calls Try.prog 10 #[.slice A n c, .int .i64 t] W fun e w' => e = .returned (.bool true) ∧ Below W.heap.size W w' := by
  unfold maxLen at x
  have hw0 : Bel W W := Bel.refl _
  have HL := Lib.hid s
  obtain ⟨i0, hi0, hz0, hz1, hz2⟩ := info_parts ev_info
  have J := Lib.hid (And.intro hi0 (And.intro hz0 (And.intro hz1 hz2)))
  have hk0 := Int.emod_nonneg t (show (5 : Int) ≠ 0 by omega)
  have hk1 := Int.emod_lt_of_pos t (show (0 : Int) < 5 by omega)
  have HRT := Lib.hid (fun w => rest_any t 5 kt (by omega) (by omega) w)
  clear hi0 hz0 hz1 hz2 s g kt
  generalize t % (5 : Int) = t' at *
  obtain ⟨q, rfl⟩ := Int.eq_ofNat_of_zero_le hk0
  have hq : q < 5 := by omega
  have HQ := Lib.hid hq
  have hq64 : (q : Int) < 64 := by omega
  clear hk0 hk1
  go_enter Try.func10, Try.ntmps10
  go_wp2_with fail
  refine (raced_any _).mono ?_
  rintro e1 w1 ⟨rfl, hb1⟩
  have hw1 := hw0.call hb1
  clear hb1
  go_wp2_with fail
  refine (HRT.out _).mono ?_
  rintro _ _ ⟨rfl, rfl⟩
  have HW1 := Lib.hid hw1
  have H0 := Lib.hid (GdR.mk (World.ownsRow_nil _ _ _ _) (Bel.refl w1) : GdR w1 (gdTo l q 0) (.slice none 0 0) w1)
  clear hw0 hw1
  go_wp2
  go_loopw [5, 18] (fun v5 t18 wr => ∃ i : Nat, i ≤ n ∧ t18 = .int .i64 i ∧ GdR w1 (gdTo l q i) v5 wr) (fun _ t18 _ => n - (intOf t18).toNat)
  case atStart => exact ⟨0, by omega, rfl, H0.out⟩
  case round =>
    obtain ⟨i, hi, rfl, hr⟩ := hrel
    have HR := Lib.hid hr
    clear hr H0
    by_cases hlt : i < n
    · have hlt' : (i : Int) < n := by omega
      have hic : (i : Int) ≤ c := by omega
      obtain ⟨bb, off, e, rfl, hbb, he, hrg⟩ := HL.out.at_ hlt
      have hR := Lib.hid (rangeAt_below (HW1.out.trans HR.out.below) hbb hrg)
      have HX := Lib.hid (ewld_box wr e 43)
      have hb2 := ewld_below wr e 43
      have HO := Lib.hid (own_bel HR.out.own hb2)
      have HB := Lib.hid (HR.out.below.trans hb2)
      have HLE := Lib.hid (gdTo_len l q i)
      obtain ⟨c0, c1, c2⟩ := ewld_cells wr e 43
      have HYES := Lib.hid (fun (h : keepP (l.take i) q e = true) => gdTo_yes he h)
      have HNO := Lib.hid (fun (h : keepP (l.take i) q e = false) => gdTo_no he h)
      clear he hrg hb2
      by_cases hk : 2 < e.k
      · have HS := Lib.hid (HYES.out (by unfold keepP; rw [decide_eq_true hk]; rfl))
        have HA := Lib.hid (own_alloc HO.out (.cells (evv e) 43))
        have HNW := Lib.hid (Box.news (l := evl e) (Box.new (ewld wr e 43) (evv e) 43))
        have HSZ := Lib.hid (HB.out.alloc (.cells (evv e) 43)).size
        go_wp2_with (first | (refine load_ev T36 _ rfl rfl rfl hR.out ?_) | (refine ewld_store T36 _ _ rfl rfl _ rfl rfl rfl ?_) | (refine loadB _ _ rfl rfl rfl HX.out T36 ?_) | (refine build1 22 _ rfl rfl 43 i0 Try.underlying22 J.out.1 J.out.2.1 J.out.2.2.1 e rfl ?_) | (at_builtin; refine wpList_append_own_at _ rfl (.tmp 26) (.tmp 28) _ rfl w1.heap.size 43 i0 _ 3 24 Try.underlying22 J.out.1 J.out.2.1 J.out.2.2.1 J.out.2.2.2 rfl (by omega) _ (gdTo l q i).length _ rfl HA.out _ 1 1 (evl e) rfl rfl HNW.out (by simp [evl, Value.oneCell']) (by have := HLE.out; unfold maxLen; omega) (by have := HLE.out; omega) HSZ.out ?_; intro v7 w7 hown7 hg7 hn7 hat7))
        refine ⟨⟨i + 1, by omega, by go_num, ⟨?_, (HB.out.alloc _).out.grown hg7 HSZ.out (own_block_ge HA.out)⟩⟩, by simp [intOf]; omega⟩
        rw [HS.out, List.length_append, evc_append]
        exact hown7
      · have HLI := Lib.hid (fun (w' : World) (h : Bel (ewld wr e 43) w') => ((HL.out.bel (HW1.out.trans (HB.out.trans h))).take hi))
        have F1 := fun (w' : World) (h : Bel (ewld wr e 43) w') => h.cell c1
        have HKP := Lib.hid (show keepP (l.take i) q e = ((pheld (l.take i) e.t).2 == 0 && (bits .and .i64 ((pheld (l.take i) e.t).1 / 2 ^ q) 1 == 1)) by unfold keepP; rw [decide_eq_false hk, Bool.false_or])
        generalize hP : pheld (l.take i) e.t = P at *
        have HP := Lib.hid hP
        clear hP
        go_wp2_with (first | (refine load_ev T36 _ rfl rfl rfl hR.out ?_) | (refine ewld_store T36 _ _ rfl rfl _ rfl rfl rfl ?_))
        have HHD := Lib.hid (fun (w' : World) (h : Bel (ewld wr e 43) w') => show Calls Try.prog 26 #[.slice (some ⟨bb, off, none⟩) i c, .int .i64 e.t] w' (fun e w'' => e = .returned (.tuple #[.int .i64 P.1, .int .i64 P.2]) ∧ Below w'.heap.size w' w'') from by
          have h1 := held_any (some ⟨bb, off, none⟩) i c (l.take i) e.t _ (HLI.out w' h)
          rw [HP.out] at h1
          exact h1)
        (refine region_bel (by kernel_rfl) (by kernel_rfl) ?_; (repeat (first | ((with_reducible refine BigFrame.wpQuiet_skip ?_ ?_); exact rfl; simp only [Act.put, Act.eval, List.setIfInBounds_toArray, List.set_cons_zero, List.set_cons_succ, Array.getD_eq_getD_getElem?, List.getElem?_toArray, List.getElem?_cons_zero, List.getElem?_cons_succ, Option.getD_some]) | (refine q_move _ rfl rfl ?_; simp only [Act.put, Act.eval, List.setIfInBounds_toArray, List.set_cons_zero, List.set_cons_succ, Array.getD_eq_getD_getElem?, List.getElem?_toArray, List.getElem?_cons_zero, List.getElem?_cons_succ, Option.getD_some]) | (refine q_assign _ rfl rfl ?_; simp only [Act.put, Act.eval, List.setIfInBounds_toArray, List.set_cons_zero, List.set_cons_succ, Array.getD_eq_getD_getElem?, List.getElem?_toArray, List.getElem?_cons_zero, List.getElem?_cons_succ, Option.getD_some]) | (refine q_any rfl ?_; apply Exists.intro; refine ⟨fun w hw => ?_, ?_⟩; (have fct0 := F1 w hw; go_simp; first | exact ⟨rfl, rfl⟩ | rfl | (go_at_call 26; (with_reducible refine (HHD.out w hw).mono ?_); rintro e w' ⟨rfl, hb⟩; exact ⟨rfl, hw.call hb⟩)); simp only [Act.put, Act.eval, List.setIfInBounds_toArray, List.set_cons_zero, List.set_cons_succ, Array.getD_eq_getD_getElem?, List.getElem?_toArray, List.getElem?_cons_zero, List.getElem?_cons_succ, Option.getD_some]))); refine wpQuiet_nil ?_; intro w2 hw2)
        have HX2 := Lib.hid (hw2.box HX.out)
        have HO2 := Lib.hid (own_bel HO.out hw2)
        have HB2 := Lib.hid (HB.out.trans hw2)
        clear F1 hw2
        obtain ⟨p1, p2⟩ := P
        cases hz : (p2 == 0)
        · have HS := Lib.hid (HNO.out (by rw [HKP.out]; dsimp only; rw [hz]; rfl))
          go_wp2
          go_roundw
          case rel => exact ⟨i + 1, by omega, by go_num, ⟨by rw [HS.out]; exact HO2.out, HB2.out⟩⟩
          case measure => simp [intOf]; omega
        · cases hb : (bits .and .i64 (p1 / 2 ^ q) 1 == 1)
          · have HS := Lib.hid (HNO.out (by rw [HKP.out]; dsimp only; rw [hz, hb]; rfl))
            go_wp2
            go_roundw
            case rel => exact ⟨i + 1, by omega, by go_num, ⟨by rw [HS.out]; exact HO2.out, HB2.out⟩⟩
            case measure => simp [intOf]; omega
          · have HS := Lib.hid (HYES.out (by rw [HKP.out]; dsimp only; rw [hz, hb]; rfl))
            have HA := Lib.hid (own_alloc HO2.out (.cells (evv e) 43))
            have HNW := Lib.hid (Box.news (l := evl e) (Box.new w2 (evv e) 43))
            have HSZ := Lib.hid (HB2.out.alloc (.cells (evv e) 43)).size
            go_wp2_with (first | (refine loadB _ _ rfl rfl rfl HX2.out T36 ?_) | (refine build1 22 _ rfl rfl 43 i0 Try.underlying22 J.out.1 J.out.2.1 J.out.2.2.1 e rfl ?_) | (at_builtin; refine wpList_append_own_at _ rfl (.tmp 48) (.tmp 50) _ rfl w1.heap.size 43 i0 _ 3 24 Try.underlying22 J.out.1 J.out.2.1 J.out.2.2.1 J.out.2.2.2 rfl (by omega) _ (gdTo l q i).length _ rfl HA.out _ 1 1 (evl e) rfl rfl HNW.out (by simp [evl, Value.oneCell']) (by have := HLE.out; unfold maxLen; omega) (by have := HLE.out; omega) HSZ.out ?_; intro v7 w7 hown7 hg7 hn7 hat7))
            refine ⟨⟨i + 1, by omega, by go_num, ⟨?_, (HB2.out.alloc _).out.grown hg7 HSZ.out (own_block_ge HA.out)⟩⟩, by simp [intOf]; omega⟩
            rw [HS.out, List.length_append, evc_append]
            exact hown7
    · obtain rfl : i = n := by omega
      have HN := Lib.hid HL.out.1
      have HG := Lib.hid (fun h => gd_nil (l := l) HQ.out (by rw [HN.out]; exact h))
      rw [HN.out] at HG
      have hr := HR.out
      obtain ⟨A3, c3, rfl, hs3, _⟩ := Sl.own hr.own
      have hw1 := HW1.out.trans hr.below
      have HS3 := Lib.hid hs3
      clear hr hs3 HR
      generalize gdTo l q i = d at *
      go_wp2_with fail
      refine (all_zero A3 _ c3 d _ HS3.out HG.out).mono ?_
      rintro e2 w2 ⟨B2, d2, rfl, hb2⟩
      have hw2 := hw1.call hb2
      replace HS3 := Lib.hid (HS3.out.bel (Bel.of hb2))
      clear hb2
      have HM := Lib.hid (may_any A3 _ c3 d _ HS3.out)
      cases h1 : (may d != 0)
      · have h2 : (may d == 0) = true := by simpa using h1
        generalize may d = z at *
        go_wp2
        go_ret
        exact ⟨rfl, hw2⟩
      · have h2 : (may d == 0) = false := by simpa using h1
        rw [h2] at HM
        generalize may d = z at *
        go_wp2_with fail
        refine HM.out.mono ?_
        rintro e3 w3 ⟨rfl, hb3⟩
        have hw3 := hw2.call hb3
        clear hb3
        go_wp2
        go_ret
        exact ⟨rfl, hw3⟩

set_option maxRecDepth 100000 in
theorem lifted (os : Os) (started : os.Started) (H : Type) (enc : TypeId × Value → H) :
    ReturnsInHanded {} Try.checked os 10 .any (Rows.raceGuardedSpec.pre6 enc Try.prog Try.f10 Rows.raceGuardedRow.domain false) (Rows.raceGuardedSpec.post enc Try.prog Try.f10 false true false false) := by
  refine returnsInHanded_of_change_sized (C := Try.checked) own started (by kernel_rfl) Try.func10
    (ChangeSpec.witness6 (enc := enc) (C := Try.checked) false ⟨#[], #[.slice none 0 0, .int .i64 0], []⟩ 8 (by kernel_rfl) (by kernel_rfl) (by kernel_rfl) (by kernel_rfl)) ?_
  intro W base args ds gs before hval0 hW hcnd hsz0 _
  have hsz : (DataW.weightsEach Try.prog (Try.f10.params.toList ++ Rows.raceGuardedSpec.plain.varTypes Try.prog) (ds ++ gs)).all (· ≤ reachBytes) = true := hsz0
  clear hsz0
  have hval : ∀ (j : Nat) t v, Try.f10.params[j]? = some t → args[j]? = some v → Value.okWide Try.prog W .any base t v := hval0
  have hW' := hW
  obtain ⟨p, q, hA0, hV, rfl, hfz, hnd⟩ := hW
  have hA : DataW.TrodAll enc Try.prog W 0 (fun _ => true) true Try.f10.params.toList args.toList ds p := hA0
  rw [Try.params10] at hA hval hsz
  obtain ⟨v0, vs0, d0, ds0, p0, q0, hargs, rfl, rfl, h0, r0⟩ := trodAll_cons hA
  obtain ⟨v1, vs1, d1, ds1, p1, q1, rfl, rfl, rfl, h1, r1⟩ := trodAll_cons r0
  obtain ⟨rfl, rfl, rfl⟩ := trodAll_nil r1
  obtain rfl : args = #[v0, v1] := by cases args; simp_all
  obtain ⟨rfl, rfl⟩ := trodVars_none hV
  have t0 := h0
  have lt0 : ∀ x ∈ p0, x.block < W.heap.size := by obtain ⟨m, hm⟩ := t0; exact DataW.trod_lt m _ _ _ hm
  have t1 := h1
  have lt1 : ∀ x ∈ p1, x.block < W.heap.size := by obtain ⟨m, hm⟩ := t1; exact DataW.trod_lt m _ _ _ hm
  obtain ⟨A0, n0, c0, l0, rfl, s0, m0, x0, g0, z0⟩ := open_evs Try.underlying22 Try.underlying43 ⟨rfl, rfl, rfl⟩ (by kernel_rfl) (by kernel_rfl) Try.underlying3 (hval 0 22 v0 rfl rfl) h0
  have y0 := reach_sl hsz (j := 0) rfl rfl Try.underlying22 (b := 24) (by kernel_rfl) z0
  obtain ⟨a1, rfl, _, _, x1⟩ := open_int Try.underlying3 (hval 1 3 v1 rfl rfl) h1
  have k1 := in64_of x1
  clear hA0 hval0
  refine (walk W A0 n0 c0 l0 s0 m0 x0 g0 y0 a1 k1).mono fun e W' ⟨he, bel⟩ => ?_
  subst he
  exact ⟨_, rfl, _, _, _, [], _, [], hW', trodAll_mk1 (shut_bool Try.underlying4 _), (trodAll_cons_mk (Below.trod laidOut (by kernel_rfl) (of_decide_eq_true (by kernel_rfl)) t0 bel lt0) (trodAll_cons_mk (Below.trod laidOut (by kernel_rfl) (of_decide_eq_true (by kernel_rfl)) t1 bel lt1) trodAll_mk0)), rfl, bel.frame _, fun h => by cases h⟩

theorem over : Rows.raceGuardedRow.holds Try.pinned (OpenSpec.ofChange Rows.raceGuardedSpec) :=
  OpenClaim.holds_of_wide 10 Try.f10 rfl rfl rfl rfl rfl rfl rfl ⟨rfl, rfl, rfl, rfl, rfl⟩ rfl rfl rfl rfl rfl (by kernel_rfl) Try.func10 (by kernel_rfl)
    (of_decide_eq_true (by kernel_rfl)) (by unfold Func.isWrapper; first | (rw [if_pos (by decide +kernel)]; kernel_rfl) | (rw [if_neg (by decide +kernel)]; exact ⟨rfl, rfl⟩))
    (fun os started H enc _ => lifted os started H enc)

theorem proved : Rows.RaceGuardedSaid := over
#print axioms proved
end Go.Proofs.Ytdgoeibaekkhmaa.LRaceGuarded

/- 'deadheatkeep.GuardOne' returns true for every input and leaves its arguments as they are. No condition. -/
import Derived.Test.YtlifmedkadjdcaaOpen
import Derived.Test.YtlifmedkadjdcaaKeepGu
import Derived.Test.YtlifmedkadjdcaaRest
import Derived.Test.YtlifmedkadjdcaaRefTr
import Derived.Deep.DeepCutAuto
set_option linter.all false
set_option maxRecDepth 100000
namespace Go.Proofs.Ytlifmedkadjdcaa.LGuardOne
open Go Go.ChangeShapes Go.WideShapes Go.ChangeAt Go.RowKit

def oneG (y : Nat) (e : Ev) : Bool := decide (2 < e.k ∨ e.o ≠ (y : Int) ∨ e.t = 0)
theorem gfilter_yes {l : List Ev} {y i : Nat} {e : Ev} (h : l[i]? = some e) (hp : 2 < e.k ∨ e.o ≠ (y : Int) ∨ e.t = 0) : (l.take (i + 1)).filter (oneG y) = (l.take i).filter (oneG y) ++ [e] := by
  rw [take_snoc' h, List.filter_append, List.filter_cons_of_pos (by unfold oneG; exact decide_eq_true hp)]; rfl
theorem gfilter_no {l : List Ev} {y i : Nat} {e : Ev} (h : l[i]? = some e) (hp : ¬ (2 < e.k ∨ e.o ≠ (y : Int) ∨ e.t = 0)) : (l.take (i + 1)).filter (oneG y) = (l.take i).filter (oneG y) := by
  rw [take_snoc' h, List.filter_append, List.filter_cons_of_neg (by unfold oneG; rw [decide_eq_false hp]; simp)]; simp
theorem gfilter_len (l : List Ev) (y i : Nat) : ((l.take i).filter (oneG y)).length ≤ i := Nat.le_trans (List.length_filter_le _ _) (by rw [List.length_take]; omega)
theorem alone {l : List Ev} {y : Nat} (hm : may (l.filter (oneG y)) = 0) : ∀ k, k < (l.filter (oneG y)).length → acB (l.filter (oneG y)) k = true → oZ (l.filter (oneG y)) k = y → tZ (l.filter (oneG y)) k = 0 := fun k hk ha ho => by
  have he := eZ_get hk
  have hmem := List.mem_filter.1 (List.mem_of_getElem? he)
  have h1 := isEv_t (eZ_ok hm hk)
  have h2 := isEv_o (eZ_ok hm hk)
  have hk12 := acB_k ha
  have hb : 2 < (eZ (l.filter (oneG y)) k).k ∨ (eZ (l.filter (oneG y)) k).o ≠ (y : Int) ∨ (eZ (l.filter (oneG y)) k).t = 0 := of_decide_eq_true hmem.2
  unfold oZ at ho
  unfold tZ
  omega
structure OneR (w : World) (L : List Ev) (v : Value) (wr : World) : Prop where
  own : wr.ownsRow w.heap.size 50 3 v L.length (evc L)
  below : Bel w wr
set_option maxHeartbeats 8000000 in
theorem walk (W : World) (A : Option Addr) (n c : Nat) (l : List Ev) (s : Sl W A n l) (m : n ≤ c) (x : c ≤ maxLen) (g : ∀ e ∈ l, EvOk e) (y : n * 24 ≤ 140737488351232) (t : Int) (kt : In64 t) :
    Calls Try.prog 10 #[.slice A n c, .int .i64 t] W fun e w' => e = .returned (.bool true) ∧ Below W.heap.size W w' := by
  unfold maxLen at x
  have hw0 : Bel W W := Bel.refl _
  have HL := Lib.hid s
  have HN := Lib.hid s.1
  obtain ⟨i0, hi0, hz0, hz1, hz2⟩ := info_parts ev_info
  have J := Lib.hid (And.intro hi0 (And.intro hz0 (And.intro hz1 hz2)))
  have hk0 := Int.emod_nonneg t (show (8 : Int) ≠ 0 by omega)
  have hk1 := Int.emod_lt_of_pos t (show (0 : Int) < 8 by omega)
  have HRT := Lib.hid (fun w => rest_any t 8 kt (by omega) (by omega) w)
  clear s g hi0 hz0 hz1 hz2 kt
  generalize t % 8 = t' at *
  obtain ⟨z, rfl⟩ := Int.eq_ofNat_of_zero_le hk0
  have hz8 : z < 8 := by omega
  clear hk0 hk1
  go_enter Try.func10, Try.ntmps10
  go_wp2_with fail
  refine (guarded_any _).mono ?_
  rintro e1 w1 ⟨rfl, hb1⟩
  have hw1 := hw0.call hb1
  clear hb1
  go_wp2_with fail
  refine (HRT.out _).mono ?_
  rintro _ _ ⟨rfl, rfl⟩
  have HW1 := Lib.hid hw1
  have H0 := Lib.hid (OneR.mk (World.ownsRow_nil _ _ _ _) (Bel.refl w1) : OneR w1 ((l.take 0).filter (oneG z)) (.slice none 0 0) w1)
  clear hw1 hw0
  go_wp2
  go_loopw [5, 20] (fun v t14 wr => ∃ i : Nat, i ≤ n ∧ t14 = .int .i64 i ∧ OneR w1 ((l.take i).filter (oneG z)) v wr) (fun _ t14 _ => n - (intOf t14).toNat)
  case atStart => exact ⟨0, by omega, rfl, H0.out⟩
  case round =>
    obtain ⟨i, hi, rfl, hr⟩ := hrel
    have HR := Lib.hid hr
    clear hr H0
    by_cases hlt : i < n
    · have hlt' : (i : Int) < n := by omega
      obtain ⟨bb, off, ⟨ek, et, eo⟩, rfl, hbb, he, hrg⟩ := HL.out.at_ hlt
      have hR := Lib.hid (rangeAt_below (HW1.out.trans HR.out.below).out hbb hrg)
      have HX := Lib.hid (ewld_box wr ⟨ek, et, eo⟩ 50)
      have hb5 := ewld_below wr ⟨ek, et, eo⟩ 50
      have HO := Lib.hid (own_bel HR.out.own hb5)
      have HB5 := Lib.hid (HR.out.below.trans hb5)
      have HE := Lib.hid he
      have HLE := Lib.hid (gfilter_len l z i)
      obtain ⟨c0, c1, c2⟩ := ewld_cells wr ⟨ek, et, eo⟩ 50
      dsimp only at c0 c1 c2
      clear he hrg hb5
      have HA := Lib.hid (own_alloc HO.out (.cells (evv ⟨ek, et, eo⟩) 50))
      have HNW := Lib.hid (Box.news (l := evl ⟨ek, et, eo⟩) (Box.new (ewld wr ⟨ek, et, eo⟩ 50) (evv ⟨ek, et, eo⟩) 50))
      have HSZ := Lib.hid (HB5.out.alloc (.cells (evv ⟨ek, et, eo⟩) 50)).size
      by_cases hk : 2 < ek
      · have HS := Lib.hid (gfilter_yes (y := z) HE.out (.inl hk))
        have hkb : decide (2 < ek) = true := decide_eq_true hk
        clear hk
        go_wp2_with (first | (refine load_ev T36 _ rfl rfl rfl hR.out ?_) | (refine ewld_store T36 _ _ rfl rfl _ rfl rfl rfl ?_) | (refine loadB _ _ rfl rfl rfl HX.out T36 ?_) | (refine build1 22 _ rfl rfl 50 i0 Try.underlying22 J.out.1 J.out.2.1 J.out.2.2.1 ⟨ek, et, eo⟩ rfl ?_) | (at_builtin; refine wpList_append_own_at _ rfl (.tmp 38) (.tmp 40) _ rfl w1.heap.size 50 i0 _ 3 24 Try.underlying22 J.out.1 J.out.2.1 J.out.2.2.1 J.out.2.2.2 rfl (by omega) _ ((l.take i).filter (oneG z)).length _ rfl HA.out _ 1 1 (evl ⟨ek, et, eo⟩) rfl rfl HNW.out (by simp [evl, Value.oneCell']) (by have := HLE.out; unfold maxLen; omega) (by have := HLE.out; omega) HSZ.out ?_; intro v7 w7 hown7 hg7 hn7 hat7))
        refine ⟨⟨i + 1, by omega, by go_num, ⟨?_, (HB5.out.alloc _).out.grown hg7 HSZ.out (own_block_ge HA.out)⟩⟩, by simp [intOf]; omega⟩
        rw [HS.out, List.length_append, evc_append]
        exact hown7
      · have hkb : decide (2 < ek) = false := decide_eq_false hk
        by_cases ho : eo = (z : Int)
        · have hob : (eo != (z : Int)) = false := by simp [ho]
          by_cases ht : et = 0
          · have HS := Lib.hid (gfilter_yes (y := z) HE.out (.inr (.inr ht)))
            have htb : (et == 0) = true := by simp [ht]
            clear hk ho ht
            go_wp2_with (first | (refine load_ev T36 _ rfl rfl rfl hR.out ?_) | (refine ewld_store T36 _ _ rfl rfl _ rfl rfl rfl ?_) | (refine loadB _ _ rfl rfl rfl HX.out T36 ?_) | (refine build1 22 _ rfl rfl 50 i0 Try.underlying22 J.out.1 J.out.2.1 J.out.2.2.1 ⟨ek, et, eo⟩ rfl ?_) | (at_builtin; refine wpList_append_own_at _ rfl (.tmp 38) (.tmp 40) _ rfl w1.heap.size 50 i0 _ 3 24 Try.underlying22 J.out.1 J.out.2.1 J.out.2.2.1 J.out.2.2.2 rfl (by omega) _ ((l.take i).filter (oneG z)).length _ rfl HA.out _ 1 1 (evl ⟨ek, et, eo⟩) rfl rfl HNW.out (by simp [evl, Value.oneCell']) (by have := HLE.out; unfold maxLen; omega) (by have := HLE.out; omega) HSZ.out ?_; intro v7 w7 hown7 hg7 hn7 hat7))
            refine ⟨⟨i + 1, by omega, by go_num, ⟨?_, (HB5.out.alloc _).out.grown hg7 HSZ.out (own_block_ge HA.out)⟩⟩, by simp [intOf]; omega⟩
            rw [HS.out, List.length_append, evc_append]
            exact hown7
          · have HS := Lib.hid (gfilter_no (y := z) HE.out (by dsimp only; omega))
            have htb : (et == 0) = false := by simp [ht]
            clear hk ho ht HA HNW
            go_wp2_with (first | (refine load_ev T36 _ rfl rfl rfl hR.out ?_) | (refine ewld_store T36 _ _ rfl rfl _ rfl rfl rfl ?_))
            go_roundw
            case rel => exact ⟨i + 1, by omega, by go_num, ⟨by rw [HS.out]; exact HO.out, HB5.out⟩⟩
            case measure => simp [intOf]; omega
        · have hob : (eo != (z : Int)) = true := by simpa using ho
          have HS := Lib.hid (gfilter_yes (y := z) HE.out (.inr (.inl ho)))
          clear hk ho
          go_wp2_with (first | (refine load_ev T36 _ rfl rfl rfl hR.out ?_) | (refine ewld_store T36 _ _ rfl rfl _ rfl rfl rfl ?_) | (refine loadB _ _ rfl rfl rfl HX.out T36 ?_) | (refine build1 22 _ rfl rfl 50 i0 Try.underlying22 J.out.1 J.out.2.1 J.out.2.2.1 ⟨ek, et, eo⟩ rfl ?_) | (at_builtin; refine wpList_append_own_at _ rfl (.tmp 38) (.tmp 40) _ rfl w1.heap.size 50 i0 _ 3 24 Try.underlying22 J.out.1 J.out.2.1 J.out.2.2.1 J.out.2.2.2 rfl (by omega) _ ((l.take i).filter (oneG z)).length _ rfl HA.out _ 1 1 (evl ⟨ek, et, eo⟩) rfl rfl HNW.out (by simp [evl, Value.oneCell']) (by have := HLE.out; unfold maxLen; omega) (by have := HLE.out; omega) HSZ.out ?_; intro v7 w7 hown7 hg7 hn7 hat7))
          refine ⟨⟨i + 1, by omega, by go_num, ⟨?_, (HB5.out.alloc _).out.grown hg7 HSZ.out (own_block_ge HA.out)⟩⟩, by simp [intOf]; omega⟩
          rw [HS.out, List.length_append, evc_append]
          exact hown7
    · obtain rfl : i = n := by omega
      have HT := Lib.hid (show l.take i = l by rw [← HN.out, List.take_length])
      have hr := HR.out
      rw [HT.out] at hr
      have HAL := Lib.hid (fun hm => alone (l := l) (y := z) hm)
      generalize l.filter (oneG z) = q at *
      obtain ⟨A9, c9, rfl, hs9, hn9, hm9⟩ := Sl.own hr.own
      have HS9 := Lib.hid hs9
      have HW9 := Lib.hid (HW1.out.trans hr.below)
      clear hr hs9 hm9 HR hi hlt
      go_wp2_with fail
      refine (warns_any A9 _ c9 _ _ HS9.out hn9).mono ?_
      rintro e10 w10 ⟨v10, rfl, hown10, hb10⟩
      have HW10 := Lib.hid (HW9.out.call hb10)
      have HS10 := Lib.hid (HS9.out.bel (Bel.of hb10))
      clear hb10
      by_cases hm : may q = 0
      · have HM := Lib.hid hm
        have HWQ := Lib.hid (show warns q = wl q q.length by unfold warns; rw [if_pos hm])
        have HGQ := Lib.hid (show gfin q = gG (gdT q q.length) by unfold gfin; rw [if_pos hm])
        rw [HWQ.out] at hown10
        obtain ⟨A5, c5, rfl, hs5, hn5, hm5⟩ := Sl.own hown10
        have HS5 := Lib.hid hs5
        clear hown10 hs5 hn5 hm5 hm
        rw [HM.out]
        go_wp2_with fail
        refine (guards_any A9 _ c9 _ _ HS10.out hn9).mono ?_
        rintro e11 w11 ⟨rfl, hb11⟩
        have HW11 := Lib.hid (HW10.out.call hb11)
        have HS11 := Lib.hid (HS5.out.bel (Bel.of hb11))
        clear hb11
        rw [HM.out, HGQ.out]
        go_wp2_with (refine gwld_store TGs _ _ rfl rfl (gG (gdT q q.length)) rfl rfl rfl ?_)
        have HB1 := Lib.hid (gwld_box w11 (gG (gdT q q.length)))
        have HW12 := Lib.hid (HW11.out.trans (gwld_bel w11 (gG (gdT q q.length))))
        have HS12 := Lib.hid (HS11.out.bel (gwld_bel w11 (gG (gdT q q.length))))
        generalize gwld w11 (gG (gdT q q.length)) = wa at *
        have HONE := Lib.hid (gd_one (x := z) (HAL.out HM.out) q.length (Nat.le_refl _))
        have hfl80 : (wl q q.length).length ≤ 80 := Nat.le_trans (wl_len q _) ((may_iff q).1 HM.out).1
        obtain ⟨nf, hnf⟩ : ∃ nf, (wl q q.length).length = nf := ⟨_, rfl⟩
        have HNF := Lib.hid hnf
        rw [hnf] at hfl80 ⊢
        clear hnf
        go_loopw [69] (fun t14 wr => ∃ i : Nat, i ≤ nf ∧ t14 = .int .i64 i ∧ Bel wa wr) (fun t14 _ => nf - (intOf t14).toNat)
        case atStart => exact ⟨0, by omega, rfl, Bel.refl _⟩
        case round =>
          obtain ⟨j, hj, rfl, hr⟩ := hrel
          have HR := Lib.hid hr
          clear hr
          by_cases hlt : j < nf
          · have hlt' : (j : Int) < nf := by omega
            have hs := HS12.out.bel HR.out
            rw [HNF.out] at hs
            obtain ⟨bb, off, e, rfl, hbb, he, hrg⟩ := hs.at_ hlt
            have hR := Lib.hid hrg
            have HX := Lib.hid (ewld_box wr e 40)
            have HRX := Lib.hid (HR.out.trans (Bel.of (ewld_below wr e 40)))
            obtain ⟨jj, h1, h2, h3⟩ := wl_mem.1 (List.mem_of_getElem? he)
            have hne : (e.t == (z : Int)) = false := by
              rw [beq_eq_false_iff_ne]
              intro h9
              rw [h3] at h9
              dsimp only at h9
              have := wn_one (x := z) (k := jj) (HAL.out HM.out) h1 (by unfold oZ; omega)
              rw [h2] at this
              cases this
            have d1 := HX.out.cell 1 (v := .int .i64 e.t) rfl
            clear hs hrg hbb he h1 h2 h3
            go_wp2_with (first | (refine load_ev TFl _ rfl rfl rfl hR.out ?_) | (refine ewld_store TFl _ _ rfl rfl _ rfl rfl rfl ?_))
            go_roundw
            case rel => exact ⟨j + 1, by omega, by go_num, HRX.out⟩
            case measure => simp [intOf]; omega
          · obtain rfl : j = nf := by omega
            have z0 := (HR.out.box HB1.out).cell (z * 3) (ns_get _ (by omega))
            have z1 := (HR.out.box HB1.out).cell (z * 3 + 1) (ns_get _ (by omega))
            have z2 := (HR.out.box HB1.out).cell (z * 3 + 2) (ns_get _ (by omega))
            rw [gG_0] at z0
            rw [gG_1, show (gdT q q.length z).th = 0 from HONE.out.th] at z1
            rw [gG_2, lkN_eq, show hset (gdT q q.length z).lk = 31 from by rw [show (gdT q q.length z).lk = fun _ => true from funext HONE.out.lk]; rfl] at z2
            have hst : (((gdT q q.length z).st : Nat) : Int) ≤ 1 := by have := HONE.out.st; unfold gdT; omega
            have hz8' : (z : Int) < 8 := by omega
            go_wp2
            go_ret
            exact ⟨ret_val (by simp), HW12.out.trans HR.out⟩
      · have HM := Lib.hid hm
        have h1 : (may q != 0) = true := by simp [hm]
        have h2 : (may q == 0) = false := by simp [hm]
        have h3 : (may q == may q) = true := by simp
        have HGQ := Lib.hid (show gfin q = fun _ => 0 by unfold gfin; rw [if_neg hm])
        have HFQ := Lib.hid (show (warns q).length = 0 by unfold warns; rw [if_neg hm]; rfl)
        clear hm hown10
        go_wp2_with fail
        refine (guards_any A9 _ c9 _ _ HS10.out hn9).mono ?_
        rintro e11 w11 ⟨rfl, hb11⟩
        have HW11 := Lib.hid (HW10.out.call hb11)
        have HS11 := Lib.hid (HS10.out.bel (Bel.of hb11))
        clear hb11
        rw [HGQ.out]
        go_wp2_with (refine gwld_store TGs _ _ rfl rfl (fun _ => 0) rfl rfl rfl ?_)
        have HW12 := Lib.hid (HW11.out.trans (gwld_bel w11 (fun _ => 0)))
        have HS12 := Lib.hid (HS11.out.bel (gwld_bel w11 (fun _ => 0)))
        generalize gwld w11 (fun _ => 0) = wa at *
        refine (may_any A9 _ c9 _ _ HS12.out).mono ?_
        rintro e13 w13 ⟨rfl, hb13⟩
        have hw13 := HW12.out.call hb13
        clear hb13
        go_wp2
        go_ret
        exact ⟨rfl, hw13⟩

set_option maxRecDepth 100000 in
theorem lifted (os : Os) (started : os.Started) (H : Type) (enc : TypeId × Value → H) :
    ReturnsInHanded {} Try.checked os 10 .any (Rows.guardOneSpec.pre6 enc Try.prog Try.f10 Rows.guardOneRow.domain false) (Rows.guardOneSpec.post enc Try.prog Try.f10 false true false false) := by
  refine returnsInHanded_of_change_sized (C := Try.checked) own started (by kernel_rfl) Try.func10
    (ChangeSpec.witness6 (enc := enc) (C := Try.checked) false ⟨#[], #[.slice none 0 0, .int .i64 0], []⟩ 8 (by kernel_rfl) (by kernel_rfl) (by kernel_rfl) (by kernel_rfl)) ?_
  intro W base args ds gs before hval0 hW hcnd hsz0 _
  have hsz : (DataW.weightsEach Try.prog (Try.f10.params.toList ++ Rows.guardOneSpec.plain.varTypes Try.prog) (ds ++ gs)).all (· ≤ reachBytes) = true := hsz0
  clear hsz0
  have hval : ∀ (j : Nat) t v, Try.f10.params[j]? = some t → args[j]? = some v → Value.okWide Try.prog W .any base t v := hval0
  have hW' := hW
  obtain ⟨p, q, hA0, hV, rfl, hfz, hnd⟩ := hW
  have hA : DataW.TrodAll enc Try.prog W 0 (fun _ => true) true Try.f10.params.toList args.toList ds p := hA0
  rw [Try.params10] at hA hval hsz
  obtain ⟨v0, vs0, d0, ds0, p0, q0, hargs, rfl, rfl, h0, r0⟩ := trodAll_cons hA
  obtain ⟨v1, vs1, d1, ds1, p1, q1, rfl, rfl, rfl, h1, r1⟩ := trodAll_cons r0
  obtain ⟨rfl, rfl, rfl⟩ := trodAll_nil r1
  obtain rfl : args = #[v0, v1] := by cases args; simp_all
  obtain ⟨rfl, rfl⟩ := trodVars_none hV
  have t0 := h0
  have lt0 : ∀ x ∈ p0, x.block < W.heap.size := by obtain ⟨m, hm⟩ := t0; exact DataW.trod_lt m _ _ _ hm
  have t1 := h1
  have lt1 : ∀ x ∈ p1, x.block < W.heap.size := by obtain ⟨m, hm⟩ := t1; exact DataW.trod_lt m _ _ _ hm
  obtain ⟨A0, n0, c0, l0, rfl, s0, m0, x0, g0, z0⟩ := open_evs Try.underlying22 Try.underlying50 ⟨rfl, rfl, rfl⟩ (by kernel_rfl) (by kernel_rfl) Try.underlying3 (hval 0 22 v0 rfl rfl) h0
  have y0 := reach_sl hsz (j := 0) rfl rfl Try.underlying22 (b := 24) (by kernel_rfl) z0
  obtain ⟨a1, rfl, _, _, x1⟩ := open_int Try.underlying3 (hval 1 3 v1 rfl rfl) h1
  have k1 := in64_of x1
  clear hA0 hval0
  refine (walk W A0 n0 c0 l0 s0 m0 x0 g0 y0 a1 k1).mono fun e W' ⟨he, bel⟩ => ?_
  subst he
  exact ⟨_, rfl, _, _, _, [], _, [], hW', trodAll_mk1 (shut_bool Try.underlying4 _), (trodAll_cons_mk (Below.trod laidOut (by kernel_rfl) (of_decide_eq_true (by kernel_rfl)) t0 bel lt0) (trodAll_cons_mk (Below.trod laidOut (by kernel_rfl) (of_decide_eq_true (by kernel_rfl)) t1 bel lt1) trodAll_mk0)), rfl, bel.frame _, fun h => by cases h⟩

theorem over : Rows.guardOneRow.holds Try.pinned (OpenSpec.ofChange Rows.guardOneSpec) :=
  OpenClaim.holds_of_wide 10 Try.f10 rfl rfl rfl rfl rfl rfl rfl ⟨rfl, rfl, rfl, rfl, rfl⟩ rfl rfl rfl rfl rfl (by kernel_rfl) Try.func10 (by kernel_rfl)
    (of_decide_eq_true (by kernel_rfl)) (by unfold Func.isWrapper; first | (rw [if_pos (by decide +kernel)]; kernel_rfl) | (rw [if_neg (by decide +kernel)]; exact ⟨rfl, rfl⟩))
    (fun os started H enc _ => lifted os started H enc)

theorem proved : Rows.GuardOneSaid := over
#print axioms proved
end Go.Proofs.Ytlifmedkadjdcaa.LGuardOne

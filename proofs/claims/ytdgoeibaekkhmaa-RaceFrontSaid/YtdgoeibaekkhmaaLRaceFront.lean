/- 'deadheatkeep.RaceFront' returns true for every input and leaves its arguments as they are. No condition. -/
import Derived.Test.YtdgoeibaekkhmaaOpenTr
import Derived.Test.YtdgoeibaekkhmaaKeepRc
import Derived.Test.YtdgoeibaekkhmaaRest
import Derived.Test.YtdgoeibaekkhmaaRefTr2
set_option linter.all false
set_option maxRecDepth 100000
namespace Go.Proofs.Ytdgoeibaekkhmaa.LRaceFront
open Go Go.ChangeShapes Go.WideShapes Go.ChangeAt Go.RowKit

theorem range_cut (P : Nat → Bool) (k : Nat) : ∀ d, ((List.range (k + d)).filter fun j => P j && decide (j < k)) = (List.range k).filter P
  | 0 => by
    refine List.filter_congr fun j hj => ?_
    rw [decide_eq_true (by simpa using hj), Bool.and_true]
  | d + 1 => by
    rw [← Nat.add_assoc, List.range_succ, List.filter_append, range_cut P k d]
    simp
theorem row_cut {R R' : Nat → Nat → Bool} {k : Nat} (h : ∀ i j, j < k → R' i j = R i j) (i d : Nat) : (rowTo R i (k + d)).filter (fun p => decide (p.2 < k)) = rowTo R' i k := by
  unfold rowTo
  rw [List.filter_map, List.filter_filter]
  congr 1
  have : ((fun p : Nat × Nat => decide (p.2 < k)) ∘ fun j => (i, j)) = fun j => decide (j < k) := rfl
  rw [this]
  rw [show ((List.range (k + d)).filter fun a => decide (a < k) && R i a) = (List.range (k + d)).filter fun j => R i j && decide (j < k) from List.filter_congr fun j _ => Bool.and_comm _ _, range_cut]
  exact List.filter_congr fun j hj => (h i j (by simpa using hj)).symm
theorem row_none {R : Nat → Nat → Bool} (hup : ∀ i j, j ≤ i → R i j = false) {k i : Nat} (h : k ≤ i) : rowTo R i k = [] := rowTo_low fun j hj => hup i j (by omega)
theorem rows_cut {R : Nat → Nat → Bool} (hup : ∀ i j, j ≤ i → R i j = false) (k : Nat) : ∀ d, ((List.range (k + d)).flatMap fun i => rowTo R i k) = (List.range k).flatMap fun i => rowTo R i k
  | 0 => rfl
  | d + 1 => by
    rw [← Nat.add_assoc, List.range_succ, List.flatMap_append, rows_cut hup k d]
    simp [row_none hup (show k ≤ k + d by omega)]
theorem prs_cut {R R' : Nat → Nat → Bool} {n k : Nat} (hk : k ≤ n) (h : ∀ i j, j < k → R' i j = R i j) (hup : ∀ i j, j ≤ i → R' i j = false) : (prsA R n).filter (fun p => decide (p.2 < k)) = prsA R' k := by
  obtain ⟨d, rfl⟩ := Nat.exists_eq_add_of_le hk
  unfold prsA prs
  rw [List.filter_append]
  have e0 : ∀ (R : Nat → Nat → Bool) i, rowTo R i 0 = [] := fun R i => rfl
  rw [e0, e0, List.filter_nil, List.append_nil, List.append_nil, List.filter_flatMap]
  have : (fun a => (rowTo R a (k + d)).filter fun p => decide (p.2 < k)) = fun a => rowTo R' a k := funext fun i => row_cut h i d
  rw [this, rows_cut hup]
theorem evZ_take {l : List Ev} {k i : Nat} (h : i < k) : evZ (l.take k) i = evZ l i := by unfold evZ; rw [List.getElem?_take, if_pos h]
theorem racB_take {l : List Ev} {k i j : Nat} (hj : j < k) : racB (l.take k) i j = racB l i j := by
  by_cases hi : i < j
  · unfold racB; rw [evZ_take (by omega), evZ_take hj, bef_take hj]
  · rw [racB_up _ _ _ (by omega), racB_up _ _ _ (by omega)]
theorem front_eq {l : List Ev} {k : Nat} (hk : k ≤ l.length) : rcsA (l.take k) = (rcsA l).filter fun r => decide (r.b < k) := by
  unfold rcsA
  rw [List.filter_map, List.length_take, Nat.min_eq_left hk]
  have : ((fun r : Rc => decide (r.b < k)) ∘ rcOf l) = fun p => decide (p.2 < k) := rfl
  rw [this, prs_cut hk (R' := racB (l.take k)) (fun i j hj => racB_take hj) (racB_up _)]
  refine List.map_congr_left fun p hp => ?_
  have h1 := mem_prsA.1 hp
  have h2 := racB_lt h1.2.2
  unfold rcOf
  rw [evZ_take (by omega), evZ_take h1.2.1]
theorem rfilter_yes {p : Rc → Bool} {l : List Rc} {i : Nat} {e : Rc} (h : l[i]? = some e) (hp : p e = true) : (l.take (i + 1)).filter p = (l.take i).filter p ++ [e] := by
  rw [rc_ptake h, List.filter_append]; simp [hp]
theorem rfilter_no {p : Rc → Bool} {l : List Rc} {i : Nat} {e : Rc} (h : l[i]? = some e) (hp : p e = false) : (l.take (i + 1)).filter p = (l.take i).filter p := by
  rw [rc_ptake h, List.filter_append]; simp [hp]
def lowB (k : Nat) (r : Rc) : Bool := decide (r.b < k)
theorem rfilter_len (p : Rc → Bool) (l : List Rc) (i : Nat) : ((l.take i).filter p).length ≤ i := Nat.le_trans (List.length_filter_le _ _) (by rw [List.length_take]; omega)
structure WantR (w : World) (L : List Rc) (v : Value) (wr : World) : Prop where
  own : wr.ownsRow w.heap.size 31 4 v L.length (rcc L)
  below : Bel w wr
set_option maxHeartbeats 16000000 in
theorem walk (W : World) (A : Option Addr) (n c : Nat) (l : List Ev) (s : Sl W A n l) (m : n ≤ c) (x : c ≤ maxLen) (g : ∀ e ∈ l, EvOk e) (t : Int) (kt : In64 t) :
    Calls Try.prog 7 #[.slice A n c, .int .i64 t] W fun e w' => e = .returned (.bool true) ∧ Below W.heap.size W w' := by
  unfold maxLen at x
  have hw0 : Bel W W := Bel.refl _
  have HL := Lib.hid s
  have HN := Lib.hid s.1
  clear s g
  cases h1 : (may l == 0)
  · clear kt
    go_enter Try.func7, Try.ntmps7
    go_wp2_with fail
    refine (raced_any _).mono ?_
    rintro e1 w1 ⟨rfl, hb1⟩
    have hw1 := hw0.call hb1
    clear hb1
    go_wp2_with fail
    refine (may_any A n c l _ (HL.out.bel hw1)).mono ?_
    rintro e2 w2 ⟨rfl, hb2⟩
    have hw2 := hw1.call hb2
    clear hb2
    go_wp2
    go_ret
    exact ⟨rfl, hw2⟩
  · have hm := eq_of_beq h1
    have HM := Lib.hid hm
    have hn80 : n ≤ 80 := by rw [← HN.out]; exact ((may_iff l).1 hm).1
    have hk0 := Int.emod_nonneg t (show (n : Int) + 1 ≠ 0 by omega)
    have hk1 := Int.emod_lt_of_pos t (show (0 : Int) < n + 1 by omega)
    have HRT := Lib.hid (fun w => rest_any t (n + 1) kt (by omega) (by omega) w)
    clear kt hm
    generalize t % ((n : Int) + 1) = t' at *
    obtain ⟨k, rfl⟩ := Int.eq_ofNat_of_zero_le hk0
    have hk : k ≤ n := by omega
    have hkc : (k : Int) ≤ c := by omega
    have HFE := Lib.hid (show rcs (l.take k) = (rcs l).filter (lowB k) by rw [rcs_ok HM.out, rcs_ok (may_take HM.out k)]; exact front_eq (by rw [HN.out]; exact hk))
    have HMK := Lib.hid (may_take HM.out k)
    have hln : (rcs l).length ≤ 6480 := by rw [rcs_ok HM.out]; unfold rcsA; rw [List.length_map]; exact prs_small ((may_iff l).1 HM.out).1 (Nat.le_refl _) (Nat.zero_le _)
    have HLN := Lib.hid hln
    obtain ⟨i0, hi0, hz0, hz1, hz2⟩ := info_parts rc_info
    have J := Lib.hid (And.intro hi0 (And.intro hz0 (And.intro hz1 hz2)))
    clear hi0 hz0 hz1 hz2 hln hk0 hk1
    go_enter Try.func7, Try.ntmps7
    go_wp2_with fail
    refine (raced_any _).mono ?_
    rintro e1 w1 ⟨rfl, hb1⟩
    have hw1 := hw0.call hb1
    clear hb1
    go_wp2_with fail
    refine (may_any A n c l _ (HL.out.bel hw1)).mono ?_
    rintro e2 w2 ⟨rfl, hb2⟩
    have hw2 := hw1.call hb2
    clear hb2
    go_wp2_with fail
    refine (HRT.out _).mono ?_
    rintro _ _ ⟨rfl, rfl⟩
    go_wp2_with fail
    refine (all_ok A n c l _ (HL.out.bel hw2) HM.out).mono ?_
    rintro e3 w3 ⟨v3, rfl, hown3, hb3⟩
    have hw3 := hw2.call hb3
    clear hb3
    rw [HM.out]
    obtain ⟨A3, c3, rfl, hs3, _⟩ := SlR.own hown3
    have HS3 := Lib.hid hs3
    clear hown3 hs3
    go_wp2_with fail
    refine (all_ok A k c (l.take k) _ ((HL.out.bel hw3).take hk) HMK.out).mono ?_
    rintro e4 w4 ⟨v4, rfl, hown4, hb4⟩
    have hw4 := hw3.call hb4
    replace HS3 := Lib.hid (HS3.out.bel (Bel.of hb4))
    clear hb4
    rw [HMK.out]
    rw [HFE.out] at hown4
    obtain ⟨A4, c4, rfl, hs4, hn4, hm4⟩ := SlR.own hown4
    have HS4 := Lib.hid hs4
    have HQ4 := Lib.hid (And.intro hn4 hm4)
    have HW4 := Lib.hid hw4
    clear hown4 hs4 hn4 hm4 hw4 hw3 hw2 hw1 hw0 HFE
    generalize rcs l = rs at *
    generalize hnr : rs.length = nr at *
    have hnr' := HLN.out
    have H0 := Lib.hid (WantR.mk (World.ownsRow_nil _ _ _ _) (Bel.refl w4) : WantR w4 ((rs.take 0).filter (lowB k)) (.slice none 0 0) w4)
    go_wp2
    go_loopw [9, 36] (fun v t36 wr => ∃ i : Nat, i ≤ nr ∧ t36 = .int .i64 i ∧ WantR w4 ((rs.take i).filter (lowB k)) v wr) (fun _ t36 _ => nr - (intOf t36).toNat)
    case atStart => exact ⟨0, by omega, rfl, H0.out⟩
    case round =>
      obtain ⟨i, hi, rfl, hr⟩ := hrel
      have HR := Lib.hid hr
      clear hr H0
      by_cases hlt : i < nr
      · have hlt' : (i : Int) < nr := by omega
        obtain ⟨bb, off, r, rfl, hbb, he, hrg⟩ := HS3.out.at_ hlt
        have hR := Lib.hid (rangeAt_below HR.out.below.out hbb hrg)
        have HX := Lib.hid (rwld_box wr r 31)
        have hb5 := rwld_below wr r 31
        have HO := Lib.hid (own_bel HR.out.own hb5)
        have HB5 := Lib.hid (HR.out.below.trans hb5)
        have HE := Lib.hid he
        have HLE := Lib.hid (rfilter_len (lowB k) rs i)
        have c1 := HX.out.cell 1 (v := .int .i64 r.b) rfl
        clear he hrg hb5
        by_cases hbk : r.b < k
        · have hbk' : (r.b : Int) < k := by omega
          have HS := Lib.hid (rfilter_yes (p := lowB k) HE.out (by simpa [lowB] using hbk))
          have HA := Lib.hid (own_alloc HO.out (.cells (rcv r) 31))
          have HNW := Lib.hid (Box.news (l := rcl r) (Box.new (rwld wr r 31) (rcv r) 31))
          have HSZ := Lib.hid (HB5.out.alloc (.cells (rcv r) 31)).size
          go_wp2_with (first | (refine load_rc TRc _ rfl rfl rfl hR.out ?_) | (refine rwld_store TRc _ _ rfl rfl _ rfl rfl rfl ?_) | (refine loadB _ _ rfl rfl rfl HX.out TRc ?_) | (refine buildr 23 _ rfl rfl 31 i0 Try.underlying23 J.out.1 J.out.2.1 J.out.2.2.1 r rfl ?_) | (at_builtin; refine wpList_append_own_at _ rfl (.tmp 44) (.tmp 46) _ rfl w4.heap.size 31 i0 _ 4 32 Try.underlying23 J.out.1 J.out.2.1 J.out.2.2.1 J.out.2.2.2 rfl (by omega) _ ((rs.take i).filter (lowB k)).length _ rfl HA.out _ 1 1 (rcl r) rfl rfl HNW.out (rcl_one _) (by have := HLE.out; unfold maxLen; omega) (by have := HLE.out; omega) HSZ.out ?_; intro v7 w7 hown7 hg7 hn7 hat7))
          refine ⟨⟨i + 1, by omega, by go_num, ⟨?_, (HB5.out.alloc _).out.grown hg7 HSZ.out (own_block_ge HA.out)⟩⟩, by simp [intOf]; omega⟩
          rw [HS.out, List.length_append, rcc_append]
          exact hown7
        · have hbk' : (k : Int) ≤ r.b := by omega
          have HS := Lib.hid (rfilter_no (p := lowB k) HE.out (by simpa [lowB] using hbk))
          go_wp2_with (first | (refine load_rc TRc _ rfl rfl rfl hR.out ?_) | (refine rwld_store TRc _ _ rfl rfl _ rfl rfl rfl ?_))
          go_roundw
          case rel => exact ⟨i + 1, by omega, by go_num, ⟨by rw [HS.out]; exact HO.out, HB5.out⟩⟩
          case measure => simp [intOf]; omega
      · obtain rfl : i = nr := by omega
        have HT := Lib.hid (show rs.take i = rs by rw [← hnr, List.take_length])
        have hr := HR.out
        rw [HT.out] at hr
        obtain ⟨A9, c9, rfl, hs9, hn9, hm9⟩ := SlR.own hr.own
        have HW9 := Lib.hid hr.below
        have HS9 := Lib.hid hs9
        have HQ9 := Lib.hid (And.intro hn9 hm9)
        clear hr hs9 hn9 hm9 HR
        go_wp2_with fail
        refine (eqrc_any A4 A9 _ c4 _ c9 _ _ _ (HS4.out.bel HW9.out) HS9.out HQ4.out.1 HQ9.out.1 HQ4.out.2 HQ9.out.2).mono ?_
        rintro e9 w9 ⟨rfl, hb9⟩
        rw [decide_eq_true rfl]
        have hw9 := (HW4.out.trans HW9.out).call hb9
        clear hb9
        go_wp2
        go_ret
        exact ⟨rfl, hw9⟩

set_option maxRecDepth 100000 in
theorem lifted (os : Os) (started : os.Started) (H : Type) (enc : TypeId × Value → H) :
    ReturnsInHanded {} Try.checked os 7 .any (Rows.raceFrontSpec.pre6 enc Try.prog Try.f7 Rows.raceFrontRow.domain false) (Rows.raceFrontSpec.post enc Try.prog Try.f7 false true false false) := by
  refine returnsInHanded_of_change_sized (C := Try.checked) own started (by kernel_rfl) Try.func7
    (ChangeSpec.witness6 (enc := enc) (C := Try.checked) false ⟨#[], #[.slice none 0 0, .int .i64 0], []⟩ 8 (by kernel_rfl) (by kernel_rfl) (by kernel_rfl) (by kernel_rfl)) ?_
  intro W base args ds gs before hval0 hW hcnd hsz0 _
  have hsz : (DataW.weightsEach Try.prog (Try.f7.params.toList ++ Rows.raceFrontSpec.plain.varTypes Try.prog) (ds ++ gs)).all (· ≤ reachBytes) = true := hsz0
  clear hsz0
  have hval : ∀ (j : Nat) t v, Try.f7.params[j]? = some t → args[j]? = some v → Value.okWide Try.prog W .any base t v := hval0
  have hW' := hW
  obtain ⟨p, q, hA0, hV, rfl, hfz, hnd⟩ := hW
  have hA : DataW.TrodAll enc Try.prog W 0 (fun _ => true) true Try.f7.params.toList args.toList ds p := hA0
  rw [Try.params7] at hA hval hsz
  obtain ⟨v0, vs0, d0, ds0, p0, q0, hargs, rfl, rfl, h0, r0⟩ := trodAll_cons hA
  obtain ⟨v1, vs1, d1, ds1, p1, q1, rfl, rfl, rfl, h1, r1⟩ := trodAll_cons r0
  obtain ⟨rfl, rfl, rfl⟩ := trodAll_nil r1
  obtain rfl : args = #[v0, v1] := by cases args; simp_all
  obtain ⟨rfl, rfl⟩ := trodVars_none hV
  have t0 := h0
  have lt0 : ∀ x ∈ p0, x.block < W.heap.size := by obtain ⟨m, hm⟩ := t0; exact DataW.trod_lt m _ _ _ hm
  have t1 := h1
  have lt1 : ∀ x ∈ p1, x.block < W.heap.size := by obtain ⟨m, hm⟩ := t1; exact DataW.trod_lt m _ _ _ hm
  obtain ⟨A0, n0, c0, l0, rfl, s0, m0, x0, g0, z0⟩ := open_evs Try.underlying22 Try.underlying43 ⟨rfl, rfl, rfl⟩ (by kernel_rfl) (by kernel_rfl) Try.underlying3 (hval 0 22 v0 rfl rfl) h0
  have y0 := reach_sl hsz (j := 0) rfl rfl Try.underlying22 (b := 24) (by kernel_rfl) z0
  obtain ⟨a1, rfl, _, _, x1⟩ := open_int Try.underlying3 (hval 1 3 v1 rfl rfl) h1
  have k1 := in64_of x1
  clear hA0 hval0
  refine (walk W A0 n0 c0 l0 s0 m0 x0 g0 a1 k1).mono fun e W' ⟨he, bel⟩ => ?_
  subst he
  exact ⟨_, rfl, _, _, _, [], _, [], hW', trodAll_mk1 (shut_bool Try.underlying4 _), (trodAll_cons_mk (Below.trod laidOut (by kernel_rfl) (of_decide_eq_true (by kernel_rfl)) t0 bel lt0) (trodAll_cons_mk (Below.trod laidOut (by kernel_rfl) (of_decide_eq_true (by kernel_rfl)) t1 bel lt1) trodAll_mk0)), rfl, bel.frame _, fun h => by cases h⟩

theorem over : Rows.raceFrontRow.holds Try.pinned (OpenSpec.ofChange Rows.raceFrontSpec) :=
  OpenClaim.holds_of_wide 7 Try.f7 rfl rfl rfl rfl rfl rfl rfl ⟨rfl, rfl, rfl, rfl, rfl⟩ rfl rfl rfl rfl rfl (by kernel_rfl) Try.func7 (by kernel_rfl)
    (of_decide_eq_true (by kernel_rfl)) (by unfold Func.isWrapper; first | (rw [if_pos (by decide +kernel)]; kernel_rfl) | (rw [if_neg (by decide +kernel)]; exact ⟨rfl, rfl⟩))
    (fun os started H enc _ => lifted os started H enc)

theorem proved : Rows.RaceFrontSaid := over
#print axioms proved
end Go.Proofs.Ytdgoeibaekkhmaa.LRaceFront

/- The law's own: the races of a trace between names, as a map. -/
import Derived.Test.YtjddahidkodieaaNmA
import Derived.Test.YtjddahidkodieaaMpQ
import Derived.Test.YtjddahidkodieaaAll
import Derived.Test.YtjddahidkodieaaRr
import Derived.Test.YtjddahidkodieaaFollow
set_option linter.all false
set_option maxRecDepth 100000
namespace Go.Proofs.Ytjddahidkodieaa
open Go Go.RowKit

theorem SlP.rng {w : World} {bb off n i : Nat} {l : List (Nat × Nat)} (h : SlP w (some ⟨bb, off, none⟩) n l) (hi : i < n) {p : Nat × Nat} (he : l[i]? = some p) : bb < w.heap.size ∧ w.rangeAt bb (off + i * 2) (prl p) := by
  obtain ⟨b, o, e', hA, hb, he', hr⟩ := h.at_ hi
  cases hA
  rw [he] at he'; cases he'
  exact ⟨hb, hr⟩
theorem load_prm {w : World} {b o : Nat} {p : Nat × Nat} (h : w.rangeAt b o (prl p)) : (loadVar 40 ⟨b, o, none⟩).run Try.prog w = .ok (.agg (prv p)) w :=
  run_loadVar_mid (P := Try.prog) w b o _ (prl p) _ h Try.underlying40 rfl (by kernel_rfl)
theorem build_q (p q : Nat × Nat) (w : World) : (Instr.build 41 #[(0, .agg (prv p)), (1, .agg (prv q))]).run Try.prog w = .ok (.agg (qv (p, q))) w := by kernel_rfl
theorem rcs_len2 {l : List Ev} (hm : may l = 0) : (rcs l).length ≤ 6480 := by
  rw [rcs_ok hm]
  unfold rcsA; rw [List.length_map]; exact prs_small ((may_iff l).1 hm).1 (Nat.le_refl _) (Nat.zero_le _)
theorem s_build_q {ops : Array Oper} {w : World} {Q : Act → Prop} {a : Act} {o : Oper} {rest : List Oper} (x y : Operand) (ho : o.op = .build 41 #[(0, x), (1, y)]) (hgd : o.guard = none) {p q : Nat × Nat} (hx : a.eval x = .agg (prv p)) (hy : a.eval y = .agg (prv q))
    (h : wpStill Try.prog ops w Q rest (a.put o.dst (.agg (qv (p, q))))) : wpStill Try.prog ops w Q (o :: rest) a := by
  have hw : Region.wanted o (yielded ops a.tmps) = true := by unfold Region.wanted; rw [hgd]
  unfold wpStill
  rw [hw, if_pos rfl]
  unfold Oper.still execOp
  simp only [ho, Sem.run_bind, Sem.run_pure, Result.andThen_ok, List.map_toArray, List.map_cons, List.map_nil, hx, hy, build_q]
  exact ⟨rfl, h⟩
structure FillQ (w : World) (B : Nat) (ps : List Q4) (wr : World) : Prop where
  map : MapQ wr B ps
  ge : w.heap.size ≤ B
  below : Bel w wr
def RcdPost (w : World) (l : List Ev) (e : Ending) (w' : World) : Prop := ∃ B, e = .returned (.map (some B)) ∧ MapQ w' B (rk l) ∧ Below w.heap.size w w'
theorem rk_take {l : List Ev} {i : Nat} {r : Rc} (h : (rcs l)[i]? = some r) : (rk l).take (i + 1) = (rk l).take i ++ [(nameN l r.a, nameN l r.b)] := by
  unfold rk
  rw [← List.map_take, ← List.map_take, List.take_succ, h, List.map_append]
  rfl
theorem rk_new {l : List Ev} (hm : may l = 0) {i : Nat} {r : Rc} (h : (rcs l)[i]? = some r) : (nameN l r.a, nameN l r.b) ∉ (rk l).take i := fun hin => by
  have hnd := rk_nodup hm
  have hi : (rk l)[i]? = some (nameN l r.a, nameN l r.b) := by unfold rk; rw [List.getElem?_map, h]; rfl
  obtain ⟨j, hj, hje⟩ := List.mem_iff_getElem.1 hin
  rw [List.length_take] at hj
  rw [List.getElem_take] at hje
  obtain ⟨h1a, h1b⟩ := List.getElem?_eq_some_iff.1 hi
  exact List.pairwise_iff_getElem.1 hnd j i (by omega) h1a (by omega) (by rw [hje, h1b])
set_option maxHeartbeats 16000000 in
theorem raced_any (A : Option Addr) (n c : Nat) (l : List Ev) (w : World) (hl : Sl w A n l) (hm : may l = 0) : Calls Try.prog 14 #[.slice A n c] w (RcdPost w l) := by
  have hw0 := Bel.refl w
  have HL := Lib.hid hl
  have HM := Lib.hid hm
  have hn80 : n ≤ 80 := by rw [← hl.1]; exact ((may_iff l).1 hm).1
  have HN8 := Lib.hid hn80
  have hmm := @run_makeMap Try.prog
  clear hl hm
  go_enter Try.func14, Try.ntmps14
  go_wp2_with fail
  refine (all_ok A n c l _ HL.out HM.out).mono ?_
  rintro e1 w1 ⟨v1, rfl, hown1, hb1⟩
  rw [HM.out]
  have HW1 := Lib.hid (Bel.of hb1)
  have HO1 := Lib.hid hown1
  clear hb1 hown1
  go_wp2_with fail
  refine (names_any A n c l _ (HL.out.bel HW1.out.out) (may_fit HM.out) HN8.out).mono ?_
  rintro e2 w2 ⟨v2, rfl, hown2, hb2⟩
  obtain ⟨A1, c1, rfl, hs1, hn1, hm1⟩ := SlR.own (own_bel HO1.out (Bel.of hb2))
  obtain ⟨A2, c2, rfl, hs2, hn2, hm2⟩ := SlP.own hown2
  have HW2 := Lib.hid (HW1.out.call hb2)
  have HS1 := Lib.hid hs1
  have HS2 := Lib.hid hs2
  have HLN := Lib.hid (rcs_len2 HM.out)
  have H0 := Lib.hid (FillQ.mk (show MapQ (w2.alloc (.map #[] 0)) w2.heap.size [] from heap_alloc_new w2 _) (Nat.le_refl _) ((Bel.refl w2).alloc _) : FillQ w2 w2.heap.size ((rk l).take 0) (w2.alloc (.map #[] 0)))
  generalize hm' : (rcs l).length = m at *
  have HMM := Lib.hid hm'
  have hm640 : m ≤ 6480 := HLN.out
  clear hs1 hn1 hm1 hs2 hn2 hm2 hown2 hb2 hm'
  go_wp2
  go_loopw [19] (fun t wr => ∃ i : Nat, i ≤ m ∧ t = .int .i64 i ∧ FillQ w2 w2.heap.size ((rk l).take i) wr) (fun t _ => m - (intOf t).toNat)
  case atStart => exact ⟨0, by omega, rfl, H0.out⟩
  case round =>
    obtain ⟨i, hi, rfl, hr⟩ := hrel
    have HR := Lib.hid hr
    clear hr H0
    by_cases hlt : i < m
    · have hlt' : (i : Int) < m := by omega
      obtain ⟨bb, off, r, rfl, hbb, hrr, hrg⟩ := HS1.out.at_ hlt
      obtain ⟨ea, eb, g1, g2, g3, _⟩ := mem_rcsA (l := l) (by rw [← rcs_ok HM.out]; exact List.mem_of_getElem? hrr)
      have ha : r.a < n := by rw [← HL.out.1]; exact (List.getElem?_eq_some_iff.1 g1).1
      have hb : r.b < n := by rw [← HL.out.1]; exact (List.getElem?_eq_some_iff.1 g2).1
      obtain ⟨bn, on, p0, rfl, _, _, _⟩ := HS2.out.at_ (show 0 < n by omega)
      have ha' : (r.a : Int) < n := by omega
      have hb' : (r.b : Int) < n := by omega
      have hR := Lib.hid (rangeAt_below HR.out.below.out hbb hrg)
      have HX := Lib.hid (rwld_box wr r 38)
      have HBW := Lib.hid (HR.out.below.trans (rwld_below wr r 38))
      have HM2 := Lib.hid ((HR.out.map.bel (rwld_below wr r 38)).bel (Bel.refl _).drew)
      have HSN := HS2.out.bel HBW.out
      have LA := Lib.hid (show (rwld wr r 38).drew.rangeAt bn (on + r.a * 2) (prl (nameN l r.a)) from (HSN.rng ha (nmL_get l ha)).2)
      have LB := Lib.hid (show (rwld wr r 38).drew.rangeAt bn (on + r.b * 2) (prl (nameN l r.b)) from (HSN.rng hb (nmL_get l hb)).2)
      have HNI := Lib.hid (rk_new HM.out hrr)
      have HE := Lib.hid (rk_take hrr)
      have c0 := HX.out.cell 0 (v := .int .i64 r.a) rfl
      have d0 := HX.out.cell 1 (v := .int .i64 r.b) rfl
      clear hrr hrg hbb g1 g2 g3 HSN
      go_wp2_with (first | (refine load_rc TRc _ rfl rfl rfl hR.out ?_) | (refine rwld_store TRc _ _ rfl rfl _ rfl rfl rfl ?_))
      generalize rwld wr r 38 = wx at *
      generalize wr.heap.size = X at *
      generalize nameN l r.a = na at *
      generalize nameN l r.b = nb at *
      (refine wp_region_still_tail 12 (by kernel_rfl) (by kernel_rfl) ?_; simp only [List.take_succ_cons, List.take_zero, List.drop_succ_cons, List.drop_zero]; (repeat (first | ((with_reducible refine s_skip ?_ ?_); exact rfl; simp only [Act.put, Act.eval, List.setIfInBounds_toArray, List.set_cons_zero, List.set_cons_succ, Array.getD_eq_getD_getElem?, List.getElem?_toArray, List.getElem?_cons_zero, List.getElem?_cons_succ, Option.getD_some]) | (refine s_load_mid _ _ rfl rfl rfl LA.out TPr (prv na) rfl ?_; simp only [Act.put, Act.eval, List.setIfInBounds_toArray, List.set_cons_zero, List.set_cons_succ, Array.getD_eq_getD_getElem?, List.getElem?_toArray, List.getElem?_cons_zero, List.getElem?_cons_succ, Option.getD_some]) | (refine s_load_mid _ _ rfl rfl rfl LB.out TPr (prv nb) rfl ?_; simp only [Act.put, Act.eval, List.setIfInBounds_toArray, List.set_cons_zero, List.set_cons_succ, Array.getD_eq_getD_getElem?, List.getElem?_toArray, List.getElem?_cons_zero, List.getElem?_cons_succ, Option.getD_some]) | (refine s_build_q _ _ rfl rfl rfl rfl ?_; simp only [Act.put, Act.eval, List.setIfInBounds_toArray, List.set_cons_zero, List.set_cons_succ, Array.getD_eq_getD_getElem?, List.getElem?_toArray, List.getElem?_cons_zero, List.getElem?_cons_succ, Option.getD_some]) | ((with_reducible refine wpStill_step ?_); intro K hK; go_simp; (with_reducible refine hK _ ?_); clear hK K))); (with_reducible refine wpStill_nil ?_))
      change wpList _ _ _ _ _ wx.drew
      clear LA LB c0 d0
      go_wp2_with (refine updQ _ _ _ rfl rfl rfl rfl rfl HM2.out HNI.out ?_)
      go_roundw
      case rel => exact ⟨i + 1, by omega, by go_num, by rw [HE.out]; exact qset_map _ HM2.out.lt, Nat.le_refl _, below_qset (HBW.out.trans (Bel.refl _).drew).out (Nat.le_refl _) _⟩
      case measure => simp [intOf]; omega
    · obtain rfl : i = m := by omega
      have HT := Lib.hid (show (rk l).take i = rk l by rw [← HMM.out]; unfold rk; rw [← List.length_map (f := fun r : Rc => (nameN l r.a, nameN l r.b)), List.take_length])
      go_wp2
      go_ret
      exact ⟨_, rfl, by have := HR.out.map; rwa [HT.out] at this, HW2.out.trans HR.out.below⟩
end Go.Proofs.Ytjddahidkodieaa

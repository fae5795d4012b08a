import Derived.Laws.CopyRow
import Derived.Test.YticnponenkfneaaZEx
import Derived.Test.YticnponenkfneaaZEc
set_option linter.all false
set_option maxRecDepth 100000
namespace Go.Proofs.Yticnponenkfneaa
open Go Go.RowKit

theorem xF_at (PV : Value) (m v h : Nat → Int) (d k : Bool) (LV : Value) {i : Nat} (hi : i < 22) : (xV PV m v h d k LV)[i]? = some (xF PV m v h d k LV i) := vs_get _ hi
theorem cat_all (P : List (List Ev)) : (catL P P.length).length = (P.map (·.length)).sum := by unfold catL; rw [List.take_length, List.length_flatten]
set_option maxHeartbeats 4000000 in
theorem echeck_any (HC : CheckC) {A : Option Addr} {n c : Nat} {P : List (List Ev)} {w : World} (h : Prg w A n P) (hnc : n ≤ c) (hcm : c ≤ maxLen) :
    Calls Try.prog 34 #[.slice A n c] w fun e w' => e = .returned (.int .i64 (evC P)) ∧ Below w.heap.size w w' := by
  unfold CheckC at HC
  have HCK := Lib.hid (HC A n c P)
  have HP := Lib.hid h
  have HM := Lib.hid (And.intro hnc hcm)
  clear HC h hnc hcm
  go_enter Try.func34, Try.ntmps34
  go_wp2_with fail
  refine (HCK.out _ HP.out HM.out.1 HM.out.2).mono ?_
  rintro e1 w1 ⟨rfl, hb1⟩
  have HB1 := Lib.hid (Bel.of hb1)
  clear hb1
  cases h0 : (chkP P != 0)
  · have h0' : chkP P = 0 := by simpa using h0
    have hok := chk_ok.1 h0'
    have HOK := Lib.hid hok
    go_wp2_with fail
    refine (concatop_any A n c P _ (HP.out.bel HB1.out) HM.out.1 HM.out.2 (by rw [← HP.out.1]; exact HOK.out.six) (fun t _ => HOK.out.len t)).mono ?_
    rintro e2 w2 ⟨v, rfl, ho2, hb2⟩
    obtain ⟨B2, c2, rfl, hs2, hn2, _⟩ := Sl.own ho2
    have HB2 := Lib.hid (HB1.out.trans (Bel.of hb2))
    have HLT := Lib.hid (show ((catL P n).length) = (P.map (·.length)).sum by rw [← HP.out.1]; exact cat_all P)
    clear ho2 hs2 hn2 hb2 h0 h0' hok
    generalize (catL P n).length = N at *
    by_cases h10 : 10 < N
    · have h10' : (10 : Int) < N := by omega
      have HE := Lib.hid (show evC P = 2 by unfold evC; rw [if_neg (by have := chk_ok.2 HOK.out; omega), ← HLT.out, if_pos h10])
      go_wp2
      go_ret
      exact ⟨by rw [HE.out]; rfl, HB2.out.out⟩
    · have h10' : ¬ (10 : Int) < N := by omega
      have HE := Lib.hid (show evC P = 0 by unfold evC; rw [if_neg (by have := chk_ok.2 HOK.out; omega), ← HLT.out, if_neg h10])
      go_wp2
      go_ret
      exact ⟨by rw [HE.out]; rfl, HB2.out.out⟩
  · have h0' : chkP P ≠ 0 := by simpa using h0
    have HE := Lib.hid (show evC P = chkP P by unfold evC; rw [if_pos h0'])
    clear h0'
    go_wp2
    go_ret
    exact ⟨by rw [HE.out]; rfl, HB1.out.out⟩
theorem run_copy_rowk {P : Program} (w : World) (dT sT ty elem : TypeId) (k g o dLen dCap : Nat) (A : Option Addr) (m c : Nat) (cur : Array Value) (t : TypeId) (cs : List Value)
    (hu : P.underlying dT = some (.slice elem)) (hs : (P.info? elem).map (·.size) = some k) (hg : w.heap[g]? = some (.cells cur t (0, 0))) (hm : m ≤ dLen) (hn : cs.length = m * k) (hsrc : Src w A m cs)
    (hfit : o + cs.length ≤ cur.size) (h1 : ∀ v ∈ cs, v.oneCell' = true) :
    (Builtin.copy_ #[dT, sT] ty #[.slice (some ⟨g, o, none⟩) dLen dCap, .slice A m c]).run P w = .ok (goInt m) (w.setRow g (cur.toList.take o ++ (cs ++ cur.toList.drop (o + cs.length))).toArray) := by
  have hst := run_storeCells_at P g o t cs 0 cur w hg (by simpa using hfit) h1
  simp at hst
  have hmin : Nat.min m dLen = m := Nat.min_eq_left hm
  cases hq : P.info? elem with
  | none => simp [hq] at hs
  | some i =>
    have hi : i.size = k := by simpa [hq] using hs
    rcases hsrc with ⟨rfl, rfl, rfl⟩ | ⟨ad, rfl, hc⟩
    · simp at hst
      simp [Builtin.copy_, run_underlying hu, Builtin.lenOf, Builtin.firstCells, sizeOf, typeInfo, hq, hi, hst, Result.andThen]
    · have hl := run_loadCells_list (P := P) w ad cs hc
      rw [hn] at hl
      simp [Builtin.copy_, run_underlying hu, Builtin.lenOf, Builtin.firstCells, sizeOf, typeInfo, hq, hi, hmin, hl, hst, Result.andThen]
theorem copy_st (a : Nat → Nat) {l : List Ev} (h : l.length ≤ 10) : ((stV a []).toList.take 6 ++ (evc l ++ (stV a []).toList.drop (6 + (evc l).length))).toArray = stV a l := by
  have hl := evc_length l
  apply Array.ext_getElem?
  intro i
  have hv : (stV a []).toList = (List.range 36).map fun i => Value.int .i64 (stF a [] i) := by unfold stV; rw [vs_list]
  have hr : (stV a l)[i]? = if i < 36 then some (.int .i64 (stF a l i)) else none := by
    unfold stV
    split
    · rename_i h; exact vs_get _ h
    · rename_i h; exact Array.getElem?_eq_none (by rw [vs_size]; omega)
  rw [hr, hv, List.getElem?_toArray]
  have ht : (((List.range 36).map fun i => Value.int .i64 (stF a [] i)).take 6).length = 6 := by simp
  by_cases h6 : i < 6
  · rw [List.getElem?_append_left (by omega), List.getElem?_take_of_lt h6, if_pos (by omega), List.getElem?_map, List.getElem?_range (by omega)]
    simp [stF, h6]
  · rw [List.getElem?_append_right (by omega), ht]
    by_cases hm : i - 6 < l.length * 3
    · rw [List.getElem?_append_left (by omega), if_pos (by omega)]
      have hj : (i - 6) / 3 < l.length := by omega
      have he : l[(i - 6) / 3]? = some l[(i - 6) / 3] := List.getElem?_eq_getElem hj
      have hd : i - 6 = (i - 6) / 3 * 3 + (i - 6) % 3 := by omega
      have hc : (i - 6) % 3 < 3 := by omega
      rw [show (evc l)[i - 6]? = (evc l)[(i - 6) / 3 * 3 + (i - 6) % 3]? by rw [← hd]]
      unfold stF
      rw [if_neg h6, he]
      generalize (i - 6) % 3 = q at *
      generalize l[(i - 6) / 3] = e at *
      match q, hc with
      | 0, _ => exact evl_at he 0 _ rfl
      | 1, _ => exact evl_at he 1 _ rfl
      | 2, _ => exact evl_at he 2 _ rfl
    · rw [List.getElem?_append_right (by omega), List.getElem?_drop]
      by_cases hi : i < 36
      · rw [if_pos hi, show 6 + (evc l).length + (i - 6 - (evc l).length) = i by omega, List.getElem?_map, List.getElem?_range hi]
        simp only [Option.map_some, Option.some.injEq, Value.int.injEq, true_and]
        unfold stF
        rw [if_neg h6, if_neg h6, List.getElem?_eq_none (by simp), List.getElem?_eq_none (by omega)]
      · rw [if_neg hi]
        exact List.getElem?_eq_none (by simp; omega)
theorem cnt_le (ws : List Nat) (t : Nat) : cntW ws t ≤ ws.length := List.count_le_length
theorem stV_upd {a : Nat → Nat} {u x : Nat} (hu : u < 6) : (stV a []).setIfInBounds u (.int .i64 (x : Nat)) = stV (upF a u x) [] := by
  unfold stV
  rw [vs_set]
  refine vs_congr fun i _ => ?_
  show (if i = u then Value.int .i64 ((x : Nat) : Int) else .int .i64 (stF a [] i)) = .int .i64 (stF (upF a u x) [] i)
  unfold stF upF
  by_cases h : i = u
  · subst h; rw [if_pos rfl, if_pos hu, if_pos rfl]
  · rw [if_neg h]
    by_cases h6 : i < 6
    · rw [if_pos h6, if_pos h6, if_neg h]
    · rw [if_neg h6, if_neg h6]
structure ReR (w : World) (PV : Value) (m v h : Nat → Int) (d k : Bool) (LV : Value) (ws : List Nat) (i : Nat) (wr : World) : Prop where
  x : Box wr w.heap.size (xV PV m v h d k LV) 53
  r : Box wr (w.heap.size + 1) (stV (fun _ => 0) []) 131
  s : Box wr (w.heap.size + 2) (stV (cntW (ws.take i)) []) 131
  below : Bel w wr
set_option maxHeartbeats 16000000 in
theorem reached_any (HLE : LeastC) {w : World} {A : Option Addr} {n c : Nat} {ws : List Nat} {LV : Value} {l : List Ev} {m v h : Nat → Int} {d k : Bool} (hp : SI w A n (pks ws)) (hnc : n ≤ c) (hcm : c ≤ maxLen) (h6 : ∀ t ∈ ws, t < 6) (h10 : ws.length ≤ 10) (hl : LVal w LV l) (hm : may l = 0) (hl10 : l.length ≤ 10) :
    Calls Try.prog 62 #[.agg (xV (.slice A n c) m v h d k LV)] w fun e w' => e = .returned (.agg (stV (cntW ws) (leastL l))) ∧ Below w.heap.size w w' := by
  have HP := Lib.hid hp
  have HM := Lib.hid (And.intro hnc hcm)
  have H6 := Lib.hid h6
  have H10 := Lib.hid h10
  have HL := Lib.hid hl
  have HMM := Lib.hid (And.intro hm hl10)
  have hn : n = ws.length := by rw [← hp.1]; simp [pks]
  have hnc' : (n : Int) ≤ c := by omega
  have HN := Lib.hid hn
  clear hp hnc hcm h6 h10 hl hm hl10 hn
  have hn10 : (n : Int) ≤ 10 := by have := HN.out; have := H10.out; omega
  have HX := Lib.hid (Box.new w (xV (.slice A n c) m v h d k LV) 53)
  have HW := Lib.hid ((Bel.refl w).alloc (.cells (xV (.slice A n c) m v h d k LV) 53))
  go_enter Try.func62, Try.ntmps62
  go_upto_region 2 with fail
  change Code.wp _ _ _ _ (((w.alloc (.cells (xV (.slice A n c) m v h d k LV) 53)).alloc (.cells (stV (fun _ => 0) []) 131)).alloc (.cells (stV (fun _ => 0) []) 131))
  have H0 := Lib.hid (show ReR w (.slice A n c) m v h d k LV ws 0 (((w.alloc (.cells (xV (.slice A n c) m v h d k LV) 53)).alloc (.cells (stV (fun _ => 0) []) 131)).alloc (.cells (stV (fun _ => 0) []) 131)) from by
    have h1 := (Bel.refl w).alloc (.cells (xV (.slice A n c) m v h d k LV) 53)
    have h2 := h1.alloc (.cells (stV (fun _ => 0) []) 131)
    have h3 := h2.alloc (.cells (stV (fun _ => 0) []) 131)
    have b2 := Box.new (w.alloc (.cells (xV (.slice A n c) m v h d k LV) 53)) (stV (fun _ => 0) []) 131
    have b3 := Box.new ((w.alloc (.cells (xV (.slice A n c) m v h d k LV) 53)).alloc (.cells (stV (fun _ => 0) []) 131)) (stV (fun _ => 0) []) 131
    exact ⟨((Box.new w _ _).old _).old _, (by simpa using b2 : Box _ (w.heap.size + 1) _ _).old _, by have := b3; simp at this; exact this, h3⟩)
  generalize ((w.alloc (.cells (xV (.slice A n c) m v h d k LV) 53)).alloc (.cells (stV (fun _ => 0) []) 131)).alloc (.cells (stV (fun _ => 0) []) 131) = w0 at *
  have cp := H0.out.x.cell 0 (v := .slice A n c) (xF_at _ m v h d k LV (by omega))
  go_wp2
  go_loopw [11] (fun t wr => ∃ i : Nat, i ≤ n ∧ t = .int .i64 i ∧ ReR w (.slice A n c) m v h d k LV ws i wr) (fun t _ => n - (intOf t).toNat)
  case atStart => exact ⟨0, by omega, rfl, H0.out⟩
  case round =>
    obtain ⟨i, hi, rfl, hr⟩ := hrel
    have HR := Lib.hid hr
    clear hr H0 cp
    by_cases hlt : i < n
    · have hlt' : (i : Int) < n := by omega
      obtain ⟨b, o, rfl, hc⟩ := HP.out.2 (by omega)
      have hci := HR.out.below.cell (hc i hlt)
      have htl : i < ws.length := by have := HN.out; omega
      rw [show (pks ws)[i]?.getD 0 = ((ws[i] : Nat) : Int) by unfold pks; rw [List.getElem?_map, List.getElem?_eq_getElem htl]; rfl] at hci
      have HT := Lib.hid (H6.out _ (List.getElem_mem htl))
      have HSN := Lib.hid (show cntW (ws.take (i + 1)) = upF (cntW (ws.take i)) ws[i] (cntW (ws.take i) ws[i] + 1) by rw [List.take_succ_eq_append_getElem htl, cntW_snoc])
      have HCT := Lib.hid (show cntW (ws.take i) ws[i] ≤ 10 by have := cnt_le (ws.take i) ws[i]; rw [List.length_take] at this; have := H10.out; omega)
      clear hc
      generalize ws[i] = u at *
      clear htl
      have hu : (u : Int) < 6 := by have := HT.out; omega
      have HSX := Lib.hid HR.out.s
      have cu := HSX.out.cell u (v := .int .i64 (cntW (ws.take i) u)) (by unfold stV; rw [vs_get _ (by have := HT.out; omega)]; unfold stF; rw [if_pos HT.out])
      have fu := HSX.out.frozen u
      have hwr : IntKind.i64.wrap ((cntW (ws.take i) u : Int) + 1) = cntW (ws.take i) u + 1 := IntWalk.i64_in _ (by have := HCT.out; omega)
      have hsx := HR.out.x.cell 0 (v := .slice (some ⟨b, o, none⟩) n c) (xF_at _ m v h d k LV (by omega))
      go_wp2
      go_roundw
      case rel => exact ⟨i + 1, by omega, by go_num, ⟨HR.out.x.set_ne ⟨w.heap.size + 2, u, none⟩ _ (by dsimp only; omega), HR.out.r.set_ne ⟨w.heap.size + 2, u, none⟩ _ (by dsimp only; omega), by rw [HSN.out, ← stV_upd HT.out]; exact HSX.out.set u _, HR.out.below.setCell ⟨w.heap.size + 2, u, none⟩ (by dsimp only; omega) _⟩⟩
      case measure => simp [intOf]; omega
    · obtain rfl : i = n := by omega
      have htk : ws.take i = ws := by have := HN.out; rw [this, List.take_length]
      obtain ⟨B, q, e, rfl, hsl, hqe, hem⟩ := HL.out.ex
      have HSL := Lib.hid (hsl.bel HR.out.below)
      have HQ := Lib.hid (And.intro hqe hem)
      have hsx := HR.out.x.cell 21 (v := .slice B q e) (xF_at _ m v h d k _ (by omega))
      clear hsl hqe hem
      go_wp2_with fail
      refine (HLE B q e l _ HSL.out HQ.out.1 HQ.out.2).mono ?_
      rintro e2 w2 ⟨r, c2, hle, A2, n2, d2, rfl, hs2, hn2, hd2, hb2⟩
      have HLL := Lib.hid (show r = leastL l ∧ c2 = 0 by
        rcases hle with ⟨h1, _⟩ | ⟨_, h2, h3⟩
        · exact absurd HMM.out.1 h1
        · exact ⟨h2, h3⟩)
      obtain ⟨hr1, hr2⟩ := HLL.out
      subst hr1 hr2
      have HS2 := Lib.hid hs2.src
      have HLN := Lib.hid (And.intro hs2.1 (show (leastL l).length ≤ 10 by rw [leastL_len (may_fit HMM.out.1)]; exact HMM.out.2))
      have HB2 := Lib.hid (HR.out.below.trans (Bel.of hb2))
      have HR2 := Lib.hid ((Bel.of hb2).box HR.out.r)
      have HSX := Lib.hid ((Bel.of hb2).box HR.out.s)
      rw [htk] at HSX
      clear hle hs2 hn2 hd2 hb2 HLL hsx
      have hcp : (Builtin.copy_ #[40, 40] 3 #[.slice (some ⟨w.heap.size + 1 + 1, 6, none⟩) 10 10, .slice A2 n2 d2]).run Try.prog w2 = .ok (goInt n2) (w2.setRow (w.heap.size + 1 + 1) (stV (cntW ws) (leastL l))) := by
        have h9 := run_copy_rowk (P := Try.prog) w2 40 40 3 67 3 (w.heap.size + 1 + 1) 6 10 10 A2 n2 d2 (stV (cntW ws) []) 131 (evc (leastL l)) Try.underlying40 (by kernel_rfl) HSX.out (by have := HLN.out; omega) (by rw [evc_length, HLN.out.1]) HS2.out (by rw [evc_length]; unfold stV; rw [vs_size]; have := HLN.out; omega) (evc_one (leastL l))
        rw [copy_st _ HLN.out.2] at h9
        exact h9
      have HB3 := Lib.hid (HB2.out.setRow (w.heap.size + 1 + 1) (by omega) (stV (cntW ws) (leastL l)))
      have HS3 := Lib.hid (HSX.out.setRow (stV (cntW ws) (leastL l)))
      have HR3 := Lib.hid (HR2.out.setRow_ne (w.heap.size + 2) (stV (cntW ws) (leastL l)) (by omega))
      clear HSX HR2 HB2 HS2 HLN
      go_wp2_with (first | (refine loadB 131 _ rfl rfl rfl HS3.out (TStv _ _) ?_) | (refine storeB 131 _ _ rfl rfl rfl rfl HR3.out rfl (TStv _ _) (vs_all fun _ => rfl) ?_))
      refine bodyPost_ret (res_c Try.results62 rfl (B := w.heap.size + 1) (c := stV (cntW ws) (leastL l)) (t := 131) (HR3.out.setRow _) (TStv _ _)) rfl ?_
      exact ⟨rfl, (HB3.out.setRow (w.heap.size + 1) (by omega) _).out⟩
end Go.Proofs.Yticnponenkfneaa

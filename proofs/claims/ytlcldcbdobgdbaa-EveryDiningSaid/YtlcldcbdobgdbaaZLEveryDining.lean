import Derived.Deep.DeepCutAuto
import Derived.Test.YtlcldcbdobgdbaaZKeepPg
import Derived.Test.YtlcldcbdobgdbaaZEv
import Derived.Test.YtlcldcbdobgdbaaZHv
import Derived.Test.YtlcldcbdobgdbaaZRest
set_option linter.all false
set_option maxRecDepth 100000
namespace Go.Proofs.Ytlcldcbdobgdbaa.LEveryDining
open Go Go.ChangeShapes Go.WideShapes Go.ChangeAt Go.RowKit

theorem opx4_info : (Try.prog.info? 59).map (fun i => (i.zero, i.size, i.bytes)) = some (some (.agg #[.int .i64 0, .int .i64 0, .int .i64 0]), 3, 24) := by kernel_rfl
theorem run_bld4 (x y z u : Ev) (w : World) :
    (Instr.buildSlice 57 4 #[(0, .agg (evv x)), (1, .agg (evv y)), (2, .agg (evv z)), (3, .agg (evv u))]).run Try.prog w = .ok (.slice (some ⟨w.heap.size, 0, none⟩) 4 4) (w.alloc (.cells (evc [x, y, z, u]).toArray 59)) := by kernel_rfl
theorem bld4 {ops : Array Oper} {rest : List Oper} {o : Oper} {a : Act} {w : World} {Q : Exit → Act → World → Prop} (p0 p1 p2 p3 : Operand) (ho : o.op = .buildSlice 57 4 #[(0, p0), (1, p1), (2, p2), (3, p3)]) (hgd : o.guard = none)
    (x y z u : Ev) (h0 : a.eval p0 = .agg (evv x)) (h1 : a.eval p1 = .agg (evv y)) (h2 : a.eval p2 = .agg (evv z)) (h3 : a.eval p3 = .agg (evv u))
    (h : wpList Try.prog ops Q rest (a.put o.dst (.slice (some ⟨w.heap.size, 0, none⟩) 4 4)) (w.alloc (.cells (evc [x, y, z, u]).toArray 59))) : wpList Try.prog ops Q (o :: rest) a w := by
  refine wpList_plain hgd fun _ hK' => ?_
  unfold Oper.wp execOp
  simp only [ho, Sem.run_bind, Sem.run_pure, Result.andThen_ok, List.map_toArray, List.map_cons, List.map_nil, h0, h1, h2, h3, run_bld4]
  exact hK' _ _ h
set_option maxHeartbeats 4000000 in
theorem eats_any (a b : Int) (w : World) : Calls Try.prog 34 #[.int .i64 a, .int .i64 b] w fun e w' => e = .returned (.slice (some ⟨w.heap.size, 0, none⟩) 4 4) ∧ w' = w.alloc (.cells (evc (eatO a b)).toArray 59) := by
  go_enter Try.func34, Try.ntmps34
  go_wp2_with (refine bld4 _ _ _ _ rfl rfl ⟨4, a, 0⟩ ⟨4, b, 0⟩ ⟨5, b, 0⟩ ⟨5, a, 0⟩ rfl rfl rfl rfl ?_)
  go_ret
  exact ⟨rfl, rfl⟩
theorem eat_says {a b : Int} (ha : 0 ≤ a ∧ a < 5) (hb : 0 ≤ b ∧ b < 5) (hab : a ≠ b) (u : Bool) {ds : List En} (h : EndsOk (eatP a b u) (ds.map enA)) : ds.any (·.d) = true ∧ ds.any (·.k) = u := by
  have hd : ∀ (ts : List Int), goesP (eatP a b u) (runP (eatP a b u) ts) = false → ∃ e ∈ ds, e.d = doneP (eatP a b u) (runP (eatP a b u) ts) ∧ e.k = stuckP (eatP a b u) (runP (eatP a b u) ts) := fun ts hg => by
    obtain ⟨e, he, hq⟩ := List.mem_map.1 ((h.all _).2 ⟨ts, hg, rfl⟩)
    refine ⟨e, he, ?_⟩
    have h1 : (enA e)[18]? = some (.bool e.d) := rfl
    have h2 : (enA e)[19]? = some (.bool e.k) := rfl
    rw [hq] at h1 h2
    have e1 : (endP (eatP a b u) (runP (eatP a b u) ts))[18]? = some (.bool (doneP (eatP a b u) (runP (eatP a b u) ts))) := rfl
    have e2 : (endP (eatP a b u) (runP (eatP a b u) ts))[19]? = some (.bool (stuckP (eatP a b u) (runP (eatP a b u) ts))) := rfl
    rw [e1] at h1; rw [e2] at h2
    exact ⟨by simpa using h1.symm, by simpa using h2.symm⟩
  obtain ⟨i, rfl⟩ : ∃ i : Fin 5, a = i.val := ⟨⟨a.toNat, by omega⟩, by simp; omega⟩
  obtain ⟨j, rfl⟩ : ∃ j : Fin 5, b = j.val := ⟨⟨b.toNat, by omega⟩, by simp; omega⟩
  have hij : i ≠ j := fun e => hab (by rw [e])
  constructor
  · have g := eat_done i j u hij
    obtain ⟨e, he, h1, _⟩ := hd _ (goes_end.2 (.inl g))
    exact List.any_eq_true.2 ⟨e, he, h1.trans g⟩
  · cases u
    · rw [List.any_eq_false]
      intro e he
      obtain ⟨ts, hg, hq⟩ := (h.all _).1 (List.mem_map_of_mem he)
      have hs := eat_goes ha hb hab ts
      have h2 : (enA e)[19]? = some (.bool e.k) := rfl
      rw [hq] at h2
      have e2 : (endP (eatP i.val j.val false) (runP (eatP i.val j.val false) ts))[19]? = some (.bool (stuckP (eatP i.val j.val false) (runP (eatP i.val j.val false) ts))) := rfl
      rw [e2, hs] at h2
      have h2 : false = e.k := by simpa using h2
      rw [← h2]; simp
    · have g := eat_stuck i j hij
      obtain ⟨e, he, _, h2⟩ := hd _ (goes_end.2 (.inr g))
      exact List.any_eq_true.2 ⟨e, he, h2.trans g⟩
theorem eat_ev {a b : Int} (ha : 0 ≤ a ∧ a < 5) (hb : 0 ≤ b ∧ b < 5) (u : Bool) : evC (eatP a b u) = 0 := by
  unfold evC
  rw [if_neg (by rw [chk_ok.2 (eat_ok ha hb u)]; simp), if_neg (by cases u <;> simp [eatP, eatO])]
theorem box_sl {w : World} {B : Nat} {l : List Ev} (h : Box w B (evc l).toArray 59) : Sl w (some ⟨B, 0, none⟩) l.length l :=
  ⟨rfl, fun _ => ⟨B, 0, rfl, h.lt, fun j v hv => by rw [Nat.zero_add]; exact h.cell j (by simpa using hv)⟩⟩
theorem two_prg {w : World} {X : Nat} {A1 A2 : Option Addr} {n1 c1 n2 c2 : Nat} {o1 o2 : List Ev} (h : Box w X #[.slice A1 n1 c1, .slice A2 n2 c2] 57) (h1 : Sl w A1 n1 o1) (a1 : n1 ≤ c1) (b1 : c1 ≤ maxLen) (h2 : Sl w A2 n2 o2) (a2 : n2 ≤ c2) (b2 : c2 ≤ maxLen) : Prg w (some ⟨X, 0, none⟩) 2 [o1, o2] :=
  ⟨rfl, fun _ => ⟨X, 0, rfl, h.lt, fun t ops ht => by
    have hlt : t < 2 := by have := (List.getElem?_eq_some_iff.1 ht).1; simpa using this
    match t, hlt with
    | 0, _ => cases ht; exact ⟨A1, n1, c1, h.cell 0 rfl, h1, a1, b1⟩
    | 1, _ => cases ht; exact ⟨A2, n2, c2, h.cell 1 rfl, h2, a2, b2⟩⟩⟩
structure EtW (w0 : World) (x y : Int) (u : Bool) (A3 : Option Addr) (c3 Y : Nat) (X : Nat) (w : World) : Prop where
  bel : Bel w0 w
  prg : Prg w (some ⟨X, 0, none⟩) 2 (eatP x y u)
def anyN (p : En → Bool) (ds : List En) (k : Nat) : Bool := (ds.take k).any p
theorem anyN_succ {p : En → Bool} {ds : List En} {k : Nat} (h : k < ds.length) : anyN p ds (k + 1) = (anyN p ds k || p ds[k]) := by
  unfold anyN; rw [List.take_succ_eq_append_getElem h, List.any_append]; simp
set_option maxHeartbeats 16000000 in
theorem walk (a : Int) (ka : In64 a) (b : Int) (kb : In64 b) (u : Bool) (W : World) :
    Calls Try.prog 13 #[.int .i64 a, .int .i64 b, .bool u] W fun e w' => e = .returned (.bool true) ∧ Below W.heap.size W w' := by
  have HI := Lib.hid (And.intro ka kb)
  clear ka kb
  go_enter Try.func13, Try.ntmps13
  go_wp2_with fail
  refine (everied_any W).mono ?_
  rintro e0 w0 ⟨rfl, hb0⟩
  have HW0 := Lib.hid (Bel.of hb0)
  clear hb0
  go_wp2_with fail
  refine (rest_any a 5 HI.out.1 (by omega) (by omega) w0).mono ?_
  rintro e9 w9 ⟨rfl, rfl⟩
  go_wp2_with fail
  refine (rest_any b 5 HI.out.2 (by omega) (by omega) w0).mono ?_
  rintro e9 w9 ⟨rfl, rfl⟩
  have hx : 0 ≤ a % 5 ∧ a % 5 < 5 := by omega
  have hy : 0 ≤ b % 5 ∧ b % 5 < 5 := by omega
  clear HI
  generalize a % 5 = x at *
  generalize b % 5 = y at *
  have HX := Lib.hid (And.intro hx hy)
  clear hx hy
  by_cases hxy : x = y
  · subst hxy
    go_wp2
    go_ret
    exact ⟨rfl, HW0.out.out⟩
  have HNE := Lib.hid hxy
  have hq : (x == y) = false := by simpa using hxy
  obtain ⟨i0, hi0, hz0, hz1, hz2⟩ := info_parts opx4_info
  clear hxy
  go_wp2_with (first | (refine build1 57 _ rfl rfl 59 i0 Try.underlying57 hi0 hz0 hz1 ⟨6, 1, 0⟩ rfl ?_))
  refine (eats_any x y _).mono ?_
  rintro e1 w1 ⟨rfl, rfl⟩
  have hbx0 := (Box.new w0 (evv ⟨6, 1, 0⟩) 59).old (.cells (evc (eatO x y)).toArray 59)
  have hbx1 := Box.new (w0.alloc (.cells (evv ⟨6, 1, 0⟩) 59)) (evc (eatO x y)).toArray 59
  have hB1 := ((Bel.refl w0).alloc (.cells (evv ⟨6, 1, 0⟩) 59)).alloc (.cells (evc (eatO x y)).toArray 59)
  have HO0 := Lib.hid (own_lit hbx0 (Nat.le_refl _) 1 3 (by unfold maxLen; omega) rfl)
  have HSR := Lib.hid (Src.box hbx1 4)
  have HB1 := Lib.hid hB1
  clear hbx0 hbx1 hB1
  generalize (w0.alloc (.cells (evv ⟨6, 1, 0⟩) 59)).alloc (.cells (evc (eatO x y)).toArray 59) = w1 at *
  generalize (w0.alloc (.cells (evv ⟨6, 1, 0⟩) 59)).heap.size = Y1 at *
  go_wp2_with (first | (at_builtin; refine wpList_append_src rfl (.tmp 25) (.tmp 29) _ rfl w0.heap.size 59 i0 _ 3 24 Try.underlying57 hi0 hz0 hz1 hz2 rfl (by omega) (.slice (some ⟨w0.heap.size, 0, none⟩) 1 1) 1 (evl ⟨6, 1, 0⟩) rfl HO0.out (some ⟨Y1, 0, none⟩) 4 4 (evc (eatO x y)) rfl rfl HSR.out (by simp [eatO, evc, evl, Value.oneCell']) (by unfold maxLen; omega) (by omega) HB1.out.size ?_; intro v3 w3 ho3 hg3 hat3))
  obtain ⟨A3, c3, rfl, hs3, hn3, hm3⟩ := Sl.own (l := ⟨6, 1, 0⟩ :: eatO x y) (n := 5) ho3
  have HB3 := Lib.hid (show Bel w0 w3 from HB1.out.out.trans (grown_below hg3 HO0.out (Nat.le_refl _) HB1.out.size))
  have HS3 := Lib.hid (And.intro hs3 (And.intro hn3 hm3))
  clear ho3 hg3 hat3 HO0 HSR HB1 hs3 hn3 hm3
  refine (eats_any x y _).mono ?_
  rintro e4 w4 ⟨rfl, rfl⟩
  have hbz := (Box.new w3 (evc (eatO x y)).toArray 59).old (.cells #[.slice A3 5 c3, .slice (some ⟨w3.heap.size, 0, none⟩) 4 4] 57)
  have hbx := Box.new (w3.alloc (.cells (evc (eatO x y)).toArray 59)) #[.slice A3 5 c3, .slice (some ⟨w3.heap.size, 0, none⟩) 4 4] 57
  have hB4 := ((Bel.refl w3).alloc (.cells (evc (eatO x y)).toArray 59)).alloc (.cells #[.slice A3 5 c3, .slice (some ⟨w3.heap.size, 0, none⟩) 4 4] 57)
  rw [World.size_alloc] at hbx
  have HBX := Lib.hid hbx
  have HBZ := Lib.hid hbz
  have HB4 := Lib.hid hB4
  have HSZ := Lib.hid (show w3.heap.size + 2 = ((w3.alloc (.cells (evc (eatO x y)).toArray 59)).alloc (.cells #[.slice A3 5 c3, .slice (some ⟨w3.heap.size, 0, none⟩) 4 4] 57)).heap.size by rw [World.size_alloc, World.size_alloc])
  clear hbx hbz hB4
  go_upto_region 8 with fail
  generalize (w3.alloc (.cells (evc (eatO x y)).toArray 59)).alloc (.cells #[.slice A3 5 c3, .slice (some ⟨w3.heap.size, 0, none⟩) 4 4] 57) = w4 at *
  cases u
  · have HT := Lib.hid (show EtW w0 x y false A3 c3 w3.heap.size (w3.heap.size + 1) w4 from ⟨HB3.out.trans HB4.out, two_prg HBX.out (HS3.out.1.bel HB4.out.out) HS3.out.2.1 HS3.out.2.2 (box_sl HBZ.out) (Nat.le_refl _) (by unfold maxLen; omega)⟩)
    clear HBX HBZ HB4 HB3 HS3 HSZ
    go_wp2_with fail
    have HEV := Lib.hid (eat_ev HX.out.1 HX.out.2 false)
    refine (eends_any _ 2 2 _ _ HT.out.prg (Nat.le_refl _) (by unfold maxLen; omega)).mono ?_
    rintro e2 w2 ⟨v2, xs, rfl, _, hok, hown, hb2⟩
    rw [HEV.out]
    have hok := hok HEV.out
    obtain ⟨ds, rfl⟩ := en_list (s := xs) fun x hx => ((hok.all x).1 hx).form
    rw [List.length_map, ens_row] at hown
    have HSY := Lib.hid (eat_says HX.out.1 HX.out.2 HNE.out false hok)
    have hpos : 0 < ds.length := by have := hok.pos (eat_ok HX.out.1 HX.out.2 false); simpa using this
    obtain ⟨g, cap, rfl, _, hnc, hcm, _⟩ := row_cells hown hpos
    have HW2 := Lib.hid (HT.out.bel.trans (Bel.of hb2))
    have HO2 := Lib.hid hown
    obtain ⟨k9, hk9⟩ : ∃ k9, ds.length = k9 := ⟨_, rfl⟩
    have HK := Lib.hid hk9
    rw [hk9] at hnc ⊢
    have hncI : (k9 : Int) ≤ cap := by omega
    have hnI : (k9 : Int) ≤ 9223372036854775807 := by unfold maxLen at hcm; omega
    clear hok hown hb2 hpos hk9 HT
    go_wp2
    go_loopw [11, 12, 50] (fun sv dv t wr => ∃ k : Nat, k ≤ k9 ∧ t = .int .i64 k ∧ sv = .bool (anyN (·.k) ds k) ∧ dv = .bool (anyN (·.d) ds k) ∧ Bel w2 wr) (fun _ _ t _ => k9 - (intOf t).toNat)
    case atStart => exact ⟨0, by omega, rfl, rfl, rfl, Bel.refl _⟩
    case round =>
      obtain ⟨k, hk, rfl, rfl, rfl, hr⟩ := hrel
      have HR := Lib.hid hr
      clear hr
      by_cases hlt : k < k9
      · have hlt' : (k : Int) < k9 := by omega
        have hl1 : k < ds.length := by rw [HK.out]; exact hlt
        have HRG := Lib.hid (own_range (own_bel HO2.out HR.out) hl1)
        have HS1 := Lib.hid (anyN_succ (p := (·.k)) hl1)
        have HS2 := Lib.hid (anyN_succ (p := (·.d)) hl1)
        generalize ds[k] = z at *
        have HY0 := Lib.hid (Box.new wr z20 33)
        have HY1 := Lib.hid (HY0.out.setRow (enA z))
        have hbw : Bel wr ((wr.alloc (.cells z20 33)).setRow wr.heap.size (enA z)) := ((Bel.refl wr).alloc _).setRow wr.heap.size (Nat.le_refl _) _
        have HBW := Lib.hid hbw
        clear hbw
        go_upto_region 15 with (first | (refine load_row (l := enE z) (TEndx z) _ rfl rfl rfl HRG.out ?_) | (refine storeB 33 _ _ rfl rfl rfl rfl HY0.out rfl (by exact TEnd) (enA_one z) ?_))
        change Code.wp _ _ _ _ ((wr.alloc (.cells z20 33)).setRow wr.heap.size (enA z))
        have HF18 := Lib.hid (fun w9 (h9 : Bel ((wr.alloc (.cells z20 33)).setRow wr.heap.size (enA z)) w9) => h9.cell (HY1.out.cell 18 (v := .bool z.d) rfl))
        have HF19 := Lib.hid (fun w9 (h9 : Bel ((wr.alloc (.cells z20 33)).setRow wr.heap.size (enA z)) w9) => h9.cell (HY1.out.cell 19 (v := .bool z.k) rfl))
        have HRW := Lib.hid (HR.out.trans HBW.out)
        clear HY0 HY1 HBW HRG HR
        generalize (wr.alloc (.cells z20 33)).setRow wr.heap.size (enA z) = W5 at *
        generalize wr.heap.size = B at *
        generalize hsv : anyN (·.k) ds k = sv at *
        generalize hdv : anyN (·.d) ds k = dv at *
        clear hsv hdv
        cases sv <;> cases dv
        all_goals
          (refine region_bel (by kernel_rfl) (by kernel_rfl) ?_; (repeat (first | ((with_reducible refine BigFrame.wpQuiet_skip ?_ ?_); exact rfl; simp only [Act.put, Act.eval, List.setIfInBounds_toArray, List.set_cons_zero, List.set_cons_succ, Array.getD_eq_getD_getElem?, List.getElem?_toArray, List.getElem?_cons_zero, List.getElem?_cons_succ, Option.getD_some]) | (refine q_move _ rfl rfl ?_; simp only [Act.put, Act.eval, List.setIfInBounds_toArray, List.set_cons_zero, List.set_cons_succ, Array.getD_eq_getD_getElem?, List.getElem?_toArray, List.getElem?_cons_zero, List.getElem?_cons_succ, Option.getD_some]) | (refine q_assign _ rfl rfl ?_; simp only [Act.put, Act.eval, List.setIfInBounds_toArray, List.set_cons_zero, List.set_cons_succ, Array.getD_eq_getD_getElem?, List.getElem?_toArray, List.getElem?_cons_zero, List.getElem?_cons_succ, Option.getD_some]) | (refine q_any rfl ?_; apply Exists.intro; refine ⟨fun w hw => ?_, ?_⟩; (have fct0 := HF18.out w hw; have fct1 := HF19.out w hw; go_simp; first | exact ⟨rfl, rfl⟩ | rfl); simp only [Act.put, Act.eval, List.setIfInBounds_toArray, List.set_cons_zero, List.set_cons_succ, Array.getD_eq_getD_getElem?, List.getElem?_toArray, List.getElem?_cons_zero, List.getElem?_cons_succ, Option.getD_some]))); refine wpQuiet_nil ?_; intro w2 hw2)
          have HRX := Lib.hid (HRW.out.trans hw2)
          clear hw2 HRW HF18 HF19
          go_wp2
          go_roundw
          case rel => exact ⟨k + 1, by omega, by go_num, by rw [HS1.out]; simp, by rw [HS2.out]; simp, HRX.out⟩
          case measure => simp [intOf]; omega
      · obtain rfl : k = k9 := by omega
        have hS := HSY.out
        have e1 : anyN (·.d) ds k = true := by unfold anyN; rw [← HK.out, List.take_length]; exact hS.1
        have e2 : anyN (·.k) ds k = false := by unfold anyN; rw [← HK.out, List.take_length]; exact hS.2
        rw [e1, e2]
        clear e1 e2 hS
        go_wp2_with ((with_reducible refine Go.wpList_skip ?_ ?_); exact rfl; simp only [Act.put, Act.eval, List.setIfInBounds_toArray, List.set_cons_zero, List.set_cons_succ, Array.getD_eq_getD_getElem?, List.getElem?_toArray, List.getElem?_cons_zero, List.getElem?_cons_succ, Option.getD_some])
        go_ret
        exact ⟨rfl, (HW0.out.trans (HW2.out.trans HR.out)).out⟩
  · have hc1 := HBX.out.cell 1 (v := .slice (some ⟨w3.heap.size, 0, none⟩) 4 4) rfl
    have hz1' := HBX.out.frozen 1
    go_wp2_with fail
    refine (eats_any y x _).mono ?_
    rintro e5 w5 ⟨rfl, rfl⟩
    have HY5 := Lib.hid (Box.new w4 (evc (eatO y x)).toArray 59)
    have HBX5 := Lib.hid (HBX.out.old (.cells (evc (eatO y x)).toArray 59))
    have HB5 := Lib.hid (HB4.out.alloc (.cells (evc (eatO y x)).toArray 59))
    have hc5 := HBX5.out.cell 1 (v := .slice (some ⟨w3.heap.size, 0, none⟩) 4 4) rfl
    have hz5 := HBX5.out.frozen 1
    generalize w4.alloc (.cells (evc (eatO y x)).toArray 59) = w5 at *
    have HNE2 := Lib.hid (show w3.heap.size + 1 ≠ w4.heap.size by have := HSZ.out; omega)
    generalize w4.heap.size = Y4 at *
    have HX6 := Lib.hid (HBX5.out.set 1 (.slice (some ⟨Y4, 0, none⟩) 4 4))
    have HY6 := Lib.hid (HY5.out.set_ne ⟨w3.heap.size + 1, 1, none⟩ (.slice (some ⟨Y4, 0, none⟩) 4 4) (by have := HNE2.out; dsimp only; omega))
    have HB6 := Lib.hid (Bel.setCell HB5.out ⟨w3.heap.size + 1, 1, none⟩ (by dsimp only; omega) (.slice (some ⟨Y4, 0, none⟩) 4 4))
    clear hc1 hz1'
    go_upto_region 10 with fail
    generalize w5.setCell ⟨w3.heap.size + 1, 1, none⟩ (.slice (some ⟨Y4, 0, none⟩) 4 4) = w6 at *
    have HT := Lib.hid (show EtW w0 x y true A3 c3 w3.heap.size (w3.heap.size + 1) w6 from ⟨HB3.out.trans HB6.out, two_prg HX6.out (HS3.out.1.bel HB6.out.out) HS3.out.2.1 HS3.out.2.2 (box_sl HY6.out) (Nat.le_refl _) (by unfold maxLen; omega)⟩)
    clear HBX HBZ HB4 HB3 HS3 HSZ HX6 HY6 HB6 HB5 HBX5 HY5 HNE2 hc5 hz5
    go_wp2_with fail
    have HEV := Lib.hid (eat_ev HX.out.1 HX.out.2 true)
    refine (eends_any _ 2 2 _ _ HT.out.prg (Nat.le_refl _) (by unfold maxLen; omega)).mono ?_
    rintro e2 w2 ⟨v2, xs, rfl, _, hok, hown, hb2⟩
    rw [HEV.out]
    have hok := hok HEV.out
    obtain ⟨ds, rfl⟩ := en_list (s := xs) fun x hx => ((hok.all x).1 hx).form
    rw [List.length_map, ens_row] at hown
    have HSY := Lib.hid (eat_says HX.out.1 HX.out.2 HNE.out true hok)
    have hpos : 0 < ds.length := by have := hok.pos (eat_ok HX.out.1 HX.out.2 true); simpa using this
    obtain ⟨g, cap, rfl, _, hnc, hcm, _⟩ := row_cells hown hpos
    have HW2 := Lib.hid (HT.out.bel.trans (Bel.of hb2))
    have HO2 := Lib.hid hown
    obtain ⟨k9, hk9⟩ : ∃ k9, ds.length = k9 := ⟨_, rfl⟩
    have HK := Lib.hid hk9
    rw [hk9] at hnc ⊢
    have hncI : (k9 : Int) ≤ cap := by omega
    have hnI : (k9 : Int) ≤ 9223372036854775807 := by unfold maxLen at hcm; omega
    clear hok hown hb2 hpos hk9 HT
    go_wp2
    go_loopw [11, 12, 50] (fun sv dv t wr => ∃ k : Nat, k ≤ k9 ∧ t = .int .i64 k ∧ sv = .bool (anyN (·.k) ds k) ∧ dv = .bool (anyN (·.d) ds k) ∧ Bel w2 wr) (fun _ _ t _ => k9 - (intOf t).toNat)
    case atStart => exact ⟨0, by omega, rfl, rfl, rfl, Bel.refl _⟩
    case round =>
      obtain ⟨k, hk, rfl, rfl, rfl, hr⟩ := hrel
      have HR := Lib.hid hr
      clear hr
      by_cases hlt : k < k9
      · have hlt' : (k : Int) < k9 := by omega
        have hl1 : k < ds.length := by rw [HK.out]; exact hlt
        have HRG := Lib.hid (own_range (own_bel HO2.out HR.out) hl1)
        have HS1 := Lib.hid (anyN_succ (p := (·.k)) hl1)
        have HS2 := Lib.hid (anyN_succ (p := (·.d)) hl1)
        generalize ds[k] = z at *
        have HY0 := Lib.hid (Box.new wr z20 33)
        have HY1 := Lib.hid (HY0.out.setRow (enA z))
        have hbw : Bel wr ((wr.alloc (.cells z20 33)).setRow wr.heap.size (enA z)) := ((Bel.refl wr).alloc _).setRow wr.heap.size (Nat.le_refl _) _
        have HBW := Lib.hid hbw
        clear hbw
        go_upto_region 15 with (first | (refine load_row (l := enE z) (TEndx z) _ rfl rfl rfl HRG.out ?_) | (refine storeB 33 _ _ rfl rfl rfl rfl HY0.out rfl (by exact TEnd) (enA_one z) ?_))
        change Code.wp _ _ _ _ ((wr.alloc (.cells z20 33)).setRow wr.heap.size (enA z))
        have HF18 := Lib.hid (fun w9 (h9 : Bel ((wr.alloc (.cells z20 33)).setRow wr.heap.size (enA z)) w9) => h9.cell (HY1.out.cell 18 (v := .bool z.d) rfl))
        have HF19 := Lib.hid (fun w9 (h9 : Bel ((wr.alloc (.cells z20 33)).setRow wr.heap.size (enA z)) w9) => h9.cell (HY1.out.cell 19 (v := .bool z.k) rfl))
        have HRW := Lib.hid (HR.out.trans HBW.out)
        clear HY0 HY1 HBW HRG HR
        generalize (wr.alloc (.cells z20 33)).setRow wr.heap.size (enA z) = W5 at *
        generalize wr.heap.size = B at *
        generalize hsv : anyN (·.k) ds k = sv at *
        generalize hdv : anyN (·.d) ds k = dv at *
        clear hsv hdv
        cases sv <;> cases dv
        all_goals
          (refine region_bel (by kernel_rfl) (by kernel_rfl) ?_; (repeat (first | ((with_reducible refine BigFrame.wpQuiet_skip ?_ ?_); exact rfl; simp only [Act.put, Act.eval, List.setIfInBounds_toArray, List.set_cons_zero, List.set_cons_succ, Array.getD_eq_getD_getElem?, List.getElem?_toArray, List.getElem?_cons_zero, List.getElem?_cons_succ, Option.getD_some]) | (refine q_move _ rfl rfl ?_; simp only [Act.put, Act.eval, List.setIfInBounds_toArray, List.set_cons_zero, List.set_cons_succ, Array.getD_eq_getD_getElem?, List.getElem?_toArray, List.getElem?_cons_zero, List.getElem?_cons_succ, Option.getD_some]) | (refine q_assign _ rfl rfl ?_; simp only [Act.put, Act.eval, List.setIfInBounds_toArray, List.set_cons_zero, List.set_cons_succ, Array.getD_eq_getD_getElem?, List.getElem?_toArray, List.getElem?_cons_zero, List.getElem?_cons_succ, Option.getD_some]) | (refine q_any rfl ?_; apply Exists.intro; refine ⟨fun w hw => ?_, ?_⟩; (have fct0 := HF18.out w hw; have fct1 := HF19.out w hw; go_simp; first | exact ⟨rfl, rfl⟩ | rfl); simp only [Act.put, Act.eval, List.setIfInBounds_toArray, List.set_cons_zero, List.set_cons_succ, Array.getD_eq_getD_getElem?, List.getElem?_toArray, List.getElem?_cons_zero, List.getElem?_cons_succ, Option.getD_some]))); refine wpQuiet_nil ?_; intro w2 hw2)
          have HRX := Lib.hid (HRW.out.trans hw2)
          clear hw2 HRW HF18 HF19
          go_wp2
          go_roundw
          case rel => exact ⟨k + 1, by omega, by go_num, by rw [HS1.out]; simp, by rw [HS2.out]; simp, HRX.out⟩
          case measure => simp [intOf]; omega
      · obtain rfl : k = k9 := by omega
        have hS := HSY.out
        have e1 : anyN (·.d) ds k = true := by unfold anyN; rw [← HK.out, List.take_length]; exact hS.1
        have e2 : anyN (·.k) ds k = true := by unfold anyN; rw [← HK.out, List.take_length]; exact hS.2
        rw [e1, e2]
        clear e1 e2 hS
        go_wp2_with ((with_reducible refine Go.wpList_skip ?_ ?_); exact rfl; simp only [Act.put, Act.eval, List.setIfInBounds_toArray, List.set_cons_zero, List.set_cons_succ, Array.getD_eq_getD_getElem?, List.getElem?_toArray, List.getElem?_cons_zero, List.getElem?_cons_succ, Option.getD_some])
        go_ret
        exact ⟨rfl, (HW0.out.trans (HW2.out.trans HR.out)).out⟩
set_option maxRecDepth 100000 in
theorem lifted (os : Os) (started : os.Started) (H : Type) (enc : TypeId × Value → H) :
    ReturnsInHanded {} Try.checked os 13 .any (Rows.everyDiningSpec.pre6 enc Try.prog Try.f13 Rows.everyDiningRow.domain false) (Rows.everyDiningSpec.post enc Try.prog Try.f13 false true false false) := by
  refine returnsInHanded_of_change_sized (C := Try.checked) own started (by kernel_rfl) Try.func13
    (ChangeSpec.witness6 (enc := enc) (C := Try.checked) false ⟨#[], #[.int .i64 0, .int .i64 0, .bool false], []⟩ 8 (by kernel_rfl) (by kernel_rfl) (by kernel_rfl) (by kernel_rfl)) ?_
  intro W base args ds gs before hval0 hW hcnd hsz0 _
  have hsz : (DataW.weightsEach Try.prog (Try.f13.params.toList ++ Rows.everyDiningSpec.plain.varTypes Try.prog) (ds ++ gs)).all (· ≤ reachBytes) = true := hsz0
  clear hsz0
  have hval : ∀ (j : Nat) t v, Try.f13.params[j]? = some t → args[j]? = some v → Value.okWide Try.prog W .any base t v := hval0
  have hW' := hW
  obtain ⟨p, q, hA0, hV, rfl, hfz, hnd⟩ := hW
  have hA : DataW.TrodAll enc Try.prog W 0 (fun _ => true) true Try.f13.params.toList args.toList ds p := hA0
  rw [Try.params13] at hA hval hsz
  obtain ⟨v0, vs0, d0, ds0, p0, q0, hargs, rfl, rfl, h0, r0⟩ := trodAll_cons hA
  obtain ⟨v1, vs1, d1, ds1, p1, q1, rfl, rfl, rfl, h1, r1⟩ := trodAll_cons r0
  obtain ⟨v2, vs2, d2, ds2, p2, q2, rfl, rfl, rfl, h2, r2⟩ := trodAll_cons r1
  obtain ⟨rfl, rfl, rfl⟩ := trodAll_nil r2
  obtain rfl : args = #[v0, v1, v2] := by cases args; simp_all
  obtain ⟨rfl, rfl⟩ := trodVars_none hV
  have t0 := h0
  have lt0 : ∀ x ∈ p0, x.block < W.heap.size := by obtain ⟨m, hm⟩ := t0; exact DataW.trod_lt m _ _ _ hm
  have t1 := h1
  have lt1 : ∀ x ∈ p1, x.block < W.heap.size := by obtain ⟨m, hm⟩ := t1; exact DataW.trod_lt m _ _ _ hm
  have t2 := h2
  have lt2 : ∀ x ∈ p2, x.block < W.heap.size := by obtain ⟨m, hm⟩ := t2; exact DataW.trod_lt m _ _ _ hm
  obtain ⟨a0, rfl, _, _, x0⟩ := open_int Try.underlying3 (hval 0 3 v0 rfl rfl) h0
  have k0 := in64_of x0
  obtain ⟨a1, rfl, _, _, x1⟩ := open_int Try.underlying3 (hval 1 3 v1 rfl rfl) h1
  have k1 := in64_of x1
  obtain ⟨a2, rfl, _, _⟩ := open_bool Try.underlying4 (hval 2 4 v2 rfl rfl) h2
  clear hA0 hval0
  refine (walk a0 k0 a1 k1 a2 W).mono fun e W' ⟨he, bel⟩ => ?_
  subst he
  exact ⟨_, rfl, _, _, _, [], _, [], hW', trodAll_mk1 (shut_bool Try.underlying4 _), (trodAll_cons_mk (Below.trod laidOut (by kernel_rfl) (of_decide_eq_true (by kernel_rfl)) t0 bel lt0) (trodAll_cons_mk (Below.trod laidOut (by kernel_rfl) (of_decide_eq_true (by kernel_rfl)) t1 bel lt1) (trodAll_cons_mk (Below.trod laidOut (by kernel_rfl) (of_decide_eq_true (by kernel_rfl)) t2 bel lt2) trodAll_mk0))), rfl, bel.frame _, fun h => by cases h⟩

theorem over : Rows.everyDiningRow.holds Try.pinned (OpenSpec.ofChange Rows.everyDiningSpec) :=
  OpenClaim.holds_of_wide 13 Try.f13 rfl rfl rfl rfl rfl rfl rfl ⟨rfl, rfl, rfl, rfl, rfl⟩ rfl rfl rfl rfl rfl (by kernel_rfl) Try.func13 (by kernel_rfl)
    (of_decide_eq_true (by kernel_rfl)) (by unfold Func.isWrapper; first | (rw [if_pos (by decide +kernel)]; kernel_rfl) | (rw [if_neg (by decide +kernel)]; exact ⟨rfl, rfl⟩))
    (fun os started H enc _ => lifted os started H enc)

theorem proved : Rows.EveryDiningSaid := over
#print axioms proved
end Go.Proofs.Ytlcldcbdobgdbaa.LEveryDining

import Derived.RangeFuncBox
import Derived.Test.YtnklpifnknmdgaaGreatDoorZKeepTw
set_option linter.all false
set_option maxRecDepth 100000
namespace Go.Proofs.YtnklpifnknmdgaaGreatDoor
open Go Go.RowKit Go.Shelf
attribute [local go_sem] Oper.semAt_some

theorem gfl_info : (Tryz.prog.info? 107).map (fun i => (i.zero, i.size, i.bytes)) = some (some (.agg #[.int .i64 0, .int .i64 0, .int .i64 0]), 3, 24) := by kernel_rfl
theorem build1In {F : Fence} {d : Nat} {P : Program} {ops : Array Oper} {rest : List Oper} {o : Oper} {a : Act} {w : World} {Q : Exit → Act → World → Prop} (t : TypeId) (x : Operand) (ho : o.op = .buildSlice t 1 #[(0, x)]) (hgd : o.guard = none) (e : TypeId) (i : TypeInfo) (ht : P.underlying t = some (.slice e)) (hi : P.info? e = some i)
    (hz : i.zero = some (.agg #[.int .i64 0, .int .i64 0, .int .i64 0])) (hs : i.size = 3) (ev : Ev) (hx : a.eval x = .agg (evv ev))
    (h : wpListIn F d P ops Q rest (a.put o.dst (.slice (some ⟨w.heap.size, 0, none⟩) 1 1)) (w.alloc (.cells (evv ev) e))) : wpListIn F d P ops Q (o :: rest) a w := by
  refine wpListIn_plain hgd fun _ hK => ?_
  unfold Oper.wpIn
  refine ⟨by simp [Oper.about, ho], ?_⟩
  rw [Oper.semAt_plain F _ _ (by rw [ho]; intro c hc; cases hc)]
  unfold execOp
  simp only [ho, Sem.run_bind, Sem.run_pure, Result.andThen_ok, List.map_toArray, List.map_cons, List.map_nil, hx, run_build1 t e i ht hi hz hs ev w]
  exact hK _ _ h
def OnlyN (Q : Exit → Act → World → Prop) : Exit → Act → World → Prop
  | .normal, a, w => Q .normal a w
  | _, _, _ => False
theorem wp_only {P : Program} {c : Code} {Q : Exit → Act → World → Prop} {a : Act} {w : World} (h : c.wp P (OnlyN Q) a w) : c.wp P Q a w := fun b k cs =>
  let ⟨e, a', w', q, r⟩ := h b k cs
  ⟨e, a', w', by cases e <;> first | exact q | exact q.elim, r⟩
theorem own_base {w : World} {b b' : Nat} {e : TypeId} {size n : Nat} {v : Value} {xs : List Value} (h : w.ownsRow b e size v n xs) (hb : b' ≤ b) : w.ownsRow b' e size v n xs :=
  ⟨h.1, h.2.imp id fun ⟨g, cap, cur, h1, h2, h3⟩ => ⟨g, cap, cur, h1, Nat.le_trans hb h2, h3⟩⟩
theorem gres_tct {P : Program} {w : World} {fn : Func} {p u v : Tmp} {ty : TypeId} (h : fn.results = #[.tmp u, .cell p ty, .tmp v]) {tmps : Array Value} {B : Nat} {c : Array Value} {t : TypeId} (hp : tmps.getD p undef = .pointer (some ⟨B, 0, none⟩)) (hb : Box w B c t) (hT : RowTy P ty c.size) :
    (results fn tmps).run P w = .ok (.tuple #[tmps.getD u undef, .agg c, tmps.getD v undef]) w := by
  obtain ⟨d, hu, hd, hi⟩ := hT
  have hp' : tmps[p]?.getD undef = .pointer (some ⟨B, 0, none⟩) := by rw [← Array.getD_eq_getD_getElem?]; exact hp
  simp [results, h, hp', asAddr, Sem.run_pure, Result.andThen_ok, run_loadVar_row w B t ty c (0, 0) d hb hu (by cases d <;> simp_all [TypeDesc.isRow]) hi, Sem.run_bind]
section
variable {o : Oper} {a : Act} {w : World} {K : Act → World → Prop} {Q : Exit → Act → World → Prop}
theorem wp_three (x y : Operand) (ho : o.op = .store 68 x y) {g : Gd} (hy : a.eval y = .agg (evv (gev g))) {G k : Nat} (hx : a.eval x = .pointer (some ⟨G, k * 3, none⟩)) {f : Nat → Gd} {t : TypeId} (hb : Box w G (ns 24 (gG f)) t) (hk : k < 8)
    (h : K (a.put o.dst undef) (w.setCells G (k * 3) (evl (gev g)))) : o.wp Tryz.prog a w K Q :=
  wp_store_mid 68 x y ho G (k * 3) (evv (gev g)) hx hy (there_three hb (by omega)) (by kernel_rfl) (evv_all _) h
end
theorem next_acc (g : Gd) (l : List Ev) (k : Nat) (w : World) (hg : GdOk g) (hm : may l = 0) (hk : k < l.length) (ha : acB l k = true) :
    Calls Tryz.prog 172 #[.agg (evv (gev g)), .agg (evv (eZ l k)), .int .i64 (hN l k)] w fun e w' => e = .returned (.agg (evv (gev (gdStep g (kZ l k) (tZ l k) (hB l k))))) ∧ Below w.heap.size w w' := by
  have he := eZ_ok hm hk
  have ht := isEv_t he
  have ho := isEv_o he
  have h := gnext_any g (kZ l k) (tZ l k) (oZ l k) (hB l k) w hg (acB_k ha)
  have e : (⟨kZ l k, (tZ l k : Nat), (oZ l k : Nat)⟩ : Ev) = eZ l k := Ev.ext' rfl (by unfold tZ; dsimp only; omega) (by unfold oZ; dsimp only; omega)
  rw [e] at h
  exact h
def GI (l : List Ev) (G F : Nat) (N : Nat → Prop) (w w2 : World) (pre : List (Acc l)) (W : World) : Prop :=
  Box W G (ns 24 (gG (gdF l (pre.map Acc.i)))) 69 ∧ (∃ v, Boxed W F 59 v ∧ W.ownsRow w2.heap.size 107 3 v (wlF l (pre.map Acc.i)).length (evc (wlF l (pre.map Acc.i))) ∧ True) ∧ Ks N w2 W ∧ Below w.heap.size w W
theorem GI_own (l : List Ev) (G F : Nat) (N : Nat → Prop) (w w2 : World) (hN : ∀ b, N b → b < w2.heap.size) (hw : w.heap.size ≤ w2.heap.size) : OwnFrom w2.heap.size (GI l G F N w w2) :=
  OwnFrom.and ((box_own (β := List (Acc l)) G (fun pre => ns 24 (gG (gdF l (pre.map Acc.i)))) 69).from _)
    (OwnFrom.and ((holdsRow_own (β := List (Acc l)) w2.heap.size F 59 107 3 (fun pre => (wlF l (pre.map Acc.i)).length) (fun pre => evc (wlF l (pre.map Acc.i))) (fun _ _ => True)).from _)
      (OwnFrom.and (own_ks hN) (ownFrom_below (Nat.le_refl _) hw)))
def GDetPost (w : World) (l : List Ev) (e : Ending) (w' : World) : Prop :=
  ∃ v, e = .returned (.tuple #[v, .agg (ns 24 (gG (gdT l l.length))), .int .i64 0]) ∧ w'.ownsRow w.heap.size 107 3 v (wl l l.length).length (evc (wl l l.length)) ∧ Below w.heap.size w w'
set_option maxHeartbeats 16000000 in
theorem gdetect_ok (A : Option Addr) (n c : Nat) (l : List Ev) (w : World) (hl : Sl w A n l) (hnc : n ≤ c) (hm : may l = 0) : Calls Tryz.prog 141 #[.slice A n c] w (GDetPost w l) := by
  obtain ⟨b1, b2, hB, hs⟩ := boxes2 w #[.slice A n c] (ns 24 fun _ => 0) 30 69
  obtain ⟨i0, hi0, hz0, hz1, hz2⟩ := info_parts gfl_info
  have J := Lib.hid (And.intro hi0 (And.intro hz0 (And.intro hz1 hz2)))
  have HL := Lib.hid (hl.bel hB)
  have HM := Lib.hid hm
  have HB := Lib.hid hB
  have HB1 := Lib.hid b1
  have HB2 := Lib.hid b2
  have HNN := Lib.hid hnc
  clear hl hm hB b1 b2 hi0 hz0 hz1 hz2 hs
  refine (callsIn_wide (n := 4)).1 ?_
  refine callsIn_of_wp_marks Tryz.func141 rfl trivial ?_ rfl
  simp only [Tryz.ntmps141, List.size_toArray, List.length_cons, List.length_nil, Nat.reduceAdd, Nat.reduceSub, Array.replicate_succ, Array.replicate_zero, List.push_toArray, List.append_toArray, List.nil_append, List.cons_append]
  gi_wp2_with fail
  change _ ∧ CallsIn _ _ _ _ _ ((w.alloc (.cells #[.slice A n c] 30)).alloc (.cells (ns 24 fun _ => 0) 69)) _
  generalize ((w.alloc (.cells #[.slice A n c] 30)).alloc (.cells (ns 24 fun _ => 0) 69)) = W at *
  refine ⟨trivial, ?_⟩
  refine (callsIn_wide.2 (check_any A n c l _ HL.out)).mono ?_
  rintro e1 w1 ⟨rfl, hb1⟩
  have HX1 := Lib.hid (Bel.of hb1)
  have h0 : (check l).2 = 0 := HM.out
  have cl := ((HX1.out.alloc (.cells #[.slice none 0 0] 59)).box HB1.out).cell 0 (v := .slice A n c) rfl
  clear hb1
  gi_wp2_with fail
  refine ⟨trivial, ?_⟩
  refine (callsIn_wide.2 (gstart_any _)).mono ?_
  rintro e2 w2 ⟨rfl, hb2⟩
  have HX2 := Lib.hid ((HX1.out.alloc (.cells #[.slice none 0 0] 59)).call hb2)
  have HF2 := Lib.hid ((Bel.of hb2).box (Box.new w1 #[.slice none 0 0] 59))
  have cl2 := ((HX2.out.alloc (.cells (ns 24 (gG gdZ)) 69)).box HB1.out).cell 0 (v := .slice A n c) rfl
  clear hb2 cl
  gi_wp2_with (refine store_newIn 69 _ _ rfl rfl (c := ns 24 fun _ => 0) (c' := ns 24 (gG gdZ)) (t := 69) rfl rfl (by rw [ns_size, ns_size]) (TGz _) (gns_all _ _) ?_)
  refine ⟨trivial, ?_⟩
  refine (acs_in 3 A n c _).mono ?_
  rintro e3 w3 ⟨rfl, hw3⟩
  gi_wp2_with fail
  have hs3 : w3.heap.size = w2.heap.size + 2 := by rw [hw3]; simp
  have hbG : Box w3 w2.heap.size (ns 24 (gG gdZ)) 69 := by rw [hw3]; exact (Box.new w2 _ _).old _
  have hbS : Box w3 (w2.heap.size + 1) #[.slice A n c] 30 := by
    have := Box.new (w2.alloc (.cells (ns 24 (gG gdZ)) 69)) #[.slice A n c] 30
    rw [hw3]; simpa using this
  have hB3 : Bel w2 w3 := by rw [hw3]; exact ((Bel.refl w2).alloc _).alloc _
  have hbF := hB3.box HF2.out
  have HW3 := Lib.hid (HX2.out.trans hB3)
  have HCL := Lib.hid (HW3.out.box HB1.out)
  have HCR := Lib.hid (HW3.out.box HB2.out)
  have HL3 := Lib.hid (HL.out.bel HW3.out)
  have HSZ := Lib.hid (show w.heap.size + 1 < w1.heap.size from (HX1.out.box HB2.out).lt)
  have HFG := Lib.hid (show w1.heap.size < w2.heap.size from HF2.out.lt)
  have HWB := Lib.hid (HB.out.trans ((HW3.out.out).mono HB.out.size))
  have HS3 := Lib.hid hs3
  have HA3 := Lib.hid (show 0 < n → ∀ b off, A = some ⟨b, off, none⟩ → b < w3.heap.size ∧ b ≠ w2.heap.size ∧ b ≠ w1.heap.size from fun hn0 b off e => by
    obtain ⟨b', off', e', hlt, _⟩ := (HL.out.bel HX1.out).2 hn0
    rw [e] at e'
    cases e'
    have := HFG.out
    exact ⟨by omega, by omega, by omega⟩)
  rw [← hw3]
  clear hw3 cl2 hs3 h0 hnc
  obtain ⟨N, hN⟩ : ∃ N : Nat → Prop, N = fun b => b < w3.heap.size ∧ b ≠ w2.heap.size ∧ b ≠ w1.heap.size := ⟨_, rfl⟩
  have HN := Lib.hid (show ∀ b, N b ↔ b < w3.heap.size ∧ b ≠ w2.heap.size ∧ b ≠ w1.heap.size from fun b => by rw [hN])
  clear hN
  have HN80 := Lib.hid (show n ≤ 80 by rw [← HL.out.1]; exact ((may_iff l).1 HM.out).1)
  refine range_upd (fun t (x : Acc l) => (((t.setIfInBounds 24 (.int .i64 (x.i : Nat))).setIfInBounds 25 (.int .i64 (hN l x.i))).setIfInBounds 9 (.int .i64 (x.i : Nat))).setIfInBounds 10 (.int .i64 (hN l x.i)))
    (by omega) (gf := 190) (lb := #[.pointer (some ⟨w2.heap.size + 1, 0, none⟩)]) rfl (enters_of Tryz.func190 (by kernel_rfl) rfl)
    (acs_stops 3 (by omega) (w2.heap.size + 1) N A n c l HM.out HNN.out w3 hbS ((HN.out _).2 ⟨by have := HS3.out; omega, by omega, by have := HFG.out; omega⟩) HL3.out (fun h0 b off e => (HN.out b).2 (HA3.out h0 b off e)))
    (fun b hb => ((HN.out b).1 hb).1) (fun _ => rfl) (GI l w2.heap.size w1.heap.size N w w3) (GI_own l _ _ N w w3 (fun b hb => ((HN.out b).1 hb).1) HWB.out.size) ⟨hbG, ⟨_, hbF, World.ownsRow_nil _ _ _ _, trivial⟩, Ks.of (Bel.refl _), HWB.out⟩ ?assign ?body ?done
  case assign =>
    rintro lp y W' K hK
    unfold accE
    gi_wp2_with fail
    exact hK
  case body =>
    rintro lp pre y W' ⟨hbx, ⟨v, hvF, hown, _⟩, hks, hbel⟩ hlen
    have hkl := y.lt
    have hac := y.ac
    have hkn : y.i < n := by rw [← HL.out.1]; exact hkl
    obtain ⟨bb, off, e, hAe, hbb, he, hrg⟩ := (HL3.out.ks hks (fun h0 b off e => (HN.out b).2 (HA3.out h0 b off e))).at_ hkn
    subst hAe
    generalize hky : y.i = k at hkl hac hkn he hrg ⊢
    have HKY := Lib.hid hky
    have hkn' : (k : Int) < n := by omega
    have hk0 : (0 : Int) ≤ (k : Int) := by omega
    obtain rfl : e = eZ l k := (eZ_at he).symm
    have heo := isEv_o (eZ_ok HM.out hkl)
    obtain ⟨o, ho⟩ := Int.eq_ofNat_of_zero_le heo.1
    have HOZ := Lib.hid (show oZ l k = o by unfold oZ; rw [ho]; rfl)
    have ho8 : o < 8 := by
      have h9 := heo.2
      rw [ho] at h9
      unfold nobj at h9
      rw [if_pos (acB_k hac)] at h9
      omega
    have ho8' : (o : Int) < 8 := by omega
    have ho0 : (0 : Int) ≤ (o : Int) := by omega
    have HO8 := Lib.hid ho8
    have HEO := Lib.hid (show (eZ l k).o = (o : Nat) from ho)
    have hszs : w.heap.size < W'.heap.size ∧ w2.heap.size < W'.heap.size ∧ w1.heap.size < W'.heap.size := by have := hks.1; have := HS3.out; have := HSZ.out; have := HFG.out; exact ⟨by omega, by omega, by omega⟩
    have HCL' := Lib.hid (hks.box ((HN.out _).2 ⟨by have := HS3.out; have := HSZ.out; have := HFG.out; omega, by have := HSZ.out; have := HFG.out; omega, by have := HSZ.out; omega⟩) HCL.out)
    have c1 := HCL'.out.cell 0 (v := .slice (some ⟨bb, off, none⟩) n c) rfl
    have co : W'.cell? ⟨bb, off + k * 3 + 2, none⟩ = some (.int .i64 (o : Int)) := by
      have := hrg 2 (.int .i64 (eZ l k).o) rfl
      rw [ho] at this
      exact this
    have HBB := Lib.hid hbb
    have HRG := Lib.hid hrg
    have HKS := Lib.hid hks
    have HBX := Lib.hid hbx
    have HBE := Lib.hid hbel
    have HVF := Lib.hid hvF
    have HOWN := Lib.hid hown
    have HKL := Lib.hid hkl
    have HAC := Lib.hid hac
    have HLEN := Lib.hid hlen
    have HSS := Lib.hid hszs
    clear hkl hac hrg he hbb heo ho hks hbx hbel hbG hbS hbF hB3 hlen hky ho8 hszs hown hvF
    gi_wp2
    clear c1 co
    have F1 := Lib.hid (fun (w' : World) (h : Below W'.heap.size W' w') => (HCL'.out.below h HSS.out.1).cell 0 (v := .slice (some ⟨bb, off, none⟩) n c) rfl)
    have HGR := Lib.hid (fun (w' : World) (h : Below W'.heap.size W' w') => gG_row (HBX.out.below h HSS.out.2.1) HO8.out)
    have HER := Lib.hid (fun (w' : World) (h : Below W'.heap.size W' w') => rangeAt_below h HBB.out HRG.out)
    have HGF := Lib.hid (show upG (gdF l (pre.map Acc.i)) o (gdStep (gdF l (pre.map Acc.i) o) (kZ l k) (tZ l k) (hB l k)) = gdF l ((pre ++ [y]).map Acc.i) by
      rw [List.map_append, List.map_singleton, gdF_snoc, HKY.out, HOZ.out])
    have HWN := Lib.hid (show wnF l (pre.map Acc.i) k = (decide ((gdStep (gdF l (pre.map Acc.i) o) (kZ l k) (tZ l k) (hB l k)).st = 3) && emp (gdStep (gdF l (pre.map Acc.i) o) (kZ l k) (tZ l k) (hB l k)).lk) by
      unfold wnF; rw [gdF_snoc, HOZ.out, upG_at])
    have HOK := Lib.hid (gdF_ok l o (pre.map Acc.i))
    generalize hf : gdF l (pre.map Acc.i) = f at HBX HGR HGF HWN HOK
    clear hf
    refine region_growT_round 11 (by kernel_rfl) (by kernel_rfl) (fun h => by obtain ⟨_, _, h⟩ := h; exact h) ?_
    (repeat (first | ((first | refine wpT_goN 0 (by simp only [List.getElem?_toArray, List.getElem?_cons_zero, List.getElem?_cons_succ] <;> rfl) (by decide +kernel) (by decide +kernel) (by kernel_rfl) (by rfl) (by exact fun _ _ _ _ h => h) (Nat.le_refl _) ?_ | refine wpT_goN 1 (by simp only [List.getElem?_toArray, List.getElem?_cons_zero, List.getElem?_cons_succ] <;> rfl) (by decide +kernel) (by decide +kernel) (by kernel_rfl) (by rfl) (by exact fun _ _ _ _ h => h) (Nat.le_refl _) ?_ | refine wpT_goN 2 (by simp only [List.getElem?_toArray, List.getElem?_cons_zero, List.getElem?_cons_succ] <;> rfl) (by decide +kernel) (by decide +kernel) (by kernel_rfl) (by rfl) (by exact fun _ _ _ _ h => h) (Nat.le_refl _) ?_ | refine wpT_goN 3 (by simp only [List.getElem?_toArray, List.getElem?_cons_zero, List.getElem?_cons_succ] <;> rfl) (by decide +kernel) (by decide +kernel) (by kernel_rfl) (by rfl) (by exact fun _ _ _ _ h => h) (Nat.le_refl _) ?_ | refine wpT_goN 4 (by simp only [List.getElem?_toArray, List.getElem?_cons_zero, List.getElem?_cons_succ] <;> rfl) (by decide +kernel) (by decide +kernel) (by kernel_rfl) (by rfl) (by exact fun _ _ _ _ h => h) (Nat.le_refl _) ?_ | refine wpT_goN 5 (by simp only [List.getElem?_toArray, List.getElem?_cons_zero, List.getElem?_cons_succ] <;> rfl) (by decide +kernel) (by decide +kernel) (by kernel_rfl) (by rfl) (by exact fun _ _ _ _ h => h) (Nat.le_refl _) ?_ | refine wpT_goN 6 (by simp only [List.getElem?_toArray, List.getElem?_cons_zero, List.getElem?_cons_succ] <;> rfl) (by decide +kernel) (by decide +kernel) (by kernel_rfl) (by rfl) (by exact fun _ _ _ _ h => h) (Nat.le_refl _) ?_ | refine wpT_goN 7 (by simp only [List.getElem?_toArray, List.getElem?_cons_zero, List.getElem?_cons_succ] <;> rfl) (by decide +kernel) (by decide +kernel) (by kernel_rfl) (by rfl) (by exact fun _ _ _ _ h => h) (Nat.le_refl _) ?_ | refine wpT_goN 8 (by simp only [List.getElem?_toArray, List.getElem?_cons_zero, List.getElem?_cons_succ] <;> rfl) (by decide +kernel) (by decide +kernel) (by kernel_rfl) (by rfl) (by exact fun _ _ _ _ h => h) (Nat.le_refl _) ?_ | refine wpT_goN 9 (by simp only [List.getElem?_toArray, List.getElem?_cons_zero, List.getElem?_cons_succ] <;> rfl) (by decide +kernel) (by decide +kernel) (by kernel_rfl) (by rfl) (by exact fun _ _ _ _ h => h) (Nat.le_refl _) ?_ | refine wpT_goN 10 (by simp only [List.getElem?_toArray, List.getElem?_cons_zero, List.getElem?_cons_succ] <;> rfl) (by decide +kernel) (by decide +kernel) (by kernel_rfl) (by rfl) (by exact fun _ _ _ _ h => h) (Nat.le_refl _) ?_); apply Exists.intro; refine ⟨fun w1 h1 => ?_, ?_⟩; (first | exact g_move _ rfl | exact g_assign _ rfl | exact g_load_mid _ _ rfl rfl (HGR.out w1 h1) TGd (evv (gev (f o))) rfl | exact g_load_mid _ _ rfl rfl (HER.out w1 h1) T36 (evv (eZ l k)) rfl | (have fct0 := F1.out w1 h1; go_simp; first | exact ⟨rfl, rfl⟩ | rfl | (go_at_call 172; (with_reducible refine (next_acc (f o) l k _ HOK.out HM.out HKL.out HAC.out).mono ?_); rintro e w' ⟨rfl, hb⟩; first | exact ⟨rfl, hb⟩ | exact ⟨rfl, hb ▸ Bel.refl _⟩))); simp only [Act.put, Act.eval, List.setIfInBounds_toArray, List.set_cons_zero, List.set_cons_succ, Array.getD_eq_getD_getElem?, List.getElem?_toArray, List.getElem?_cons_zero, List.getElem?_cons_succ, Option.getD_some]) | ((first | refine wpT_skip 0 (by simp only [List.getElem?_toArray, List.getElem?_cons_zero, List.getElem?_cons_succ] <;> rfl) (by decide +kernel) (by decide +kernel) (by kernel_rfl) (by rfl) (by exact fun _ _ _ _ h => h) (Nat.le_refl _) ?_ | refine wpT_skip 1 (by simp only [List.getElem?_toArray, List.getElem?_cons_zero, List.getElem?_cons_succ] <;> rfl) (by decide +kernel) (by decide +kernel) (by kernel_rfl) (by rfl) (by exact fun _ _ _ _ h => h) (Nat.le_refl _) ?_ | refine wpT_skip 2 (by simp only [List.getElem?_toArray, List.getElem?_cons_zero, List.getElem?_cons_succ] <;> rfl) (by decide +kernel) (by decide +kernel) (by kernel_rfl) (by rfl) (by exact fun _ _ _ _ h => h) (Nat.le_refl _) ?_ | refine wpT_skip 3 (by simp only [List.getElem?_toArray, List.getElem?_cons_zero, List.getElem?_cons_succ] <;> rfl) (by decide +kernel) (by decide +kernel) (by kernel_rfl) (by rfl) (by exact fun _ _ _ _ h => h) (Nat.le_refl _) ?_ | refine wpT_skip 4 (by simp only [List.getElem?_toArray, List.getElem?_cons_zero, List.getElem?_cons_succ] <;> rfl) (by decide +kernel) (by decide +kernel) (by kernel_rfl) (by rfl) (by exact fun _ _ _ _ h => h) (Nat.le_refl _) ?_ | refine wpT_skip 5 (by simp only [List.getElem?_toArray, List.getElem?_cons_zero, List.getElem?_cons_succ] <;> rfl) (by decide +kernel) (by decide +kernel) (by kernel_rfl) (by rfl) (by exact fun _ _ _ _ h => h) (Nat.le_refl _) ?_ | refine wpT_skip 6 (by simp only [List.getElem?_toArray, List.getElem?_cons_zero, List.getElem?_cons_succ] <;> rfl) (by decide +kernel) (by decide +kernel) (by kernel_rfl) (by rfl) (by exact fun _ _ _ _ h => h) (Nat.le_refl _) ?_ | refine wpT_skip 7 (by simp only [List.getElem?_toArray, List.getElem?_cons_zero, List.getElem?_cons_succ] <;> rfl) (by decide +kernel) (by decide +kernel) (by kernel_rfl) (by rfl) (by exact fun _ _ _ _ h => h) (Nat.le_refl _) ?_ | refine wpT_skip 8 (by simp only [List.getElem?_toArray, List.getElem?_cons_zero, List.getElem?_cons_succ] <;> rfl) (by decide +kernel) (by decide +kernel) (by kernel_rfl) (by rfl) (by exact fun _ _ _ _ h => h) (Nat.le_refl _) ?_ | refine wpT_skip 9 (by simp only [List.getElem?_toArray, List.getElem?_cons_zero, List.getElem?_cons_succ] <;> rfl) (by decide +kernel) (by decide +kernel) (by kernel_rfl) (by rfl) (by exact fun _ _ _ _ h => h) (Nat.le_refl _) ?_ | refine wpT_skip 10 (by simp only [List.getElem?_toArray, List.getElem?_cons_zero, List.getElem?_cons_succ] <;> rfl) (by decide +kernel) (by decide +kernel) (by kernel_rfl) (by rfl) (by exact fun _ _ _ _ h => h) (Nat.le_refl _) ?_); simp only [Act.put, Act.eval, List.setIfInBounds_toArray, List.set_cons_zero, List.set_cons_succ, Array.getD_eq_getD_getElem?, List.getElem?_toArray, List.getElem?_cons_zero, List.getElem?_cons_succ, Option.getD_some]) | ((first | refine wpT_goA 0 (by simp only [List.getElem?_toArray, List.getElem?_cons_zero, List.getElem?_cons_succ] <;> rfl) (by decide +kernel) (by decide +kernel) (by kernel_rfl) (by rfl) (by exact fun _ _ _ _ h => h) ?_ | refine wpT_goA 1 (by simp only [List.getElem?_toArray, List.getElem?_cons_zero, List.getElem?_cons_succ] <;> rfl) (by decide +kernel) (by decide +kernel) (by kernel_rfl) (by rfl) (by exact fun _ _ _ _ h => h) ?_ | refine wpT_goA 2 (by simp only [List.getElem?_toArray, List.getElem?_cons_zero, List.getElem?_cons_succ] <;> rfl) (by decide +kernel) (by decide +kernel) (by kernel_rfl) (by rfl) (by exact fun _ _ _ _ h => h) ?_ | refine wpT_goA 3 (by simp only [List.getElem?_toArray, List.getElem?_cons_zero, List.getElem?_cons_succ] <;> rfl) (by decide +kernel) (by decide +kernel) (by kernel_rfl) (by rfl) (by exact fun _ _ _ _ h => h) ?_ | refine wpT_goA 4 (by simp only [List.getElem?_toArray, List.getElem?_cons_zero, List.getElem?_cons_succ] <;> rfl) (by decide +kernel) (by decide +kernel) (by kernel_rfl) (by rfl) (by exact fun _ _ _ _ h => h) ?_ | refine wpT_goA 5 (by simp only [List.getElem?_toArray, List.getElem?_cons_zero, List.getElem?_cons_succ] <;> rfl) (by decide +kernel) (by decide +kernel) (by kernel_rfl) (by rfl) (by exact fun _ _ _ _ h => h) ?_ | refine wpT_goA 6 (by simp only [List.getElem?_toArray, List.getElem?_cons_zero, List.getElem?_cons_succ] <;> rfl) (by decide +kernel) (by decide +kernel) (by kernel_rfl) (by rfl) (by exact fun _ _ _ _ h => h) ?_ | refine wpT_goA 7 (by simp only [List.getElem?_toArray, List.getElem?_cons_zero, List.getElem?_cons_succ] <;> rfl) (by decide +kernel) (by decide +kernel) (by kernel_rfl) (by rfl) (by exact fun _ _ _ _ h => h) ?_ | refine wpT_goA 8 (by simp only [List.getElem?_toArray, List.getElem?_cons_zero, List.getElem?_cons_succ] <;> rfl) (by decide +kernel) (by decide +kernel) (by kernel_rfl) (by rfl) (by exact fun _ _ _ _ h => h) ?_ | refine wpT_goA 9 (by simp only [List.getElem?_toArray, List.getElem?_cons_zero, List.getElem?_cons_succ] <;> rfl) (by decide +kernel) (by decide +kernel) (by kernel_rfl) (by rfl) (by exact fun _ _ _ _ h => h) ?_ | refine wpT_goA 10 (by simp only [List.getElem?_toArray, List.getElem?_cons_zero, List.getElem?_cons_succ] <;> rfl) (by decide +kernel) (by decide +kernel) (by kernel_rfl) (by rfl) (by exact fun _ _ _ _ h => h) ?_); apply Exists.intro; refine ⟨fun w1 => ?_, ?_⟩; (first | exact a_move _ rfl | exact a_assign _ rfl | (go_simp; first | exact ⟨rfl, rfl⟩ | rfl)); simp only [Act.put, Act.eval, List.setIfInBounds_toArray, List.set_cons_zero, List.set_cons_succ, Array.getD_eq_getD_getElem?, List.getElem?_toArray, List.getElem?_cons_zero, List.getElem?_cons_succ, Option.getD_some])))
    refine wpT_last (by decide +kernel) (by decide +kernel) (by simp only [List.getElem?_toArray, List.getElem?_cons_zero, List.getElem?_cons_succ] <;> rfl) rfl ?_
    intro w5 hw5
    have HG5 := Lib.hid (hw5.box HBX.out)
    refine wp_three _ _ rfl rfl rfl HG5.out HO8.out ?_
    intro w6 hw6
    generalize hg' : gdStep (f o) (kZ l k) (tZ l k) (hB l k) = g' at *
    have HCH := Lib.hid (show W'.grownBy w6 (some w2.heap.size) from ((chg_bel hw5 _).trans (chg_six _ _ _ _)).trans (chg_bel hw6 _))
    have HG6 := Lib.hid (hw6.box (box_three HG5.out o g'))
    clear hw5 hw6 hg'
    simp only [Act.put, Act.eval, List.setIfInBounds_toArray, List.set_cons_zero, List.set_cons_succ, Array.getD_eq_getD_getElem?, List.getElem?_toArray, List.getElem?_cons_zero, List.getElem?_cons_succ, Option.getD_some]
    have HNG := Lib.hid (show ¬ N w2.heap.size from fun h => ((HN.out _).1 h).2.1 rfl)
    have HNF := Lib.hid (show ¬ N w1.heap.size from fun h => ((HN.out _).1 h).2.2 rfl)
    have HV6 := Lib.hid (HVF.out.kept HCH.out (fun e => by have := Option.some.inj e; have := HFG.out; omega))
    have HO6 := Lib.hid (HOWN.out.kept HCH.out (.inr fun e => by have := (own_lt HOWN.out e).1; have := HS3.out; omega))
    have HK6 := Lib.hid (show Ks N W' w6 from Ks.grown HCH.out (fun b hb e => HNG.out (Option.some.inj e ▸ hb)))
    have HE6 := Lib.hid (show Below w.heap.size W' w6 from (Below.refl _ W').grown HCH.out (Nat.le_of_lt HSS.out.1) (fun b e => by have := Option.some.inj e; have := HFG.out; have := HSZ.out; omega))
    have HQ6 := Lib.hid (show KeepsFrom w3.heap.size W' w6 from KeepsFrom.of_grownBy HCH.out (fun j e => by have := Option.some.inj e; have := HS3.out; omega))
    have HS6 := Lib.hid (show W'.heap.size ≤ w6.heap.size from HCH.out.size)
    have s0 := HG6.out.cell (o * 3) (ns_get _ (by omega))
    have s2 := HG6.out.cell (o * 3 + 2) (ns_get _ (by omega))
    rw [gG_0, upG_at] at s0
    rw [gG_2, upG_at] at s2
    have HG7 := Lib.hid (show Box w6 w2.heap.size (ns 24 (gG (gdF l ((pre ++ [y]).map Acc.i)))) 69 by rw [← HGF.out]; exact HG6.out)
    by_cases h3 : g'.st = 3
    · have hs : ((g'.st : Int) == 3) = true := by simp [h3]
      by_cases he : emp g'.lk = true
      · have hs2 : ((lkN g'.lk : Int) == 0) = true := by rw [lkN_eq, (hset_emp _).2 he]; rfl
        have HWL := Lib.hid (show wlF l ((pre ++ [y]).map Acc.i) = wlF l (pre.map Acc.i) ++ [⟨(k : Nat), (o : Nat), 0⟩] by
          rw [List.map_append, List.map_singleton, wlF_snoc, HKY.out, HWN.out, decide_eq_true h3, he, if_pos (by rfl), HEO.out])
        have HLE := Lib.hid (wlF_len l (pre.map Acc.i))
        clear h3 he
        have c7 := HV6.out.cell
        have HOA := Lib.hid (own_alloc HO6.out (.cells (evv ⟨(k : Nat), (o : Nat), 0⟩) 107))
        have HNW := Lib.hid (Box.news (l := evl ⟨(k : Nat), (o : Nat), 0⟩) (Box.new w6 (evv ⟨(k : Nat), (o : Nat), 0⟩) 107))
        have hbd : (wlF l (pre.map Acc.i)).length < 80 := by have h1 := HLE.out; rw [List.length_map] at h1; have := HLEN.out; have := HN80.out; omega
        have HBD := Lib.hid hbd
        clear hbd
        have HKA := Lib.hid (fun (u : Value) (w8 : World) (hg : (w6.alloc (.cells (evv ⟨(k : Nat), (o : Nat), 0⟩) 107)).grownBy w8 v.ownBlock) => show Ks N w6 (w8.setCell ⟨w1.heap.size, 0, none⟩ u) from
          ((Ks.of ((Bel.refl w6).alloc _)).trans (Ks.grown hg (fun b hb e => by have := (own_lt HO6.out e.symm).1; have := ((HN.out b).1 hb).1; omega))).trans (ks_cell HNF.out _ _ _))
        have HGA := Lib.hid (fun (u : Value) (w8 : World) (hg : (w6.alloc (.cells (evv ⟨(k : Nat), (o : Nat), 0⟩) 107)).grownBy w8 v.ownBlock) => show Box (w8.setCell ⟨w1.heap.size, 0, none⟩ u) w2.heap.size _ _ from
          ((HG7.out.old _).grown hg (fun e => by have := (own_lt HO6.out e.symm).1; have := HS3.out; omega)).set_ne _ _ (by have := HFG.out; dsimp only; omega))
        gi_wp2_with (first | (refine build1In 59 _ rfl rfl 107 i0 Tryz.underlying59 J.out.1 J.out.2.1 J.out.2.2.1 ⟨(k : Nat), (o : Nat), 0⟩ rfl ?_) | (refine wpListIn_append_own _ rfl (.tmp 54) (.tmp 58) _ rfl w3.heap.size 107 i0 _ 3 24 Tryz.underlying59 J.out.1 J.out.2.1 J.out.2.2.1 J.out.2.2.2 rfl (by omega) _ (wlF l (pre.map Acc.i)).length _ rfl HOA.out _ 1 1 (evl ⟨(k : Nat), (o : Nat), 0⟩) rfl rfl HNW.out (by simp [evl, Value.oneCell']) (by have := HBD.out; unfold maxLen; omega) (by have := HBD.out; omega) (by have := HKS.out.1; have := HS6.out; simp; omega) ?_; intro v8 w8 hown8 hg8 hn8; obtain ⟨g8, cc8, rfl⟩ := ownsRow_succ hown8; have AP := Lib.hid (Boxed.appended (n₀ := w.heap.size) (tmp := .cells (evv ⟨(k : Nat), (o : Nat), 0⟩) 107) HV6.out (by decide) (own_base HO6.out HWB.out.size) (by have := HSS.out.1; have := HS6.out; omega) (by have := HSZ.out; omega) (own_base hown8 HWB.out.size) hg8); have hc8 := AP.out.1.cell; have hf8 := AP.out.1.frozen; have HG8 := Lib.hid hg8; have HOW8 := Lib.hid hown8; clear hg8 hown8 hn8))
        refine ⟨HQ6.out.trans (AP.out.2.2.2.1.from _), HK6.out.trans (HKA.out _ _ HG8.out), HGA.out _ _ HG8.out, ⟨_, AP.out.2.1, ?_, trivial⟩, (HKS.out.trans HK6.out).trans (HKA.out _ _ HG8.out), (HBE.out.trans HE6.out).trans AP.out.2.2.2.2⟩
        rw [HWL.out, List.length_append, evc_append]
        exact HOW8.out.kept (grownBy_setCell' _ _ _) (.inr (AP.out.1.not_row (by decide) HOW8.out).symm)
      · have hs2 : ((lkN g'.lk : Int) == 0) = false := by
          rw [lkN_eq, beq_eq_false_iff_ne]
          exact fun h => he ((hset_emp _).1 h)
        have HWL := Lib.hid (show wlF l ((pre ++ [y]).map Acc.i) = wlF l (pre.map Acc.i) by
          rw [List.map_append, List.map_singleton, wlF_snoc, HKY.out, HWN.out, decide_eq_true h3, Bool.true_and, if_neg he])
        clear h3 he
        gi_wp2
        exact ⟨HQ6.out, HK6.out, HG7.out, ⟨v, HV6.out, by rw [HWL.out]; exact HO6.out, trivial⟩, HKS.out.trans HK6.out, HBE.out.trans HE6.out⟩
    · have hs : ((g'.st : Int) == 3) = false := by simp; omega
      have HWL := Lib.hid (show wlF l ((pre ++ [y]).map Acc.i) = wlF l (pre.map Acc.i) by
        rw [List.map_append, List.map_singleton, wlF_snoc, HKY.out, HWN.out, decide_eq_false h3, Bool.false_and, if_neg (by simp)])
      clear h3
      gi_wp2
      exact ⟨HQ6.out, HK6.out, HG7.out, ⟨v, HV6.out, by rw [HWL.out]; exact HO6.out, trivial⟩, HKS.out.trans HK6.out, HBE.out.trans HE6.out⟩
  case done =>
    rintro D ys W' hD hys ⟨hbx, ⟨v, hvF, hown, _⟩, hks, hbel⟩ hK
    rw [hys, gdF_acs] at hbx
    rw [hys, wlF_acs] at hown
    have hln : n = l.length := HL.out.1.symm
    subst hln
    have HSS := Lib.hid (show w.heap.size + 1 < W'.heap.size ∧ w2.heap.size < W'.heap.size ∧ w1.heap.size < W'.heap.size by have := hks.1; have := HS3.out; have := HSZ.out; have := HFG.out; exact ⟨by omega, by omega, by omega⟩)
    have HR := Lib.hid (hks.box ((HN.out _).2 ⟨by have := HS3.out; have := HSZ.out; have := HFG.out; omega, by have := HSZ.out; have := HFG.out; omega, by have := HSZ.out; omega⟩) HCR.out)
    have HLG := Lib.hid (fun (w' : World) (h : Below W'.heap.size W' w') => hbx.below h HSS.out.2.1)
    have HF1 := Lib.hid (fun (w' : World) (h : Below W'.heap.size W' w') => (show Box W' w1.heap.size #[v] 59 from hvF).below h HSS.out.2.2)
    have HFC := Lib.hid (fun (w' : World) (h : Below W'.heap.size W' w') => (HF1.out w' h).cell 0 (v := v) rfl)
    have HBE := Lib.hid hbel
    have HKK := Lib.hid hK
    have HDD := Lib.hid hD
    have HOW := Lib.hid hown
    clear hbx hvF hown hks hbel hys hK hbG hbS hbF hB3 hD
    gi_wp2_with fail
    refine wpIn_wide.2 (wp_only ?_)
    refine region_growT 3 (by kernel_rfl) ?_
    (repeat (first | ((first | refine wpT_goN 0 (by simp only [List.getElem?_toArray, List.getElem?_cons_zero, List.getElem?_cons_succ] <;> rfl) (by decide +kernel) (by decide +kernel) (by kernel_rfl) (by rfl) (by exact fun _ _ _ _ h => h) (Nat.le_refl _) ?_ | refine wpT_goN 1 (by simp only [List.getElem?_toArray, List.getElem?_cons_zero, List.getElem?_cons_succ] <;> rfl) (by decide +kernel) (by decide +kernel) (by kernel_rfl) (by rfl) (by exact fun _ _ _ _ h => h) (Nat.le_refl _) ?_ | refine wpT_goN 2 (by simp only [List.getElem?_toArray, List.getElem?_cons_zero, List.getElem?_cons_succ] <;> rfl) (by decide +kernel) (by decide +kernel) (by kernel_rfl) (by rfl) (by exact fun _ _ _ _ h => h) (Nat.le_refl _) ?_); apply Exists.intro; refine ⟨fun w1 h1 => ?_, ?_⟩; (first | exact g_move _ rfl | exact g_assign _ rfl | exact g_load _ _ rfl (TGz _) rfl (HLG.out w1 h1) | (have fct0 := HFC.out w1 h1; go_simp; first | exact ⟨rfl, rfl⟩ | rfl)); simp only [Act.put, Act.eval, List.setIfInBounds_toArray, List.set_cons_zero, List.set_cons_succ, Array.getD_eq_getD_getElem?, List.getElem?_toArray, List.getElem?_cons_zero, List.getElem?_cons_succ, Option.getD_some]) | ((first | refine wpT_skip 0 (by simp only [List.getElem?_toArray, List.getElem?_cons_zero, List.getElem?_cons_succ] <;> rfl) (by decide +kernel) (by decide +kernel) (by kernel_rfl) (by rfl) (by exact fun _ _ _ _ h => h) (Nat.le_refl _) ?_ | refine wpT_skip 1 (by simp only [List.getElem?_toArray, List.getElem?_cons_zero, List.getElem?_cons_succ] <;> rfl) (by decide +kernel) (by decide +kernel) (by kernel_rfl) (by rfl) (by exact fun _ _ _ _ h => h) (Nat.le_refl _) ?_ | refine wpT_skip 2 (by simp only [List.getElem?_toArray, List.getElem?_cons_zero, List.getElem?_cons_succ] <;> rfl) (by decide +kernel) (by decide +kernel) (by kernel_rfl) (by rfl) (by exact fun _ _ _ _ h => h) (Nat.le_refl _) ?_); simp only [Act.put, Act.eval, List.setIfInBounds_toArray, List.set_cons_zero, List.set_cons_succ, Array.getD_eq_getD_getElem?, List.getElem?_toArray, List.getElem?_cons_zero, List.getElem?_cons_succ, Option.getD_some]) | ((first | refine wpT_goA 0 (by simp only [List.getElem?_toArray, List.getElem?_cons_zero, List.getElem?_cons_succ] <;> rfl) (by decide +kernel) (by decide +kernel) (by kernel_rfl) (by rfl) (by exact fun _ _ _ _ h => h) ?_ | refine wpT_goA 1 (by simp only [List.getElem?_toArray, List.getElem?_cons_zero, List.getElem?_cons_succ] <;> rfl) (by decide +kernel) (by decide +kernel) (by kernel_rfl) (by rfl) (by exact fun _ _ _ _ h => h) ?_ | refine wpT_goA 2 (by simp only [List.getElem?_toArray, List.getElem?_cons_zero, List.getElem?_cons_succ] <;> rfl) (by decide +kernel) (by decide +kernel) (by kernel_rfl) (by rfl) (by exact fun _ _ _ _ h => h) ?_); apply Exists.intro; refine ⟨fun w1 => ?_, ?_⟩; (first | exact a_move _ rfl | exact a_assign _ rfl | (go_simp; first | exact ⟨rfl, rfl⟩ | rfl)); simp only [Act.put, Act.eval, List.setIfInBounds_toArray, List.set_cons_zero, List.set_cons_succ, Array.getD_eq_getD_getElem?, List.getElem?_toArray, List.getElem?_cons_zero, List.getElem?_cons_succ, Option.getD_some])))
    refine wpT_then 4 (by decide +kernel) (by decide +kernel) (by decide +kernel) (by simp only [List.getElem?_toArray, List.getElem?_cons_zero, List.getElem?_cons_succ] <;> rfl) (by simp only [List.getElem?_toArray, List.getElem?_cons_zero, List.getElem?_cons_succ] <;> rfl) rfl ?_
    intro w5 hw5
    have HR5 := Lib.hid (hw5.box HR.out)
    refine wp_storeB TGs _ _ rfl rfl (ns_size _ _) rfl HR5.out (ns_size _ _) (gns_all _ _) ?_
    refine ⟨_, .inl ⟨rfl, fun _ => a_assign _ rfl⟩, fun w7 hw7 => ?_⟩
    have HR7 := Lib.hid (hw7.box (HR5.out.setRow (ns 24 (gG (gdT l l.length)))))
    have HK7 := Lib.hid ((((kf_bel hw5).trans ((keeps_setRow HR5.out (ns 24 (gG (gdT l l.length)))).from _)).trans (kf_bel hw7)).same D _ HDD.out HKK.out rfl)
    have HO7 := Lib.hid (own_bel ((own_bel HOW.out hw5).kept (chg_setRow w5 (w.heap.size + 1) (ns 24 (gG (gdT l l.length)))) (.inr fun e => by have := (own_lt HOW.out e).1; have := HWB.out.size; have := HS3.out; have := HSZ.out; have := HFG.out; omega)) hw7)
    have HB7 := Lib.hid ((below_setRow' (HBE.out.trans (hw5.out.mono HBE.out.size)) (w.heap.size + 1) (ns 24 (gG (gdT l l.length))) (by omega)).trans (hw7.out.mono (by have := HBE.out.size; have := hw5.size; simp; omega)))
    clear hw5 hw7
    rw [OnlyN]
    try simp only [Act.put, Act.eval, List.setIfInBounds_toArray, List.set_cons_zero, List.set_cons_succ, Array.getD_eq_getD_getElem?, List.getElem?_toArray, List.getElem?_cons_zero, List.getElem?_cons_succ, Option.getD_some]
    gi_wp2
    refine ⟨by simp, .inl ⟨_, _, rfl, run_takeDeferred HK7.out, ?_⟩⟩
    refine ⟨_, gres_tct Tryz.results141 rfl (box_put HR7.out HK7.out rfl (.deferred none)) (TGz _), v, rfl, own_base (ownsRow_putObj HO7.out _ HK7.out rfl) HWB.out.size, ?_⟩
    exact HB7.out.trans (belowK_b (w := w) (Nat.le_refl _) _ D _ _ (by have := HDD.out; have := HWB.out.size; omega) HK7.out rfl rfl)
end Go.Proofs.YtnklpifnknmdgaaGreatDoor

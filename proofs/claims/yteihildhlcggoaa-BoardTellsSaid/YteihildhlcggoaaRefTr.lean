/- Contracts of the reference: owner, did, begun, IsEvent, Wrong, Check, May, Held. | Contracts of the reference: Wrong, Check, May, Held. -/
import Derived.Test.YteihildhlcggoaaTrace
import Derived.RegionTactic
import Derived.Test.YteihildhlcggoaaGrow
set_option linter.all false
set_option maxRecDepth 100000
namespace Go.Proofs.Yteihildhlcggoaa
open Go.RowKit

theorem take_snoc {l : List Ev} {i : Nat} {e : Ev} (h : l[i]? = some e) : l.take (i + 1) = l.take i ++ [e] := by
  have hi' := List.getElem?_eq_some_iff.1 h
  rw [List.take_succ_eq_append_getElem hi'.1, hi'.2]
theorem take_all {l : List Ev} {A : Option Addr} {w : World} {n : Nat} (h : Sl w A n l) : l.take n = l := by rw [← h.1, List.take_length]
theorem Sl.bel {w w' : World} {A : Option Addr} {n : Nat} {l : List Ev} (h : Sl w A n l) (hb : Below w.heap.size w w') : Sl w' A n l := h.below hb (Nat.le_refl _)

theorem outside_any (t a b : Int) (w : World) : Calls Try.prog 68 #[.int .i64 t, .int .i64 a, .int .i64 b] w fun e w' => e = .returned (.bool (outs t a b)) ∧ w = w' := by
  by_cases h1 : t < a
  · have hF := Lib.hid (outs_lo (b := b) h1)
    go_enter Try.func68, Try.ntmps68
    go_wp2
    go_ret
    exact ⟨by rw [hF.out]; rfl, rfl⟩
  · by_cases h2 : b < t
    · have hF := Lib.hid (outs_hi (a := a) h2)
      go_enter Try.func68, Try.ntmps68
      go_wp2
      go_ret
      exact ⟨by rw [hF.out]; rfl, rfl⟩
    · have hF := Lib.hid (outs_in h1 h2)
      go_enter Try.func68, Try.ntmps68
      go_wp2
      go_ret
      exact ⟨by rw [hF.out]; rfl, rfl⟩

theorem did_snoc' (l : List Ev) (e : Ev) (a b : Int) : did (l ++ [e]) a b = (did l a b || (e.k == a && e.o == b)) := by
  rw [did_snoc, Bool.decide_and]; rfl
theorem did_yes {l : List Ev} {i : Nat} {e : Ev} {a b : Int} (h : l[i]? = some e) (h1 : (e.k == a) = true) (h2 : (e.o == b) = true) : did l a b = true := by
  simp only [did, List.any_eq_true]
  exact ⟨e, List.mem_of_getElem? h, decide_eq_true ⟨eq_of_beq h1, eq_of_beq h2⟩⟩
/-- The world behind 'for _, e := range l' has taken its next event. -/
def ewld (w : World) (e : Ev) (t : TypeId) : World := (w.alloc (.cells #[.int .i64 0, .int .i64 0, .int .i64 0] t)).setRow w.heap.size (evv e)
theorem ewld_box (w : World) (e : Ev) (t : TypeId) : Box (ewld w e t) w.heap.size (evv e) t := (Box.new w _ t).setRow _
theorem ewld_below (w : World) (e : Ev) (t : TypeId) : Below w.heap.size w (ewld w e t) := below_setRow' ((Below.refl _ _).alloc (Nat.le_refl _) _) _ _ (Nat.le_refl _)
theorem ewld_cells (w : World) (e : Ev) (t : TypeId) : (ewld w e t).cell? ⟨w.heap.size, 0, none⟩ = some (.int .i64 e.k) ∧ (ewld w e t).cell? ⟨w.heap.size, 1, none⟩ = some (.int .i64 e.t) ∧ (ewld w e t).cell? ⟨w.heap.size, 2, none⟩ = some (.int .i64 e.o) :=
  ⟨(ewld_box w e t).cell 0 rfl, (ewld_box w e t).cell 1 rfl, (ewld_box w e t).cell 2 rfl⟩
/-- The region of such a loop's head, in one step: behind it the world is 'ewld'. -/
theorem ewld_store {P : Program} {ops : Array Oper} {rest : List Oper} {o : Oper} {a : Act} {w' w : World} {Q : Exit → Act → World → Prop} {ty : TypeId} (hT : RowTy P ty 3) (x y : Operand) (ho : o.op = .store ty x y) (hgd : o.guard = none) {e : Ev} (t : TypeId)
    (hy : a.eval y = .agg (evv e)) (hw : w' = w.alloc (.cells #[.int .i64 0, .int .i64 0, .int .i64 0] t)) (hx : a.eval x = .pointer (some ⟨w.heap.size, 0, none⟩))
    (h : wpList P ops Q rest (a.put o.dst undef) (ewld w e t)) : wpList P ops Q (o :: rest) a w' := by
  subst hw
  exact storeB ty x y ho hgd hx hy (Box.new w _ t) rfl hT (evv_all e) h
theorem load_ev {P : Program} {ops : Array Oper} {rest : List Oper} {o : Oper} {a : Act} {w : World} {Q : Exit → Act → World → Prop} {ty : TypeId} (hT : RowTy P ty 3) (x : Operand) (ho : o.op = .load ty x) (hgd : o.guard = none) {b off : Nat} {e : Ev}
    (hx : a.eval x = .pointer (some ⟨b, off, none⟩)) (hr : w.rangeAt b off (evl e))
    (h : wpList P ops Q rest (a.put o.dst (.agg (evv e))) w) : wpList P ops Q (o :: rest) a w := by
  obtain ⟨d, hu, hd, hi⟩ := hT
  exact wpList_load_mid hgd ty x ho b off hx (evl e) d hr hu hd hi h

set_option maxHeartbeats 1000000 in
theorem did_any (A : Option Addr) (n c : Nat) (l : List Ev) (kind obj : Int) (w : World) (hl : Sl w A n l) (hn : n ≤ 9223372036854775807) :
    Calls Try.prog 50 #[.slice A n c, .int .i64 kind, .int .i64 obj] w fun e w' => e = .returned (.bool (did l kind obj)) ∧ Below w.heap.size w w' := by
  go_enter Try.func50, Try.ntmps50
  go_wp2
  go_loopw [11] (fun t wr => ∃ i : Nat, i ≤ n ∧ t = .int .i64 i ∧ did (l.take i) kind obj = false ∧ Below w.heap.size w wr) (fun t _ => n - (intOf t).toNat)
  case atStart => exact ⟨0, by omega, rfl, by simp [did_nil], Below.refl _ _⟩
  case round =>
    obtain ⟨i, hi, rfl, hd, hb⟩ := hrel
    have HD := Lib.hid hd
    have HB := Lib.hid hb
    have HL := Lib.hid hl
    clear hd hb
    by_cases hlt : i < n
    · obtain ⟨bb, off, e, rfl, hbb, he, hrg⟩ := hl.at_ hlt
      have hlt' : (i : Int) < n := by omega
      have hR := Lib.hid (rangeAt_below HB.out hbb hrg)
      have HE := Lib.hid he
      clear he hrg hl
      obtain ⟨c0, c1, c2⟩ := ewld_cells wr e 50
      cases h1 : (e.k == kind)
      all_goals cases h2 : (e.o == obj)
      case true.true =>
        have HF := Lib.hid (did_yes HE.out h1 h2)
        go_wp2_with (first | (refine load_ev T36 _ rfl rfl rfl hR.out ?_) | (refine ewld_store T36 _ _ rfl rfl _ rfl rfl rfl ?_))
        go_ret
        exact ⟨by rw [HF.out]; rfl, HB.out.trans ((ewld_below _ _ _).mono HB.out.size)⟩
      all_goals
        go_wp2_with (first | (refine load_ev T36 _ rfl rfl rfl hR.out ?_) | (refine ewld_store T36 _ _ rfl rfl _ rfl rfl rfl ?_))
        go_roundw
        case rel => exact ⟨i + 1, by omega, by go_num, by rw [take_snoc HE.out, did_snoc', HD.out, h1, h2]; rfl, HB.out.trans ((ewld_below _ _ _).mono HB.out.size)⟩
        case measure => simp [intOf]; omega
    · obtain rfl : i = n := by omega
      go_wp2
      go_ret
      exact ⟨by rw [take_all HL.out] at HD; rw [HD.out]; rfl, HB.out⟩

theorem ownB_of (who : Int) (e : Ev) (k : Int) (h1 : (e.o == k) = true) (h2 : (e.k == 4) = false) (h3 : (e.k == 3) = true) : ownB who e k = e.t := by
  unfold ownB
  simp only [beq_iff_eq, beq_eq_false_iff_ne] at h1 h2 h3
  rw [if_neg (by omega), if_pos ⟨h1, h3⟩]
theorem ownB_rel (who : Int) (e : Ev) (k : Int) (h1 : (e.o == k) = true) (h2 : (e.k == 4) = true) : ownB who e k = -1 := by
  unfold ownB
  simp only [beq_iff_eq] at h1 h2
  rw [if_pos ⟨h1, h2⟩]
theorem ownB_kind (who : Int) (e : Ev) (k : Int) (h2 : (e.k == 4) = false) (h3 : (e.k == 3) = false) : ownB who e k = who := by
  unfold ownB
  simp only [beq_eq_false_iff_ne] at h2 h3
  rw [if_neg (by omega), if_neg (by omega)]
theorem ownB_obj (who : Int) (e : Ev) (k : Int) (h1 : (e.o == k) = false) : ownB who e k = who := by
  unfold ownB
  simp only [beq_eq_false_iff_ne] at h1
  rw [if_neg (by omega), if_neg (by omega)]

set_option maxHeartbeats 1000000 in
theorem owner_any (A : Option Addr) (n c : Nat) (l : List Ev) (k : Int) (w : World) (hl : Sl w A n l) (hn : n ≤ 9223372036854775807) :
    Calls Try.prog 51 #[.slice A n c, .int .i64 k] w fun e w' => e = .returned (.int .i64 (owner l k)) ∧ Below w.heap.size w w' := by
  go_enter Try.func51, Try.ntmps51
  go_wp2
  go_loopw [5, 10] (fun u t wr => ∃ i : Nat, i ≤ n ∧ t = .int .i64 i ∧ u = .int .i64 (owner (l.take i) k) ∧ Below w.heap.size w wr) (fun _ t _ => n - (intOf t).toNat)
  case atStart => exact ⟨0, by omega, rfl, by simp [owner_nil], Below.refl _ _⟩
  case round =>
    obtain ⟨i, hi, rfl, rfl, hb⟩ := hrel
    have HB := Lib.hid hb
    have HL := Lib.hid hl
    clear hb
    by_cases hlt : i < n
    · obtain ⟨bb, off, e, rfl, hbb, he, hrg⟩ := hl.at_ hlt
      have hlt' : (i : Int) < n := by omega
      have hR := Lib.hid (rangeAt_below HB.out hbb hrg)
      have HE := Lib.hid he
      clear he hrg hl
      obtain ⟨c0, c1, c2⟩ := ewld_cells wr e 50
      cases h1 : (e.o == k)
      · go_wp2_with (first | (refine load_ev T36 _ rfl rfl rfl hR.out ?_) | (refine ewld_store T36 _ _ rfl rfl _ rfl rfl rfl ?_))
        go_roundw
        case rel => exact ⟨i + 1, by omega, by go_num, by rw [take_snoc HE.out, owner_snoc, ownB_obj _ _ _ h1], HB.out.trans ((ewld_below _ _ _).mono HB.out.size)⟩
        case measure => simp [intOf]; omega
      · cases h2 : (e.k == 4)
        · cases h3 : (e.k == 3)
          · go_wp2_with (first | (refine load_ev T36 _ rfl rfl rfl hR.out ?_) | (refine ewld_store T36 _ _ rfl rfl _ rfl rfl rfl ?_))
            go_roundw
            case rel => exact ⟨i + 1, by omega, by go_num, by rw [take_snoc HE.out, owner_snoc, ownB_kind _ _ _ h2 h3], HB.out.trans ((ewld_below _ _ _).mono HB.out.size)⟩
            case measure => simp [intOf]; omega
          · go_wp2_with (first | (refine load_ev T36 _ rfl rfl rfl hR.out ?_) | (refine ewld_store T36 _ _ rfl rfl _ rfl rfl rfl ?_))
            go_roundw
            case rel => exact ⟨i + 1, by omega, by go_num, by rw [take_snoc HE.out, owner_snoc, ownB_of _ _ _ h1 h2 h3], HB.out.trans ((ewld_below _ _ _).mono HB.out.size)⟩
            case measure => simp [intOf]; omega
        · have h3 : (e.k == 3) = false := by simp only [beq_iff_eq, beq_eq_false_iff_ne] at h2 ⊢; omega
          go_wp2_with (first | (refine load_ev T36 _ rfl rfl rfl hR.out ?_) | (refine ewld_store T36 _ _ rfl rfl _ rfl rfl rfl ?_))
          go_roundw
          case rel => exact ⟨i + 1, by omega, by go_num, by rw [take_snoc HE.out, owner_snoc, ownB_rel _ _ _ h1 h2], HB.out.trans ((ewld_below _ _ _).mono HB.out.size)⟩
          case measure => simp [intOf]; omega
    · obtain rfl : i = n := by omega
      have HT := Lib.hid (take_all HL.out)
      go_wp2
      go_ret
      exact ⟨by rw [HT.out]; rfl, HB.out⟩

set_option maxHeartbeats 400000 in
theorem begun_any (A : Option Addr) (n c : Nat) (l : List Ev) (t : Int) (w : World) (hl : Sl w A n l) (hn : n ≤ 9223372036854775807) :
    Calls Try.prog 49 #[.slice A n c, .int .i64 t] w fun e w' => e = .returned (.bool (begun l t)) ∧ Below w.heap.size w w' := by
  have HL := Lib.hid hl
  clear hl
  cases h : (t == 0)
  · have hb : begun l t = did l 5 t := by unfold begun; rw [show decide (t = 0) = false from h]; rfl
    have HB := Lib.hid hb
    clear hb
    go_enter Try.func49, Try.ntmps49
    go_wp2_with fail
    refine (did_any A n c l 5 t _ HL.out hn).mono ?_
    rintro e w' ⟨rfl, hb⟩
    go_wp2
    go_ret
    exact ⟨by rw [HB.out]; rfl, hb⟩
  · have hb : begun l t = true := by unfold begun; rw [show decide (t = 0) = true from h]; rfl
    have HB := Lib.hid hb
    clear hb
    go_enter Try.func49, Try.ntmps49
    go_wp2
    go_ret
    exact ⟨by rw [HB.out]; rfl, Below.refl _ _⟩

theorem outs_inB (n m : Int) : outs n 0 (m - 1) = !inB n m := by
  rw [Bool.eq_iff_iff]; simp only [outs, inB, decide_eq_true_eq, Bool.not_eq_true', decide_eq_false_iff_not]; omega
theorem outs_k (k : Int) : outs k 1 8 = decide (nobj k = 0) := by
  rw [Bool.eq_iff_iff]; simp only [outs, decide_eq_true_eq]; unfold nobj; repeat' split
  all_goals omega
set_option maxHeartbeats 2000000 in
theorem isEvent_any (e : Ev) (w : World) : Calls Try.prog 48 #[.agg (evv e)] w fun e' w' => e' = .returned (.bool (isEv e)) ∧ Below w.heap.size w w' := by
  obtain ⟨b1, hB, hs⟩ := boxes1 w (evv e) 50
  generalize hW : w.alloc (.cells (evv e) 50) = W at *
  have HB := Lib.hid hB
  clear hB hs
  have c0 := b1.cell 0 (v := .int .i64 e.k) rfl
  have c1 := b1.cell 1 (v := .int .i64 e.t) rfl
  have c2 := b1.cell 2 (v := .int .i64 e.o) rfl
  clear b1
  cases h1 : outs e.k 1 8
  · cases h2 : outs e.t 0 5
    · obtain ⟨k, t, o⟩ := e
      have h3 : inB t 6 = true := by have := outs_inB t 6; rw [show (6 : Int) - 1 = 5 from rfl, h2] at this; simpa using this.symm
      have hv : isEv ⟨k, t, o⟩ = inB o (nobj k) := by simp [isEv, h3]
      have HV := Lib.hid hv
      clear hv h3
      have ho := outs_inB o (nobj k)
      rcases kinds k with rfl | rfl | rfl | rfl | rfl | rfl | rfl | rfl | hk
      case inr.inr.inr.inr.inr.inr.inr.inr => rw [outs_k, nobj_else hk] at h1; cases h1
      case inl =>
        have HO := Lib.hid ho
        clear ho
        have hwr : IntKind.i64.wrap 0 = 0 := by decide +kernel
        have F : ∀ w1, Below W.heap.size W w1 → w1.cell? ⟨w.heap.size, 0, none⟩ = some (.int .i64 1) ∧ w1.cell? ⟨w.heap.size, 2, none⟩ = some (.int .i64 o) := fun w1 h => ⟨Bel.cell h c0, Bel.cell h c2⟩
        go_enter Try.func48, Try.ntmps48
        go_wp2_with (first | (go_at_call 68; (with_reducible refine (outside_any _ _ _ _).mono ?_); rintro e w' ⟨rfl, rfl⟩))
        refine region_grow (by kernel_rfl) ?_
        (repeat (first | ((first | refine wpG_go 0 (by simp only [List.getElem?_toArray, List.getElem?_cons_zero, List.getElem?_cons_succ] <;> rfl) (by decide +kernel) (by decide +kernel) (by kernel_rfl) (by rfl) (by exact fun _ _ _ _ h => h) (Nat.le_refl _) ?_ | refine wpG_go 1 (by simp only [List.getElem?_toArray, List.getElem?_cons_zero, List.getElem?_cons_succ] <;> rfl) (by decide +kernel) (by decide +kernel) (by kernel_rfl) (by rfl) (by exact fun _ _ _ _ h => h) (Nat.le_refl _) ?_ | refine wpG_go 3 (by simp only [List.getElem?_toArray, List.getElem?_cons_zero, List.getElem?_cons_succ] <;> rfl) (by decide +kernel) (by decide +kernel) (by kernel_rfl) (by rfl) (by exact fun _ _ _ _ h => h) (Nat.le_refl _) ?_ | refine wpG_go 4 (by simp only [List.getElem?_toArray, List.getElem?_cons_zero, List.getElem?_cons_succ] <;> rfl) (by decide +kernel) (by decide +kernel) (by kernel_rfl) (by rfl) (by exact fun _ _ _ _ h => h) (Nat.le_refl _) ?_ | refine wpG_go 5 (by simp only [List.getElem?_toArray, List.getElem?_cons_zero, List.getElem?_cons_succ] <;> rfl) (by decide +kernel) (by decide +kernel) (by kernel_rfl) (by rfl) (by exact fun _ _ _ _ h => h) (Nat.le_refl _) ?_); apply Exists.intro; refine ⟨fun w1 h1 => ?_, ?_⟩; (first | exact g_move _ rfl | exact g_assign _ rfl | (have fct0 := F w1 h1; go_simp; first | exact ⟨rfl, rfl⟩ | rfl)); simp only [Act.put, Act.eval, List.setIfInBounds_toArray, List.set_cons_zero, List.set_cons_succ, Array.getD_eq_getD_getElem?, List.getElem?_toArray, List.getElem?_cons_zero, List.getElem?_cons_succ, Option.getD_some]) | ((first | refine wpG_skip 0 (by simp only [List.getElem?_toArray, List.getElem?_cons_zero, List.getElem?_cons_succ] <;> rfl) (by decide +kernel) (by decide +kernel) (by kernel_rfl) (by rfl) (by exact fun _ _ _ _ h => h) (Nat.le_refl _) ?_ | refine wpG_skip 1 (by simp only [List.getElem?_toArray, List.getElem?_cons_zero, List.getElem?_cons_succ] <;> rfl) (by decide +kernel) (by decide +kernel) (by kernel_rfl) (by rfl) (by exact fun _ _ _ _ h => h) (Nat.le_refl _) ?_ | refine wpG_skip 3 (by simp only [List.getElem?_toArray, List.getElem?_cons_zero, List.getElem?_cons_succ] <;> rfl) (by decide +kernel) (by decide +kernel) (by kernel_rfl) (by rfl) (by exact fun _ _ _ _ h => h) (Nat.le_refl _) ?_ | refine wpG_skip 4 (by simp only [List.getElem?_toArray, List.getElem?_cons_zero, List.getElem?_cons_succ] <;> rfl) (by decide +kernel) (by decide +kernel) (by kernel_rfl) (by rfl) (by exact fun _ _ _ _ h => h) (Nat.le_refl _) ?_ | refine wpG_skip 5 (by simp only [List.getElem?_toArray, List.getElem?_cons_zero, List.getElem?_cons_succ] <;> rfl) (by decide +kernel) (by decide +kernel) (by kernel_rfl) (by rfl) (by exact fun _ _ _ _ h => h) (Nat.le_refl _) ?_); simp only [Act.put, Act.eval, List.setIfInBounds_toArray, List.set_cons_zero, List.set_cons_succ, Array.getD_eq_getD_getElem?, List.getElem?_toArray, List.getElem?_cons_zero, List.getElem?_cons_succ, Option.getD_some])))
        (refine wpG_one 2 (by decide +kernel) ?_; intro w1 hw1; refine op_wanted (by simp only [List.getElem?_toArray, List.getElem?_cons_zero, List.getElem?_cons_succ] <;> rfl) rfl ?_)
        go_simp
        refine ⟨Below.alloc (Below.refl _ _) hw1.size _, ?_⟩
        refine wpG_raise (M := w1.heap.size + 1) (Nat.le_succ_of_le hw1.size) _ _ _ _ ?_
        have HW := Lib.hid (Bel.trans HB.out hw1)
        have hz : W.heap.size ≤ w1.heap.size := hw1.size
        clear hw1
        have bn := fun (w2 : World) (h : Below (w1.heap.size + 1) (w1.alloc (.cells #[.int .i64 7, .int .i64 7, .int .i64 4, .int .i64 4, .int .i64 5, .int .i64 5, .int .i64 3, .int .i64 3] 3)) w2) => (h.cell (p := ⟨w1.heap.size, 0, none⟩) (Nat.lt_succ_self _)).trans ((Box.new w1 _ _).cell (v := .int .i64 7) 0 rfl)
        (repeat (first | ((first | refine wpG_go 6 (by simp only [List.getElem?_toArray, List.getElem?_cons_zero, List.getElem?_cons_succ] <;> rfl) (by decide +kernel) (by decide +kernel) (by kernel_rfl) (by rfl) (by exact fun _ _ _ _ h => h) (by simp) ?_ | refine wpG_go 7 (by simp only [List.getElem?_toArray, List.getElem?_cons_zero, List.getElem?_cons_succ] <;> rfl) (by decide +kernel) (by decide +kernel) (by kernel_rfl) (by rfl) (by exact fun _ _ _ _ h => h) (by simp) ?_ | refine wpG_go 8 (by simp only [List.getElem?_toArray, List.getElem?_cons_zero, List.getElem?_cons_succ] <;> rfl) (by decide +kernel) (by decide +kernel) (by kernel_rfl) (by rfl) (by exact fun _ _ _ _ h => h) (by simp) ?_ | refine wpG_go 9 (by simp only [List.getElem?_toArray, List.getElem?_cons_zero, List.getElem?_cons_succ] <;> rfl) (by decide +kernel) (by decide +kernel) (by kernel_rfl) (by rfl) (by exact fun _ _ _ _ h => h) (by simp) ?_ | refine wpG_go 10 (by simp only [List.getElem?_toArray, List.getElem?_cons_zero, List.getElem?_cons_succ] <;> rfl) (by decide +kernel) (by decide +kernel) (by kernel_rfl) (by rfl) (by exact fun _ _ _ _ h => h) (by simp) ?_); apply Exists.intro; refine ⟨fun w1 h1 => ?_, ?_⟩; (first | exact g_move _ rfl | exact g_assign _ rfl | (have fct0 := bn w1 h1; go_simp; first | exact ⟨rfl, rfl⟩ | rfl | (go_at_call 68; (with_reducible refine (outside_any o 0 7 _).mono ?_); rintro e w' ⟨rfl, hb⟩; first | exact ⟨rfl, hb⟩ | exact ⟨rfl, hb ▸ Bel.refl _⟩))); simp only [Act.put, Act.eval, List.setIfInBounds_toArray, List.set_cons_zero, List.set_cons_succ, Array.getD_eq_getD_getElem?, List.getElem?_toArray, List.getElem?_cons_zero, List.getElem?_cons_succ, Option.getD_some]) | ((first | refine wpG_skip 6 (by simp only [List.getElem?_toArray, List.getElem?_cons_zero, List.getElem?_cons_succ] <;> rfl) (by decide +kernel) (by decide +kernel) (by kernel_rfl) (by rfl) (by exact fun _ _ _ _ h => h) (by simp) ?_ | refine wpG_skip 7 (by simp only [List.getElem?_toArray, List.getElem?_cons_zero, List.getElem?_cons_succ] <;> rfl) (by decide +kernel) (by decide +kernel) (by kernel_rfl) (by rfl) (by exact fun _ _ _ _ h => h) (by simp) ?_ | refine wpG_skip 8 (by simp only [List.getElem?_toArray, List.getElem?_cons_zero, List.getElem?_cons_succ] <;> rfl) (by decide +kernel) (by decide +kernel) (by kernel_rfl) (by rfl) (by exact fun _ _ _ _ h => h) (by simp) ?_ | refine wpG_skip 9 (by simp only [List.getElem?_toArray, List.getElem?_cons_zero, List.getElem?_cons_succ] <;> rfl) (by decide +kernel) (by decide +kernel) (by kernel_rfl) (by rfl) (by exact fun _ _ _ _ h => h) (by simp) ?_ | refine wpG_skip 10 (by simp only [List.getElem?_toArray, List.getElem?_cons_zero, List.getElem?_cons_succ] <;> rfl) (by decide +kernel) (by decide +kernel) (by kernel_rfl) (by rfl) (by exact fun _ _ _ _ h => h) (by simp) ?_); simp only [Act.put, Act.eval, List.setIfInBounds_toArray, List.set_cons_zero, List.set_cons_succ, Array.getD_eq_getD_getElem?, List.getElem?_toArray, List.getElem?_cons_zero, List.getElem?_cons_succ, Option.getD_some])))
        (refine wpG_done (by decide +kernel) ?_ _; intro w2 hw2; try simp only [Act.put, Act.eval, List.setIfInBounds_toArray, List.set_cons_zero, List.set_cons_succ, Array.getD_eq_getD_getElem?, List.getElem?_toArray, List.getElem?_cons_zero, List.getElem?_cons_succ, Option.getD_some])
        go_wp2
        go_ret
        exact ⟨by rw [HV.out]; exact ret_val (congrArg Value.bool (by have h : outs o 0 7 = !inB o (nobj 1) := HO.out; rw [h, Bool.not_not])), (HW.out.alloc _).trans hw2⟩
      case inr.inl =>
        have HO := Lib.hid ho
        clear ho
        have hwr : IntKind.i64.wrap 1 = 1 := by decide +kernel
        have F : ∀ w1, Below W.heap.size W w1 → w1.cell? ⟨w.heap.size, 0, none⟩ = some (.int .i64 2) ∧ w1.cell? ⟨w.heap.size, 2, none⟩ = some (.int .i64 o) := fun w1 h => ⟨Bel.cell h c0, Bel.cell h c2⟩
        go_enter Try.func48, Try.ntmps48
        go_wp2_with (first | (go_at_call 68; (with_reducible refine (outside_any _ _ _ _).mono ?_); rintro e w' ⟨rfl, rfl⟩))
        refine region_grow (by kernel_rfl) ?_
        (repeat (first | ((first | refine wpG_go 0 (by simp only [List.getElem?_toArray, List.getElem?_cons_zero, List.getElem?_cons_succ] <;> rfl) (by decide +kernel) (by decide +kernel) (by kernel_rfl) (by rfl) (by exact fun _ _ _ _ h => h) (Nat.le_refl _) ?_ | refine wpG_go 1 (by simp only [List.getElem?_toArray, List.getElem?_cons_zero, List.getElem?_cons_succ] <;> rfl) (by decide +kernel) (by decide +kernel) (by kernel_rfl) (by rfl) (by exact fun _ _ _ _ h => h) (Nat.le_refl _) ?_ | refine wpG_go 3 (by simp only [List.getElem?_toArray, List.getElem?_cons_zero, List.getElem?_cons_succ] <;> rfl) (by decide +kernel) (by decide +kernel) (by kernel_rfl) (by rfl) (by exact fun _ _ _ _ h => h) (Nat.le_refl _) ?_ | refine wpG_go 4 (by simp only [List.getElem?_toArray, List.getElem?_cons_zero, List.getElem?_cons_succ] <;> rfl) (by decide +kernel) (by decide +kernel) (by kernel_rfl) (by rfl) (by exact fun _ _ _ _ h => h) (Nat.le_refl _) ?_ | refine wpG_go 5 (by simp only [List.getElem?_toArray, List.getElem?_cons_zero, List.getElem?_cons_succ] <;> rfl) (by decide +kernel) (by decide +kernel) (by kernel_rfl) (by rfl) (by exact fun _ _ _ _ h => h) (Nat.le_refl _) ?_); apply Exists.intro; refine ⟨fun w1 h1 => ?_, ?_⟩; (first | exact g_move _ rfl | exact g_assign _ rfl | (have fct0 := F w1 h1; go_simp; first | exact ⟨rfl, rfl⟩ | rfl)); simp only [Act.put, Act.eval, List.setIfInBounds_toArray, List.set_cons_zero, List.set_cons_succ, Array.getD_eq_getD_getElem?, List.getElem?_toArray, List.getElem?_cons_zero, List.getElem?_cons_succ, Option.getD_some]) | ((first | refine wpG_skip 0 (by simp only [List.getElem?_toArray, List.getElem?_cons_zero, List.getElem?_cons_succ] <;> rfl) (by decide +kernel) (by decide +kernel) (by kernel_rfl) (by rfl) (by exact fun _ _ _ _ h => h) (Nat.le_refl _) ?_ | refine wpG_skip 1 (by simp only [List.getElem?_toArray, List.getElem?_cons_zero, List.getElem?_cons_succ] <;> rfl) (by decide +kernel) (by decide +kernel) (by kernel_rfl) (by rfl) (by exact fun _ _ _ _ h => h) (Nat.le_refl _) ?_ | refine wpG_skip 3 (by simp only [List.getElem?_toArray, List.getElem?_cons_zero, List.getElem?_cons_succ] <;> rfl) (by decide +kernel) (by decide +kernel) (by kernel_rfl) (by rfl) (by exact fun _ _ _ _ h => h) (Nat.le_refl _) ?_ | refine wpG_skip 4 (by simp only [List.getElem?_toArray, List.getElem?_cons_zero, List.getElem?_cons_succ] <;> rfl) (by decide +kernel) (by decide +kernel) (by kernel_rfl) (by rfl) (by exact fun _ _ _ _ h => h) (Nat.le_refl _) ?_ | refine wpG_skip 5 (by simp only [List.getElem?_toArray, List.getElem?_cons_zero, List.getElem?_cons_succ] <;> rfl) (by decide +kernel) (by decide +kernel) (by kernel_rfl) (by rfl) (by exact fun _ _ _ _ h => h) (Nat.le_refl _) ?_); simp only [Act.put, Act.eval, List.setIfInBounds_toArray, List.set_cons_zero, List.set_cons_succ, Array.getD_eq_getD_getElem?, List.getElem?_toArray, List.getElem?_cons_zero, List.getElem?_cons_succ, Option.getD_some])))
        (refine wpG_one 2 (by decide +kernel) ?_; intro w1 hw1; refine op_wanted (by simp only [List.getElem?_toArray, List.getElem?_cons_zero, List.getElem?_cons_succ] <;> rfl) rfl ?_)
        go_simp
        refine ⟨Below.alloc (Below.refl _ _) hw1.size _, ?_⟩
        refine wpG_raise (M := w1.heap.size + 1) (Nat.le_succ_of_le hw1.size) _ _ _ _ ?_
        have HW := Lib.hid (Bel.trans HB.out hw1)
        have hz : W.heap.size ≤ w1.heap.size := hw1.size
        clear hw1
        have bn := fun (w2 : World) (h : Below (w1.heap.size + 1) (w1.alloc (.cells #[.int .i64 7, .int .i64 7, .int .i64 4, .int .i64 4, .int .i64 5, .int .i64 5, .int .i64 3, .int .i64 3] 3)) w2) => (h.cell (p := ⟨w1.heap.size, 1, none⟩) (Nat.lt_succ_self _)).trans ((Box.new w1 _ _).cell (v := .int .i64 7) 1 rfl)
        (repeat (first | ((first | refine wpG_go 6 (by simp only [List.getElem?_toArray, List.getElem?_cons_zero, List.getElem?_cons_succ] <;> rfl) (by decide +kernel) (by decide +kernel) (by kernel_rfl) (by rfl) (by exact fun _ _ _ _ h => h) (by simp) ?_ | refine wpG_go 7 (by simp only [List.getElem?_toArray, List.getElem?_cons_zero, List.getElem?_cons_succ] <;> rfl) (by decide +kernel) (by decide +kernel) (by kernel_rfl) (by rfl) (by exact fun _ _ _ _ h => h) (by simp) ?_ | refine wpG_go 8 (by simp only [List.getElem?_toArray, List.getElem?_cons_zero, List.getElem?_cons_succ] <;> rfl) (by decide +kernel) (by decide +kernel) (by kernel_rfl) (by rfl) (by exact fun _ _ _ _ h => h) (by simp) ?_ | refine wpG_go 9 (by simp only [List.getElem?_toArray, List.getElem?_cons_zero, List.getElem?_cons_succ] <;> rfl) (by decide +kernel) (by decide +kernel) (by kernel_rfl) (by rfl) (by exact fun _ _ _ _ h => h) (by simp) ?_ | refine wpG_go 10 (by simp only [List.getElem?_toArray, List.getElem?_cons_zero, List.getElem?_cons_succ] <;> rfl) (by decide +kernel) (by decide +kernel) (by kernel_rfl) (by rfl) (by exact fun _ _ _ _ h => h) (by simp) ?_); apply Exists.intro; refine ⟨fun w1 h1 => ?_, ?_⟩; (first | exact g_move _ rfl | exact g_assign _ rfl | (have fct0 := bn w1 h1; go_simp; first | exact ⟨rfl, rfl⟩ | rfl | (go_at_call 68; (with_reducible refine (outside_any o 0 7 _).mono ?_); rintro e w' ⟨rfl, hb⟩; first | exact ⟨rfl, hb⟩ | exact ⟨rfl, hb ▸ Bel.refl _⟩))); simp only [Act.put, Act.eval, List.setIfInBounds_toArray, List.set_cons_zero, List.set_cons_succ, Array.getD_eq_getD_getElem?, List.getElem?_toArray, List.getElem?_cons_zero, List.getElem?_cons_succ, Option.getD_some]) | ((first | refine wpG_skip 6 (by simp only [List.getElem?_toArray, List.getElem?_cons_zero, List.getElem?_cons_succ] <;> rfl) (by decide +kernel) (by decide +kernel) (by kernel_rfl) (by rfl) (by exact fun _ _ _ _ h => h) (by simp) ?_ | refine wpG_skip 7 (by simp only [List.getElem?_toArray, List.getElem?_cons_zero, List.getElem?_cons_succ] <;> rfl) (by decide +kernel) (by decide +kernel) (by kernel_rfl) (by rfl) (by exact fun _ _ _ _ h => h) (by simp) ?_ | refine wpG_skip 8 (by simp only [List.getElem?_toArray, List.getElem?_cons_zero, List.getElem?_cons_succ] <;> rfl) (by decide +kernel) (by decide +kernel) (by kernel_rfl) (by rfl) (by exact fun _ _ _ _ h => h) (by simp) ?_ | refine wpG_skip 9 (by simp only [List.getElem?_toArray, List.getElem?_cons_zero, List.getElem?_cons_succ] <;> rfl) (by decide +kernel) (by decide +kernel) (by kernel_rfl) (by rfl) (by exact fun _ _ _ _ h => h) (by simp) ?_ | refine wpG_skip 10 (by simp only [List.getElem?_toArray, List.getElem?_cons_zero, List.getElem?_cons_succ] <;> rfl) (by decide +kernel) (by decide +kernel) (by kernel_rfl) (by rfl) (by exact fun _ _ _ _ h => h) (by simp) ?_); simp only [Act.put, Act.eval, List.setIfInBounds_toArray, List.set_cons_zero, List.set_cons_succ, Array.getD_eq_getD_getElem?, List.getElem?_toArray, List.getElem?_cons_zero, List.getElem?_cons_succ, Option.getD_some])))
        (refine wpG_done (by decide +kernel) ?_ _; intro w2 hw2; try simp only [Act.put, Act.eval, List.setIfInBounds_toArray, List.set_cons_zero, List.set_cons_succ, Array.getD_eq_getD_getElem?, List.getElem?_toArray, List.getElem?_cons_zero, List.getElem?_cons_succ, Option.getD_some])
        go_wp2
        go_ret
        exact ⟨by rw [HV.out]; exact ret_val (congrArg Value.bool (by have h : outs o 0 7 = !inB o (nobj 2) := HO.out; rw [h, Bool.not_not])), (HW.out.alloc _).trans hw2⟩
      case inr.inr.inl =>
        have HO := Lib.hid ho
        clear ho
        have hwr : IntKind.i64.wrap 2 = 2 := by decide +kernel
        have F : ∀ w1, Below W.heap.size W w1 → w1.cell? ⟨w.heap.size, 0, none⟩ = some (.int .i64 3) ∧ w1.cell? ⟨w.heap.size, 2, none⟩ = some (.int .i64 o) := fun w1 h => ⟨Bel.cell h c0, Bel.cell h c2⟩
        go_enter Try.func48, Try.ntmps48
        go_wp2_with (first | (go_at_call 68; (with_reducible refine (outside_any _ _ _ _).mono ?_); rintro e w' ⟨rfl, rfl⟩))
        refine region_grow (by kernel_rfl) ?_
        (repeat (first | ((first | refine wpG_go 0 (by simp only [List.getElem?_toArray, List.getElem?_cons_zero, List.getElem?_cons_succ] <;> rfl) (by decide +kernel) (by decide +kernel) (by kernel_rfl) (by rfl) (by exact fun _ _ _ _ h => h) (Nat.le_refl _) ?_ | refine wpG_go 1 (by simp only [List.getElem?_toArray, List.getElem?_cons_zero, List.getElem?_cons_succ] <;> rfl) (by decide +kernel) (by decide +kernel) (by kernel_rfl) (by rfl) (by exact fun _ _ _ _ h => h) (Nat.le_refl _) ?_ | refine wpG_go 3 (by simp only [List.getElem?_toArray, List.getElem?_cons_zero, List.getElem?_cons_succ] <;> rfl) (by decide +kernel) (by decide +kernel) (by kernel_rfl) (by rfl) (by exact fun _ _ _ _ h => h) (Nat.le_refl _) ?_ | refine wpG_go 4 (by simp only [List.getElem?_toArray, List.getElem?_cons_zero, List.getElem?_cons_succ] <;> rfl) (by decide +kernel) (by decide +kernel) (by kernel_rfl) (by rfl) (by exact fun _ _ _ _ h => h) (Nat.le_refl _) ?_ | refine wpG_go 5 (by simp only [List.getElem?_toArray, List.getElem?_cons_zero, List.getElem?_cons_succ] <;> rfl) (by decide +kernel) (by decide +kernel) (by kernel_rfl) (by rfl) (by exact fun _ _ _ _ h => h) (Nat.le_refl _) ?_); apply Exists.intro; refine ⟨fun w1 h1 => ?_, ?_⟩; (first | exact g_move _ rfl | exact g_assign _ rfl | (have fct0 := F w1 h1; go_simp; first | exact ⟨rfl, rfl⟩ | rfl)); simp only [Act.put, Act.eval, List.setIfInBounds_toArray, List.set_cons_zero, List.set_cons_succ, Array.getD_eq_getD_getElem?, List.getElem?_toArray, List.getElem?_cons_zero, List.getElem?_cons_succ, Option.getD_some]) | ((first | refine wpG_skip 0 (by simp only [List.getElem?_toArray, List.getElem?_cons_zero, List.getElem?_cons_succ] <;> rfl) (by decide +kernel) (by decide +kernel) (by kernel_rfl) (by rfl) (by exact fun _ _ _ _ h => h) (Nat.le_refl _) ?_ | refine wpG_skip 1 (by simp only [List.getElem?_toArray, List.getElem?_cons_zero, List.getElem?_cons_succ] <;> rfl) (by decide +kernel) (by decide +kernel) (by kernel_rfl) (by rfl) (by exact fun _ _ _ _ h => h) (Nat.le_refl _) ?_ | refine wpG_skip 3 (by simp only [List.getElem?_toArray, List.getElem?_cons_zero, List.getElem?_cons_succ] <;> rfl) (by decide +kernel) (by decide +kernel) (by kernel_rfl) (by rfl) (by exact fun _ _ _ _ h => h) (Nat.le_refl _) ?_ | refine wpG_skip 4 (by simp only [List.getElem?_toArray, List.getElem?_cons_zero, List.getElem?_cons_succ] <;> rfl) (by decide +kernel) (by decide +kernel) (by kernel_rfl) (by rfl) (by exact fun _ _ _ _ h => h) (Nat.le_refl _) ?_ | refine wpG_skip 5 (by simp only [List.getElem?_toArray, List.getElem?_cons_zero, List.getElem?_cons_succ] <;> rfl) (by decide +kernel) (by decide +kernel) (by kernel_rfl) (by rfl) (by exact fun _ _ _ _ h => h) (Nat.le_refl _) ?_); simp only [Act.put, Act.eval, List.setIfInBounds_toArray, List.set_cons_zero, List.set_cons_succ, Array.getD_eq_getD_getElem?, List.getElem?_toArray, List.getElem?_cons_zero, List.getElem?_cons_succ, Option.getD_some])))
        (refine wpG_one 2 (by decide +kernel) ?_; intro w1 hw1; refine op_wanted (by simp only [List.getElem?_toArray, List.getElem?_cons_zero, List.getElem?_cons_succ] <;> rfl) rfl ?_)
        go_simp
        refine ⟨Below.alloc (Below.refl _ _) hw1.size _, ?_⟩
        refine wpG_raise (M := w1.heap.size + 1) (Nat.le_succ_of_le hw1.size) _ _ _ _ ?_
        have HW := Lib.hid (Bel.trans HB.out hw1)
        have hz : W.heap.size ≤ w1.heap.size := hw1.size
        clear hw1
        have bn := fun (w2 : World) (h : Below (w1.heap.size + 1) (w1.alloc (.cells #[.int .i64 7, .int .i64 7, .int .i64 4, .int .i64 4, .int .i64 5, .int .i64 5, .int .i64 3, .int .i64 3] 3)) w2) => (h.cell (p := ⟨w1.heap.size, 2, none⟩) (Nat.lt_succ_self _)).trans ((Box.new w1 _ _).cell (v := .int .i64 4) 2 rfl)
        (repeat (first | ((first | refine wpG_go 6 (by simp only [List.getElem?_toArray, List.getElem?_cons_zero, List.getElem?_cons_succ] <;> rfl) (by decide +kernel) (by decide +kernel) (by kernel_rfl) (by rfl) (by exact fun _ _ _ _ h => h) (by simp) ?_ | refine wpG_go 7 (by simp only [List.getElem?_toArray, List.getElem?_cons_zero, List.getElem?_cons_succ] <;> rfl) (by decide +kernel) (by decide +kernel) (by kernel_rfl) (by rfl) (by exact fun _ _ _ _ h => h) (by simp) ?_ | refine wpG_go 8 (by simp only [List.getElem?_toArray, List.getElem?_cons_zero, List.getElem?_cons_succ] <;> rfl) (by decide +kernel) (by decide +kernel) (by kernel_rfl) (by rfl) (by exact fun _ _ _ _ h => h) (by simp) ?_ | refine wpG_go 9 (by simp only [List.getElem?_toArray, List.getElem?_cons_zero, List.getElem?_cons_succ] <;> rfl) (by decide +kernel) (by decide +kernel) (by kernel_rfl) (by rfl) (by exact fun _ _ _ _ h => h) (by simp) ?_ | refine wpG_go 10 (by simp only [List.getElem?_toArray, List.getElem?_cons_zero, List.getElem?_cons_succ] <;> rfl) (by decide +kernel) (by decide +kernel) (by kernel_rfl) (by rfl) (by exact fun _ _ _ _ h => h) (by simp) ?_); apply Exists.intro; refine ⟨fun w1 h1 => ?_, ?_⟩; (first | exact g_move _ rfl | exact g_assign _ rfl | (have fct0 := bn w1 h1; go_simp; first | exact ⟨rfl, rfl⟩ | rfl | (go_at_call 68; (with_reducible refine (outside_any o 0 4 _).mono ?_); rintro e w' ⟨rfl, hb⟩; first | exact ⟨rfl, hb⟩ | exact ⟨rfl, hb ▸ Bel.refl _⟩))); simp only [Act.put, Act.eval, List.setIfInBounds_toArray, List.set_cons_zero, List.set_cons_succ, Array.getD_eq_getD_getElem?, List.getElem?_toArray, List.getElem?_cons_zero, List.getElem?_cons_succ, Option.getD_some]) | ((first | refine wpG_skip 6 (by simp only [List.getElem?_toArray, List.getElem?_cons_zero, List.getElem?_cons_succ] <;> rfl) (by decide +kernel) (by decide +kernel) (by kernel_rfl) (by rfl) (by exact fun _ _ _ _ h => h) (by simp) ?_ | refine wpG_skip 7 (by simp only [List.getElem?_toArray, List.getElem?_cons_zero, List.getElem?_cons_succ] <;> rfl) (by decide +kernel) (by decide +kernel) (by kernel_rfl) (by rfl) (by exact fun _ _ _ _ h => h) (by simp) ?_ | refine wpG_skip 8 (by simp only [List.getElem?_toArray, List.getElem?_cons_zero, List.getElem?_cons_succ] <;> rfl) (by decide +kernel) (by decide +kernel) (by kernel_rfl) (by rfl) (by exact fun _ _ _ _ h => h) (by simp) ?_ | refine wpG_skip 9 (by simp only [List.getElem?_toArray, List.getElem?_cons_zero, List.getElem?_cons_succ] <;> rfl) (by decide +kernel) (by decide +kernel) (by kernel_rfl) (by rfl) (by exact fun _ _ _ _ h => h) (by simp) ?_ | refine wpG_skip 10 (by simp only [List.getElem?_toArray, List.getElem?_cons_zero, List.getElem?_cons_succ] <;> rfl) (by decide +kernel) (by decide +kernel) (by kernel_rfl) (by rfl) (by exact fun _ _ _ _ h => h) (by simp) ?_); simp only [Act.put, Act.eval, List.setIfInBounds_toArray, List.set_cons_zero, List.set_cons_succ, Array.getD_eq_getD_getElem?, List.getElem?_toArray, List.getElem?_cons_zero, List.getElem?_cons_succ, Option.getD_some])))
        (refine wpG_done (by decide +kernel) ?_ _; intro w2 hw2; try simp only [Act.put, Act.eval, List.setIfInBounds_toArray, List.set_cons_zero, List.set_cons_succ, Array.getD_eq_getD_getElem?, List.getElem?_toArray, List.getElem?_cons_zero, List.getElem?_cons_succ, Option.getD_some])
        go_wp2
        go_ret
        exact ⟨by rw [HV.out]; exact ret_val (congrArg Value.bool (by have h : outs o 0 4 = !inB o (nobj 3) := HO.out; rw [h, Bool.not_not])), (HW.out.alloc _).trans hw2⟩
      case inr.inr.inr.inl =>
        have HO := Lib.hid ho
        clear ho
        have hwr : IntKind.i64.wrap 3 = 3 := by decide +kernel
        have F : ∀ w1, Below W.heap.size W w1 → w1.cell? ⟨w.heap.size, 0, none⟩ = some (.int .i64 4) ∧ w1.cell? ⟨w.heap.size, 2, none⟩ = some (.int .i64 o) := fun w1 h => ⟨Bel.cell h c0, Bel.cell h c2⟩
        go_enter Try.func48, Try.ntmps48
        go_wp2_with (first | (go_at_call 68; (with_reducible refine (outside_any _ _ _ _).mono ?_); rintro e w' ⟨rfl, rfl⟩))
        refine region_grow (by kernel_rfl) ?_
        (repeat (first | ((first | refine wpG_go 0 (by simp only [List.getElem?_toArray, List.getElem?_cons_zero, List.getElem?_cons_succ] <;> rfl) (by decide +kernel) (by decide +kernel) (by kernel_rfl) (by rfl) (by exact fun _ _ _ _ h => h) (Nat.le_refl _) ?_ | refine wpG_go 1 (by simp only [List.getElem?_toArray, List.getElem?_cons_zero, List.getElem?_cons_succ] <;> rfl) (by decide +kernel) (by decide +kernel) (by kernel_rfl) (by rfl) (by exact fun _ _ _ _ h => h) (Nat.le_refl _) ?_ | refine wpG_go 3 (by simp only [List.getElem?_toArray, List.getElem?_cons_zero, List.getElem?_cons_succ] <;> rfl) (by decide +kernel) (by decide +kernel) (by kernel_rfl) (by rfl) (by exact fun _ _ _ _ h => h) (Nat.le_refl _) ?_ | refine wpG_go 4 (by simp only [List.getElem?_toArray, List.getElem?_cons_zero, List.getElem?_cons_succ] <;> rfl) (by decide +kernel) (by decide +kernel) (by kernel_rfl) (by rfl) (by exact fun _ _ _ _ h => h) (Nat.le_refl _) ?_ | refine wpG_go 5 (by simp only [List.getElem?_toArray, List.getElem?_cons_zero, List.getElem?_cons_succ] <;> rfl) (by decide +kernel) (by decide +kernel) (by kernel_rfl) (by rfl) (by exact fun _ _ _ _ h => h) (Nat.le_refl _) ?_); apply Exists.intro; refine ⟨fun w1 h1 => ?_, ?_⟩; (first | exact g_move _ rfl | exact g_assign _ rfl | (have fct0 := F w1 h1; go_simp; first | exact ⟨rfl, rfl⟩ | rfl)); simp only [Act.put, Act.eval, List.setIfInBounds_toArray, List.set_cons_zero, List.set_cons_succ, Array.getD_eq_getD_getElem?, List.getElem?_toArray, List.getElem?_cons_zero, List.getElem?_cons_succ, Option.getD_some]) | ((first | refine wpG_skip 0 (by simp only [List.getElem?_toArray, List.getElem?_cons_zero, List.getElem?_cons_succ] <;> rfl) (by decide +kernel) (by decide +kernel) (by kernel_rfl) (by rfl) (by exact fun _ _ _ _ h => h) (Nat.le_refl _) ?_ | refine wpG_skip 1 (by simp only [List.getElem?_toArray, List.getElem?_cons_zero, List.getElem?_cons_succ] <;> rfl) (by decide +kernel) (by decide +kernel) (by kernel_rfl) (by rfl) (by exact fun _ _ _ _ h => h) (Nat.le_refl _) ?_ | refine wpG_skip 3 (by simp only [List.getElem?_toArray, List.getElem?_cons_zero, List.getElem?_cons_succ] <;> rfl) (by decide +kernel) (by decide +kernel) (by kernel_rfl) (by rfl) (by exact fun _ _ _ _ h => h) (Nat.le_refl _) ?_ | refine wpG_skip 4 (by simp only [List.getElem?_toArray, List.getElem?_cons_zero, List.getElem?_cons_succ] <;> rfl) (by decide +kernel) (by decide +kernel) (by kernel_rfl) (by rfl) (by exact fun _ _ _ _ h => h) (Nat.le_refl _) ?_ | refine wpG_skip 5 (by simp only [List.getElem?_toArray, List.getElem?_cons_zero, List.getElem?_cons_succ] <;> rfl) (by decide +kernel) (by decide +kernel) (by kernel_rfl) (by rfl) (by exact fun _ _ _ _ h => h) (Nat.le_refl _) ?_); simp only [Act.put, Act.eval, List.setIfInBounds_toArray, List.set_cons_zero, List.set_cons_succ, Array.getD_eq_getD_getElem?, List.getElem?_toArray, List.getElem?_cons_zero, List.getElem?_cons_succ, Option.getD_some])))
        (refine wpG_one 2 (by decide +kernel) ?_; intro w1 hw1; refine op_wanted (by simp only [List.getElem?_toArray, List.getElem?_cons_zero, List.getElem?_cons_succ] <;> rfl) rfl ?_)
        go_simp
        refine ⟨Below.alloc (Below.refl _ _) hw1.size _, ?_⟩
        refine wpG_raise (M := w1.heap.size + 1) (Nat.le_succ_of_le hw1.size) _ _ _ _ ?_
        have HW := Lib.hid (Bel.trans HB.out hw1)
        have hz : W.heap.size ≤ w1.heap.size := hw1.size
        clear hw1
        have bn := fun (w2 : World) (h : Below (w1.heap.size + 1) (w1.alloc (.cells #[.int .i64 7, .int .i64 7, .int .i64 4, .int .i64 4, .int .i64 5, .int .i64 5, .int .i64 3, .int .i64 3] 3)) w2) => (h.cell (p := ⟨w1.heap.size, 3, none⟩) (Nat.lt_succ_self _)).trans ((Box.new w1 _ _).cell (v := .int .i64 4) 3 rfl)
        (repeat (first | ((first | refine wpG_go 6 (by simp only [List.getElem?_toArray, List.getElem?_cons_zero, List.getElem?_cons_succ] <;> rfl) (by decide +kernel) (by decide +kernel) (by kernel_rfl) (by rfl) (by exact fun _ _ _ _ h => h) (by simp) ?_ | refine wpG_go 7 (by simp only [List.getElem?_toArray, List.getElem?_cons_zero, List.getElem?_cons_succ] <;> rfl) (by decide +kernel) (by decide +kernel) (by kernel_rfl) (by rfl) (by exact fun _ _ _ _ h => h) (by simp) ?_ | refine wpG_go 8 (by simp only [List.getElem?_toArray, List.getElem?_cons_zero, List.getElem?_cons_succ] <;> rfl) (by decide +kernel) (by decide +kernel) (by kernel_rfl) (by rfl) (by exact fun _ _ _ _ h => h) (by simp) ?_ | refine wpG_go 9 (by simp only [List.getElem?_toArray, List.getElem?_cons_zero, List.getElem?_cons_succ] <;> rfl) (by decide +kernel) (by decide +kernel) (by kernel_rfl) (by rfl) (by exact fun _ _ _ _ h => h) (by simp) ?_ | refine wpG_go 10 (by simp only [List.getElem?_toArray, List.getElem?_cons_zero, List.getElem?_cons_succ] <;> rfl) (by decide +kernel) (by decide +kernel) (by kernel_rfl) (by rfl) (by exact fun _ _ _ _ h => h) (by simp) ?_); apply Exists.intro; refine ⟨fun w1 h1 => ?_, ?_⟩; (first | exact g_move _ rfl | exact g_assign _ rfl | (have fct0 := bn w1 h1; go_simp; first | exact ⟨rfl, rfl⟩ | rfl | (go_at_call 68; (with_reducible refine (outside_any o 0 4 _).mono ?_); rintro e w' ⟨rfl, hb⟩; first | exact ⟨rfl, hb⟩ | exact ⟨rfl, hb ▸ Bel.refl _⟩))); simp only [Act.put, Act.eval, List.setIfInBounds_toArray, List.set_cons_zero, List.set_cons_succ, Array.getD_eq_getD_getElem?, List.getElem?_toArray, List.getElem?_cons_zero, List.getElem?_cons_succ, Option.getD_some]) | ((first | refine wpG_skip 6 (by simp only [List.getElem?_toArray, List.getElem?_cons_zero, List.getElem?_cons_succ] <;> rfl) (by decide +kernel) (by decide +kernel) (by kernel_rfl) (by rfl) (by exact fun _ _ _ _ h => h) (by simp) ?_ | refine wpG_skip 7 (by simp only [List.getElem?_toArray, List.getElem?_cons_zero, List.getElem?_cons_succ] <;> rfl) (by decide +kernel) (by decide +kernel) (by kernel_rfl) (by rfl) (by exact fun _ _ _ _ h => h) (by simp) ?_ | refine wpG_skip 8 (by simp only [List.getElem?_toArray, List.getElem?_cons_zero, List.getElem?_cons_succ] <;> rfl) (by decide +kernel) (by decide +kernel) (by kernel_rfl) (by rfl) (by exact fun _ _ _ _ h => h) (by simp) ?_ | refine wpG_skip 9 (by simp only [List.getElem?_toArray, List.getElem?_cons_zero, List.getElem?_cons_succ] <;> rfl) (by decide +kernel) (by decide +kernel) (by kernel_rfl) (by rfl) (by exact fun _ _ _ _ h => h) (by simp) ?_ | refine wpG_skip 10 (by simp only [List.getElem?_toArray, List.getElem?_cons_zero, List.getElem?_cons_succ] <;> rfl) (by decide +kernel) (by decide +kernel) (by kernel_rfl) (by rfl) (by exact fun _ _ _ _ h => h) (by simp) ?_); simp only [Act.put, Act.eval, List.setIfInBounds_toArray, List.set_cons_zero, List.set_cons_succ, Array.getD_eq_getD_getElem?, List.getElem?_toArray, List.getElem?_cons_zero, List.getElem?_cons_succ, Option.getD_some])))
        (refine wpG_done (by decide +kernel) ?_ _; intro w2 hw2; try simp only [Act.put, Act.eval, List.setIfInBounds_toArray, List.set_cons_zero, List.set_cons_succ, Array.getD_eq_getD_getElem?, List.getElem?_toArray, List.getElem?_cons_zero, List.getElem?_cons_succ, Option.getD_some])
        go_wp2
        go_ret
        exact ⟨by rw [HV.out]; exact ret_val (congrArg Value.bool (by have h : outs o 0 4 = !inB o (nobj 4) := HO.out; rw [h, Bool.not_not])), (HW.out.alloc _).trans hw2⟩
      case inr.inr.inr.inr.inl =>
        have HO := Lib.hid ho
        clear ho
        have hwr : IntKind.i64.wrap 4 = 4 := by decide +kernel
        have F : ∀ w1, Below W.heap.size W w1 → w1.cell? ⟨w.heap.size, 0, none⟩ = some (.int .i64 5) ∧ w1.cell? ⟨w.heap.size, 2, none⟩ = some (.int .i64 o) := fun w1 h => ⟨Bel.cell h c0, Bel.cell h c2⟩
        go_enter Try.func48, Try.ntmps48
        go_wp2_with (first | (go_at_call 68; (with_reducible refine (outside_any _ _ _ _).mono ?_); rintro e w' ⟨rfl, rfl⟩))
        refine region_grow (by kernel_rfl) ?_
        (repeat (first | ((first | refine wpG_go 0 (by simp only [List.getElem?_toArray, List.getElem?_cons_zero, List.getElem?_cons_succ] <;> rfl) (by decide +kernel) (by decide +kernel) (by kernel_rfl) (by rfl) (by exact fun _ _ _ _ h => h) (Nat.le_refl _) ?_ | refine wpG_go 1 (by simp only [List.getElem?_toArray, List.getElem?_cons_zero, List.getElem?_cons_succ] <;> rfl) (by decide +kernel) (by decide +kernel) (by kernel_rfl) (by rfl) (by exact fun _ _ _ _ h => h) (Nat.le_refl _) ?_ | refine wpG_go 3 (by simp only [List.getElem?_toArray, List.getElem?_cons_zero, List.getElem?_cons_succ] <;> rfl) (by decide +kernel) (by decide +kernel) (by kernel_rfl) (by rfl) (by exact fun _ _ _ _ h => h) (Nat.le_refl _) ?_ | refine wpG_go 4 (by simp only [List.getElem?_toArray, List.getElem?_cons_zero, List.getElem?_cons_succ] <;> rfl) (by decide +kernel) (by decide +kernel) (by kernel_rfl) (by rfl) (by exact fun _ _ _ _ h => h) (Nat.le_refl _) ?_ | refine wpG_go 5 (by simp only [List.getElem?_toArray, List.getElem?_cons_zero, List.getElem?_cons_succ] <;> rfl) (by decide +kernel) (by decide +kernel) (by kernel_rfl) (by rfl) (by exact fun _ _ _ _ h => h) (Nat.le_refl _) ?_); apply Exists.intro; refine ⟨fun w1 h1 => ?_, ?_⟩; (first | exact g_move _ rfl | exact g_assign _ rfl | (have fct0 := F w1 h1; go_simp; first | exact ⟨rfl, rfl⟩ | rfl)); simp only [Act.put, Act.eval, List.setIfInBounds_toArray, List.set_cons_zero, List.set_cons_succ, Array.getD_eq_getD_getElem?, List.getElem?_toArray, List.getElem?_cons_zero, List.getElem?_cons_succ, Option.getD_some]) | ((first | refine wpG_skip 0 (by simp only [List.getElem?_toArray, List.getElem?_cons_zero, List.getElem?_cons_succ] <;> rfl) (by decide +kernel) (by decide +kernel) (by kernel_rfl) (by rfl) (by exact fun _ _ _ _ h => h) (Nat.le_refl _) ?_ | refine wpG_skip 1 (by simp only [List.getElem?_toArray, List.getElem?_cons_zero, List.getElem?_cons_succ] <;> rfl) (by decide +kernel) (by decide +kernel) (by kernel_rfl) (by rfl) (by exact fun _ _ _ _ h => h) (Nat.le_refl _) ?_ | refine wpG_skip 3 (by simp only [List.getElem?_toArray, List.getElem?_cons_zero, List.getElem?_cons_succ] <;> rfl) (by decide +kernel) (by decide +kernel) (by kernel_rfl) (by rfl) (by exact fun _ _ _ _ h => h) (Nat.le_refl _) ?_ | refine wpG_skip 4 (by simp only [List.getElem?_toArray, List.getElem?_cons_zero, List.getElem?_cons_succ] <;> rfl) (by decide +kernel) (by decide +kernel) (by kernel_rfl) (by rfl) (by exact fun _ _ _ _ h => h) (Nat.le_refl _) ?_ | refine wpG_skip 5 (by simp only [List.getElem?_toArray, List.getElem?_cons_zero, List.getElem?_cons_succ] <;> rfl) (by decide +kernel) (by decide +kernel) (by kernel_rfl) (by rfl) (by exact fun _ _ _ _ h => h) (Nat.le_refl _) ?_); simp only [Act.put, Act.eval, List.setIfInBounds_toArray, List.set_cons_zero, List.set_cons_succ, Array.getD_eq_getD_getElem?, List.getElem?_toArray, List.getElem?_cons_zero, List.getElem?_cons_succ, Option.getD_some])))
        (refine wpG_one 2 (by decide +kernel) ?_; intro w1 hw1; refine op_wanted (by simp only [List.getElem?_toArray, List.getElem?_cons_zero, List.getElem?_cons_succ] <;> rfl) rfl ?_)
        go_simp
        refine ⟨Below.alloc (Below.refl _ _) hw1.size _, ?_⟩
        refine wpG_raise (M := w1.heap.size + 1) (Nat.le_succ_of_le hw1.size) _ _ _ _ ?_
        have HW := Lib.hid (Bel.trans HB.out hw1)
        have hz : W.heap.size ≤ w1.heap.size := hw1.size
        clear hw1
        have bn := fun (w2 : World) (h : Below (w1.heap.size + 1) (w1.alloc (.cells #[.int .i64 7, .int .i64 7, .int .i64 4, .int .i64 4, .int .i64 5, .int .i64 5, .int .i64 3, .int .i64 3] 3)) w2) => (h.cell (p := ⟨w1.heap.size, 4, none⟩) (Nat.lt_succ_self _)).trans ((Box.new w1 _ _).cell (v := .int .i64 5) 4 rfl)
        (repeat (first | ((first | refine wpG_go 6 (by simp only [List.getElem?_toArray, List.getElem?_cons_zero, List.getElem?_cons_succ] <;> rfl) (by decide +kernel) (by decide +kernel) (by kernel_rfl) (by rfl) (by exact fun _ _ _ _ h => h) (by simp) ?_ | refine wpG_go 7 (by simp only [List.getElem?_toArray, List.getElem?_cons_zero, List.getElem?_cons_succ] <;> rfl) (by decide +kernel) (by decide +kernel) (by kernel_rfl) (by rfl) (by exact fun _ _ _ _ h => h) (by simp) ?_ | refine wpG_go 8 (by simp only [List.getElem?_toArray, List.getElem?_cons_zero, List.getElem?_cons_succ] <;> rfl) (by decide +kernel) (by decide +kernel) (by kernel_rfl) (by rfl) (by exact fun _ _ _ _ h => h) (by simp) ?_ | refine wpG_go 9 (by simp only [List.getElem?_toArray, List.getElem?_cons_zero, List.getElem?_cons_succ] <;> rfl) (by decide +kernel) (by decide +kernel) (by kernel_rfl) (by rfl) (by exact fun _ _ _ _ h => h) (by simp) ?_ | refine wpG_go 10 (by simp only [List.getElem?_toArray, List.getElem?_cons_zero, List.getElem?_cons_succ] <;> rfl) (by decide +kernel) (by decide +kernel) (by kernel_rfl) (by rfl) (by exact fun _ _ _ _ h => h) (by simp) ?_); apply Exists.intro; refine ⟨fun w1 h1 => ?_, ?_⟩; (first | exact g_move _ rfl | exact g_assign _ rfl | (have fct0 := bn w1 h1; go_simp; first | exact ⟨rfl, rfl⟩ | rfl | (go_at_call 68; (with_reducible refine (outside_any o 0 5 _).mono ?_); rintro e w' ⟨rfl, hb⟩; first | exact ⟨rfl, hb⟩ | exact ⟨rfl, hb ▸ Bel.refl _⟩))); simp only [Act.put, Act.eval, List.setIfInBounds_toArray, List.set_cons_zero, List.set_cons_succ, Array.getD_eq_getD_getElem?, List.getElem?_toArray, List.getElem?_cons_zero, List.getElem?_cons_succ, Option.getD_some]) | ((first | refine wpG_skip 6 (by simp only [List.getElem?_toArray, List.getElem?_cons_zero, List.getElem?_cons_succ] <;> rfl) (by decide +kernel) (by decide +kernel) (by kernel_rfl) (by rfl) (by exact fun _ _ _ _ h => h) (by simp) ?_ | refine wpG_skip 7 (by simp only [List.getElem?_toArray, List.getElem?_cons_zero, List.getElem?_cons_succ] <;> rfl) (by decide +kernel) (by decide +kernel) (by kernel_rfl) (by rfl) (by exact fun _ _ _ _ h => h) (by simp) ?_ | refine wpG_skip 8 (by simp only [List.getElem?_toArray, List.getElem?_cons_zero, List.getElem?_cons_succ] <;> rfl) (by decide +kernel) (by decide +kernel) (by kernel_rfl) (by rfl) (by exact fun _ _ _ _ h => h) (by simp) ?_ | refine wpG_skip 9 (by simp only [List.getElem?_toArray, List.getElem?_cons_zero, List.getElem?_cons_succ] <;> rfl) (by decide +kernel) (by decide +kernel) (by kernel_rfl) (by rfl) (by exact fun _ _ _ _ h => h) (by simp) ?_ | refine wpG_skip 10 (by simp only [List.getElem?_toArray, List.getElem?_cons_zero, List.getElem?_cons_succ] <;> rfl) (by decide +kernel) (by decide +kernel) (by kernel_rfl) (by rfl) (by exact fun _ _ _ _ h => h) (by simp) ?_); simp only [Act.put, Act.eval, List.setIfInBounds_toArray, List.set_cons_zero, List.set_cons_succ, Array.getD_eq_getD_getElem?, List.getElem?_toArray, List.getElem?_cons_zero, List.getElem?_cons_succ, Option.getD_some])))
        (refine wpG_done (by decide +kernel) ?_ _; intro w2 hw2; try simp only [Act.put, Act.eval, List.setIfInBounds_toArray, List.set_cons_zero, List.set_cons_succ, Array.getD_eq_getD_getElem?, List.getElem?_toArray, List.getElem?_cons_zero, List.getElem?_cons_succ, Option.getD_some])
        go_wp2
        go_ret
        exact ⟨by rw [HV.out]; exact ret_val (congrArg Value.bool (by have h : outs o 0 5 = !inB o (nobj 5) := HO.out; rw [h, Bool.not_not])), (HW.out.alloc _).trans hw2⟩
      case inr.inr.inr.inr.inr.inl =>
        have HO := Lib.hid ho
        clear ho
        have hwr : IntKind.i64.wrap 5 = 5 := by decide +kernel
        have F : ∀ w1, Below W.heap.size W w1 → w1.cell? ⟨w.heap.size, 0, none⟩ = some (.int .i64 6) ∧ w1.cell? ⟨w.heap.size, 2, none⟩ = some (.int .i64 o) := fun w1 h => ⟨Bel.cell h c0, Bel.cell h c2⟩
        go_enter Try.func48, Try.ntmps48
        go_wp2_with (first | (go_at_call 68; (with_reducible refine (outside_any _ _ _ _).mono ?_); rintro e w' ⟨rfl, rfl⟩))
        refine region_grow (by kernel_rfl) ?_
        (repeat (first | ((first | refine wpG_go 0 (by simp only [List.getElem?_toArray, List.getElem?_cons_zero, List.getElem?_cons_succ] <;> rfl) (by decide +kernel) (by decide +kernel) (by kernel_rfl) (by rfl) (by exact fun _ _ _ _ h => h) (Nat.le_refl _) ?_ | refine wpG_go 1 (by simp only [List.getElem?_toArray, List.getElem?_cons_zero, List.getElem?_cons_succ] <;> rfl) (by decide +kernel) (by decide +kernel) (by kernel_rfl) (by rfl) (by exact fun _ _ _ _ h => h) (Nat.le_refl _) ?_ | refine wpG_go 3 (by simp only [List.getElem?_toArray, List.getElem?_cons_zero, List.getElem?_cons_succ] <;> rfl) (by decide +kernel) (by decide +kernel) (by kernel_rfl) (by rfl) (by exact fun _ _ _ _ h => h) (Nat.le_refl _) ?_ | refine wpG_go 4 (by simp only [List.getElem?_toArray, List.getElem?_cons_zero, List.getElem?_cons_succ] <;> rfl) (by decide +kernel) (by decide +kernel) (by kernel_rfl) (by rfl) (by exact fun _ _ _ _ h => h) (Nat.le_refl _) ?_ | refine wpG_go 5 (by simp only [List.getElem?_toArray, List.getElem?_cons_zero, List.getElem?_cons_succ] <;> rfl) (by decide +kernel) (by decide +kernel) (by kernel_rfl) (by rfl) (by exact fun _ _ _ _ h => h) (Nat.le_refl _) ?_); apply Exists.intro; refine ⟨fun w1 h1 => ?_, ?_⟩; (first | exact g_move _ rfl | exact g_assign _ rfl | (have fct0 := F w1 h1; go_simp; first | exact ⟨rfl, rfl⟩ | rfl)); simp only [Act.put, Act.eval, List.setIfInBounds_toArray, List.set_cons_zero, List.set_cons_succ, Array.getD_eq_getD_getElem?, List.getElem?_toArray, List.getElem?_cons_zero, List.getElem?_cons_succ, Option.getD_some]) | ((first | refine wpG_skip 0 (by simp only [List.getElem?_toArray, List.getElem?_cons_zero, List.getElem?_cons_succ] <;> rfl) (by decide +kernel) (by decide +kernel) (by kernel_rfl) (by rfl) (by exact fun _ _ _ _ h => h) (Nat.le_refl _) ?_ | refine wpG_skip 1 (by simp only [List.getElem?_toArray, List.getElem?_cons_zero, List.getElem?_cons_succ] <;> rfl) (by decide +kernel) (by decide +kernel) (by kernel_rfl) (by rfl) (by exact fun _ _ _ _ h => h) (Nat.le_refl _) ?_ | refine wpG_skip 3 (by simp only [List.getElem?_toArray, List.getElem?_cons_zero, List.getElem?_cons_succ] <;> rfl) (by decide +kernel) (by decide +kernel) (by kernel_rfl) (by rfl) (by exact fun _ _ _ _ h => h) (Nat.le_refl _) ?_ | refine wpG_skip 4 (by simp only [List.getElem?_toArray, List.getElem?_cons_zero, List.getElem?_cons_succ] <;> rfl) (by decide +kernel) (by decide +kernel) (by kernel_rfl) (by rfl) (by exact fun _ _ _ _ h => h) (Nat.le_refl _) ?_ | refine wpG_skip 5 (by simp only [List.getElem?_toArray, List.getElem?_cons_zero, List.getElem?_cons_succ] <;> rfl) (by decide +kernel) (by decide +kernel) (by kernel_rfl) (by rfl) (by exact fun _ _ _ _ h => h) (Nat.le_refl _) ?_); simp only [Act.put, Act.eval, List.setIfInBounds_toArray, List.set_cons_zero, List.set_cons_succ, Array.getD_eq_getD_getElem?, List.getElem?_toArray, List.getElem?_cons_zero, List.getElem?_cons_succ, Option.getD_some])))
        (refine wpG_one 2 (by decide +kernel) ?_; intro w1 hw1; refine op_wanted (by simp only [List.getElem?_toArray, List.getElem?_cons_zero, List.getElem?_cons_succ] <;> rfl) rfl ?_)
        go_simp
        refine ⟨Below.alloc (Below.refl _ _) hw1.size _, ?_⟩
        refine wpG_raise (M := w1.heap.size + 1) (Nat.le_succ_of_le hw1.size) _ _ _ _ ?_
        have HW := Lib.hid (Bel.trans HB.out hw1)
        have hz : W.heap.size ≤ w1.heap.size := hw1.size
        clear hw1
        have bn := fun (w2 : World) (h : Below (w1.heap.size + 1) (w1.alloc (.cells #[.int .i64 7, .int .i64 7, .int .i64 4, .int .i64 4, .int .i64 5, .int .i64 5, .int .i64 3, .int .i64 3] 3)) w2) => (h.cell (p := ⟨w1.heap.size, 5, none⟩) (Nat.lt_succ_self _)).trans ((Box.new w1 _ _).cell (v := .int .i64 5) 5 rfl)
        (repeat (first | ((first | refine wpG_go 6 (by simp only [List.getElem?_toArray, List.getElem?_cons_zero, List.getElem?_cons_succ] <;> rfl) (by decide +kernel) (by decide +kernel) (by kernel_rfl) (by rfl) (by exact fun _ _ _ _ h => h) (by simp) ?_ | refine wpG_go 7 (by simp only [List.getElem?_toArray, List.getElem?_cons_zero, List.getElem?_cons_succ] <;> rfl) (by decide +kernel) (by decide +kernel) (by kernel_rfl) (by rfl) (by exact fun _ _ _ _ h => h) (by simp) ?_ | refine wpG_go 8 (by simp only [List.getElem?_toArray, List.getElem?_cons_zero, List.getElem?_cons_succ] <;> rfl) (by decide +kernel) (by decide +kernel) (by kernel_rfl) (by rfl) (by exact fun _ _ _ _ h => h) (by simp) ?_ | refine wpG_go 9 (by simp only [List.getElem?_toArray, List.getElem?_cons_zero, List.getElem?_cons_succ] <;> rfl) (by decide +kernel) (by decide +kernel) (by kernel_rfl) (by rfl) (by exact fun _ _ _ _ h => h) (by simp) ?_ | refine wpG_go 10 (by simp only [List.getElem?_toArray, List.getElem?_cons_zero, List.getElem?_cons_succ] <;> rfl) (by decide +kernel) (by decide +kernel) (by kernel_rfl) (by rfl) (by exact fun _ _ _ _ h => h) (by simp) ?_); apply Exists.intro; refine ⟨fun w1 h1 => ?_, ?_⟩; (first | exact g_move _ rfl | exact g_assign _ rfl | (have fct0 := bn w1 h1; go_simp; first | exact ⟨rfl, rfl⟩ | rfl | (go_at_call 68; (with_reducible refine (outside_any o 0 5 _).mono ?_); rintro e w' ⟨rfl, hb⟩; first | exact ⟨rfl, hb⟩ | exact ⟨rfl, hb ▸ Bel.refl _⟩))); simp only [Act.put, Act.eval, List.setIfInBounds_toArray, List.set_cons_zero, List.set_cons_succ, Array.getD_eq_getD_getElem?, List.getElem?_toArray, List.getElem?_cons_zero, List.getElem?_cons_succ, Option.getD_some]) | ((first | refine wpG_skip 6 (by simp only [List.getElem?_toArray, List.getElem?_cons_zero, List.getElem?_cons_succ] <;> rfl) (by decide +kernel) (by decide +kernel) (by kernel_rfl) (by rfl) (by exact fun _ _ _ _ h => h) (by simp) ?_ | refine wpG_skip 7 (by simp only [List.getElem?_toArray, List.getElem?_cons_zero, List.getElem?_cons_succ] <;> rfl) (by decide +kernel) (by decide +kernel) (by kernel_rfl) (by rfl) (by exact fun _ _ _ _ h => h) (by simp) ?_ | refine wpG_skip 8 (by simp only [List.getElem?_toArray, List.getElem?_cons_zero, List.getElem?_cons_succ] <;> rfl) (by decide +kernel) (by decide +kernel) (by kernel_rfl) (by rfl) (by exact fun _ _ _ _ h => h) (by simp) ?_ | refine wpG_skip 9 (by simp only [List.getElem?_toArray, List.getElem?_cons_zero, List.getElem?_cons_succ] <;> rfl) (by decide +kernel) (by decide +kernel) (by kernel_rfl) (by rfl) (by exact fun _ _ _ _ h => h) (by simp) ?_ | refine wpG_skip 10 (by simp only [List.getElem?_toArray, List.getElem?_cons_zero, List.getElem?_cons_succ] <;> rfl) (by decide +kernel) (by decide +kernel) (by kernel_rfl) (by rfl) (by exact fun _ _ _ _ h => h) (by simp) ?_); simp only [Act.put, Act.eval, List.setIfInBounds_toArray, List.set_cons_zero, List.set_cons_succ, Array.getD_eq_getD_getElem?, List.getElem?_toArray, List.getElem?_cons_zero, List.getElem?_cons_succ, Option.getD_some])))
        (refine wpG_done (by decide +kernel) ?_ _; intro w2 hw2; try simp only [Act.put, Act.eval, List.setIfInBounds_toArray, List.set_cons_zero, List.set_cons_succ, Array.getD_eq_getD_getElem?, List.getElem?_toArray, List.getElem?_cons_zero, List.getElem?_cons_succ, Option.getD_some])
        go_wp2
        go_ret
        exact ⟨by rw [HV.out]; exact ret_val (congrArg Value.bool (by have h : outs o 0 5 = !inB o (nobj 6) := HO.out; rw [h, Bool.not_not])), (HW.out.alloc _).trans hw2⟩
      case inr.inr.inr.inr.inr.inr.inl =>
        have HO := Lib.hid ho
        clear ho
        have hwr : IntKind.i64.wrap 6 = 6 := by decide +kernel
        have F : ∀ w1, Below W.heap.size W w1 → w1.cell? ⟨w.heap.size, 0, none⟩ = some (.int .i64 7) ∧ w1.cell? ⟨w.heap.size, 2, none⟩ = some (.int .i64 o) := fun w1 h => ⟨Bel.cell h c0, Bel.cell h c2⟩
        go_enter Try.func48, Try.ntmps48
        go_wp2_with (first | (go_at_call 68; (with_reducible refine (outside_any _ _ _ _).mono ?_); rintro e w' ⟨rfl, rfl⟩))
        refine region_grow (by kernel_rfl) ?_
        (repeat (first | ((first | refine wpG_go 0 (by simp only [List.getElem?_toArray, List.getElem?_cons_zero, List.getElem?_cons_succ] <;> rfl) (by decide +kernel) (by decide +kernel) (by kernel_rfl) (by rfl) (by exact fun _ _ _ _ h => h) (Nat.le_refl _) ?_ | refine wpG_go 1 (by simp only [List.getElem?_toArray, List.getElem?_cons_zero, List.getElem?_cons_succ] <;> rfl) (by decide +kernel) (by decide +kernel) (by kernel_rfl) (by rfl) (by exact fun _ _ _ _ h => h) (Nat.le_refl _) ?_ | refine wpG_go 3 (by simp only [List.getElem?_toArray, List.getElem?_cons_zero, List.getElem?_cons_succ] <;> rfl) (by decide +kernel) (by decide +kernel) (by kernel_rfl) (by rfl) (by exact fun _ _ _ _ h => h) (Nat.le_refl _) ?_ | refine wpG_go 4 (by simp only [List.getElem?_toArray, List.getElem?_cons_zero, List.getElem?_cons_succ] <;> rfl) (by decide +kernel) (by decide +kernel) (by kernel_rfl) (by rfl) (by exact fun _ _ _ _ h => h) (Nat.le_refl _) ?_ | refine wpG_go 5 (by simp only [List.getElem?_toArray, List.getElem?_cons_zero, List.getElem?_cons_succ] <;> rfl) (by decide +kernel) (by decide +kernel) (by kernel_rfl) (by rfl) (by exact fun _ _ _ _ h => h) (Nat.le_refl _) ?_); apply Exists.intro; refine ⟨fun w1 h1 => ?_, ?_⟩; (first | exact g_move _ rfl | exact g_assign _ rfl | (have fct0 := F w1 h1; go_simp; first | exact ⟨rfl, rfl⟩ | rfl)); simp only [Act.put, Act.eval, List.setIfInBounds_toArray, List.set_cons_zero, List.set_cons_succ, Array.getD_eq_getD_getElem?, List.getElem?_toArray, List.getElem?_cons_zero, List.getElem?_cons_succ, Option.getD_some]) | ((first | refine wpG_skip 0 (by simp only [List.getElem?_toArray, List.getElem?_cons_zero, List.getElem?_cons_succ] <;> rfl) (by decide +kernel) (by decide +kernel) (by kernel_rfl) (by rfl) (by exact fun _ _ _ _ h => h) (Nat.le_refl _) ?_ | refine wpG_skip 1 (by simp only [List.getElem?_toArray, List.getElem?_cons_zero, List.getElem?_cons_succ] <;> rfl) (by decide +kernel) (by decide +kernel) (by kernel_rfl) (by rfl) (by exact fun _ _ _ _ h => h) (Nat.le_refl _) ?_ | refine wpG_skip 3 (by simp only [List.getElem?_toArray, List.getElem?_cons_zero, List.getElem?_cons_succ] <;> rfl) (by decide +kernel) (by decide +kernel) (by kernel_rfl) (by rfl) (by exact fun _ _ _ _ h => h) (Nat.le_refl _) ?_ | refine wpG_skip 4 (by simp only [List.getElem?_toArray, List.getElem?_cons_zero, List.getElem?_cons_succ] <;> rfl) (by decide +kernel) (by decide +kernel) (by kernel_rfl) (by rfl) (by exact fun _ _ _ _ h => h) (Nat.le_refl _) ?_ | refine wpG_skip 5 (by simp only [List.getElem?_toArray, List.getElem?_cons_zero, List.getElem?_cons_succ] <;> rfl) (by decide +kernel) (by decide +kernel) (by kernel_rfl) (by rfl) (by exact fun _ _ _ _ h => h) (Nat.le_refl _) ?_); simp only [Act.put, Act.eval, List.setIfInBounds_toArray, List.set_cons_zero, List.set_cons_succ, Array.getD_eq_getD_getElem?, List.getElem?_toArray, List.getElem?_cons_zero, List.getElem?_cons_succ, Option.getD_some])))
        (refine wpG_one 2 (by decide +kernel) ?_; intro w1 hw1; refine op_wanted (by simp only [List.getElem?_toArray, List.getElem?_cons_zero, List.getElem?_cons_succ] <;> rfl) rfl ?_)
        go_simp
        refine ⟨Below.alloc (Below.refl _ _) hw1.size _, ?_⟩
        refine wpG_raise (M := w1.heap.size + 1) (Nat.le_succ_of_le hw1.size) _ _ _ _ ?_
        have HW := Lib.hid (Bel.trans HB.out hw1)
        have hz : W.heap.size ≤ w1.heap.size := hw1.size
        clear hw1
        have bn := fun (w2 : World) (h : Below (w1.heap.size + 1) (w1.alloc (.cells #[.int .i64 7, .int .i64 7, .int .i64 4, .int .i64 4, .int .i64 5, .int .i64 5, .int .i64 3, .int .i64 3] 3)) w2) => (h.cell (p := ⟨w1.heap.size, 6, none⟩) (Nat.lt_succ_self _)).trans ((Box.new w1 _ _).cell (v := .int .i64 3) 6 rfl)
        (repeat (first | ((first | refine wpG_go 6 (by simp only [List.getElem?_toArray, List.getElem?_cons_zero, List.getElem?_cons_succ] <;> rfl) (by decide +kernel) (by decide +kernel) (by kernel_rfl) (by rfl) (by exact fun _ _ _ _ h => h) (by simp) ?_ | refine wpG_go 7 (by simp only [List.getElem?_toArray, List.getElem?_cons_zero, List.getElem?_cons_succ] <;> rfl) (by decide +kernel) (by decide +kernel) (by kernel_rfl) (by rfl) (by exact fun _ _ _ _ h => h) (by simp) ?_ | refine wpG_go 8 (by simp only [List.getElem?_toArray, List.getElem?_cons_zero, List.getElem?_cons_succ] <;> rfl) (by decide +kernel) (by decide +kernel) (by kernel_rfl) (by rfl) (by exact fun _ _ _ _ h => h) (by simp) ?_ | refine wpG_go 9 (by simp only [List.getElem?_toArray, List.getElem?_cons_zero, List.getElem?_cons_succ] <;> rfl) (by decide +kernel) (by decide +kernel) (by kernel_rfl) (by rfl) (by exact fun _ _ _ _ h => h) (by simp) ?_ | refine wpG_go 10 (by simp only [List.getElem?_toArray, List.getElem?_cons_zero, List.getElem?_cons_succ] <;> rfl) (by decide +kernel) (by decide +kernel) (by kernel_rfl) (by rfl) (by exact fun _ _ _ _ h => h) (by simp) ?_); apply Exists.intro; refine ⟨fun w1 h1 => ?_, ?_⟩; (first | exact g_move _ rfl | exact g_assign _ rfl | (have fct0 := bn w1 h1; go_simp; first | exact ⟨rfl, rfl⟩ | rfl | (go_at_call 68; (with_reducible refine (outside_any o 0 3 _).mono ?_); rintro e w' ⟨rfl, hb⟩; first | exact ⟨rfl, hb⟩ | exact ⟨rfl, hb ▸ Bel.refl _⟩))); simp only [Act.put, Act.eval, List.setIfInBounds_toArray, List.set_cons_zero, List.set_cons_succ, Array.getD_eq_getD_getElem?, List.getElem?_toArray, List.getElem?_cons_zero, List.getElem?_cons_succ, Option.getD_some]) | ((first | refine wpG_skip 6 (by simp only [List.getElem?_toArray, List.getElem?_cons_zero, List.getElem?_cons_succ] <;> rfl) (by decide +kernel) (by decide +kernel) (by kernel_rfl) (by rfl) (by exact fun _ _ _ _ h => h) (by simp) ?_ | refine wpG_skip 7 (by simp only [List.getElem?_toArray, List.getElem?_cons_zero, List.getElem?_cons_succ] <;> rfl) (by decide +kernel) (by decide +kernel) (by kernel_rfl) (by rfl) (by exact fun _ _ _ _ h => h) (by simp) ?_ | refine wpG_skip 8 (by simp only [List.getElem?_toArray, List.getElem?_cons_zero, List.getElem?_cons_succ] <;> rfl) (by decide +kernel) (by decide +kernel) (by kernel_rfl) (by rfl) (by exact fun _ _ _ _ h => h) (by simp) ?_ | refine wpG_skip 9 (by simp only [List.getElem?_toArray, List.getElem?_cons_zero, List.getElem?_cons_succ] <;> rfl) (by decide +kernel) (by decide +kernel) (by kernel_rfl) (by rfl) (by exact fun _ _ _ _ h => h) (by simp) ?_ | refine wpG_skip 10 (by simp only [List.getElem?_toArray, List.getElem?_cons_zero, List.getElem?_cons_succ] <;> rfl) (by decide +kernel) (by decide +kernel) (by kernel_rfl) (by rfl) (by exact fun _ _ _ _ h => h) (by simp) ?_); simp only [Act.put, Act.eval, List.setIfInBounds_toArray, List.set_cons_zero, List.set_cons_succ, Array.getD_eq_getD_getElem?, List.getElem?_toArray, List.getElem?_cons_zero, List.getElem?_cons_succ, Option.getD_some])))
        (refine wpG_done (by decide +kernel) ?_ _; intro w2 hw2; try simp only [Act.put, Act.eval, List.setIfInBounds_toArray, List.set_cons_zero, List.set_cons_succ, Array.getD_eq_getD_getElem?, List.getElem?_toArray, List.getElem?_cons_zero, List.getElem?_cons_succ, Option.getD_some])
        go_wp2
        go_ret
        exact ⟨by rw [HV.out]; exact ret_val (congrArg Value.bool (by have h : outs o 0 3 = !inB o (nobj 7) := HO.out; rw [h, Bool.not_not])), (HW.out.alloc _).trans hw2⟩
      case inr.inr.inr.inr.inr.inr.inr.inl =>
        have HO := Lib.hid ho
        clear ho
        have hwr : IntKind.i64.wrap 7 = 7 := by decide +kernel
        have F : ∀ w1, Below W.heap.size W w1 → w1.cell? ⟨w.heap.size, 0, none⟩ = some (.int .i64 8) ∧ w1.cell? ⟨w.heap.size, 2, none⟩ = some (.int .i64 o) := fun w1 h => ⟨Bel.cell h c0, Bel.cell h c2⟩
        go_enter Try.func48, Try.ntmps48
        go_wp2_with (first | (go_at_call 68; (with_reducible refine (outside_any _ _ _ _).mono ?_); rintro e w' ⟨rfl, rfl⟩))
        refine region_grow (by kernel_rfl) ?_
        (repeat (first | ((first | refine wpG_go 0 (by simp only [List.getElem?_toArray, List.getElem?_cons_zero, List.getElem?_cons_succ] <;> rfl) (by decide +kernel) (by decide +kernel) (by kernel_rfl) (by rfl) (by exact fun _ _ _ _ h => h) (Nat.le_refl _) ?_ | refine wpG_go 1 (by simp only [List.getElem?_toArray, List.getElem?_cons_zero, List.getElem?_cons_succ] <;> rfl) (by decide +kernel) (by decide +kernel) (by kernel_rfl) (by rfl) (by exact fun _ _ _ _ h => h) (Nat.le_refl _) ?_ | refine wpG_go 3 (by simp only [List.getElem?_toArray, List.getElem?_cons_zero, List.getElem?_cons_succ] <;> rfl) (by decide +kernel) (by decide +kernel) (by kernel_rfl) (by rfl) (by exact fun _ _ _ _ h => h) (Nat.le_refl _) ?_ | refine wpG_go 4 (by simp only [List.getElem?_toArray, List.getElem?_cons_zero, List.getElem?_cons_succ] <;> rfl) (by decide +kernel) (by decide +kernel) (by kernel_rfl) (by rfl) (by exact fun _ _ _ _ h => h) (Nat.le_refl _) ?_ | refine wpG_go 5 (by simp only [List.getElem?_toArray, List.getElem?_cons_zero, List.getElem?_cons_succ] <;> rfl) (by decide +kernel) (by decide +kernel) (by kernel_rfl) (by rfl) (by exact fun _ _ _ _ h => h) (Nat.le_refl _) ?_); apply Exists.intro; refine ⟨fun w1 h1 => ?_, ?_⟩; (first | exact g_move _ rfl | exact g_assign _ rfl | (have fct0 := F w1 h1; go_simp; first | exact ⟨rfl, rfl⟩ | rfl)); simp only [Act.put, Act.eval, List.setIfInBounds_toArray, List.set_cons_zero, List.set_cons_succ, Array.getD_eq_getD_getElem?, List.getElem?_toArray, List.getElem?_cons_zero, List.getElem?_cons_succ, Option.getD_some]) | ((first | refine wpG_skip 0 (by simp only [List.getElem?_toArray, List.getElem?_cons_zero, List.getElem?_cons_succ] <;> rfl) (by decide +kernel) (by decide +kernel) (by kernel_rfl) (by rfl) (by exact fun _ _ _ _ h => h) (Nat.le_refl _) ?_ | refine wpG_skip 1 (by simp only [List.getElem?_toArray, List.getElem?_cons_zero, List.getElem?_cons_succ] <;> rfl) (by decide +kernel) (by decide +kernel) (by kernel_rfl) (by rfl) (by exact fun _ _ _ _ h => h) (Nat.le_refl _) ?_ | refine wpG_skip 3 (by simp only [List.getElem?_toArray, List.getElem?_cons_zero, List.getElem?_cons_succ] <;> rfl) (by decide +kernel) (by decide +kernel) (by kernel_rfl) (by rfl) (by exact fun _ _ _ _ h => h) (Nat.le_refl _) ?_ | refine wpG_skip 4 (by simp only [List.getElem?_toArray, List.getElem?_cons_zero, List.getElem?_cons_succ] <;> rfl) (by decide +kernel) (by decide +kernel) (by kernel_rfl) (by rfl) (by exact fun _ _ _ _ h => h) (Nat.le_refl _) ?_ | refine wpG_skip 5 (by simp only [List.getElem?_toArray, List.getElem?_cons_zero, List.getElem?_cons_succ] <;> rfl) (by decide +kernel) (by decide +kernel) (by kernel_rfl) (by rfl) (by exact fun _ _ _ _ h => h) (Nat.le_refl _) ?_); simp only [Act.put, Act.eval, List.setIfInBounds_toArray, List.set_cons_zero, List.set_cons_succ, Array.getD_eq_getD_getElem?, List.getElem?_toArray, List.getElem?_cons_zero, List.getElem?_cons_succ, Option.getD_some])))
        (refine wpG_one 2 (by decide +kernel) ?_; intro w1 hw1; refine op_wanted (by simp only [List.getElem?_toArray, List.getElem?_cons_zero, List.getElem?_cons_succ] <;> rfl) rfl ?_)
        go_simp
        refine ⟨Below.alloc (Below.refl _ _) hw1.size _, ?_⟩
        refine wpG_raise (M := w1.heap.size + 1) (Nat.le_succ_of_le hw1.size) _ _ _ _ ?_
        have HW := Lib.hid (Bel.trans HB.out hw1)
        have hz : W.heap.size ≤ w1.heap.size := hw1.size
        clear hw1
        have bn := fun (w2 : World) (h : Below (w1.heap.size + 1) (w1.alloc (.cells #[.int .i64 7, .int .i64 7, .int .i64 4, .int .i64 4, .int .i64 5, .int .i64 5, .int .i64 3, .int .i64 3] 3)) w2) => (h.cell (p := ⟨w1.heap.size, 7, none⟩) (Nat.lt_succ_self _)).trans ((Box.new w1 _ _).cell (v := .int .i64 3) 7 rfl)
        (repeat (first | ((first | refine wpG_go 6 (by simp only [List.getElem?_toArray, List.getElem?_cons_zero, List.getElem?_cons_succ] <;> rfl) (by decide +kernel) (by decide +kernel) (by kernel_rfl) (by rfl) (by exact fun _ _ _ _ h => h) (by simp) ?_ | refine wpG_go 7 (by simp only [List.getElem?_toArray, List.getElem?_cons_zero, List.getElem?_cons_succ] <;> rfl) (by decide +kernel) (by decide +kernel) (by kernel_rfl) (by rfl) (by exact fun _ _ _ _ h => h) (by simp) ?_ | refine wpG_go 8 (by simp only [List.getElem?_toArray, List.getElem?_cons_zero, List.getElem?_cons_succ] <;> rfl) (by decide +kernel) (by decide +kernel) (by kernel_rfl) (by rfl) (by exact fun _ _ _ _ h => h) (by simp) ?_ | refine wpG_go 9 (by simp only [List.getElem?_toArray, List.getElem?_cons_zero, List.getElem?_cons_succ] <;> rfl) (by decide +kernel) (by decide +kernel) (by kernel_rfl) (by rfl) (by exact fun _ _ _ _ h => h) (by simp) ?_ | refine wpG_go 10 (by simp only [List.getElem?_toArray, List.getElem?_cons_zero, List.getElem?_cons_succ] <;> rfl) (by decide +kernel) (by decide +kernel) (by kernel_rfl) (by rfl) (by exact fun _ _ _ _ h => h) (by simp) ?_); apply Exists.intro; refine ⟨fun w1 h1 => ?_, ?_⟩; (first | exact g_move _ rfl | exact g_assign _ rfl | (have fct0 := bn w1 h1; go_simp; first | exact ⟨rfl, rfl⟩ | rfl | (go_at_call 68; (with_reducible refine (outside_any o 0 3 _).mono ?_); rintro e w' ⟨rfl, hb⟩; first | exact ⟨rfl, hb⟩ | exact ⟨rfl, hb ▸ Bel.refl _⟩))); simp only [Act.put, Act.eval, List.setIfInBounds_toArray, List.set_cons_zero, List.set_cons_succ, Array.getD_eq_getD_getElem?, List.getElem?_toArray, List.getElem?_cons_zero, List.getElem?_cons_succ, Option.getD_some]) | ((first | refine wpG_skip 6 (by simp only [List.getElem?_toArray, List.getElem?_cons_zero, List.getElem?_cons_succ] <;> rfl) (by decide +kernel) (by decide +kernel) (by kernel_rfl) (by rfl) (by exact fun _ _ _ _ h => h) (by simp) ?_ | refine wpG_skip 7 (by simp only [List.getElem?_toArray, List.getElem?_cons_zero, List.getElem?_cons_succ] <;> rfl) (by decide +kernel) (by decide +kernel) (by kernel_rfl) (by rfl) (by exact fun _ _ _ _ h => h) (by simp) ?_ | refine wpG_skip 8 (by simp only [List.getElem?_toArray, List.getElem?_cons_zero, List.getElem?_cons_succ] <;> rfl) (by decide +kernel) (by decide +kernel) (by kernel_rfl) (by rfl) (by exact fun _ _ _ _ h => h) (by simp) ?_ | refine wpG_skip 9 (by simp only [List.getElem?_toArray, List.getElem?_cons_zero, List.getElem?_cons_succ] <;> rfl) (by decide +kernel) (by decide +kernel) (by kernel_rfl) (by rfl) (by exact fun _ _ _ _ h => h) (by simp) ?_ | refine wpG_skip 10 (by simp only [List.getElem?_toArray, List.getElem?_cons_zero, List.getElem?_cons_succ] <;> rfl) (by decide +kernel) (by decide +kernel) (by kernel_rfl) (by rfl) (by exact fun _ _ _ _ h => h) (by simp) ?_); simp only [Act.put, Act.eval, List.setIfInBounds_toArray, List.set_cons_zero, List.set_cons_succ, Array.getD_eq_getD_getElem?, List.getElem?_toArray, List.getElem?_cons_zero, List.getElem?_cons_succ, Option.getD_some])))
        (refine wpG_done (by decide +kernel) ?_ _; intro w2 hw2; try simp only [Act.put, Act.eval, List.setIfInBounds_toArray, List.set_cons_zero, List.set_cons_succ, Array.getD_eq_getD_getElem?, List.getElem?_toArray, List.getElem?_cons_zero, List.getElem?_cons_succ, Option.getD_some])
        go_wp2
        go_ret
        exact ⟨by rw [HV.out]; exact ret_val (congrArg Value.bool (by have h : outs o 0 3 = !inB o (nobj 8) := HO.out; rw [h, Bool.not_not])), (HW.out.alloc _).trans hw2⟩
    · have h3 : isEv e = false := by
        have := outs_inB e.t 6
        rw [show (6 : Int) - 1 = 5 from rfl, h2] at this
        simp [isEv, show inB e.t 6 = false by simpa using this.symm]
      have HV := Lib.hid h3
      clear h3
      go_enter Try.func48, Try.ntmps48
      go_wp2_with (first | (go_at_call 68; (with_reducible refine (outside_any _ _ _ _).mono ?_); rintro e w' ⟨rfl, rfl⟩))
      go_ret
      exact ⟨by rw [HV.out]; rfl, HB.out⟩
  · have h3 : isEv e = false := by
      rw [outs_k] at h1
      have h4 := of_decide_eq_true h1
      simp only [isEv, h4, Bool.and_eq_false_iff]
      exact .inr (inB_no (by omega))
    have HV := Lib.hid h3
    clear h3
    go_enter Try.func48, Try.ntmps48
    go_wp2_with (first | (go_at_call 68; (with_reducible refine (outside_any _ _ _ _).mono ?_); rintro e w' ⟨rfl, rfl⟩))
    go_ret
    exact ⟨by rw [HV.out]; rfl, HB.out⟩
end Go.Proofs.Yteihildhlcggoaa
namespace Go.Proofs.Yteihildhlcggoaa
open Go.RowKit

theorem Box.cells3 {w : World} {B : Nat} {e : Ev} {t : TypeId} (h : Box w B (evv e) t) : w.cell? ⟨B, 0, none⟩ = some (.int .i64 e.k) ∧ w.cell? ⟨B, 1, none⟩ = some (.int .i64 e.t) ∧ w.cell? ⟨B, 2, none⟩ = some (.int .i64 e.o) :=
  ⟨h.cell 0 rfl, h.cell 1 rfl, h.cell 2 rfl⟩

set_option maxHeartbeats 4000000 in
theorem rwrong_any (A : Option Addr) (n c : Nat) (l : List Ev) (e : Ev) (w : World) (hl0 : Sl w A n l) (hn : n ≤ 9223372036854775807) :
    Calls Try.prog 29 #[.slice A n c, .agg (evv e)] w fun e' w' => e' = .returned (.int .i64 (wrong l e)) ∧ Below w.heap.size w w' := by
  obtain ⟨b1, hB, hs⟩ := boxes1 w (evv e) 50
  have hl := hl0.bel hB
  generalize hW : w.alloc (.cells (evv e) 50) = W at *
  have HB := Lib.hid hB
  have HL := Lib.hid hl
  have L1 : w.heap.size < W.heap.size := by omega
  have HC := Lib.hid (fun (w' : World) (h : Bel W w') => (h.box b1).cells3)
  have HX := Lib.hid b1
  have HT := Lib.hid (fun (w1 : World) (h : Bel W w1) => HB.out.trans (h.out.mono (Nat.le_of_lt L1)))
  obtain ⟨c0, c1, c2⟩ := b1.cells3
  clear hB hs hl hl0 b1
  obtain ⟨k, t, o⟩ := e
  cases h1 : isEv ⟨k, t, o⟩
  · have HV := Lib.hid (wrong_bad (p := l) h1)
    go_enter Try.func29, Try.ntmps29
    go_wp2_with (refine loadB _ _ rfl rfl rfl HX.out T36 ?_)
    refine (isEvent_any _ _).mono ?_
    rintro e' w1 ⟨rfl, hb⟩
    go_wp2
    go_ret
    exact ⟨by rw [HV.out]; rfl, HT.out _ hb⟩
  cases h2 : begun l t
  · have HV := Lib.hid (show wrong l ⟨k, t, o⟩ = 11 by simp [wrong, h1, h2])
    go_enter Try.func29, Try.ntmps29
    go_wp2_with (refine loadB _ _ rfl rfl rfl HX.out T36 ?_)
    refine (isEvent_any _ _).mono ?_
    rintro e' w1 ⟨rfl, hb⟩
    have hw1 : Bel W w1 := hb
    clear hb
    obtain ⟨x0, x1, x2⟩ := HC.out w1 hw1
    go_wp2_with fail
    refine (begun_any A n c l t _ (HL.out.bel hw1) hn).mono ?_
    rintro e' w2 ⟨rfl, hb⟩
    have hw2 : Bel W w2 := hw1.call hb
    clear hb
    go_wp2
    go_ret
    exact ⟨by rw [HV.out]; rfl, HT.out _ hw2⟩
  cases h3 : did l 6 t
  case true =>
    have HV := Lib.hid (show wrong l ⟨k, t, o⟩ = 11 by simp [wrong, h1, h2, h3])
    go_enter Try.func29, Try.ntmps29
    go_wp2_with (refine loadB _ _ rfl rfl rfl HX.out T36 ?_)
    refine (isEvent_any _ _).mono ?_
    rintro e' w1 ⟨rfl, hb⟩
    have hw1 : Bel W w1 := hb
    clear hb
    obtain ⟨x0, x1, x2⟩ := HC.out w1 hw1
    go_wp2_with fail
    refine (begun_any A n c l t _ (HL.out.bel hw1) hn).mono ?_
    rintro e' w2 ⟨rfl, hb⟩
    have hw2 : Bel W w2 := hw1.call hb
    clear hb
    obtain ⟨y0, y1, y2⟩ := HC.out w2 hw2
    go_wp2_with fail
    refine (did_any A n c l 6 t _ (HL.out.bel hw2) hn).mono ?_
    rintro e' w3 ⟨rfl, hb⟩
    have hw3 : Bel W w3 := hw2.call hb
    clear hb
    go_wp2
    go_ret
    exact ⟨by rw [HV.out]; rfl, HT.out _ hw3⟩
  have HV := Lib.hid (show wrong l ⟨k, t, o⟩ = (if k = 3 then (if 0 ≤ owner l o then 9 else 0) else if k = 4 then (if owner l o = t then 0 else 10) else if k = 5 then (if begun l o = true then 8 else 0)
    else if k = 6 then (if begun l o = false ∨ o = t then 7 else 0) else 0) by simp [wrong, h1, h2, h3])
  have hkk : (nobj k = 0) → False := fun h => by
    have := isEv_o h1
    simp only at this
    omega
  rcases kinds k with rfl | rfl | rfl | rfl | rfl | rfl | rfl | rfl | hk
  case inr.inr.inr.inr.inr.inr.inr.inr => exact (hkk (nobj_else hk)).elim
  case inr.inr.inl =>
    clear hkk
    cases h4 : decide (0 ≤ owner l o)
    all_goals
      have HV2 := Lib.hid h4
      go_enter Try.func29, Try.ntmps29
      go_wp2_with (refine loadB _ _ rfl rfl rfl HX.out T36 ?_)
      refine (isEvent_any _ _).mono ?_
      rintro e' w1 ⟨rfl, hb⟩
      have hw1 : Bel W w1 := hb
      clear hb
      obtain ⟨x0, x1, x2⟩ := HC.out w1 hw1
      go_wp2_with fail
      refine (begun_any A n c l t _ (HL.out.bel hw1) hn).mono ?_
      rintro e' w2 ⟨rfl, hb⟩
      have hw2 : Bel W w2 := hw1.call hb
      clear hb
      obtain ⟨y0, y1, y2⟩ := HC.out w2 hw2
      go_wp2_with fail
      refine (did_any A n c l 6 t _ (HL.out.bel hw2) hn).mono ?_
      rintro e' w3 ⟨rfl, hb⟩
      have hw3 : Bel W w3 := hw2.call hb
      clear hb
      obtain ⟨v0, v1, v2⟩ := HC.out w3 hw3
      go_wp2_with fail
      refine (owner_any A n c l o _ (HL.out.bel hw3) hn).mono ?_
      rintro e' w4 ⟨rfl, hb⟩
      have hw4 : Bel W w4 := hw3.call hb
      clear hb
      go_wp2
      go_ret
      exact ⟨ret_val (by rw [HV.out]; have := HV2.out; simp_all), HT.out _ hw4⟩
  case inr.inr.inr.inl =>
    clear hkk
    cases h4 : (owner l o != t)
    all_goals
      have HV2 := Lib.hid h4
      go_enter Try.func29, Try.ntmps29
      go_wp2_with (refine loadB _ _ rfl rfl rfl HX.out T36 ?_)
      refine (isEvent_any _ _).mono ?_
      rintro e' w1 ⟨rfl, hb⟩
      have hw1 : Bel W w1 := hb
      clear hb
      obtain ⟨x0, x1, x2⟩ := HC.out w1 hw1
      go_wp2_with fail
      refine (begun_any A n c l t _ (HL.out.bel hw1) hn).mono ?_
      rintro e' w2 ⟨rfl, hb⟩
      have hw2 : Bel W w2 := hw1.call hb
      clear hb
      obtain ⟨y0, y1, y2⟩ := HC.out w2 hw2
      go_wp2_with fail
      refine (did_any A n c l 6 t _ (HL.out.bel hw2) hn).mono ?_
      rintro e' w3 ⟨rfl, hb⟩
      have hw3 : Bel W w3 := hw2.call hb
      clear hb
      obtain ⟨v0, v1, v2⟩ := HC.out w3 hw3
      go_wp2_with fail
      have F : ∀ w', Bel w3 w' → _ := fun w' h => HC.out w' (hw3.trans h)
      (refine region_bel (by kernel_rfl) (by kernel_rfl) ?_; (repeat (first | ((with_reducible refine BigFrame.wpQuiet_skip ?_ ?_); exact rfl; simp only [Act.put, Act.eval, List.setIfInBounds_toArray, List.set_cons_zero, List.set_cons_succ, Array.getD_eq_getD_getElem?, List.getElem?_toArray, List.getElem?_cons_zero, List.getElem?_cons_succ, Option.getD_some]) | (refine q_move _ rfl rfl ?_; simp only [Act.put, Act.eval, List.setIfInBounds_toArray, List.set_cons_zero, List.set_cons_succ, Array.getD_eq_getD_getElem?, List.getElem?_toArray, List.getElem?_cons_zero, List.getElem?_cons_succ, Option.getD_some]) | (refine q_assign _ rfl rfl ?_; simp only [Act.put, Act.eval, List.setIfInBounds_toArray, List.set_cons_zero, List.set_cons_succ, Array.getD_eq_getD_getElem?, List.getElem?_toArray, List.getElem?_cons_zero, List.getElem?_cons_succ, Option.getD_some]) | (refine q_any rfl ?_; apply Exists.intro; refine ⟨fun w hw => ?_, ?_⟩; (have fct0 := F w hw; go_simp; first | exact ⟨rfl, rfl⟩ | rfl | (go_at_call 51; (with_reducible refine (owner_any A n c l o _ (HL.out.bel (hw3.trans hw).out) hn).mono ?_); rintro e w' ⟨rfl, hb⟩; exact ⟨rfl, hw.call hb⟩)); simp only [Act.put, Act.eval, List.setIfInBounds_toArray, List.set_cons_zero, List.set_cons_succ, Array.getD_eq_getD_getElem?, List.getElem?_toArray, List.getElem?_cons_zero, List.getElem?_cons_succ, Option.getD_some]))); refine wpQuiet_nil ?_; intro w2 hw2)
      have hw4 := hw3.trans hw2
      go_wp2
      go_ret
      exact ⟨ret_val (by rw [HV.out]; have := HV2.out; simp_all), HT.out _ hw4⟩
  case inr.inr.inr.inr.inl =>
    clear hkk
    cases h4 : begun l o
    all_goals
      have HV2 := Lib.hid h4
      go_enter Try.func29, Try.ntmps29
      go_wp2_with (refine loadB _ _ rfl rfl rfl HX.out T36 ?_)
      refine (isEvent_any _ _).mono ?_
      rintro e' w1 ⟨rfl, hb⟩
      have hw1 : Bel W w1 := hb
      clear hb
      obtain ⟨x0, x1, x2⟩ := HC.out w1 hw1
      go_wp2_with fail
      refine (begun_any A n c l t _ (HL.out.bel hw1) hn).mono ?_
      rintro e' w2 ⟨rfl, hb⟩
      have hw2 : Bel W w2 := hw1.call hb
      clear hb
      obtain ⟨y0, y1, y2⟩ := HC.out w2 hw2
      go_wp2_with fail
      refine (did_any A n c l 6 t _ (HL.out.bel hw2) hn).mono ?_
      rintro e' w3 ⟨rfl, hb⟩
      have hw3 : Bel W w3 := hw2.call hb
      clear hb
      obtain ⟨v0, v1, v2⟩ := HC.out w3 hw3
      go_wp2_with fail
      refine (begun_any A n c l o _ (HL.out.bel hw3) hn).mono ?_
      rintro e' w4 ⟨rfl, hb⟩
      have hw4 : Bel W w4 := hw3.call hb
      clear hb
      go_wp2
      go_ret
      exact ⟨ret_val (by rw [HV.out]; have := HV2.out; simp_all), HT.out _ hw4⟩
  case inr.inr.inr.inr.inr.inl =>
    clear hkk
    cases h4 : begun l o
    · have HV2 := Lib.hid h4
      go_enter Try.func29, Try.ntmps29
      go_wp2_with (refine loadB _ _ rfl rfl rfl HX.out T36 ?_)
      refine (isEvent_any _ _).mono ?_
      rintro e' w1 ⟨rfl, hb⟩
      have hw1 : Bel W w1 := hb
      clear hb
      obtain ⟨x0, x1, x2⟩ := HC.out w1 hw1
      go_wp2_with fail
      refine (begun_any A n c l t _ (HL.out.bel hw1) hn).mono ?_
      rintro e' w2 ⟨rfl, hb⟩
      have hw2 : Bel W w2 := hw1.call hb
      clear hb
      obtain ⟨y0, y1, y2⟩ := HC.out w2 hw2
      go_wp2_with fail
      refine (did_any A n c l 6 t _ (HL.out.bel hw2) hn).mono ?_
      rintro e' w3 ⟨rfl, hb⟩
      have hw3 : Bel W w3 := hw2.call hb
      clear hb
      obtain ⟨v0, v1, v2⟩ := HC.out w3 hw3
      go_wp2_with fail
      refine (begun_any A n c l o _ (HL.out.bel hw3) hn).mono ?_
      rintro e' w4 ⟨rfl, hb⟩
      have hw4 : Bel W w4 := hw3.call hb
      clear hb
      go_wp2
      go_ret
      exact ⟨ret_val (by rw [HV.out]; have := HV2.out; simp_all), HT.out _ hw4⟩
    · cases h5 : (o == t)
      all_goals
        have HV2 := Lib.hid h4
        have HV3 := Lib.hid h5
        go_enter Try.func29, Try.ntmps29
        go_wp2_with (refine loadB _ _ rfl rfl rfl HX.out T36 ?_)
        refine (isEvent_any _ _).mono ?_
        rintro e' w1 ⟨rfl, hb⟩
        have hw1 : Bel W w1 := hb
        clear hb
        obtain ⟨x0, x1, x2⟩ := HC.out w1 hw1
        go_wp2_with fail
        refine (begun_any A n c l t _ (HL.out.bel hw1) hn).mono ?_
        rintro e' w2 ⟨rfl, hb⟩
        have hw2 : Bel W w2 := hw1.call hb
        clear hb
        obtain ⟨y0, y1, y2⟩ := HC.out w2 hw2
        go_wp2_with fail
        refine (did_any A n c l 6 t _ (HL.out.bel hw2) hn).mono ?_
        rintro e' w3 ⟨rfl, hb⟩
        have hw3 : Bel W w3 := hw2.call hb
        clear hb
        obtain ⟨v0, v1, v2⟩ := HC.out w3 hw3
        go_wp2_with fail
        refine (begun_any A n c l o _ (HL.out.bel hw3) hn).mono ?_
        rintro e' w4 ⟨rfl, hb⟩
        have hw4 : Bel W w4 := hw3.call hb
        clear hb
        obtain ⟨z0, z1, z2⟩ := HC.out w4 hw4
        go_wp2
        go_ret
        exact ⟨ret_val (by rw [HV.out]; have := HV2.out; have := HV3.out; simp_all), HT.out _ hw4⟩
  all_goals
    clear hkk
    go_enter Try.func29, Try.ntmps29
    go_wp2_with (refine loadB _ _ rfl rfl rfl HX.out T36 ?_)
    refine (isEvent_any _ _).mono ?_
    rintro e' w1 ⟨rfl, hb⟩
    have hw1 : Bel W w1 := hb
    clear hb
    obtain ⟨x0, x1, x2⟩ := HC.out w1 hw1
    go_wp2_with fail
    refine (begun_any A n c l t _ (HL.out.bel hw1) hn).mono ?_
    rintro e' w2 ⟨rfl, hb⟩
    have hw2 : Bel W w2 := hw1.call hb
    clear hb
    obtain ⟨y0, y1, y2⟩ := HC.out w2 hw2
    go_wp2_with fail
    refine (did_any A n c l 6 t _ (HL.out.bel hw2) hn).mono ?_
    rintro e' w3 ⟨rfl, hb⟩
    have hw3 : Bel W w3 := hw2.call hb
    clear hb
    obtain ⟨v0, v1, v2⟩ := HC.out w3 hw3
    go_wp2
    go_ret
    exact ⟨ret_val (by rw [HV.out]; simp), HT.out _ hw3⟩

theorem Sl.take {w : World} {A : Option Addr} {n : Nat} {l : List Ev} (h : Sl w A n l) {i : Nat} (hi : i ≤ n) : Sl w A i (l.take i) := by
  refine ⟨by rw [List.length_take, h.1]; omega, fun h0 => ?_⟩
  obtain ⟨b, off, hA, hlt, hr⟩ := h.2 (by omega)
  refine ⟨b, off, hA, hlt, fun j v hv => hr j v ?_⟩
  rw [← evc_take, List.getElem?_take] at hv
  split at hv
  · exact hv
  · cases hv
structure CRel (w : World) (l : List Ev) (i : Nat) (wr : World) : Prop where
  below : Below w.heap.size w wr
  chk : chk [] l = chk (l.take i) (l.drop i)
set_option maxHeartbeats 4000000 in
theorem rcheck_any (A : Option Addr) (n c : Nat) (l : List Ev) (w : World) (hl : Sl w A n l) (hnc : n ≤ c) (hcm : c ≤ 9223372036854775807) :
    Calls Try.prog 34 #[.slice A n c] w fun e w' => e = .returned (.tuple #[.int .i64 (check l).1, .int .i64 (check l).2]) ∧ Below w.heap.size w w' := by
  by_cases hn : 80 < n
  · have HC := Lib.hid (show check l = (0, 2) by unfold check; rw [if_pos (by rw [hl.1]; exact hn)])
    have hn' : (80 : Int) < n := by omega
    go_enter Try.func34, Try.ntmps34
    go_wp2
    go_ret2
    exact ⟨by rw [HC.out]; rfl, Below.refl _ _⟩
  · have hn80 : n ≤ 80 := by omega
    have HC := Lib.hid (show check l = chk [] l by unfold check; rw [if_neg (by rw [hl.1]; omega)])
    go_enter Try.func34, Try.ntmps34
    go_wp2
    go_loopw [12] (fun t wr => ∃ i : Nat, i ≤ n ∧ t = .int .i64 i ∧ CRel w l i wr) (fun t _ => n - (intOf t).toNat)
    case atStart => exact ⟨0, by omega, rfl, ⟨Below.refl _ _, by simp⟩⟩
    case round =>
      obtain ⟨i, hi, rfl, hr⟩ := hrel
      have HR := Lib.hid hr
      have HL := Lib.hid hl
      by_cases hlt : i < n
      · obtain ⟨bb, off, e, rfl, hbb, he, hrg⟩ := hl.at_ hlt
        have hlt' : (i : Int) < n := by omega
        have HH := Lib.hid (chk_step he)
        have hR := Lib.hid (rangeAt_below hr.below hbb hrg)
        have hic : (i : Int) ≤ c := by omega
        clear hr he hl hrg
        have HW := Lib.hid (HR.out.below.trans ((ewld_below wr e 50).mono HR.out.below.size))
        have HS := Lib.hid ((HL.out.below HW.out (Nat.le_refl _)).take hi)
        have HX := Lib.hid (ewld_box wr e 50)
        have hb0 := HX.out
        generalize hE : ewld wr e 50 = E at *
        cases hw : (wrong (l.take i) e != 0)
        · have h0 : wrong (l.take i) e = 0 := by simpa using hw
          have H0 := Lib.hid h0
          clear h0
          go_wp2_with (first | (refine load_ev T36 _ rfl rfl rfl hR.out ?_) | (refine ewld_store T36 _ _ rfl rfl _ rfl rfl rfl ?_))
          rw [hE]
          clear hE
          (refine region_bel (by kernel_rfl) (by kernel_rfl) ?_; (repeat (first | ((with_reducible refine BigFrame.wpQuiet_skip ?_ ?_); exact rfl; simp only [Act.put, Act.eval, List.setIfInBounds_toArray, List.set_cons_zero, List.set_cons_succ, Array.getD_eq_getD_getElem?, List.getElem?_toArray, List.getElem?_cons_zero, List.getElem?_cons_succ, Option.getD_some]) | (refine q_move _ rfl rfl ?_; simp only [Act.put, Act.eval, List.setIfInBounds_toArray, List.set_cons_zero, List.set_cons_succ, Array.getD_eq_getD_getElem?, List.getElem?_toArray, List.getElem?_cons_zero, List.getElem?_cons_succ, Option.getD_some]) | (refine q_assign _ rfl rfl ?_; simp only [Act.put, Act.eval, List.setIfInBounds_toArray, List.set_cons_zero, List.set_cons_succ, Array.getD_eq_getD_getElem?, List.getElem?_toArray, List.getElem?_cons_zero, List.getElem?_cons_succ, Option.getD_some]) | (refine q_load _ _ rfl rfl rfl hb0 T36 ?_; simp only [Act.put, Act.eval, List.setIfInBounds_toArray, List.set_cons_zero, List.set_cons_succ, Array.getD_eq_getD_getElem?, List.getElem?_toArray, List.getElem?_cons_zero, List.getElem?_cons_succ, Option.getD_some]) | (refine q_any rfl ?_; apply Exists.intro; refine ⟨fun w hw => ?_, ?_⟩; (go_simp; first | exact ⟨rfl, rfl⟩ | rfl | (go_at_call 29; (with_reducible refine (rwrong_any (some ⟨bb, off, none⟩) i c (l.take i) e _ (HS.out.bel hw.out) (by omega)).mono ?_); rintro e w' ⟨rfl, hb⟩; exact ⟨rfl, hw.call hb⟩)); simp only [Act.put, Act.eval, List.setIfInBounds_toArray, List.set_cons_zero, List.set_cons_succ, Array.getD_eq_getD_getElem?, List.getElem?_toArray, List.getElem?_cons_zero, List.getElem?_cons_succ, Option.getD_some]))); refine wpQuiet_nil ?_; intro w2 hw2)
          go_wp2
          go_roundw
          case rel => exact ⟨i + 1, by omega, by go_num, ⟨HW.out.trans (hw2.out.mono HW.out.size), by rw [HR.out.chk, HH.out, H0.out]; simp⟩⟩
          case measure => simp [intOf]; omega
        · have HF := Lib.hid (show check l = ((i : Int), wrong (l.take i) e) by rw [HC.out, HR.out.chk, HH.out, if_pos (by simpa using hw)])
          go_wp2_with (first | (refine load_ev T36 _ rfl rfl rfl hR.out ?_) | (refine ewld_store T36 _ _ rfl rfl _ rfl rfl rfl ?_))
          rw [hE]
          clear hE
          (refine region_bel (by kernel_rfl) (by kernel_rfl) ?_; (repeat (first | ((with_reducible refine BigFrame.wpQuiet_skip ?_ ?_); exact rfl; simp only [Act.put, Act.eval, List.setIfInBounds_toArray, List.set_cons_zero, List.set_cons_succ, Array.getD_eq_getD_getElem?, List.getElem?_toArray, List.getElem?_cons_zero, List.getElem?_cons_succ, Option.getD_some]) | (refine q_move _ rfl rfl ?_; simp only [Act.put, Act.eval, List.setIfInBounds_toArray, List.set_cons_zero, List.set_cons_succ, Array.getD_eq_getD_getElem?, List.getElem?_toArray, List.getElem?_cons_zero, List.getElem?_cons_succ, Option.getD_some]) | (refine q_assign _ rfl rfl ?_; simp only [Act.put, Act.eval, List.setIfInBounds_toArray, List.set_cons_zero, List.set_cons_succ, Array.getD_eq_getD_getElem?, List.getElem?_toArray, List.getElem?_cons_zero, List.getElem?_cons_succ, Option.getD_some]) | (refine q_load _ _ rfl rfl rfl hb0 T36 ?_; simp only [Act.put, Act.eval, List.setIfInBounds_toArray, List.set_cons_zero, List.set_cons_succ, Array.getD_eq_getD_getElem?, List.getElem?_toArray, List.getElem?_cons_zero, List.getElem?_cons_succ, Option.getD_some]) | (refine q_any rfl ?_; apply Exists.intro; refine ⟨fun w hw => ?_, ?_⟩; (go_simp; first | exact ⟨rfl, rfl⟩ | rfl | (go_at_call 29; (with_reducible refine (rwrong_any (some ⟨bb, off, none⟩) i c (l.take i) e _ (HS.out.bel hw.out) (by omega)).mono ?_); rintro e w' ⟨rfl, hb⟩; exact ⟨rfl, hw.call hb⟩)); simp only [Act.put, Act.eval, List.setIfInBounds_toArray, List.set_cons_zero, List.set_cons_succ, Array.getD_eq_getD_getElem?, List.getElem?_toArray, List.getElem?_cons_zero, List.getElem?_cons_succ, Option.getD_some]))); refine wpQuiet_nil ?_; intro w2 hw2)
          go_wp2
          go_ret2
          exact ⟨by rw [HF.out]; rfl, HW.out.trans (hw2.out.mono HW.out.size)⟩
      · obtain rfl : i = n := by omega
        have HF := Lib.hid (show check l = (0, 0) by rw [HC.out, hr.chk, ← hl.1]; exact chk_end l)
        clear hr hl
        go_wp2
        go_ret2
        exact ⟨by rw [HF.out]; rfl, HR.out.below⟩

theorem rmay_any (A : Option Addr) (n c : Nat) (l : List Ev) (w : World) (hl : Sl w A n l) (hnc : n ≤ c) (hcm : c ≤ 9223372036854775807) :
    Calls Try.prog 15 #[.slice A n c] w fun e w' => e = .returned (.int .i64 (may l)) ∧ Below w.heap.size w w' := by
  have HL := Lib.hid hl
  clear hl
  go_enter Try.func15, Try.ntmps15
  go_wp2_with fail
  refine (rcheck_any A n c l _ HL.out hnc hcm).mono ?_
  rintro e w1 ⟨rfl, hb⟩
  go_wp2
  go_ret
  exact ⟨rfl, hb⟩

end Go.Proofs.Yteihildhlcggoaa

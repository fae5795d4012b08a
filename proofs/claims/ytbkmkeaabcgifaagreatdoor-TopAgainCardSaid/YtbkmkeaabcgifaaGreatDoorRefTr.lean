/- Contracts of the reference: owner, did, begun, IsEvent, Wrong, Check, May, Held. | Contracts of the reference: Wrong, Check, May, Held. -/
import Derived.Test.YtbkmkeaabcgifaaGreatDoorTrace
import Derived.RegionTactic
import Derived.Test.YtbkmkeaabcgifaaGreatDoorGrow
set_option linter.all false
set_option maxRecDepth 100000
namespace Go.Proofs.YtbkmkeaabcgifaaGreatDoor
open Go.RowKit

theorem take_snoc {l : List Ev} {i : Nat} {e : Ev} (h : l[i]? = some e) : l.take (i + 1) = l.take i ++ [e] := by
  have hi' := List.getElem?_eq_some_iff.1 h
  rw [List.take_succ_eq_append_getElem hi'.1, hi'.2]
theorem take_all {l : List Ev} {A : Option Addr} {w : World} {n : Nat} (h : Sl w A n l) : l.take n = l := by rw [← h.1, List.take_length]
theorem Sl.bel {w w' : World} {A : Option Addr} {n : Nat} {l : List Ev} (h : Sl w A n l) (hb : Below w.heap.size w w') : Sl w' A n l := h.below hb (Nat.le_refl _)

theorem did_snoc' (l : List Ev) (e : Ev) (a b : Int) : did (l ++ [e]) a b = (did l a b || (e.k == a && e.o == b)) := by
  rw [did_snoc, Bool.decide_and]; rfl
theorem did_yes {l : List Ev} {i : Nat} {e : Ev} {a b : Int} (h : l[i]? = some e) (h1 : (e.k == a) = true) (h2 : (e.o == b) = true) : did l a b = true := by
  simp only [did, List.any_eq_true]
  exact ⟨e, List.mem_of_getElem? h, decide_eq_true ⟨eq_of_beq h1, eq_of_beq h2⟩⟩
/-- The world behind 'for _, e := range l' has taken its next event. -/
def ewld (w : World) (e : Ev) (t : TypeId) : World := (w.alloc (.cells #[.int .i64 0, .int .i64 0, .int .i64 0] t)).setRow w.heap.size (evv e)
theorem ewld_box (w : World) (e : Ev) (t : TypeId) : Box (ewld w e t) w.heap.size (evv e) t := (Box.new w _ t).setRow _
theorem ewld_below (w : World) (e : Ev) (t : TypeId) : Below w.heap.size w (ewld w e t) := below_setRow' ((Below.refl _ _).alloc (Nat.le_refl _) _) _ _ (Nat.le_refl _)
theorem ewld_cells (w : World) (e : Ev) (t : TypeId) : (ewld w e t).cell? ⟨w.heap.size, 0, none⟩ = some (.int .i64 e.k) ∧ (ewld w e t).cell? ⟨w.heap.size, 1, none⟩ = some (.int .i64 e.t) ∧ (ewld w e t).cell? ⟨w.heap.size, 2, none⟩ = some (.int .i64 e.o) :=
  ⟨(ewld_box w e t).cell 0 rfl, (ewld_box w e t).cell 1 rfl, (ewld_box w e t).cell 2 rfl⟩
/-- The region of such a loop's head, in one step: behind it the world is 'ewld'. -/
theorem ewld_store {P : Program} {ops : Array Oper} {rest : List Oper} {o : Oper} {a : Act} {w' w : World} {Q : Exit → Act → World → Prop} {ty : TypeId} (hT : RowTy P ty 3) (x y : Operand) (ho : o.op = .store ty x y) (hgd : o.guard = none) {e : Ev} (t : TypeId)
    (hy : a.eval y = .agg (evv e)) (hw : w' = w.alloc (.cells #[.int .i64 0, .int .i64 0, .int .i64 0] t)) (hx : a.eval x = .pointer (some ⟨w.heap.size, 0, none⟩))
    (h : wpList P ops Q rest (a.put o.dst undef) (ewld w e t)) : wpList P ops Q (o :: rest) a w' := by
  subst hw
  exact storeB ty x y ho hgd hx hy (Box.new w _ t) rfl hT (evv_all e) h
theorem load_ev {P : Program} {ops : Array Oper} {rest : List Oper} {o : Oper} {a : Act} {w : World} {Q : Exit → Act → World → Prop} {ty : TypeId} (hT : RowTy P ty 3) (x : Operand) (ho : o.op = .load ty x) (hgd : o.guard = none) {b off : Nat} {e : Ev}
    (hx : a.eval x = .pointer (some ⟨b, off, none⟩)) (hr : w.rangeAt b off (evl e))
    (h : wpList P ops Q rest (a.put o.dst (.agg (evv e))) w) : wpList P ops Q (o :: rest) a w := by
  obtain ⟨d, hu, hd, hi⟩ := hT
  exact wpList_load_mid hgd ty x ho b off hx (evl e) d hr hu hd hi h

theorem ownB_of (who : Int) (e : Ev) (k : Int) (h1 : (e.o == k) = true) (h2 : (e.k == 4) = false) (h3 : (e.k == 3) = true) : ownB who e k = e.t := by
  unfold ownB
  simp only [beq_iff_eq, beq_eq_false_iff_ne] at h1 h2 h3
  rw [if_neg (by omega), if_pos ⟨h1, h3⟩]
theorem ownB_rel (who : Int) (e : Ev) (k : Int) (h1 : (e.o == k) = true) (h2 : (e.k == 4) = true) : ownB who e k = -1 := by
  unfold ownB
  simp only [beq_iff_eq] at h1 h2
  rw [if_pos ⟨h1, h2⟩]
theorem ownB_kind (who : Int) (e : Ev) (k : Int) (h2 : (e.k == 4) = false) (h3 : (e.k == 3) = false) : ownB who e k = who := by
  unfold ownB
  simp only [beq_eq_false_iff_ne] at h2 h3
  rw [if_neg (by omega), if_neg (by omega)]
theorem ownB_obj (who : Int) (e : Ev) (k : Int) (h1 : (e.o == k) = false) : ownB who e k = who := by
  unfold ownB
  simp only [beq_eq_false_iff_ne] at h1
  rw [if_neg (by omega), if_neg (by omega)]

theorem outs_inB (n m : Int) : outs n 0 (m - 1) = !inB n m := by
  rw [Bool.eq_iff_iff]; simp only [outs, inB, decide_eq_true_eq, Bool.not_eq_true', decide_eq_false_iff_not]; omega
theorem outs_k (k : Int) : outs k 1 8 = decide (nobj k = 0) := by
  rw [Bool.eq_iff_iff]; simp only [outs, decide_eq_true_eq]; unfold nobj; repeat' split
  all_goals omega
end Go.Proofs.YtbkmkeaabcgifaaGreatDoor
namespace Go.Proofs.YtbkmkeaabcgifaaGreatDoor
open Go.RowKit

theorem Box.cells3 {w : World} {B : Nat} {e : Ev} {t : TypeId} (h : Box w B (evv e) t) : w.cell? ⟨B, 0, none⟩ = some (.int .i64 e.k) ∧ w.cell? ⟨B, 1, none⟩ = some (.int .i64 e.t) ∧ w.cell? ⟨B, 2, none⟩ = some (.int .i64 e.o) :=
  ⟨h.cell 0 rfl, h.cell 1 rfl, h.cell 2 rfl⟩

theorem Sl.take {w : World} {A : Option Addr} {n : Nat} {l : List Ev} (h : Sl w A n l) {i : Nat} (hi : i ≤ n) : Sl w A i (l.take i) := by
  refine ⟨by rw [List.length_take, h.1]; omega, fun h0 => ?_⟩
  obtain ⟨b, off, hA, hlt, hr⟩ := h.2 (by omega)
  refine ⟨b, off, hA, hlt, fun j v hv => hr j v ?_⟩
  rw [← evc_take, List.getElem?_take] at hv
  split at hv
  · exact hv
  · cases hv
structure CRel (w : World) (l : List Ev) (i : Nat) (wr : World) : Prop where
  below : Below w.heap.size w wr
  chk : chk [] l = chk (l.take i) (l.drop i)
end Go.Proofs.YtbkmkeaabcgifaaGreatDoor

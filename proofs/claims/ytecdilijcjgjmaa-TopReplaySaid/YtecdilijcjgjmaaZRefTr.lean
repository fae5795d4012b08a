import Derived.Test.YtecdilijcjgjmaaZTrace
import Derived.RegionTactic
import Derived.Test.YtecdilijcjgjmaaZGrow
set_option linter.all false
set_option maxRecDepth 100000
namespace Go.Proofs.Ytecdilijcjgjmaa
open Go.RowKit

theorem take_snoc {l : List Ev} {i : Nat} {e : Ev} (h : l[i]? = some e) : l.take (i + 1) = l.take i ++ [e] := by
  have hi' := List.getElem?_eq_some_iff.1 h
  rw [List.take_succ_eq_append_getElem hi'.1, hi'.2]
theorem take_all {l : List Ev} {A : Option Addr} {w : World} {n : Nat} (h : Sl w A n l) : l.take n = l := by rw [← h.1, List.take_length]
theorem Sl.bel {w w' : World} {A : Option Addr} {n : Nat} {l : List Ev} (h : Sl w A n l) (hb : Below w.heap.size w w') : Sl w' A n l := h.below hb (Nat.le_refl _)

def ewld (w : World) (e : Ev) (t : TypeId) : World := (w.alloc (.cells #[.int .i64 0, .int .i64 0, .int .i64 0] t)).setRow w.heap.size (evv e)
theorem ewld_box (w : World) (e : Ev) (t : TypeId) : Box (ewld w e t) w.heap.size (evv e) t := (Box.new w _ t).setRow _
theorem ewld_below (w : World) (e : Ev) (t : TypeId) : Below w.heap.size w (ewld w e t) := below_setRow' ((Below.refl _ _).alloc (Nat.le_refl _) _) _ _ (Nat.le_refl _)
theorem ewld_store {P : Program} {ops : Array Oper} {rest : List Oper} {o : Oper} {a : Act} {w' w : World} {Q : Exit → Act → World → Prop} {ty : TypeId} (hT : RowTy P ty 3) (x y : Operand) (ho : o.op = .store ty x y) (hgd : o.guard = none) {e : Ev} (t : TypeId)
    (hy : a.eval y = .agg (evv e)) (hw : w' = w.alloc (.cells #[.int .i64 0, .int .i64 0, .int .i64 0] t)) (hx : a.eval x = .pointer (some ⟨w.heap.size, 0, none⟩))
    (h : wpList P ops Q rest (a.put o.dst undef) (ewld w e t)) : wpList P ops Q (o :: rest) a w' := by
  subst hw
  exact storeB ty x y ho hgd hx hy (Box.new w _ t) rfl hT (evv_all e) h
theorem load_ev {P : Program} {ops : Array Oper} {rest : List Oper} {o : Oper} {a : Act} {w : World} {Q : Exit → Act → World → Prop} {ty : TypeId} (hT : RowTy P ty 3) (x : Operand) (ho : o.op = .load ty x) (hgd : o.guard = none) {b off : Nat} {e : Ev}
    (hx : a.eval x = .pointer (some ⟨b, off, none⟩)) (hr : w.rangeAt b off (evl e))
    (h : wpList P ops Q rest (a.put o.dst (.agg (evv e))) w) : wpList P ops Q (o :: rest) a w := by
  obtain ⟨d, hu, hd, hi⟩ := hT
  exact wpList_load_mid hgd ty x ho b off hx (evl e) d hr hu hd hi h

end Go.Proofs.Ytecdilijcjgjmaa
namespace Go.Proofs.Ytecdilijcjgjmaa
open Go.RowKit

theorem Sl.take {w : World} {A : Option Addr} {n : Nat} {l : List Ev} (h : Sl w A n l) {i : Nat} (hi : i ≤ n) : Sl w A i (l.take i) := by
  refine ⟨by rw [List.length_take, h.1]; omega, fun h0 => ?_⟩
  obtain ⟨b, off, hA, hlt, hr⟩ := h.2 (by omega)
  refine ⟨b, off, hA, hlt, fun j v hv => hr j v ?_⟩
  rw [← evc_take, List.getElem?_take] at hv
  split at hv
  · exact hv
  · cases hv
end Go.Proofs.Ytecdilijcjgjmaa

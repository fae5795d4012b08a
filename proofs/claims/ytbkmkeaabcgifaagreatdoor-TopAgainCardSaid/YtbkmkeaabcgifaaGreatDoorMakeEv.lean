/- make([]api.Event, n), and its events stored one after another. -/
import Derived.Test.YtbkmkeaabcgifaaGreatDoorKeepTw
import Derived.Test.YtbkmkeaabcgifaaGreatDoorRefTr
import Derived.Laws.MakeOwn
import Derived.Deep.MidRow
set_option linter.all false
set_option maxRecDepth 100000
namespace Go.Proofs.YtbkmkeaabcgifaaGreatDoor
open Go Go.RowKit

def zeros (n : Nat) : List Value := List.replicate n (.int .i64 0)
/-- The cells of n events, i of them stored. -/
def evsC (l : List Ev) (n i : Nat) : Array Value := (evc (l.take i) ++ zeros ((n - i) * 3)).toArray
theorem evsC_size {l : List Ev} {n i : Nat} (hl : l.length = n) (hi : i ≤ n) : (evsC l n i).size = n * 3 := by
  simp only [evsC, List.size_toArray, List.length_append, evc_length, List.length_take, zeros, List.length_replicate]
  omega
theorem evsC_zero (l : List Ev) (n : Nat) : evsC l n 0 = Array.replicate (n * 3) (.int .i64 0) := by simp [evsC, evc, zeros]
theorem evsC_all {l : List Ev} {n : Nat} (hl : l.length = n) : evsC l n n = (evc l).toArray := by
  simp only [evsC, Nat.sub_self, Nat.zero_mul, zeros, List.replicate_zero, List.append_nil]
  rw [List.take_of_length_le (by omega)]
def set3 (c : Array Value) (i : Nat) (e : Ev) : Array Value := ((c.setIfInBounds i (.int .i64 e.k)).setIfInBounds (i + 1) (.int .i64 e.t)).setIfInBounds (i + 2) (.int .i64 e.o)
theorem evsC_set {l : List Ev} {n i : Nat} (hl : l.length = n) {e : Ev} (he : l[i]? = some e) : set3 (evsC l n i) (i * 3) e = evsC l n (i + 1) := by
  have hi : i < n := by have := (List.getElem?_eq_some_iff.1 he).1; omega
  have hlen : (evc (l.take i)).length = i * 3 := by rw [evc_length, List.length_take]; omega
  have hz : zeros ((n - i) * 3) = .int .i64 0 :: .int .i64 0 :: .int .i64 0 :: zeros ((n - (i + 1)) * 3) := by
    rw [show (n - i) * 3 = (n - (i + 1)) * 3 + 1 + 1 + 1 by omega]
    rfl
  unfold set3 evsC
  rw [take_snoc he, evc_append, hz]
  simp only [List.setIfInBounds_toArray]
  congr 1
  rw [List.set_append_right _ _ (by omega), hlen, Nat.sub_self, List.set_append_right _ _ (by omega), hlen, List.set_append_right _ _ (by omega), hlen,
    show i * 3 + 1 - i * 3 = 1 by omega, show i * 3 + 2 - i * 3 = 2 by omega]
  simp [evc]
theorem Box.set3 {w : World} {B : Nat} {c : Array Value} {t : TypeId} (h : Box w B c t) (i : Nat) (e : Ev) : Box (w.setCells B i (evl e)) B (set3 c i e) t :=
  ((h.set i _).set (i + 1) _).set (i + 2) _
theorem Box.there {w : World} {B : Nat} {c : Array Value} {t : TypeId} (h : Box w B c t) {o n : Nat} (hn : o + n ≤ c.size) : w.there B o n := fun j hj => by
  have h1 := h.cell (o + j) (v := c[o + j]'(by omega)) (Array.getElem?_eq_getElem (by omega))
  exact ⟨by rw [h1]; rfl, h.frozen (o + j)⟩
theorem below_set3 {N : Nat} {W w : World} (h : Below N W w) {B : Nat} (hB : N ≤ B) (i : Nat) (e : Ev) : Below N W (w.setCells B i (evl e)) :=
  ((h.setCell hB _).setCell hB _).setCell hB _
section
variable {ops : Array Oper} {rest : List Oper} {o : Oper} {a : Act} {w : World} {Q : Exit → Act → World → Prop}
theorem storeEv {P : Program} {ty : TypeId} (hT : RowTy P ty 3) (x y : Operand) (ho : o.op = .store ty x y) (hgd : o.guard = none) (e : Ev) (hy : a.eval y = .agg (evv e)) {B i : Nat} (hx : a.eval x = .pointer (some ⟨B, i, none⟩))
    {c : Array Value} {t : TypeId} (hb : Box w B c t) (hi : i + 3 ≤ c.size) (h : wpList P ops Q rest (a.put o.dst undef) (w.setCells B i (evl e))) : wpList P ops Q (o :: rest) a w :=
  let ⟨_, _, _, hs⟩ := hT
  wpList_store_mid hgd ty x y ho B i (evv e) hx hy (hb.there hi) hs (evv_all e) h
theorem made_ev (n : Nat) : madeCells (Value.agg #[.int .i64 0, .int .i64 0, .int .i64 0]).cells (n * 3) = Array.replicate (n * 3) (.int .i64 0) := by
  apply Array.ext
  · simp [madeCells]
  · intro i h1 h2
    simp only [madeCells, Value.cells, Array.getElem_map, Array.getElem_range, Array.getElem_replicate]
    have h3 : i % 3 < 3 := Nat.mod_lt _ (by omega)
    show (#[Value.int .i64 0, .int .i64 0, .int .i64 0] : Array Value)[i % 3]! = _
    generalize i % 3 = j at *
    match j, h3 with
    | 0, _ => rfl
    | 1, _ => rfl
    | 2, _ => rfl
/-- 'make([]api.Event, n)'. -/
theorem makeEv (l c : Operand) (ho : o.op = .makeSlice 22 l c) (hg : o.guard = none) (n : Nat) (hn : n ≤ 1000000) (k : Int) (hk : k = n) (hl : a.eval l = .int .i64 k) (hc : a.eval c = .int .i64 k)
    (h : wpList Tryz.prog ops Q rest (a.put o.dst (.slice (some ⟨w.heap.size, 0, none⟩) n n)) (w.alloc (.cells (Array.replicate (n * 3) (.int .i64 0)) 33))) : wpList Tryz.prog ops Q (o :: rest) a w := by
  subst hk
  obtain ⟨i, hi, hz, hs, hb⟩ := info_parts ev_info
  have hr := run_make (P := Tryz.prog) w 22 33 i _ Tryz.underlying22 hi hz .i64 .i64 n n (by omega) (by omega) (by rw [hb]; omega) (by omega)
  rw [hs, Int.toNat_natCast, made_ev] at hr
  refine wpList_plain hg fun _ hK => ?_
  unfold Oper.wp execOp
  simp only [ho, hl, hc, Sem.run_bind, hr, Result.andThen_ok, Sem.run_pure]
  exact hK _ _ h
end
end Go.Proofs.YtbkmkeaabcgifaaGreatDoor

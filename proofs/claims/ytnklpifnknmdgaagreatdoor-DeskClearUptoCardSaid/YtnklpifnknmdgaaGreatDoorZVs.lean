import Derived.Test.YtnklpifnknmdgaaGreatDoorZTr
set_option linter.all false
set_option maxRecDepth 100000
namespace Go.Proofs.YtnklpifnknmdgaaGreatDoor
open Go Go.RowKit

section
variable {P : Program}
theorem run_store1 (w : World) (b k : Nat) (ty : TypeId) (v : Value) (hc : (w.cell? ⟨b, k, none⟩).isSome = true) (hf : w.frozen? ⟨b, k, none⟩ = false) (hi : (P.info? ty).map (·.size) = some 1) (h1 : v.oneCell' = true) :
    (Instr.storeAt ty (.pointer (some ⟨b, k, none⟩)) v).run P w = .ok () (w.setCell ⟨b, k, none⟩ v) := by
  have := run_storeCells_cells (P := P) b k [v] 0 w (fun j hj => by have : j = 0 := by simpa using hj
                                                                    subst this; simpa using hc)
    (fun j hj => by have : j = 0 := by simpa using hj
                    subst this; simpa using hf) (fun x hx => by simp at hx; subst hx; exact h1)
  have hv : v.cells = #[v] := by cases v <;> first | rfl | cases h1
  cases hq : P.info? ty with
  | none => simp [hq] at hi
  | some i =>
    have hs : i.size = 1 := by simpa [hq] using hi
    simp only [Nat.add_zero] at this
    simp only [Instr.storeAt, Instr.sureAddr, Sem.run_bind, Sem.run_pure, Result.andThen_ok]
    simp [storeVar, sizeOf, typeInfo, hq, hv, hs, this]
    rfl
variable {ops : Array Oper} {rest : List Oper} {o : Oper} {a : Act} {w : World} {Q : Exit → Act → World → Prop}
theorem wp_cell1 {K : Act → World → Prop} (ty : TypeId) (x y : Operand) (ho : o.op = .store ty x y) {v : Value} (hy : a.eval y = v) {b k : Nat} (hx : a.eval x = .pointer (some ⟨b, k, none⟩)) (hi : (P.info? ty).map (·.size) = some 1) (h1 : v.oneCell' = true)
    (hc : (w.cell? ⟨b, k, none⟩).isSome = true) (hf : w.frozen? ⟨b, k, none⟩ = false) (h : K (a.put o.dst undef) (w.setCell ⟨b, k, none⟩ v)) : o.wp P a w K Q := by
  unfold Oper.wp execOp
  simp only [ho, hx, hy, Sem.run_bind, run_store1 w b k ty v hc hf hi h1, Sem.run_pure, Result.andThen_ok]
  exact h
end
def vs (n : Nat) (g : Nat → Value) : Array Value := ((List.range n).map g).toArray
theorem vs_size (n : Nat) (g : Nat → Value) : (vs n g).size = n := by simp [vs]
theorem vs_get {n : Nat} (g : Nat → Value) {j : Nat} (hj : j < n) : (vs n g)[j]? = some (g j) := by simp [vs, hj]
theorem vs_congr {n : Nat} {g g' : Nat → Value} (h : ∀ j, j < n → g j = g' j) : vs n g = vs n g' := by
  unfold vs
  rw [List.map_congr_left fun j hj => h j (List.mem_range.1 hj)]
def updC (g : Nat → Value) (j : Nat) (v : Value) : Nat → Value := fun i => if i = j then v else g i
theorem vs_set (n : Nat) (g : Nat → Value) (j : Nat) (v : Value) : (vs n g).setIfInBounds j v = vs n (updC g j v) := by
  apply Array.ext_getElem?
  intro i
  rw [Array.getElem?_setIfInBounds]
  by_cases hi : i < n
  · by_cases hij : j = i
    · subst hij; rw [if_pos rfl, if_pos (by rw [vs_size]; exact hi), vs_get _ hi]; simp [updC]
    · rw [if_neg hij, vs_get _ hi, vs_get _ hi]
      simp [updC, Ne.symm hij]
  · have h1 : (vs n g)[i]? = none := Array.getElem?_eq_none (by rw [vs_size]; omega)
    have h2 : (vs n (updC g j v))[i]? = none := Array.getElem?_eq_none (by rw [vs_size]; omega)
    rw [h1, h2]
    split
    · rename_i hij; subst hij; simp [vs_size, hi]
    · rfl
theorem run_new {P : Program} (t : TypeId) (i : TypeInfo) (hi : P.info? t = some i) (c : Array Value) (hz : i.zero = some (.agg c)) (w : World) :
    (Instr.alloc t true (.tuple #[])).run P w = .ok (.pointer (some ⟨w.heap.size, 0, none⟩)) (w.alloc (.cells c t)) := by
  simp [Instr.alloc, newVar, newObj, zeroValue, typeInfo, hi, hz, Value.cells, Sem.run_bind, Result.andThen, go_sem]
  rfl
theorem wp_new {P : Program} {o : Oper} {a : Act} {w : World} {K : Act → World → Prop} {Q : Exit → Act → World → Prop} (t : TypeId) (ho : o.op = .alloc t) (i : TypeInfo) (hi : P.info? t = some i) (c : Array Value) (hz : i.zero = some (.agg c))
    (h : K (a.put o.dst (.pointer (some ⟨w.heap.size, 0, none⟩))) (w.alloc (.cells c t))) : o.wp P a w K Q := by
  unfold Oper.wp execOp
  simp only [ho, Sem.run_bind, Sem.run_pure, Result.andThen_ok, run_new t i hi c hz w]
  exact h
end Go.Proofs.YtnklpifnknmdgaaGreatDoor

import Derived.Test.YtjddahidkodieaaZBase
import Derived.Test.YtjddahidkodieaaZAppend
import Derived.Test.YtjddahidkodieaaZEqInt
set_option linter.all false
set_option maxRecDepth 100000
namespace Go.Proofs.Ytjddahidkodieaa
open Go Go.RowKit

section
variable {P : Program}
theorem run_store1 (w : World) (b k : Nat) (ty : TypeId) (v : Value) (hc : (w.cell? ⟨b, k, none⟩).isSome = true) (hf : w.frozen? ⟨b, k, none⟩ = false) (hi : (P.info? ty).map (·.size) = some 1) (h1 : v.oneCell' = true) :
    (Instr.storeAt ty (.pointer (some ⟨b, k, none⟩)) v).run P w = .ok () (w.setCell ⟨b, k, none⟩ v) := by
  have := run_storeCells_cells (P := P) b k [v] 0 w (fun j hj => by have : j = 0 := by simpa using hj
                                                                    subst this; simpa using hc)
    (fun j hj => by have : j = 0 := by simpa using hj
                    subst this; simpa using hf) (fun x hx => by simp at hx; subst hx; exact h1)
  have hv : v.cells = #[v] := by cases v <;> first | rfl | cases h1
  cases hq : P.info? ty with
  | none => simp [hq] at hi
  | some i =>
    have hs : i.size = 1 := by simpa [hq] using hi
    simp only [Nat.add_zero] at this
    simp only [Instr.storeAt, Instr.sureAddr, Sem.run_bind, Sem.run_pure, Result.andThen_ok]
    simp [storeVar, sizeOf, typeInfo, hq, hv, hs, this]
    rfl
variable {ops : Array Oper} {rest : List Oper} {o : Oper} {a : Act} {w : World} {Q : Exit → Act → World → Prop}
theorem wp_cell1 {K : Act → World → Prop} (ty : TypeId) (x y : Operand) (ho : o.op = .store ty x y) {v : Value} (hy : a.eval y = v) {b k : Nat} (hx : a.eval x = .pointer (some ⟨b, k, none⟩)) (hi : (P.info? ty).map (·.size) = some 1) (h1 : v.oneCell' = true)
    (hc : (w.cell? ⟨b, k, none⟩).isSome = true) (hf : w.frozen? ⟨b, k, none⟩ = false) (h : K (a.put o.dst undef) (w.setCell ⟨b, k, none⟩ v)) : o.wp P a w K Q := by
  unfold Oper.wp execOp
  simp only [ho, hx, hy, Sem.run_bind, run_store1 w b k ty v hc hf hi h1, Sem.run_pure, Result.andThen_ok]
  exact h
end
def vs (n : Nat) (g : Nat → Value) : Array Value := ((List.range n).map g).toArray
theorem vs_size (n : Nat) (g : Nat → Value) : (vs n g).size = n := by simp [vs]
theorem vs_get {n : Nat} (g : Nat → Value) {j : Nat} (hj : j < n) : (vs n g)[j]? = some (g j) := by simp [vs, hj]
theorem vs_congr {n : Nat} {g g' : Nat → Value} (h : ∀ j, j < n → g j = g' j) : vs n g = vs n g' := by
  unfold vs
  rw [List.map_congr_left fun j hj => h j (List.mem_range.1 hj)]
def updC (g : Nat → Value) (j : Nat) (v : Value) : Nat → Value := fun i => if i = j then v else g i
theorem vs_set (n : Nat) (g : Nat → Value) (j : Nat) (v : Value) : (vs n g).setIfInBounds j v = vs n (updC g j v) := by
  apply Array.ext_getElem?
  intro i
  rw [Array.getElem?_setIfInBounds]
  by_cases hi : i < n
  · by_cases hij : j = i
    · subst hij; rw [if_pos rfl, if_pos (by rw [vs_size]; exact hi), vs_get _ hi]; simp [updC]
    · rw [if_neg hij, vs_get _ hi, vs_get _ hi]
      simp [updC, Ne.symm hij]
  · have h1 : (vs n g)[i]? = none := Array.getElem?_eq_none (by rw [vs_size]; omega)
    have h2 : (vs n (updC g j v))[i]? = none := Array.getElem?_eq_none (by rw [vs_size]; omega)
    rw [h1, h2]
    split
    · rename_i hij; subst hij; simp [vs_size, hi]
    · rfl
theorem vs_all {n : Nat} {g : Nat → Value} (h : ∀ i, (g i).oneCell' = true) : (vs n g).all (·.oneCell') = true := by
  rw [Array.all_eq_true_iff_forall_mem]
  intro v hv
  simp only [vs, List.mem_toArray, List.mem_map] at hv
  obtain ⟨i, _, rfl⟩ := hv
  exact h i
end Go.Proofs.Ytjddahidkodieaa
set_option linter.all false
set_option maxRecDepth 100000
namespace Go.Proofs.Ytjddahidkodieaa
open Go Go.RowKit

theorem wpList_append_srcE {P : Program} {ops : Array Oper} {rest : List Oper} {o : Oper} {a : Act} {w : World} {Q : Exit → Act → World → Prop} (hgd : o.guard = none) (s x : Operand) (t : TypeId)
    (ho : o.op = .call { callee := .builtin .append, args := #[s, x], argTypes := #[t, t] })
    (base : Nat) (e : TypeId) (i : TypeInfo) (z : Value) (size bytes : Nat) (ht : P.underlying t = some (.slice e)) (hi : P.info? e = some i) (hz : i.zero = some z)
    (hsize : i.size = size) (hby : i.bytes = bytes) (hzs : z.cells.size = size) (hsz : 0 < size)
    (v : Value) (n : Nat) (xs : List Value) (hv : a.eval s = v) (hown : w.ownsRow base e size v n xs)
    (A : Option Addr) (m c : Nat) (news : List Value) (hx : a.eval x = .slice A m c) (hl : news.length = m * size) (hs : Src w A m news) (h1 : ∀ u ∈ news, u.oneCell' = true)
    (h63 : n + m ≤ maxLen) (hbytes : (n + m) * bytes ≤ 140737488355328) (hbase : base ≤ w.heap.size)
    (h : ∀ v' w', w'.ownsRow base e size v' (n + m) (xs ++ news) → w.grownBy w' v.ownBlock → (v'.ownBlock = v.ownBlock ∨ v'.ownBlock = some w.heap.size) → wpList P ops Q rest (a.put o.dst v') w') : wpList P ops Q (o :: rest) a w :=
  wpList_plain hgd fun _ hK => wp_append_src s x t ho base e i z size bytes ht hi hz hsize hby hzs hsz v n xs hv hown A m c news hx hl hs h1 h63 hbytes hbase (fun v' w' a b c => hK _ _ (h v' w' a b c))
def CpPost (w : World) (n : Nat) (l : List Ev) (e : Ending) (w' : World) : Prop := ∃ v, e = .returned v ∧ w'.ownsRow w.heap.size 54 3 v n (evc l) ∧ Below w.heap.size w w'
end Go.Proofs.Ytjddahidkodieaa

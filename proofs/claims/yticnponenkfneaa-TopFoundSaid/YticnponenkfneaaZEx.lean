import Derived.Laws.CopyRow
import Derived.Test.YticnponenkfneaaZKt
import Derived.Test.YticnponenkfneaaZCp
import Derived.Test.YticnponenkfneaaZSwT
import Derived.Test.YticnponenkfneaaZCk3
set_option linter.all false
set_option maxRecDepth 100000
namespace Go.Proofs.Yticnponenkfneaa
open Go Go.RowKit

def xF (PV : Value) (m v h : Nat → Int) (d k : Bool) (LV : Value) (i : Nat) : Value := if i = 0 then PV else if i < 21 then endF m v h d k (i - 1) else LV
def xV (PV : Value) (m v h : Nat → Int) (d k : Bool) (LV : Value) : Array Value := vs 22 (xF PV m v h d k LV)
def cntW (ws : List Nat) (t : Nat) : Nat := ws.count t
theorem cntW_snoc (ws : List Nat) (t : Nat) : cntW (ws ++ [t]) = upF (cntW ws) t (cntW ws t + 1) := by
  funext u
  unfold cntW upF
  rw [List.count_append]
  by_cases h : u = t
  · subst h; simp
  · rw [if_neg h, List.count_singleton]
    simp [Ne.symm h]
theorem go_cnt {P : List (List Ev)} : ∀ {ws : List Nat} {s : Ps}, VlP P s ws → ∀ t, (goS P s ws).a t = s.a t + cntW ws t
  | [], _, _, _ => rfl
  | u :: ws, s, h, t => by
    obtain ⟨_, _, o, ho, _⟩ := can_op h.1
    show (goS P (stepP P s u) ws).a t = _
    rw [go_cnt h.2, step_op ho]
    show upF s.a u (s.a u + 1) t + _ = _
    unfold cntW upF
    rw [List.count_cons]
    by_cases e : t = u
    · subst e; simp; omega
    · rw [if_neg e]; simp [Ne.symm e]
theorem vl_cnt {P : List (List Ev)} {ws : List Nat} (h : VlP P ps0 ws) : (goS P ps0 ws).a = cntW ws := funext fun t => by rw [go_cnt h]; show 0 + _ = _; omega
theorem vl_lt {P : List (List Ev)} : ∀ {ws : List Nat} {s : Ps}, VlP P s ws → ∀ t ∈ ws, t < P.length
  | [], _, _, _, h => by cases h
  | u :: ws, s, h, t, ht => by
    rcases List.mem_cons.1 ht with rfl | ht
    · exact (can_op h.1).1
    · exact vl_lt h.2 t ht
theorem key_cnt {P : List (List Ev)} {ws : List Nat} (h : VlP P ps0 ws) : keyW P ws = stV (cntW ws) (leastL (goS P ps0 ws).L) := by unfold keyW; rw [vl_cnt h]

theorem TSt : RowTy Try.prog 131 36 := ⟨_, Try.underlying131, rfl, by kernel_rfl⟩
theorem TStv (a : Nat → Nat) (l : List Ev) : RowTy Try.prog 131 (stV a l).size := by unfold stV; rw [vs_size]; exact TSt
theorem TXe : RowTy Try.prog 53 22 := ⟨_, Try.underlying53, rfl, by kernel_rfl⟩
theorem TXv {PV : Value} {m v h : Nat → Int} {d k : Bool} {LV : Value} : RowTy Try.prog 53 (xV PV m v h d k LV).size := by unfold xV; rw [vs_size]; exact TXe
structure StI (x : Array Value) : Prop where
  ex : ∃ (a : Nat → Nat) (l : List Ev), x = stV a l ∧ (∀ t, a t ≤ 1000) ∧ ∀ e ∈ l, In64 e.k ∧ In64 e.t ∧ In64 e.o
theorem st_in64 {a : Nat → Nat} {l : List Ev} (ha : ∀ t, a t ≤ 1000) (hl : ∀ e ∈ l, In64 e.k ∧ In64 e.t ∧ In64 e.o) (i : Nat) : In64 (stF a l i) := by
  unfold stF
  split
  · have := ha i
    unfold In64; omega
  · split
    · unfold In64; omega
    · rename_i e he
      have := hl e (List.mem_of_getElem? he)
      split
      · exact this.1
      · split
        · exact this.2.1
        · exact this.2.2
theorem st_flds : (Try.prog.fieldsOf 131).toList.map (fun f => (f.type, f.offset)) = [(31, 0), (129, 6)] := by kernel_rfl
theorem ev_flds : (Try.prog.fieldsOf 67).toList.map (fun f => (f.type, f.offset)) = [(3, 0), (3, 1), (3, 2)] := by kernel_rfl
theorem st_law : WideMaps.KeyLaw Try.prog 131 := deep_law_laid laidOut (m := 5) (by omega) (of_decide_eq_true (by kernel_rfl)) (by kernel_rfl) (by rw [Try.underlying131])
theorem ev_lit {D n : Nat} {g : Nat → Int} (hg : ∀ i, In64 (g i)) {o : Nat} (ho : o + 3 ≤ n) : LitOk (D + 2) 67 (((List.range n).map fun i => Value.int .i64 (g i)).drop o |>.take 3) := by
  rw [dt_map n _ _ _ ho]
  refine LitOk.str Try.underlying67 (by rw [List.length_map, List.length_range]; kernel_rfl) (by kernel_rfl) fun f hf => ?_
  have hm : (f.type, f.offset) ∈ ((Try.prog.fieldsOf 67).toList.map fun f => (f.type, f.offset)) := List.mem_map.2 ⟨f, hf, rfl⟩
  rw [ev_flds] at hm
  simp only [List.mem_cons, List.not_mem_nil, or_false, Prod.mk.injEq] at hm
  rcases hm with ⟨e1, e2⟩ | ⟨e1, e2⟩ | ⟨e1, e2⟩ <;> rw [e1, e2, show Try.prog.cellsOf 3 = 1 by kernel_rfl, dt_map 3 _ _ _ (by omega)]
  · exact LitOk.int D (hg (o + 0))
  · exact LitOk.int D (hg (o + 1))
  · exact LitOk.int D (hg (o + 2))
theorem st_lit {x : Array Value} (hx : StI x) : ∃ l, keyOf Try.prog 131 (.agg x) = some l := by
  obtain ⟨a, l, rfl, ha, hl⟩ := hx.ex
  have hg := st_in64 ha hl
  refine key_of Try.underlying131 (by kernel_rfl) (by unfold stV; rw [vs_size]; kernel_rfl) ?_
  unfold stV
  rw [vs_list]
  have h3w : ∃ D, Try.prog.types.size + 1 = D + 4 := ⟨Try.prog.types.size - 3, by have : 3 ≤ Try.prog.types.size := of_decide_eq_true (by kernel_rfl); omega⟩
  obtain ⟨D, hD⟩ := h3w
  rw [hD]
  refine LitOk.str Try.underlying131 (by rw [List.length_map, List.length_range]; kernel_rfl) (by kernel_rfl) fun f hf => ?_
  have hm : (f.type, f.offset) ∈ ((Try.prog.fieldsOf 131).toList.map fun f => (f.type, f.offset)) := List.mem_map.2 ⟨f, hf, rfl⟩
  rw [st_flds] at hm
  simp only [List.mem_cons, List.not_mem_nil, or_false, Prod.mk.injEq] at hm
  rcases hm with ⟨e1, e2⟩ | ⟨e1, e2⟩ <;> rw [e1, e2]
  · rw [show Try.prog.cellsOf 31 = 6 by kernel_rfl, dt_map 36 _ _ _ (by omega)]
    have := LitOk.ints (d := D + 1) Try.underlying31 (by kernel_rfl) (fun i => stF a l (0 + i)) fun i _ => hg _
    exact this
  · rw [show Try.prog.cellsOf 129 = 30 by kernel_rfl, dt_map 36 _ _ _ (by omega)]
    refine LitOk.arr (c := 3) Try.underlying129 (by kernel_rfl) (by rw [List.length_map, List.length_range]; kernel_rfl) fun i hi => ?_
    exact ev_lit (D := D) (g := fun i => stF a l (6 + i)) (fun i => hg _) (by omega)
theorem st_keyT : KeyT 85 131 StI := ⟨Try.underlying85, st_law, fun _ h => st_lit h⟩
end Go.Proofs.Yticnponenkfneaa

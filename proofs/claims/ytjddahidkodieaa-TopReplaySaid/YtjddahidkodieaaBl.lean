/- Slices of two or three ops that are no literals. -/
import Derived.Test.YtjddahidkodieaaAppend
import Derived.Test.YtjddahidkodieaaCi
import Derived.Laws.MakeOwn
set_option linter.all false
set_option maxRecDepth 100000
namespace Go.Proofs.Ytjddahidkodieaa
open Go Go.RowKit

set_option maxHeartbeats 2000000 in
theorem fill6 {n : Nat} (hn : n = 6) (ff : Fin n → Value) (a b c d e f : Value) : (((((((Array.ofFn ff).setIfInBounds 0 a).setIfInBounds 1 b).setIfInBounds 2 c).setIfInBounds 3 d).setIfInBounds 4 e).setIfInBounds 5 f) = #[a, b, c, d, e, f] := by
  subst hn
  apply Array.ext
  · simp
  · intro i h1 h2
    have hi : i < 6 := by simpa using h2
    rcases (show i = 0 ∨ i = 1 ∨ i = 2 ∨ i = 3 ∨ i = 4 ∨ i = 5 by omega) with rfl | rfl | rfl | rfl | rfl | rfl <;> simp [Array.getElem_setIfInBounds]
set_option maxHeartbeats 2000000 in
theorem fill9 {n : Nat} (hn : n = 9) (ff : Fin n → Value) (a b c d e f g h i : Value) : ((((((((((Array.ofFn ff).setIfInBounds 0 a).setIfInBounds 1 b).setIfInBounds 2 c).setIfInBounds 3 d).setIfInBounds 4 e).setIfInBounds 5 f).setIfInBounds 6 g).setIfInBounds 7 h).setIfInBounds 8 i) = #[a, b, c, d, e, f, g, h, i] := by
  subst hn
  apply Array.ext
  · simp
  · intro i h1 h2
    have hi : i < 9 := by simpa using h2
    rcases (show i = 0 ∨ i = 1 ∨ i = 2 ∨ i = 3 ∨ i = 4 ∨ i = 5 ∨ i = 6 ∨ i = 7 ∨ i = 8 by omega) with rfl | rfl | rfl | rfl | rfl | rfl | rfl | rfl | rfl <;> simp [Array.getElem_setIfInBounds]
theorem run_bld2 {P : Program} (t e : TypeId) (i : TypeInfo) (ht : P.underlying t = some (.slice e)) (hi : P.info? e = some i) (hz : i.zero = some (.agg #[.int .i64 0, .int .i64 0, .int .i64 0])) (hs : i.size = 3) (x y : Ev) (w : World) :
    (Instr.buildSlice t 2 #[(0, .agg (evv x)), (1, .agg (evv y))]).run P w = .ok (.slice (some ⟨w.heap.size, 0, none⟩) 2 2) (w.alloc (.cells (evc [x, y]).toArray e)) := by
  simp [Instr.buildSlice, Sem.run_bind, run_underlying ht, sizeOf, typeInfo, hi, hs, zeroValue, hz, Instr.fill, Value.cells, evv, newRow, newObj, List.zipIdx, Array.range, Result.andThen, go_sem]
  rw [fill6 (by rw [hs])]
  rfl
theorem wp_bld2 {P : Program} {o : Oper} {a : Act} {w : World} {K : Act → World → Prop} {Q : Exit → Act → World → Prop} (t : TypeId) (p0 p1 : Operand) (ho : o.op = .buildSlice t 2 #[(0, p0), (1, p1)]) (e : TypeId) (i : TypeInfo) (ht : P.underlying t = some (.slice e)) (hi : P.info? e = some i)
    (hz : i.zero = some (.agg #[.int .i64 0, .int .i64 0, .int .i64 0])) (hs : i.size = 3) (x y : Ev) (h0 : a.eval p0 = .agg (evv x)) (h1 : a.eval p1 = .agg (evv y))
    (h : K (a.put o.dst (.slice (some ⟨w.heap.size, 0, none⟩) 2 2)) (w.alloc (.cells (evc [x, y]).toArray e))) : o.wp P a w K Q := by
  unfold Oper.wp execOp
  simp only [ho, Sem.run_bind, Sem.run_pure, Result.andThen_ok, List.map_toArray, List.map_cons, List.map_nil, h0, h1, run_bld2 t e i ht hi hz hs x y w]
  exact h
theorem bld2 {P : Program} {ops : Array Oper} {rest : List Oper} {o : Oper} {a : Act} {w : World} {Q : Exit → Act → World → Prop} (t : TypeId) (p0 p1 : Operand) (ho : o.op = .buildSlice t 2 #[(0, p0), (1, p1)]) (hgd : o.guard = none) (e : TypeId) (i : TypeInfo) (ht : P.underlying t = some (.slice e)) (hi : P.info? e = some i)
    (hz : i.zero = some (.agg #[.int .i64 0, .int .i64 0, .int .i64 0])) (hs : i.size = 3) (x y : Ev) (h0 : a.eval p0 = .agg (evv x)) (h1 : a.eval p1 = .agg (evv y))
    (h : wpList P ops Q rest (a.put o.dst (.slice (some ⟨w.heap.size, 0, none⟩) 2 2)) (w.alloc (.cells (evc [x, y]).toArray e))) : wpList P ops Q (o :: rest) a w :=
  wpList_plain hgd fun _ hK' => wp_bld2 t p0 p1 ho e i ht hi hz hs x y h0 h1 (hK' _ _ h)
theorem run_bld3 {P : Program} (t e : TypeId) (i : TypeInfo) (ht : P.underlying t = some (.slice e)) (hi : P.info? e = some i) (hz : i.zero = some (.agg #[.int .i64 0, .int .i64 0, .int .i64 0])) (hs : i.size = 3) (x y z : Ev) (w : World) :
    (Instr.buildSlice t 3 #[(0, .agg (evv x)), (1, .agg (evv y)), (2, .agg (evv z))]).run P w = .ok (.slice (some ⟨w.heap.size, 0, none⟩) 3 3) (w.alloc (.cells (evc [x, y, z]).toArray e)) := by
  simp [Instr.buildSlice, Sem.run_bind, run_underlying ht, sizeOf, typeInfo, hi, hs, zeroValue, hz, Instr.fill, Value.cells, evv, newRow, newObj, List.zipIdx, Array.range, Result.andThen, go_sem]
  rw [fill9 (by rw [hs])]
  rfl
theorem wp_bld3 {P : Program} {o : Oper} {a : Act} {w : World} {K : Act → World → Prop} {Q : Exit → Act → World → Prop} (t : TypeId) (p0 p1 p2 : Operand) (ho : o.op = .buildSlice t 3 #[(0, p0), (1, p1), (2, p2)]) (e : TypeId) (i : TypeInfo) (ht : P.underlying t = some (.slice e)) (hi : P.info? e = some i)
    (hz : i.zero = some (.agg #[.int .i64 0, .int .i64 0, .int .i64 0])) (hs : i.size = 3) (x y z : Ev) (h0 : a.eval p0 = .agg (evv x)) (h1 : a.eval p1 = .agg (evv y)) (h2 : a.eval p2 = .agg (evv z))
    (h : K (a.put o.dst (.slice (some ⟨w.heap.size, 0, none⟩) 3 3)) (w.alloc (.cells (evc [x, y, z]).toArray e))) : o.wp P a w K Q := by
  unfold Oper.wp execOp
  simp only [ho, Sem.run_bind, Sem.run_pure, Result.andThen_ok, List.map_toArray, List.map_cons, List.map_nil, h0, h1, h2, run_bld3 t e i ht hi hz hs x y z w]
  exact h
theorem bld3 {P : Program} {ops : Array Oper} {rest : List Oper} {o : Oper} {a : Act} {w : World} {Q : Exit → Act → World → Prop} (t : TypeId) (p0 p1 p2 : Operand) (ho : o.op = .buildSlice t 3 #[(0, p0), (1, p1), (2, p2)]) (hgd : o.guard = none) (e : TypeId) (i : TypeInfo) (ht : P.underlying t = some (.slice e)) (hi : P.info? e = some i)
    (hz : i.zero = some (.agg #[.int .i64 0, .int .i64 0, .int .i64 0])) (hs : i.size = 3) (x y z : Ev) (h0 : a.eval p0 = .agg (evv x)) (h1 : a.eval p1 = .agg (evv y)) (h2 : a.eval p2 = .agg (evv z))
    (h : wpList P ops Q rest (a.put o.dst (.slice (some ⟨w.heap.size, 0, none⟩) 3 3)) (w.alloc (.cells (evc [x, y, z]).toArray e))) : wpList P ops Q (o :: rest) a w :=
  wpList_plain hgd fun _ hK' => wp_bld3 t p0 p1 p2 ho e i ht hi hz hs x y z h0 h1 h2 (hK' _ _ h)
theorem made_ints (n : Nat) : madeCells #[Value.int .i64 0] n = Array.replicate n (.int .i64 0) := by
  apply Array.ext
  · simp [madeCells]
  · intro i h1 h2
    simp [madeCells, Nat.mod_one]
theorem makeInts {ops : Array Oper} {rest : List Oper} {o : Oper} {a : Act} {w : World} {Q : Exit → Act → World → Prop} (l c : Operand) (ho : o.op = .makeSlice 23 l c) (hg : o.guard = none) (n : Nat) (hn : n ≤ 1000000) (hl : a.eval l = .int .i64 n) (hc : a.eval c = .int .i64 n)
    (h : wpList Try.prog ops Q rest (a.put o.dst (.slice (some ⟨w.heap.size, 0, none⟩) n n)) (w.alloc (.cells (Array.replicate n (.int .i64 0)) 3))) : wpList Try.prog ops Q (o :: rest) a w := by
  obtain ⟨i, hi, hz, hs, hb⟩ := info_parts qint_info
  have hr := run_make (P := Try.prog) w 23 3 i _ Try.underlying23 hi hz .i64 .i64 n n (by omega) (by omega) (by rw [hb]; omega) (by omega)
  rw [hs, Int.toNat_natCast, Nat.mul_one, show (Value.int .i64 0).cells = #[Value.int .i64 0] from rfl, made_ints] at hr
  refine wpList_plain hg fun _ hK => ?_
  unfold Oper.wp execOp
  simp only [ho, hl, hc, Sem.run_bind, hr, Result.andThen_ok, Sem.run_pure]
  exact hK _ _ h
end Go.Proofs.Ytjddahidkodieaa

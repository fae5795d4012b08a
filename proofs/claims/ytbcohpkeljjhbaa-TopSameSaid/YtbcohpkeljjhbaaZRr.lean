import Derived.Test.YtbcohpkeljjhbaaRows
import Derived.Test.YtbcohpkeljjhbaaZAppend
import Derived.Test.YtbcohpkeljjhbaaZOr
import Derived.Test.YtbcohpkeljjhbaaZCi
set_option linter.all false
set_option maxRecDepth 100000
namespace Go.Proofs.Ytbcohpkeljjhbaa
open Go Go.RowKit

def SlR (w : World) (A : Option Addr) (n : Nat) (l : List Rc) : Prop :=
  l.length = n ∧ (0 < n → ∃ b off, A = some ⟨b, off, none⟩ ∧ b < w.heap.size ∧ w.rangeAt b off (rcc l))
theorem SlR.own {w : World} {base : Nat} {t : TypeId} {v : Value} {n : Nat} {l : List Rc} (h : w.ownsRow base t 4 v n (rcc l)) : ∃ A c, v = .slice A n c ∧ SlR w A n l ∧ n ≤ c ∧ c ≤ maxLen := by
  have hl : l.length = n := by have := h.1; rw [rcc_length] at this; omega
  rcases h.2 with ⟨rfl, rfl⟩ | ⟨g, cap, cur, rfl, hg, hh, hn, hc, hs, ht⟩
  · exact ⟨none, 0, rfl, ⟨hl, fun h => absurd h (by omega)⟩, by omega, by omega⟩
  · have hb : Box w g cur t := hh
    refine ⟨_, cap, rfl, ⟨hl, fun _ => ⟨g, 0, rfl, hb.lt, fun j v hv => ?_⟩⟩, hn, hc⟩
    rw [Nat.zero_add]
    refine hb.cell j ?_
    rw [← ht, List.getElem?_take] at hv
    split at hv
    · simpa using hv
    · cases hv
theorem rc_info : (Try.prog.info? 91).map (fun i => (i.zero, i.size, i.bytes)) = some (some (.agg #[.int .i64 0, .int .i64 0, .int .i64 0, .int .i64 0]), 4, 32) := by kernel_rfl
theorem fill4 {n : Nat} (hn : n = 4) (f : Fin n → Value) (a b c d : Value) : ((((Array.ofFn f).setIfInBounds 0 a).setIfInBounds 1 b).setIfInBounds 2 c).setIfInBounds 3 d = #[a, b, c, d] := by
  subst hn
  apply Array.ext
  · simp
  · intro i h1 h2
    have hi : i < 4 := by simpa using h2
    match i, hi with
    | 0, _ => simp [Array.getElem_setIfInBounds]
    | 1, _ => simp [Array.getElem_setIfInBounds]
    | 2, _ => simp [Array.getElem_setIfInBounds]
    | 3, _ => simp [Array.getElem_setIfInBounds]
theorem run_buildr (t e : TypeId) {P : Program} (i : TypeInfo) (ht : P.underlying t = some (.slice e)) (hi : P.info? e = some i) (hz : i.zero = some (.agg #[.int .i64 0, .int .i64 0, .int .i64 0, .int .i64 0])) (hs : i.size = 4) (r : Rc) (w : World) :
    (Instr.buildSlice t 1 #[(0, .agg (rcv r))]).run P w = .ok (.slice (some ⟨w.heap.size, 0, none⟩) 1 1) (w.alloc (.cells (rcv r) e)) := by
  simp [Instr.buildSlice, Sem.run_bind, run_underlying ht, sizeOf, typeInfo, hi, hs, zeroValue, hz, Instr.fill, Value.cells, rcv, newRow, newObj, List.zipIdx, Array.range, Result.andThen, go_sem]
  rw [fill4 (by rw [hs])]
  rfl
theorem buildr {P : Program} {ops : Array Oper} {rest : List Oper} {o : Oper} {a : Act} {w : World} {Q : Exit → Act → World → Prop} (t : TypeId) (x : Operand) (ho : o.op = .buildSlice t 1 #[(0, x)]) (hgd : o.guard = none) (e : TypeId) (i : TypeInfo) (ht : P.underlying t = some (.slice e)) (hi : P.info? e = some i)
    (hz : i.zero = some (.agg #[.int .i64 0, .int .i64 0, .int .i64 0, .int .i64 0])) (hs : i.size = 4) (r : Rc) (hx : a.eval x = .agg (rcv r))
    (h : wpList P ops Q rest (a.put o.dst (.slice (some ⟨w.heap.size, 0, none⟩) 1 1)) (w.alloc (.cells (rcv r) e))) : wpList P ops Q (o :: rest) a w := by
  refine wpList_plain hgd fun _ hK' => ?_
  unfold Oper.wp execOp
  simp only [ho, Sem.run_bind, Sem.run_pure, Result.andThen_ok, List.map_toArray, List.map_cons, List.map_nil, hx, run_buildr t e i ht hi hz hs r w]
  exact hK' _ _ h
end Go.Proofs.Ytbcohpkeljjhbaa
namespace Go.Proofs.Ytbcohpkeljjhbaa
open Go Go.RowKit

structure RcR (w : World) (l : List Ev) (n i j : Nat) (v : Value) (wr : World) : Prop where
  own : wr.ownsRow w.heap.size 91 4 v (rcTo l n i j).length (rcc (rcTo l n i j))
  below : Bel w wr
theorem RcR.to {w : World} {l : List Ev} {n i j i' j' : Nat} {v : Value} {wr : World} (h : RcR w l n i j v wr) (e : rcTo l n i' j' = rcTo l n i j) : RcR w l n i' j' v wr := by
  obtain ⟨h1, h2⟩ := h; rw [← e] at h1; exact ⟨h1, h2⟩
theorem RcR.bel {w : World} {l : List Ev} {n i j : Nat} {v : Value} {wr w' : World} (h : RcR w l n i j v wr) (hb : Bel wr w') : RcR w l n i j v w' := ⟨own_bel h.own hb, h.below.trans hb⟩
theorem rcTo_small {l : List Ev} {n i j : Nat} (hn : n ≤ 80) (hi : i ≤ n) (hj : j ≤ n) : (rcTo l n i j).length ≤ 6480 := by rw [rcTo_len]; exact prs_small hn hi hj
end Go.Proofs.Ytbcohpkeljjhbaa

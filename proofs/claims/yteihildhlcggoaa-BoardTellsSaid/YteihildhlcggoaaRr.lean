/- Rows of races: slices, loads, '==' on them, slices of one. | Rows of races that grow. -/
import Derived.Test.YteihildhlcggoaaRows
import Derived.Test.YteihildhlcggoaaMid
import Derived.Test.YteihildhlcggoaaAppend
import Derived.Test.YteihildhlcggoaaOr
import Derived.Test.YteihildhlcggoaaOrder2
set_option linter.all false
set_option maxRecDepth 100000
namespace Go.Proofs.Yteihildhlcggoaa
open Go Go.RowKit

/-- A slice of races, nil let in. -/
def SlR (w : World) (A : Option Addr) (n : Nat) (l : List Rc) : Prop :=
  l.length = n ∧ (0 < n → ∃ b off, A = some ⟨b, off, none⟩ ∧ b < w.heap.size ∧ w.rangeAt b off (rcc l))
theorem SlR.bel {w w' : World} {A : Option Addr} {n : Nat} {l : List Rc} (h : SlR w A n l) (hb : Bel w w') : SlR w' A n l :=
  ⟨h.1, fun hn => by
    obtain ⟨b, off, hA, hlt, hr⟩ := h.2 hn
    exact ⟨b, off, hA, Nat.lt_of_lt_of_le hlt hb.size, rangeAt_below hb.out hlt hr⟩⟩
theorem SlR.at_ {w : World} {A : Option Addr} {n : Nat} {l : List Rc} (h : SlR w A n l) {i : Nat} (hi : i < n) :
    ∃ b off r, A = some ⟨b, off, none⟩ ∧ b < w.heap.size ∧ l[i]? = some r ∧ w.rangeAt b (off + i * 4) (rcl r) := by
  obtain ⟨b, off, hA, hlt, hr⟩ := h.2 (by omega)
  have hl : i < l.length := by rw [h.1]; exact hi
  exact ⟨b, off, l[i], hA, hlt, List.getElem?_eq_getElem hl, range_part hr fun j v hv => rcc_at (List.getElem?_eq_getElem hl) j v hv⟩
theorem SlR.rng {w : World} {bb off n i : Nat} {l : List Rc} (h : SlR w (some ⟨bb, off, none⟩) n l) (hi : i < n) {r : Rc} (he : l[i]? = some r) : bb < w.heap.size ∧ w.rangeAt bb (off + i * 4) (rcl r) := by
  obtain ⟨b, o, e', hA, hb, he', hr⟩ := h.at_ hi
  cases hA
  rw [he] at he'; cases he'
  exact ⟨hb, hr⟩
theorem SlR.own {w : World} {base : Nat} {t : TypeId} {v : Value} {n : Nat} {l : List Rc} (h : w.ownsRow base t 4 v n (rcc l)) : ∃ A c, v = .slice A n c ∧ SlR w A n l ∧ n ≤ c ∧ c ≤ maxLen := by
  have hl : l.length = n := by have := h.1; rw [rcc_length] at this; omega
  rcases h.2 with ⟨rfl, rfl⟩ | ⟨g, cap, cur, rfl, hg, hh, hn, hc, hs, ht⟩
  · exact ⟨none, 0, rfl, ⟨hl, fun h => absurd h (by omega)⟩, by omega, by omega⟩
  · have hb : Box w g cur t := hh
    refine ⟨_, cap, rfl, ⟨hl, fun _ => ⟨g, 0, rfl, hb.lt, fun j v hv => ?_⟩⟩, hn, hc⟩
    rw [Nat.zero_add]
    refine hb.cell j ?_
    rw [← ht, List.getElem?_take] at hv
    split at hv
    · simpa using hv
    · cases hv
theorem SlR.box {w : World} {B : Nat} {l : List Rc} {t : TypeId} (h : Box w B (rcc l).toArray t) (n : Nat) (hn : l.length = n) : SlR w (some ⟨B, 0, none⟩) n l := ⟨hn, fun _ => ⟨B, 0, rfl, h.lt, h.range⟩⟩
theorem SlR.nil (w : World) : SlR w none 0 [] := ⟨rfl, fun h => absurd h (by omega)⟩
theorem TRc : RowTy Try.prog 42 4 := ⟨_, Try.underlying42, rfl, by kernel_rfl⟩
theorem rc_info : (Try.prog.info? 42).map (fun i => (i.zero, i.size, i.bytes)) = some (some (.agg #[.int .i64 0, .int .i64 0, .int .i64 0, .int .i64 0]), 4, 32) := by kernel_rfl
theorem rc_dec (a b : Rc) : decide (a = b) = ((a.a : Int) == b.a && ((a.b : Int) == b.b && (a.v == b.v && a.k == b.k))) := by
  rw [Bool.eq_iff_iff]
  simp only [decide_eq_true_eq, Bool.and_eq_true, beq_iff_eq]
  exact ⟨fun h => by subst h; exact ⟨rfl, rfl, rfl, rfl⟩, fun ⟨h1, h2, h3, h4⟩ => Rc.ext' (by omega) (by omega) h3 h4⟩
theorem neq_rc (a b : Rc) (w : World) : (binOp .neq 42 (.agg (rcv a)) (.agg (rcv b))).run Try.prog w = .ok (.bool (!decide (a = b))) w := by
  rw [rc_dec]
  unfold rcv
  generalize (a.a : Int) = a1; generalize (b.a : Int) = b1; generalize (a.b : Int) = a2; generalize (b.b : Int) = b2; generalize a.v = a3; generalize b.v = b3; generalize a.k = a4; generalize b.k = b4
  by_cases h1 : a1 = b1 <;> by_cases h2 : a2 = b2 <;> by_cases h3 : a3 = b3 <;> by_cases h4 : a4 = b4 <;> simp [go_sem, h1, h2, h3, h4]
theorem grd_rc : Try.prog.eqGuardType Try.prog.depth 42 = false := by kernel_rfl
/-- The world behind 'for .. := range l' over races, that has taken its next race. -/
def rwld (w : World) (r : Rc) (t : TypeId) : World := (w.alloc (.cells #[.int .i64 0, .int .i64 0, .int .i64 0, .int .i64 0] t)).setRow w.heap.size (rcv r)
theorem rwld_box (w : World) (r : Rc) (t : TypeId) : Box (rwld w r t) w.heap.size (rcv r) t := (Box.new w _ t).setRow _
theorem rwld_below (w : World) (r : Rc) (t : TypeId) : Bel w (rwld w r t) := below_setRow' ((Below.refl _ _).alloc (Nat.le_refl _) _) _ _ (Nat.le_refl _)
theorem rwld_store {P : Program} {ops : Array Oper} {rest : List Oper} {o : Oper} {a : Act} {w' w : World} {Q : Exit → Act → World → Prop} {ty : TypeId} (hT : RowTy P ty 4) (x y : Operand) (ho : o.op = .store ty x y) (hgd : o.guard = none) {r : Rc} (t : TypeId)
    (hy : a.eval y = .agg (rcv r)) (hw : w' = w.alloc (.cells #[.int .i64 0, .int .i64 0, .int .i64 0, .int .i64 0] t)) (hx : a.eval x = .pointer (some ⟨w.heap.size, 0, none⟩))
    (h : wpList P ops Q rest (a.put o.dst undef) (rwld w r t)) : wpList P ops Q (o :: rest) a w' := by
  subst hw
  exact storeB ty x y ho hgd hx hy (Box.new w _ t) rfl hT (rcv_all r) h
theorem load_rc {P : Program} {ops : Array Oper} {rest : List Oper} {o : Oper} {a : Act} {w : World} {Q : Exit → Act → World → Prop} {ty : TypeId} (hT : RowTy P ty 4) (x : Operand) (ho : o.op = .load ty x) (hgd : o.guard = none) {b off : Nat} {r : Rc}
    (hx : a.eval x = .pointer (some ⟨b, off, none⟩)) (hr : w.rangeAt b off (rcl r))
    (h : wpList P ops Q rest (a.put o.dst (.agg (rcv r))) w) : wpList P ops Q (o :: rest) a w := by
  obtain ⟨d, hu, hd, hi⟩ := hT
  exact wpList_load_mid hgd ty x ho b off hx (rcl r) d hr hu hd hi h
theorem fill4 {n : Nat} (hn : n = 4) (f : Fin n → Value) (a b c d : Value) : ((((Array.ofFn f).setIfInBounds 0 a).setIfInBounds 1 b).setIfInBounds 2 c).setIfInBounds 3 d = #[a, b, c, d] := by
  subst hn
  apply Array.ext
  · simp
  · intro i h1 h2
    have hi : i < 4 := by simpa using h2
    match i, hi with
    | 0, _ => simp [Array.getElem_setIfInBounds]
    | 1, _ => simp [Array.getElem_setIfInBounds]
    | 2, _ => simp [Array.getElem_setIfInBounds]
    | 3, _ => simp [Array.getElem_setIfInBounds]
theorem run_buildr (t e : TypeId) {P : Program} (i : TypeInfo) (ht : P.underlying t = some (.slice e)) (hi : P.info? e = some i) (hz : i.zero = some (.agg #[.int .i64 0, .int .i64 0, .int .i64 0, .int .i64 0])) (hs : i.size = 4) (r : Rc) (w : World) :
    (Instr.buildSlice t 1 #[(0, .agg (rcv r))]).run P w = .ok (.slice (some ⟨w.heap.size, 0, none⟩) 1 1) (w.alloc (.cells (rcv r) e)) := by
  simp [Instr.buildSlice, Sem.run_bind, run_underlying ht, sizeOf, typeInfo, hi, hs, zeroValue, hz, Instr.fill, Value.cells, rcv, newRow, newObj, List.zipIdx, Array.range, Result.andThen, go_sem]
  rw [fill4 (by rw [hs])]
  rfl
/-- A slice of one race that is no literal. -/
theorem buildr {P : Program} {ops : Array Oper} {rest : List Oper} {o : Oper} {a : Act} {w : World} {Q : Exit → Act → World → Prop} (t : TypeId) (x : Operand) (ho : o.op = .buildSlice t 1 #[(0, x)]) (hgd : o.guard = none) (e : TypeId) (i : TypeInfo) (ht : P.underlying t = some (.slice e)) (hi : P.info? e = some i)
    (hz : i.zero = some (.agg #[.int .i64 0, .int .i64 0, .int .i64 0, .int .i64 0])) (hs : i.size = 4) (r : Rc) (hx : a.eval x = .agg (rcv r))
    (h : wpList P ops Q rest (a.put o.dst (.slice (some ⟨w.heap.size, 0, none⟩) 1 1)) (w.alloc (.cells (rcv r) e))) : wpList P ops Q (o :: rest) a w := by
  refine wpList_plain hgd fun _ hK' => ?_
  unfold Oper.wp execOp
  simp only [ho, Sem.run_bind, Sem.run_pure, Result.andThen_ok, List.map_toArray, List.map_cons, List.map_nil, hx, run_buildr t e i ht hi hz hs r w]
  exact hK' _ _ h
theorem rc_all_take {l : List Rc} {A : Option Addr} {w : World} {n : Nat} (h : SlR w A n l) : l.take n = l := by rw [← h.1, List.take_length]
end Go.Proofs.Yteihildhlcggoaa
namespace Go.Proofs.Yteihildhlcggoaa
open Go Go.RowKit

structure RcR (w : World) (l : List Ev) (n i j : Nat) (v : Value) (wr : World) : Prop where
  own : wr.ownsRow w.heap.size 42 4 v (rcTo l n i j).length (rcc (rcTo l n i j))
  below : Bel w wr
theorem RcR.to {w : World} {l : List Ev} {n i j i' j' : Nat} {v : Value} {wr : World} (h : RcR w l n i j v wr) (e : rcTo l n i' j' = rcTo l n i j) : RcR w l n i' j' v wr := by
  obtain ⟨h1, h2⟩ := h; rw [← e] at h1; exact ⟨h1, h2⟩
theorem RcR.bel {w : World} {l : List Ev} {n i j : Nat} {v : Value} {wr w' : World} (h : RcR w l n i j v wr) (hb : Bel wr w') : RcR w l n i j v w' := ⟨own_bel h.own hb, h.below.trans hb⟩
theorem rcTo_small {l : List Ev} {n i j : Nat} (hn : n ≤ 80) (hi : i ≤ n) (hj : j ≤ n) : (rcTo l n i j).length ≤ 6480 := by rw [rcTo_len]; exact prs_small hn hi hj
end Go.Proofs.Yteihildhlcggoaa

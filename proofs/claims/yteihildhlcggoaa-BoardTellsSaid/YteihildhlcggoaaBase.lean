/- Plain facts on blocks of memory that a call made: no program in sight. | A plain list of operations whose callees make memory: one walk in every world that has grown. -/
import Derived.WalkKit
import Derived.WalkSpells
import Derived.Deep.MidRow
import Derived.Laws.Rows
import Derived.Laws.Tables
import Derived.WalkSmall
import Derived.Laws.ResultCell
import Derived.BigQuiet
import Derived.Deep.WholeRow
set_option linter.all false
set_option maxRecDepth 100000
namespace Go.Proofs.Yteihildhlcggoaa
open Go Go.RowKit

/-- A clock as a value: six numbers. -/
def clkl (c : Nat → Int) : List Value := [.int .i64 (c 0), .int .i64 (c 1), .int .i64 (c 2), .int .i64 (c 3), .int .i64 (c 4), .int .i64 (c 5)]
def clk (c : Nat → Int) : Array Value := (clkl c).toArray
theorem clk_size (c : Nat → Int) : (clk c).size = 6 := rfl
theorem clkl_length (c : Nat → Int) : (clkl c).length = 6 := rfl
theorem clkl_get (c : Nat → Int) (k : Nat) (h : k < 6) : (clkl c)[k]? = some (.int .i64 (c k)) := by
  match k, h with
  | 0, _ => rfl
  | 1, _ => rfl
  | 2, _ => rfl
  | 3, _ => rfl
  | 4, _ => rfl
  | 5, _ => rfl
theorem clk_get (c : Nat → Int) (k : Nat) (h : k < 6) : (clk c)[k]? = some (.int .i64 (c k)) := by
  simpa [clk] using clkl_get c k h
def upd (c : Nat → Int) (k : Nat) (v : Int) : Nat → Int := fun j => if j = k then v else c j
theorem clk_set (c : Nat → Int) (k : Nat) (h : k < 6) (v : Int) : (clk c).setIfInBounds k (.int .i64 v) = clk (upd c k v) := by
  match k, h with
  | 0, _ => rfl
  | 1, _ => rfl
  | 2, _ => rfl
  | 3, _ => rfl
  | 4, _ => rfl
  | 5, _ => rfl
theorem clk_congr {a b : Nat → Int} (h : ∀ k, k < 6 → a k = b k) : clk a = clk b := by
  simp [clk, clkl, h 0, h 1, h 2, h 3, h 4, h 5]
theorem clk_one (c : Nat → Int) : ∀ v ∈ clkl c, v.oneCell' = true := by
  intro v hv
  simp only [clkl, List.mem_cons, List.not_mem_nil, or_false] at hv
  rcases hv with rfl | rfl | rfl | rfl | rfl | rfl <;> rfl
def within (a b : Nat → Int) : Bool := (List.range 6).all fun k => decide (a k ≤ b k)
theorem within_iff (a b : Nat → Int) : within a b = true ↔ ∀ k, k < 6 → a k ≤ b k := by simp [within]
theorem within_no {a b : Nat → Int} {k : Nat} (hk : k < 6) (h : b k < a k) : within a b = false := by
  rw [← Bool.not_eq_true, within_iff]
  intro hh
  have := hh k hk
  omega

def UpTo (P : Nat → Prop) (k : Nat) : Prop := ∀ j, j < k → P j
theorem UpTo.zero {P : Nat → Prop} : UpTo P 0 := fun _ h => absurd h (Nat.not_lt_zero _)
theorem UpTo.succ {P : Nat → Prop} {k : Nat} (h : UpTo P k) (hk : P k) : UpTo P (k + 1) := fun j hj => by
  rcases Nat.lt_succ_iff_lt_or_eq.1 hj with h' | rfl
  · exact h j h'
  · exact hk

def mx (x y : Int) : Int := if x < y then y else x
def mn (x y : Int) : Int := if y < x then y else x
theorem mx_lt {x y : Int} (h : x < y) : mx x y = y := if_pos h
theorem mx_ge {x y : Int} (h : ¬ x < y) : mx x y = x := if_neg h
theorem mn_lt {x y : Int} (h : y < x) : mn x y = y := if_pos h
theorem mn_ge {x y : Int} (h : ¬ y < x) : mn x y = x := if_neg h

/-- Block B holds the cells c, and nothing of it is frozen. -/
def Box (w : World) (B : Nat) (c : Array Value) (t : TypeId) : Prop := w.heap[B]? = some (.cells c t (0, 0))
theorem Box.lt {w : World} {B : Nat} {c : Array Value} {t : TypeId} (h : Box w B c t) : B < w.heap.size := by
  unfold Box at h
  rcases Nat.lt_or_ge B w.heap.size with h' | h'
  · exact h'
  · rw [Array.getElem?_eq_none h'] at h; cases h
theorem Box.new (w : World) (c : Array Value) (t : TypeId) : Box (w.alloc (.cells c t)) w.heap.size c t := heap_alloc_new w _
theorem Box.old {w : World} {B : Nat} {c : Array Value} {t : TypeId} (h : Box w B c t) (o : Obj) : Box (w.alloc o) B c t := (Below.heap_alloc w o B h.lt).trans h
theorem Box.drewN {w : World} {B : Nat} {c : Array Value} {t : TypeId} (h : Box w B c t) (n : Nat) : Box (w.drewN n) B c t := h
theorem Box.drew {w : World} {B : Nat} {c : Array Value} {t : TypeId} (h : Box w B c t) : Box w.drew B c t := h
theorem Box.below {N : Nat} {w w' : World} {B : Nat} {c : Array Value} {t : TypeId} (h : Box w B c t) (hb : Below N w w') (hN : B < N) : Box w' B c t := (hb.block B hN).trans h
theorem Box.set_ne {w : World} {B : Nat} {c : Array Value} {t : TypeId} (h : Box w B c t) (a : Addr) (v : Value) (hne : B ≠ a.block) : Box (w.setCell a v) B c t := (heap_setCell_other w a B v hne).trans h
theorem Box.set {w : World} {B : Nat} {c : Array Value} {t : TypeId} (h : Box w B c t) (i : Nat) (v : Value) : Box (w.setCell ⟨B, i, none⟩ v) B (c.setIfInBounds i v) t := heap_setCell_same w B i c t v h
theorem Box.cell {w : World} {B : Nat} {c : Array Value} {t : TypeId} (h : Box w B c t) (k : Nat) {v : Value} (hv : c[k]? = some v) : w.cell? ⟨B, k, none⟩ = some v := (cell_of_row w B k c t (0, 0) h).trans hv
theorem Box.frozen {w : World} {B : Nat} {c : Array Value} {t : TypeId} (h : Box w B c t) (k : Nat) : w.frozen? ⟨B, k, none⟩ = false := frozen_of_row w B k c t h
theorem Box.range {w : World} {B : Nat} {l : List Value} {t : TypeId} (h : Box w B l.toArray t) : w.rangeAt B 0 l := fun j v hv => by
  simpa using h.cell j (by simpa using hv)
theorem Box.load {P : Program} {w : World} {B : Nat} {c : Array Value} {t : TypeId} (h : Box w B c t) (n : Nat) (hn : c.size = n) : (loadCellsFrom ⟨B, 0, none⟩ 0 n #[]).run P w = .ok c w := by
  subst hn
  have := run_loadCells_list (P := P) w ⟨B, 0, none⟩ c.toList (fun j v hv => by
    have hadd : (⟨B, 0, none⟩ : Addr).add j = ⟨B, j, none⟩ := by unfold Addr.add; split <;> simp_all
    rw [hadd, cell_of_row _ _ j c t (0, 0) h]
    simpa using hv)
  simpa [loadCells] using this
theorem rangeAt_below {N : Nat} {w w' : World} (hb : Below N w w') {B o : Nat} {l : List Value} (hB : B < N) (h : w.rangeAt B o l) : w'.rangeAt B o l := fun j v hv => (hb.cell (p := ⟨B, o + j, none⟩) hB).trans (h j v hv)
theorem bdrewN {N : Nat} {w w' : World} (h : Below N w w') (n : Nat) : Below N w (w'.drewN n) := ⟨h.os, h.tape, h.output, h.size, h.block⟩
theorem ret_val {u v : Value} (h : u = v) : Ending.returned u = Ending.returned v := by rw [h]
/-- Two new blocks. -/
theorem boxes2 (w : World) (c d : Array Value) (t u : TypeId) :
    Box ((w.alloc (.cells c t)).alloc (.cells d u)) w.heap.size c t ∧ Box ((w.alloc (.cells c t)).alloc (.cells d u)) (w.heap.size + 1) d u ∧
    Below w.heap.size w ((w.alloc (.cells c t)).alloc (.cells d u)) ∧ ((w.alloc (.cells c t)).alloc (.cells d u)).heap.size = w.heap.size + 2 :=
  ⟨(Box.new _ _ _).old _, by simpa using Box.new (w.alloc (.cells c t)) d u, ((Below.refl _ _).alloc (Nat.le_refl _) _).alloc (by simp) _, by simp⟩
theorem boxes1 (w : World) (c : Array Value) (t : TypeId) :
    Box (w.alloc (.cells c t)) w.heap.size c t ∧ Below w.heap.size w (w.alloc (.cells c t)) ∧ (w.alloc (.cells c t)).heap.size = w.heap.size + 1 :=
  ⟨Box.new _ _ _, (Below.refl _ _).alloc (Nat.le_refl _) _, by simp⟩
theorem boxes3 (w : World) (c d f : Array Value) (t u v : TypeId) :
    Box (((w.alloc (.cells c t)).alloc (.cells d u)).alloc (.cells f v)) w.heap.size c t ∧ Box (((w.alloc (.cells c t)).alloc (.cells d u)).alloc (.cells f v)) (w.heap.size + 1) d u ∧
    Box (((w.alloc (.cells c t)).alloc (.cells d u)).alloc (.cells f v)) (w.heap.size + 1 + 1) f v ∧
    Below w.heap.size w (((w.alloc (.cells c t)).alloc (.cells d u)).alloc (.cells f v)) ∧ (((w.alloc (.cells c t)).alloc (.cells d u)).alloc (.cells f v)).heap.size = w.heap.size + 3 := by
  obtain ⟨h1, h2, h3, h4⟩ := boxes2 w c d t u
  exact ⟨h1.old _, h2.old _, by have := Box.new ((w.alloc (.cells c t)).alloc (.cells d u)) f v; rw [h4] at this; exact this, h3.alloc (by omega) _, by simp⟩
theorem boxes4 (w : World) (c d f g : Array Value) (t u v x : TypeId) :
    Box ((((w.alloc (.cells c t)).alloc (.cells d u)).alloc (.cells f v)).alloc (.cells g x)) w.heap.size c t ∧ Box ((((w.alloc (.cells c t)).alloc (.cells d u)).alloc (.cells f v)).alloc (.cells g x)) (w.heap.size + 1) d u ∧
    Box ((((w.alloc (.cells c t)).alloc (.cells d u)).alloc (.cells f v)).alloc (.cells g x)) (w.heap.size + 1 + 1) f v ∧ Box ((((w.alloc (.cells c t)).alloc (.cells d u)).alloc (.cells f v)).alloc (.cells g x)) (w.heap.size + 1 + 1 + 1) g x ∧
    Below w.heap.size w ((((w.alloc (.cells c t)).alloc (.cells d u)).alloc (.cells f v)).alloc (.cells g x)) ∧ ((((w.alloc (.cells c t)).alloc (.cells d u)).alloc (.cells f v)).alloc (.cells g x)).heap.size = w.heap.size + 4 := by
  obtain ⟨h1, h2, h3, h4, h5⟩ := boxes3 w c d f t u v
  exact ⟨h1.old _, h2.old _, h3.old _, by have := Box.new (((w.alloc (.cells c t)).alloc (.cells d u)).alloc (.cells f v)) g x; rw [h5] at this; exact this, h4.alloc (by omega) _, by simp⟩
/-- A row type: an array or a struct of n one-cell parts. -/
inductive RowTy (P : Program) (ty : TypeId) (n : Nat) : Prop
  | mk (d : TypeDesc) (hu : P.underlying ty = some d) (hd : d.isRow = true) (hi : (P.info? ty).map (·.size) = some n)
section
variable {P : Program} {ops : Array Oper} {rest : List Oper} {o : Oper} {a : Act} {w : World} {Q : Exit → Act → World → Prop}
theorem loadB (ty : TypeId) (x : Operand) (ho : o.op = .load ty x) (hgd : o.guard = none) {B : Nat} {c : Array Value} {t : TypeId} (hx : a.eval x = .pointer (some ⟨B, 0, none⟩)) (hb : Box w B c t) (hT : RowTy P ty c.size)
    (h : wpList P ops Q rest (a.put o.dst (.agg c)) w) : wpList P ops Q (o :: rest) a w :=
  let ⟨d, hu, hd, hi⟩ := hT
  wpList_load_row hgd ty x ho B hx t c (0, 0) d hb hu (by cases d <;> simp_all [TypeDesc.isRow]) hi h
theorem Box.setRow {w : World} {B : Nat} {c : Array Value} {t : TypeId} (h : Box w B c t) (c' : Array Value) : Box (w.setRow B c') B c' t := setRow_heap w B c c' t (0, 0) h
theorem Box.setRow_ne {w : World} {B : Nat} {c : Array Value} {t : TypeId} (h : Box w B c t) (g : Nat) (c' : Array Value) (hne : B ≠ g) : Box (w.setRow g c') B c t := (setRow_other w g B c' hne).trans h
theorem below_setRow' {N : Nat} {v w : World} (h : Below N v w) (g : Nat) (c : Array Value) (hg : N ≤ g) : Below N v (w.setRow g c) :=
  h.trans ⟨rfl, rfl, rfl, by simp, fun k hk => setRow_other w g k c (by omega)⟩
theorem storeB (ty : TypeId) (x y : Operand) (ho : o.op = .store ty x y) (hgd : o.guard = none) {B : Nat} {c c' : Array Value} {t : TypeId} (hx : a.eval x = .pointer (some ⟨B, 0, none⟩)) (hy : a.eval y = .agg c') (hb : Box w B c t)
    (hs : c.size = c'.size) (hT : RowTy P ty c'.size) (h1 : c'.all (·.oneCell') = true) (h : wpList P ops Q rest (a.put o.dst undef) (w.setRow B c')) : wpList P ops Q (o :: rest) a w := by
  obtain ⟨d, hu, hd, hi⟩ := hT
  refine wpList_plain hgd fun _ hK => ?_
  unfold Oper.wp execOp
  simp only [ho, hx, hy, Instr.storeAt, Instr.sureAddr, Sem.run_bind, Sem.run_pure, Result.andThen_ok, run_storeVar_row w B t ty c c' hb hi hs h1]
  exact hK _ _ h
theorem res_c {fn : Func} {p : Tmp} {ty : TypeId} (h : fn.results = #[.cell p ty]) {tmps : Array Value} {B : Nat} {c : Array Value} {t : TypeId} (hp : tmps.getD p undef = .pointer (some ⟨B, 0, none⟩)) (hb : Box w B c t) (hT : RowTy P ty c.size) :
    (results fn tmps).run P w = .ok (.agg c) w :=
  let ⟨d, hu, hd, hi⟩ := hT
  results_cell_row h tmps w B t c (0, 0) d hp hb hu (by cases d <;> simp_all [TypeDesc.isRow]) hi
theorem res_ct {fn : Func} {p u : Tmp} {ty : TypeId} (h : fn.results = #[.cell p ty, .tmp u]) {tmps : Array Value} {B : Nat} {c : Array Value} {t : TypeId} (hp : tmps.getD p undef = .pointer (some ⟨B, 0, none⟩)) (hb : Box w B c t) (hT : RowTy P ty c.size) :
    (results fn tmps).run P w = .ok (.tuple #[.agg c, tmps.getD u undef]) w := by
  obtain ⟨d, hu, hd, hi⟩ := hT
  rw [results_cell_tmp h, hp]
  simp only [asAddr, Sem.run_pure, Result.andThen_ok, run_loadVar_row w B t ty c (0, 0) d hb hu (by cases d <;> simp_all [TypeDesc.isRow]) hi]
end
theorem clk_all' (c : Nat → Int) : (clk c).all (·.oneCell') = true := by simp [clk, clkl, Value.oneCell']
theorem z_all : (#[.int .i64 0, .int .i64 0, .int .i64 0, .int .i64 0, .int .i64 0, .int .i64 0] : Array Value).all (·.oneCell') = true := clk_all' (fun _ => 0)
theorem clk_all (c : Nat → Int) : (clk c).all (·.oneCell') = true := by simp [clk, clkl, Value.oneCell']
def eqc (a b : Nat → Int) : Bool := (List.range 6).all fun k => a k == b k
theorem run_part_int {P : Program} {e : TypeId} {k : IntKind} (he : P.underlying e = some (.int k)) (cs : Array Value) (off : Nat) (v : Value) (h : cs[off]? = some v) (w : World) : (part e cs off).run P w = .ok v w := by
  unfold part isAgg
  simp [Sem.run_bind, run_underlying he, h]
theorem equalIn_clk {P : Program} {t e : TypeId} (hT : P.underlying t = some (.array 6 e)) (he : P.underlying e = some (.int .i64)) (hi : (P.info? e).map (·.size) = some 1) (d : Nat) (a b : Nat → Int) (w : World) :
    (Op.equalIn (d + 2) t (.agg (clk a)) (.agg (clk b))).run P w = .ok (eqc a b) w := by
  cases hq : P.info? e with
  | none => simp [hq] at hi
  | some i =>
    have hs : i.size = 1 := by simpa [hq] using hi
    have pA : ∀ j, j < 6 → ∀ w, (part e (clk a) j).run P w = .ok (.int .i64 (a j)) w := fun j hj w => run_part_int he _ _ _ (clk_get a j hj) w
    have pB : ∀ j, j < 6 → ∀ w, (part e (clk b) j).run P w = .ok (.int .i64 (b j)) w := fun j hj w => run_part_int he _ _ _ (clk_get b j hj) w
    have A0 := pA 0 (by omega); have A1 := pA 1 (by omega); have A2 := pA 2 (by omega); have A3 := pA 3 (by omega); have A4 := pA 4 (by omega); have A5 := pA 5 (by omega)
    have B0 := pB 0 (by omega); have B1 := pB 1 (by omega); have B2 := pB 2 (by omega); have B3 := pB 3 (by omega); have B4 := pB 4 (by omega); have B5 := pB 5 (by omega)
    clear pA pB
    have E : ∀ x y w, (Op.equalIn (d + 1) e (.int .i64 x) (.int .i64 y)).run P w = .ok (x == y) w := fun x y w => run_equalIn_int w d e .i64 .i64 x y he
    generalize clk a = ca at *
    generalize clk b = cb at *
    unfold Op.equalIn
    simp [Sem.run_bind, run_underlying hT, sizeOf, typeInfo, hq, hs, List.range', eqc, List.range, List.range.loop, *]
    by_cases h0 : a 0 = b 0 <;> by_cases h1 : a 1 = b 1 <;> by_cases h2 : a 2 = b 2 <;> by_cases h3 : a 3 = b 3 <;> by_cases h4 : a 4 = b 4 <;> by_cases h5 : a 5 = b 5 <;> simp [*]
theorem eql_clk {P : Program} {t e : TypeId} (hT : P.underlying t = some (.array 6 e)) (he : P.underlying e = some (.int .i64)) (hi : (P.info? e).map (·.size) = some 1) (a b : Nat → Int) (w : World) :
    (binOp .eql t (.agg (clk a)) (.agg (clk b))).run P w = .ok (.bool (eqc a b)) w := by
  rw [run_eql_struct, equalIn_clk hT he hi 9998]
  rfl
theorem neq_clk {P : Program} {t e : TypeId} (hT : P.underlying t = some (.array 6 e)) (he : P.underlying e = some (.int .i64)) (hi : (P.info? e).map (·.size) = some 1) (a b : Nat → Int) (w : World) :
    (binOp .neq t (.agg (clk a)) (.agg (clk b))).run P w = .ok (.bool (!eqc a b)) w := by
  rw [run_neq_struct, equalIn_clk hT he hi 9998]
  rfl
theorem eqc_iff (a b : Nat → Int) : eqc a b = true ↔ ∀ k, k < 6 → a k = b k := by simp [eqc]
def jn (f : Int → Int → Int) (a b : Nat → Int) (k : Nat) : Nat → Int := fun j => if j < k then f (a j) (b j) else 0
theorem jn_succ (f : Int → Int → Int) (a b : Nat → Int) (k : Nat) : clk (upd (jn f a b k) k (f (a k) (b k))) = clk (jn f a b (k + 1)) := by
  apply clk_congr
  intro j _
  unfold upd jn
  by_cases h : j = k
  · subst h; simp
  · by_cases h2 : j < k
    · rw [if_neg h, if_pos h2, if_pos (by omega)]
    · rw [if_neg h, if_neg h2, if_neg (by omega)]
theorem jn_six (f : Int → Int → Int) (a b : Nat → Int) : ∀ k, k < 6 → jn f a b 6 k = f (a k) (b k) := fun k h => by simp [jn, h]
structure JRel (w : World) (a b : Nat → Int) (f : Int → Int → Int) (k : Nat) (t : TypeId) (wr : World) : Prop where
  ba : Box wr w.heap.size (clk a) t
  bb : Box wr (w.heap.size + 1) (clk b) t
  res : Box wr (w.heap.size + 1 + 1) (clk fun _ => 0) t
  out : Box wr (w.heap.size + 1 + 1 + 1) (clk (jn f a b k)) t
  below : Below w.heap.size w wr
def cmp (a b : Nat → Int) : Int := if eqc a b then 0 else if within a b then 1 else if within b a then 2 else 3
/-- A number that fits an int. -/
def In64 (n : Int) : Prop := -9223372036854775808 ≤ n ∧ n ≤ 9223372036854775807
def ClkOk (c : Nat → Int) : Prop := ∀ k, k < 6 → In64 (c k)
def isT (t : Int) : Bool := decide (0 ≤ t ∧ t < 6)
theorem isT_yes {t : Int} (h0 : 0 ≤ t) (h1 : t < 6) : isT t = true := by simp [isT, h0, h1]
theorem isT_no {t : Int} (h : ¬ (0 ≤ t ∧ t < 6)) : isT t = false := by simp only [isT, decide_eq_false_iff_not]; exact h
theorem isT_iff {t : Int} : isT t = true ↔ 0 ≤ t ∧ t < 6 := by simp [isT]
/-- What Tick answers: the clock and the error. -/
def tickC (c : Nat → Int) (t : Int) : Nat → Int := if isT t = true ∧ c t.toNat < 1000000 then upd c t.toNat (c t.toNat + 1) else fun _ => 0
def tickE (c : Nat → Int) (t : Int) : Int := if isT t = true then (if c t.toNat < 1000000 then 0 else 2) else 1
def seen (th n : Int) (c : Nat → Int) : Bool := isT th && decide (n ≤ c th.toNat)
def sel (most : Bool) (x y : Int) : Int := if decide (x < y) = most then y else x
theorem sel_true (x y : Int) : sel true x y = mx x y := by simp [sel, mx]
theorem sel_false (x y : Int) : sel false x y = mn x y := by
  simp only [sel, mn, decide_eq_false_iff_not]
  split <;> split <;> omega
theorem jn_now (f : Int → Int → Int) (a b : Nat → Int) (k : Nat) (u : Int) (hu : u = f (a k) (b k)) : clk (upd (jn f a b k) k u) = clk (jn f a b (k + 1)) := by rw [hu, jn_succ]
def cf (x0 x1 x2 x3 x4 x5 : Int) : Nat → Int := fun k => match k with | 0 => x0 | 1 => x1 | 2 => x2 | 3 => x3 | 4 => x4 | _ => x5
/-- An epoch as a value. -/
def ep (t n : Int) : Array Value := #[.int .i64 t, .int .i64 n]
theorem ep_all (t n : Int) : (ep t n).all (·.oneCell') = true := by simp [ep, Value.oneCell']
def ofN (c : Nat → Int) (t : Int) : Int := if isT t = true then c t.toNat else 0
def ofT (t : Int) : Int := if isT t = true then t else 0
def ofE (t : Int) : Int := if isT t = true then 0 else 1
def outs (t a b : Int) : Bool := decide (t < a ∨ b < t)
theorem outs_lo {t a b : Int} (h : t < a) : outs t a b = true := decide_eq_true (.inl h)
theorem outs_hi {t a b : Int} (h : b < t) : outs t a b = true := decide_eq_true (.inr h)
theorem outs_in {t a b : Int} (h : ¬ t < a) (h' : ¬ b < t) : outs t a b = false := decide_eq_false (by omega)
theorem outs_T (t : Int) : outs t 0 5 = !isT t := by rw [Bool.eq_iff_iff]; simp [outs, isT]; omega
/-- What stays while the world only grows: two rows at their places. -/
theorem keep2 {W w0 w1 : World} {A B : Nat} {x y : List Value} (hA : A < W.heap.size) (hB : B < W.heap.size) (h : Below W.heap.size W w0 ∧ w0.rangeAt A 0 x ∧ w0.rangeAt B 0 y) (hb : Below w0.heap.size w0 w1) :
    Below W.heap.size W w1 ∧ w1.rangeAt A 0 x ∧ w1.rangeAt B 0 y :=
  ⟨h.1.trans (hb.mono h.1.size), rangeAt_below hb (Nat.lt_of_lt_of_le hA h.1.size) h.2.1, rangeAt_below hb (Nat.lt_of_lt_of_le hB h.1.size) h.2.2⟩
theorem keep1 {W w0 w1 : World} {A : Nat} {x : List Value} (hA : A < W.heap.size) (h : Below W.heap.size W w0 ∧ w0.rangeAt A 0 x) (hb : Below w0.heap.size w0 w1) :
    Below W.heap.size W w1 ∧ w1.rangeAt A 0 x :=
  ⟨h.1.trans (hb.mono h.1.size), rangeAt_below hb (Nat.lt_of_lt_of_le hA h.1.size) h.2⟩
/-! A region that draws its order, whose callees make memory: one walk in the order of the text, in every world that W has grown into. -/
def Bel (W w : World) : Prop := Below W.heap.size W w
theorem Bel.call {W w w' : World} (h : Bel W w) (hb : Below w.heap.size w w') : Bel W w' := Below.trans h (hb.mono h.size)
theorem Bel.box {W w : World} (h : Bel W w) {B : Nat} {c : Array Value} {t : TypeId} (hb : Box W B c t) : Box w B c t := hb.below h hb.lt
theorem Bel.cell {W w : World} (h : Bel W w) {p : Addr} {v : Value} (hc : W.cell? p = some v) : w.cell? p = some v := (Below.cell h (block_lt_of_cell hc)).trans hc
theorem Bel.out {W w : World} (h : Bel W w) : Below W.heap.size W w := h
section
variable {P : Program} {ops : Array Oper} {rest : List Oper} {o : Oper} {a : Act} {W : World} {C : World → Prop} {Q : Act → Prop}
theorem region_bel {id : Nat} {l : List Oper} {Q : Exit → Act → World → Prop} (hm : P.follows .mixedOrders = true) (hB : Region.lexB .any l.toArray = true)
    (h : wpQuiet P l.toArray (Bel W) (fun a' => ∀ w', Bel W w' → Q .normal a' w') l a) : (Code.region id l.toArray true).wp P Q a W :=
  wp_region_quiet (C := Bel W) hm hB (Below.drew (Below.refl _ _)) (by simpa using h)
theorem q_step (v : Value) (hw : Region.wanted o (yielded ops a.tmps) = true) (hq : ∀ w, C w → o.quietAt P a C w v) (h : wpQuiet P ops C Q rest (a.put o.dst v)) : wpQuiet P ops C Q (o :: rest) a :=
  BigFrame.wpQuiet_want hw fun _ hK => ⟨v, hq, hK _ h⟩
theorem q_any (hw : Region.wanted o (yielded ops a.tmps) = true) (h : ∃ v, (∀ w, C w → o.quietAt P a C w v) ∧ wpQuiet P ops C Q rest (a.put o.dst v)) : wpQuiet P ops C Q (o :: rest) a :=
  let ⟨v, h1, h2⟩ := h
  q_step v hw h1 h2
theorem q_load (ty : TypeId) (x : Operand) (ho : o.op = .load ty x) (hw : Region.wanted o (yielded ops a.tmps) = true) {B : Nat} {c : Array Value} {t : TypeId} (hx : a.eval x = .pointer (some ⟨B, 0, none⟩)) (hb : Box W B c t)
    (hT : RowTy P ty c.size) (h : wpQuiet P ops (Bel W) Q rest (a.put o.dst (.agg c))) : wpQuiet P ops (Bel W) Q (o :: rest) a := by
  refine q_step (.agg c) hw (fun w hw' => ?_) h
  obtain ⟨d, hu, hd, hi⟩ := hT
  unfold Oper.quietAt execOp
  simp only [ho, hx, Instr.loadAt, Instr.sureAddr, Sem.run_bind, Sem.run_pure, Result.andThen_ok, run_loadVar_row w B t ty c (0, 0) d (hw'.box hb) hu (by cases d <;> simp_all [TypeDesc.isRow]) hi]
  exact ⟨rfl, rfl⟩
theorem q_move (x : Operand) (ho : o.op = .move x) (hw : Region.wanted o (yielded ops a.tmps) = true) (h : wpQuiet P ops C Q rest (a.put o.dst (a.eval x))) : wpQuiet P ops C Q (o :: rest) a :=
  q_step _ hw (fun w _ => by unfold Oper.quietAt; rw [BigFrame.run_move x ho]; exact ⟨rfl, rfl⟩) h
theorem q_assign (x : Operand) (ho : o.op = .assign x) (hw : Region.wanted o (yielded ops a.tmps) = true) (h : wpQuiet P ops C Q rest (a.put o.dst (a.eval x))) : wpQuiet P ops C Q (o :: rest) a :=
  q_step _ hw (fun w _ => by unfold Oper.quietAt; rw [BigFrame.run_assign x ho]; exact ⟨rfl, rfl⟩) h
end
/-- What the reference's Compare answers. -/
def rcmp (a b : Nat → Int) : Int := if within a b = true then (if within b a = true then 0 else 1) else if within b a = true then 2 else 3
theorem index_clk {P : Program} {t e : TypeId} (hT : P.underlying t = some (.array 6 e)) (he : P.underlying e = some (.int .i64)) (hi : (P.info? e).map (·.size) = some 1) (c : Nat → Int) (k : Nat) (hk : k < 6) (w : World) :
    (Instr.index t (.agg (clk c)) (.int .i64 k)).run P w = .ok (.int .i64 (c k)) w := by
  cases hq : P.info? e with
  | none => simp [hq] at hi
  | some i =>
    have hs : i.size = 1 := by simpa [hq] using hi
    have := run_part_int he (clk c) k _ (clk_get c k hk)
    simp [Instr.index, asIntOf, Sem.run_bind, run_underlying hT, sizeOf, typeInfo, hk, hq, hs, this]
section
variable {P : Program} {ops : Array Oper} {rest : List Oper} {o : Oper} {a : Act} {w : World} {Q : Exit → Act → World → Prop}
/-- A whole row stored into the block that was made last. -/
theorem storeNew (ty : TypeId) (x y : Operand) (ho : o.op = .store ty x y) (hgd : o.guard = none) {c c' : Array Value} {t : TypeId} (hx : a.eval x = .pointer (some ⟨w.heap.size, 0, none⟩)) (hy : a.eval y = .agg c')
    (hs : c.size = c'.size) (hT : RowTy P ty c'.size) (h1 : c'.all (·.oneCell') = true) (h : wpList P ops Q rest (a.put o.dst undef) (w.alloc (.cells c' t))) : wpList P ops Q (o :: rest) a (w.alloc (.cells c t)) := by
  refine storeB ty x y ho hgd hx hy (Box.new w c t) hs hT h1 ?_
  rw [World.setRow_alloc_new]
  exact h
end
theorem Bel.refl (W : World) : Bel W W := Below.refl _ _
theorem Bel.trans {a b c : World} (h : Bel a b) (k : Bel b c) : Bel a c := Below.trans h (Below.mono k h.size)
theorem Bel.of {w w' : World} (h : Below w.heap.size w w') : Bel w w' := h
theorem Bel.alloc {W w : World} (h : Bel W w) (o : Obj) : Bel W (w.alloc o) := Below.alloc h h.size o
theorem Bel.drewN {W w : World} (h : Bel W w) (n : Nat) : Bel W (w.drewN n) := bdrewN h n
theorem Bel.drew {W w : World} (h : Bel W w) : Bel W w.drew := Below.drew h
theorem Bel.setCell {W w : World} (h : Bel W w) (p : Addr) (hp : W.heap.size ≤ p.block) (u : Value) : Bel W (w.setCell p u) := Below.setCell h hp u
theorem Bel.setRow {W w : World} (h : Bel W w) (g : Nat) (hg : W.heap.size ≤ g) (c : Array Value) : Bel W (w.setRow g c) := below_setRow' h g c hg
theorem ofAll {t e : TypeId} {P : Program} (hT : P.underlying t = some (.array 6 e)) (he : P.underlying e = some (.int .i64)) (hi : (P.info? e).map (·.size) = some 1) {a b : Nat → Int} (h : ∀ k, k < 6 → a k = b k) (w : World) :
    (binOp .eql t (.agg (clk a)) (.agg (clk b))).run P w = .ok (.bool true) w := by rw [eql_clk hT he hi, (eqc_iff a b).2 h]
end Go.Proofs.Yteihildhlcggoaa
namespace Go.Proofs.Yteihildhlcggoaa
open Go Go.RowKit

section
variable {P : Program} {ops : Array Oper} {C : World → Prop} {Q : Act → Prop} {Q' : Exit → Act → World → Prop}
theorem wpList_of_quiet (hQ : ∀ a w, C w → Q a → Q' .normal a w) : ∀ (l : List Oper) (a : Act) (w : World), C w → wpQuiet P ops C Q l a → wpList P ops Q' l a w
  | [], a, w, hw, h => hQ a w hw h
  | o :: l, a, w, hw, h => by
    unfold wpQuiet at h
    unfold wpList
    split
    · rename_i hwd
      rw [if_pos hwd] at h
      exact .inl (Oper.wp_of_quiet hw (fun a' w' hw' hK => wpList_of_quiet hQ l a' w' hw' hK) h)
    · rename_i hwd
      rw [if_neg hwd] at h
      exact wpList_of_quiet hQ l _ _ hw h
/-- A plain region whose callees make memory (n operations are left): one walk in every world that W has grown into. -/
theorem list_bel (n : Nat) {l : List Oper} {a : Act} {W : World} (_ : l.length = n) (h : wpQuiet P ops (Bel W) (fun a' => ∀ w', Bel W w' → Q' .normal a' w') l a) : wpList P ops Q' l a W :=
  wpList_of_quiet (C := Bel W) (fun a w hw h => h w hw) l a W (Bel.refl W) h
end
end Go.Proofs.Yteihildhlcggoaa

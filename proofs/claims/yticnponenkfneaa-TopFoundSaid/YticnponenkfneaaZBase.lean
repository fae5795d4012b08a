import Derived.WalkKit
import Derived.WalkSpells
import Derived.Deep.MidRow
import Derived.Laws.Rows
import Derived.Laws.Tables
import Derived.WalkSmall
import Derived.Laws.ResultCell
import Derived.BigQuiet
import Derived.Deep.WholeRow
set_option linter.all false
set_option maxRecDepth 100000
namespace Go.Proofs.Yticnponenkfneaa
open Go Go.RowKit

def clkl (c : Nat → Int) : List Value := [.int .i64 (c 0), .int .i64 (c 1), .int .i64 (c 2), .int .i64 (c 3), .int .i64 (c 4), .int .i64 (c 5)]
def clk (c : Nat → Int) : Array Value := (clkl c).toArray
theorem clkl_length (c : Nat → Int) : (clkl c).length = 6 := rfl
theorem clkl_get (c : Nat → Int) (k : Nat) (h : k < 6) : (clkl c)[k]? = some (.int .i64 (c k)) := by
  match k, h with
  | 0, _ => rfl
  | 1, _ => rfl
  | 2, _ => rfl
  | 3, _ => rfl
  | 4, _ => rfl
  | 5, _ => rfl
theorem clk_get (c : Nat → Int) (k : Nat) (h : k < 6) : (clk c)[k]? = some (.int .i64 (c k)) := by
  simpa [clk] using clkl_get c k h
def upd (c : Nat → Int) (k : Nat) (v : Int) : Nat → Int := fun j => if j = k then v else c j
theorem clk_set (c : Nat → Int) (k : Nat) (h : k < 6) (v : Int) : (clk c).setIfInBounds k (.int .i64 v) = clk (upd c k v) := by
  match k, h with
  | 0, _ => rfl
  | 1, _ => rfl
  | 2, _ => rfl
  | 3, _ => rfl
  | 4, _ => rfl
  | 5, _ => rfl
theorem clk_congr {a b : Nat → Int} (h : ∀ k, k < 6 → a k = b k) : clk a = clk b := by
  simp [clk, clkl, h 0, h 1, h 2, h 3, h 4, h 5]
def within (a b : Nat → Int) : Bool := (List.range 6).all fun k => decide (a k ≤ b k)
theorem within_iff (a b : Nat → Int) : within a b = true ↔ ∀ k, k < 6 → a k ≤ b k := by simp [within]
theorem within_no {a b : Nat → Int} {k : Nat} (hk : k < 6) (h : b k < a k) : within a b = false := by
  rw [← Bool.not_eq_true, within_iff]
  intro hh
  have := hh k hk
  omega

def UpTo (P : Nat → Prop) (k : Nat) : Prop := ∀ j, j < k → P j
theorem UpTo.zero {P : Nat → Prop} : UpTo P 0 := fun _ h => absurd h (Nat.not_lt_zero _)
theorem UpTo.succ {P : Nat → Prop} {k : Nat} (h : UpTo P k) (hk : P k) : UpTo P (k + 1) := fun j hj => by
  rcases Nat.lt_succ_iff_lt_or_eq.1 hj with h' | rfl
  · exact h j h'
  · exact hk

def mx (x y : Int) : Int := if x < y then y else x
def Box (w : World) (B : Nat) (c : Array Value) (t : TypeId) : Prop := w.heap[B]? = some (.cells c t (0, 0))
theorem Box.lt {w : World} {B : Nat} {c : Array Value} {t : TypeId} (h : Box w B c t) : B < w.heap.size := by
  unfold Box at h
  rcases Nat.lt_or_ge B w.heap.size with h' | h'
  · exact h'
  · rw [Array.getElem?_eq_none h'] at h; cases h
theorem Box.new (w : World) (c : Array Value) (t : TypeId) : Box (w.alloc (.cells c t)) w.heap.size c t := heap_alloc_new w _
theorem Box.old {w : World} {B : Nat} {c : Array Value} {t : TypeId} (h : Box w B c t) (o : Obj) : Box (w.alloc o) B c t := (Below.heap_alloc w o B h.lt).trans h
theorem Box.drewN {w : World} {B : Nat} {c : Array Value} {t : TypeId} (h : Box w B c t) (n : Nat) : Box (w.drewN n) B c t := h
theorem Box.drew {w : World} {B : Nat} {c : Array Value} {t : TypeId} (h : Box w B c t) : Box w.drew B c t := h
theorem Box.below {N : Nat} {w w' : World} {B : Nat} {c : Array Value} {t : TypeId} (h : Box w B c t) (hb : Below N w w') (hN : B < N) : Box w' B c t := (hb.block B hN).trans h
theorem Box.set_ne {w : World} {B : Nat} {c : Array Value} {t : TypeId} (h : Box w B c t) (a : Addr) (v : Value) (hne : B ≠ a.block) : Box (w.setCell a v) B c t := (heap_setCell_other w a B v hne).trans h
theorem Box.set {w : World} {B : Nat} {c : Array Value} {t : TypeId} (h : Box w B c t) (i : Nat) (v : Value) : Box (w.setCell ⟨B, i, none⟩ v) B (c.setIfInBounds i v) t := heap_setCell_same w B i c t v h
theorem Box.cell {w : World} {B : Nat} {c : Array Value} {t : TypeId} (h : Box w B c t) (k : Nat) {v : Value} (hv : c[k]? = some v) : w.cell? ⟨B, k, none⟩ = some v := (cell_of_row w B k c t (0, 0) h).trans hv
theorem Box.frozen {w : World} {B : Nat} {c : Array Value} {t : TypeId} (h : Box w B c t) (k : Nat) : w.frozen? ⟨B, k, none⟩ = false := frozen_of_row w B k c t h
theorem Box.range {w : World} {B : Nat} {l : List Value} {t : TypeId} (h : Box w B l.toArray t) : w.rangeAt B 0 l := fun j v hv => by
  simpa using h.cell j (by simpa using hv)
theorem rangeAt_below {N : Nat} {w w' : World} (hb : Below N w w') {B o : Nat} {l : List Value} (hB : B < N) (h : w.rangeAt B o l) : w'.rangeAt B o l := fun j v hv => (hb.cell (p := ⟨B, o + j, none⟩) hB).trans (h j v hv)
theorem bdrewN {N : Nat} {w w' : World} (h : Below N w w') (n : Nat) : Below N w (w'.drewN n) := ⟨h.os, h.tape, h.output, h.size, h.block⟩
theorem ret_val {u v : Value} (h : u = v) : Ending.returned u = Ending.returned v := by rw [h]
theorem boxes2 (w : World) (c d : Array Value) (t u : TypeId) :
    Box ((w.alloc (.cells c t)).alloc (.cells d u)) w.heap.size c t ∧ Box ((w.alloc (.cells c t)).alloc (.cells d u)) (w.heap.size + 1) d u ∧
    Below w.heap.size w ((w.alloc (.cells c t)).alloc (.cells d u)) ∧ ((w.alloc (.cells c t)).alloc (.cells d u)).heap.size = w.heap.size + 2 :=
  ⟨(Box.new _ _ _).old _, by simpa using Box.new (w.alloc (.cells c t)) d u, ((Below.refl _ _).alloc (Nat.le_refl _) _).alloc (by simp) _, by simp⟩
theorem boxes1 (w : World) (c : Array Value) (t : TypeId) :
    Box (w.alloc (.cells c t)) w.heap.size c t ∧ Below w.heap.size w (w.alloc (.cells c t)) ∧ (w.alloc (.cells c t)).heap.size = w.heap.size + 1 :=
  ⟨Box.new _ _ _, (Below.refl _ _).alloc (Nat.le_refl _) _, by simp⟩
theorem boxes3 (w : World) (c d f : Array Value) (t u v : TypeId) :
    Box (((w.alloc (.cells c t)).alloc (.cells d u)).alloc (.cells f v)) w.heap.size c t ∧ Box (((w.alloc (.cells c t)).alloc (.cells d u)).alloc (.cells f v)) (w.heap.size + 1) d u ∧
    Box (((w.alloc (.cells c t)).alloc (.cells d u)).alloc (.cells f v)) (w.heap.size + 1 + 1) f v ∧
    Below w.heap.size w (((w.alloc (.cells c t)).alloc (.cells d u)).alloc (.cells f v)) ∧ (((w.alloc (.cells c t)).alloc (.cells d u)).alloc (.cells f v)).heap.size = w.heap.size + 3 := by
  obtain ⟨h1, h2, h3, h4⟩ := boxes2 w c d t u
  exact ⟨h1.old _, h2.old _, by have := Box.new ((w.alloc (.cells c t)).alloc (.cells d u)) f v; rw [h4] at this; exact this, h3.alloc (by omega) _, by simp⟩
theorem boxes4 (w : World) (c d f g : Array Value) (t u v x : TypeId) :
    Box ((((w.alloc (.cells c t)).alloc (.cells d u)).alloc (.cells f v)).alloc (.cells g x)) w.heap.size c t ∧ Box ((((w.alloc (.cells c t)).alloc (.cells d u)).alloc (.cells f v)).alloc (.cells g x)) (w.heap.size + 1) d u ∧
    Box ((((w.alloc (.cells c t)).alloc (.cells d u)).alloc (.cells f v)).alloc (.cells g x)) (w.heap.size + 1 + 1) f v ∧ Box ((((w.alloc (.cells c t)).alloc (.cells d u)).alloc (.cells f v)).alloc (.cells g x)) (w.heap.size + 1 + 1 + 1) g x ∧
    Below w.heap.size w ((((w.alloc (.cells c t)).alloc (.cells d u)).alloc (.cells f v)).alloc (.cells g x)) ∧ ((((w.alloc (.cells c t)).alloc (.cells d u)).alloc (.cells f v)).alloc (.cells g x)).heap.size = w.heap.size + 4 := by
  obtain ⟨h1, h2, h3, h4, h5⟩ := boxes3 w c d f t u v
  exact ⟨h1.old _, h2.old _, h3.old _, by have := Box.new (((w.alloc (.cells c t)).alloc (.cells d u)).alloc (.cells f v)) g x; rw [h5] at this; exact this, h4.alloc (by omega) _, by simp⟩
inductive RowTy (P : Program) (ty : TypeId) (n : Nat) : Prop
  | mk (d : TypeDesc) (hu : P.underlying ty = some d) (hd : d.isRow = true) (hi : (P.info? ty).map (·.size) = some n)
section
variable {P : Program} {ops : Array Oper} {rest : List Oper} {o : Oper} {a : Act} {w : World} {Q : Exit → Act → World → Prop}
theorem loadB (ty : TypeId) (x : Operand) (ho : o.op = .load ty x) (hgd : o.guard = none) {B : Nat} {c : Array Value} {t : TypeId} (hx : a.eval x = .pointer (some ⟨B, 0, none⟩)) (hb : Box w B c t) (hT : RowTy P ty c.size)
    (h : wpList P ops Q rest (a.put o.dst (.agg c)) w) : wpList P ops Q (o :: rest) a w :=
  let ⟨d, hu, hd, hi⟩ := hT
  wpList_load_row hgd ty x ho B hx t c (0, 0) d hb hu (by cases d <;> simp_all [TypeDesc.isRow]) hi h
theorem Box.setRow {w : World} {B : Nat} {c : Array Value} {t : TypeId} (h : Box w B c t) (c' : Array Value) : Box (w.setRow B c') B c' t := setRow_heap w B c c' t (0, 0) h
theorem Box.setRow_ne {w : World} {B : Nat} {c : Array Value} {t : TypeId} (h : Box w B c t) (g : Nat) (c' : Array Value) (hne : B ≠ g) : Box (w.setRow g c') B c t := (setRow_other w g B c' hne).trans h
theorem below_setRow' {N : Nat} {v w : World} (h : Below N v w) (g : Nat) (c : Array Value) (hg : N ≤ g) : Below N v (w.setRow g c) :=
  h.trans ⟨rfl, rfl, rfl, by simp, fun k hk => setRow_other w g k c (by omega)⟩
theorem storeB (ty : TypeId) (x y : Operand) (ho : o.op = .store ty x y) (hgd : o.guard = none) {B : Nat} {c c' : Array Value} {t : TypeId} (hx : a.eval x = .pointer (some ⟨B, 0, none⟩)) (hy : a.eval y = .agg c') (hb : Box w B c t)
    (hs : c.size = c'.size) (hT : RowTy P ty c'.size) (h1 : c'.all (·.oneCell') = true) (h : wpList P ops Q rest (a.put o.dst undef) (w.setRow B c')) : wpList P ops Q (o :: rest) a w := by
  obtain ⟨d, hu, hd, hi⟩ := hT
  refine wpList_plain hgd fun _ hK => ?_
  unfold Oper.wp execOp
  simp only [ho, hx, hy, Instr.storeAt, Instr.sureAddr, Sem.run_bind, Sem.run_pure, Result.andThen_ok, run_storeVar_row w B t ty c c' hb hi hs h1]
  exact hK _ _ h
theorem res_c {fn : Func} {p : Tmp} {ty : TypeId} (h : fn.results = #[.cell p ty]) {tmps : Array Value} {B : Nat} {c : Array Value} {t : TypeId} (hp : tmps.getD p undef = .pointer (some ⟨B, 0, none⟩)) (hb : Box w B c t) (hT : RowTy P ty c.size) :
    (results fn tmps).run P w = .ok (.agg c) w :=
  let ⟨d, hu, hd, hi⟩ := hT
  results_cell_row h tmps w B t c (0, 0) d hp hb hu (by cases d <;> simp_all [TypeDesc.isRow]) hi
theorem res_ct {fn : Func} {p u : Tmp} {ty : TypeId} (h : fn.results = #[.cell p ty, .tmp u]) {tmps : Array Value} {B : Nat} {c : Array Value} {t : TypeId} (hp : tmps.getD p undef = .pointer (some ⟨B, 0, none⟩)) (hb : Box w B c t) (hT : RowTy P ty c.size) :
    (results fn tmps).run P w = .ok (.tuple #[.agg c, tmps.getD u undef]) w := by
  obtain ⟨d, hu, hd, hi⟩ := hT
  rw [results_cell_tmp h, hp]
  simp only [asAddr, Sem.run_pure, Result.andThen_ok, run_loadVar_row w B t ty c (0, 0) d hb hu (by cases d <;> simp_all [TypeDesc.isRow]) hi]
end
theorem clk_all (c : Nat → Int) : (clk c).all (·.oneCell') = true := by simp [clk, clkl, Value.oneCell']
theorem run_part_int {P : Program} {e : TypeId} {k : IntKind} (he : P.underlying e = some (.int k)) (cs : Array Value) (off : Nat) (v : Value) (h : cs[off]? = some v) (w : World) : (part e cs off).run P w = .ok v w := by
  unfold part isAgg
  simp [Sem.run_bind, run_underlying he, h]
def jn (f : Int → Int → Int) (a b : Nat → Int) (k : Nat) : Nat → Int := fun j => if j < k then f (a j) (b j) else 0
theorem jn_succ (f : Int → Int → Int) (a b : Nat → Int) (k : Nat) : clk (upd (jn f a b k) k (f (a k) (b k))) = clk (jn f a b (k + 1)) := by
  apply clk_congr
  intro j _
  unfold upd jn
  by_cases h : j = k
  · subst h; simp
  · by_cases h2 : j < k
    · rw [if_neg h, if_pos h2, if_pos (by omega)]
    · rw [if_neg h, if_neg h2, if_neg (by omega)]
theorem jn_six (f : Int → Int → Int) (a b : Nat → Int) : ∀ k, k < 6 → jn f a b 6 k = f (a k) (b k) := fun k h => by simp [jn, h]
structure JRel (w : World) (a b : Nat → Int) (f : Int → Int → Int) (k : Nat) (t : TypeId) (wr : World) : Prop where
  ba : Box wr w.heap.size (clk a) t
  bb : Box wr (w.heap.size + 1) (clk b) t
  res : Box wr (w.heap.size + 1 + 1) (clk fun _ => 0) t
  out : Box wr (w.heap.size + 1 + 1 + 1) (clk (jn f a b k)) t
  below : Below w.heap.size w wr
def In64 (n : Int) : Prop := -9223372036854775808 ≤ n ∧ n ≤ 9223372036854775807
def isT (t : Int) : Bool := decide (0 ≤ t ∧ t < 6)
theorem isT_yes {t : Int} (h0 : 0 ≤ t) (h1 : t < 6) : isT t = true := by simp [isT, h0, h1]
theorem isT_no {t : Int} (h : ¬ (0 ≤ t ∧ t < 6)) : isT t = false := by simp only [isT, decide_eq_false_iff_not]; exact h
theorem isT_iff {t : Int} : isT t = true ↔ 0 ≤ t ∧ t < 6 := by simp [isT]
def seen (th n : Int) (c : Nat → Int) : Bool := isT th && decide (n ≤ c th.toNat)
def cf (x0 x1 x2 x3 x4 x5 : Int) : Nat → Int := fun k => match k with | 0 => x0 | 1 => x1 | 2 => x2 | 3 => x3 | 4 => x4 | _ => x5
def ep (t n : Int) : Array Value := #[.int .i64 t, .int .i64 n]
theorem ep_all (t n : Int) : (ep t n).all (·.oneCell') = true := by simp [ep, Value.oneCell']
def ofN (c : Nat → Int) (t : Int) : Int := if isT t = true then c t.toNat else 0
def ofT (t : Int) : Int := if isT t = true then t else 0
def ofE (t : Int) : Int := if isT t = true then 0 else 1
def Bel (W w : World) : Prop := Below W.heap.size W w
theorem Bel.call {W w w' : World} (h : Bel W w) (hb : Below w.heap.size w w') : Bel W w' := Below.trans h (hb.mono h.size)
theorem Bel.box {W w : World} (h : Bel W w) {B : Nat} {c : Array Value} {t : TypeId} (hb : Box W B c t) : Box w B c t := hb.below h hb.lt
theorem Bel.cell {W w : World} (h : Bel W w) {p : Addr} {v : Value} (hc : W.cell? p = some v) : w.cell? p = some v := (Below.cell h (block_lt_of_cell hc)).trans hc
theorem Bel.out {W w : World} (h : Bel W w) : Below W.heap.size W w := h
section
variable {P : Program} {ops : Array Oper} {rest : List Oper} {o : Oper} {a : Act} {W : World} {C : World → Prop} {Q : Act → Prop}
theorem region_bel {id : Nat} {l : List Oper} {Q : Exit → Act → World → Prop} (hm : P.follows .mixedOrders = true) (hB : Region.lexB .any l.toArray = true)
    (h : wpQuiet P l.toArray (Bel W) (fun a' => ∀ w', Bel W w' → Q .normal a' w') l a) : (Code.region id l.toArray true).wp P Q a W :=
  wp_region_quiet (C := Bel W) hm hB (Below.drew (Below.refl _ _)) (by simpa using h)
theorem q_step (v : Value) (hw : Region.wanted o (yielded ops a.tmps) = true) (hq : ∀ w, C w → o.quietAt P a C w v) (h : wpQuiet P ops C Q rest (a.put o.dst v)) : wpQuiet P ops C Q (o :: rest) a :=
  BigFrame.wpQuiet_want hw fun _ hK => ⟨v, hq, hK _ h⟩
theorem q_any (hw : Region.wanted o (yielded ops a.tmps) = true) (h : ∃ v, (∀ w, C w → o.quietAt P a C w v) ∧ wpQuiet P ops C Q rest (a.put o.dst v)) : wpQuiet P ops C Q (o :: rest) a :=
  let ⟨v, h1, h2⟩ := h
  q_step v hw h1 h2
theorem q_load (ty : TypeId) (x : Operand) (ho : o.op = .load ty x) (hw : Region.wanted o (yielded ops a.tmps) = true) {B : Nat} {c : Array Value} {t : TypeId} (hx : a.eval x = .pointer (some ⟨B, 0, none⟩)) (hb : Box W B c t)
    (hT : RowTy P ty c.size) (h : wpQuiet P ops (Bel W) Q rest (a.put o.dst (.agg c))) : wpQuiet P ops (Bel W) Q (o :: rest) a := by
  refine q_step (.agg c) hw (fun w hw' => ?_) h
  obtain ⟨d, hu, hd, hi⟩ := hT
  unfold Oper.quietAt execOp
  simp only [ho, hx, Instr.loadAt, Instr.sureAddr, Sem.run_bind, Sem.run_pure, Result.andThen_ok, run_loadVar_row w B t ty c (0, 0) d (hw'.box hb) hu (by cases d <;> simp_all [TypeDesc.isRow]) hi]
  exact ⟨rfl, rfl⟩
theorem q_move (x : Operand) (ho : o.op = .move x) (hw : Region.wanted o (yielded ops a.tmps) = true) (h : wpQuiet P ops C Q rest (a.put o.dst (a.eval x))) : wpQuiet P ops C Q (o :: rest) a :=
  q_step _ hw (fun w _ => by unfold Oper.quietAt; rw [BigFrame.run_move x ho]; exact ⟨rfl, rfl⟩) h
theorem q_assign (x : Operand) (ho : o.op = .assign x) (hw : Region.wanted o (yielded ops a.tmps) = true) (h : wpQuiet P ops C Q rest (a.put o.dst (a.eval x))) : wpQuiet P ops C Q (o :: rest) a :=
  q_step _ hw (fun w _ => by unfold Oper.quietAt; rw [BigFrame.run_assign x ho]; exact ⟨rfl, rfl⟩) h
end
section
variable {P : Program} {ops : Array Oper} {rest : List Oper} {o : Oper} {a : Act} {w : World} {Q : Exit → Act → World → Prop}
theorem storeNew (ty : TypeId) (x y : Operand) (ho : o.op = .store ty x y) (hgd : o.guard = none) {c c' : Array Value} {t : TypeId} (hx : a.eval x = .pointer (some ⟨w.heap.size, 0, none⟩)) (hy : a.eval y = .agg c')
    (hs : c.size = c'.size) (hT : RowTy P ty c'.size) (h1 : c'.all (·.oneCell') = true) (h : wpList P ops Q rest (a.put o.dst undef) (w.alloc (.cells c' t))) : wpList P ops Q (o :: rest) a (w.alloc (.cells c t)) := by
  refine storeB ty x y ho hgd hx hy (Box.new w c t) hs hT h1 ?_
  rw [World.setRow_alloc_new]
  exact h
end
theorem Bel.refl (W : World) : Bel W W := Below.refl _ _
theorem Bel.trans {a b c : World} (h : Bel a b) (k : Bel b c) : Bel a c := Below.trans h (Below.mono k h.size)
theorem Bel.of {w w' : World} (h : Below w.heap.size w w') : Bel w w' := h
theorem Bel.alloc {W w : World} (h : Bel W w) (o : Obj) : Bel W (w.alloc o) := Below.alloc h h.size o
theorem Bel.drew {W w : World} (h : Bel W w) : Bel W w.drew := Below.drew h
theorem Bel.setCell {W w : World} (h : Bel W w) (p : Addr) (hp : W.heap.size ≤ p.block) (u : Value) : Bel W (w.setCell p u) := Below.setCell h hp u
theorem Bel.setRow {W w : World} (h : Bel W w) (g : Nat) (hg : W.heap.size ≤ g) (c : Array Value) : Bel W (w.setRow g c) := below_setRow' h g c hg
end Go.Proofs.Yticnponenkfneaa
namespace Go.Proofs.Yticnponenkfneaa
open Go Go.RowKit

section
variable {P : Program} {ops : Array Oper} {C : World → Prop} {Q : Act → Prop} {Q' : Exit → Act → World → Prop}
theorem wpList_of_quiet (hQ : ∀ a w, C w → Q a → Q' .normal a w) : ∀ (l : List Oper) (a : Act) (w : World), C w → wpQuiet P ops C Q l a → wpList P ops Q' l a w
  | [], a, w, hw, h => hQ a w hw h
  | o :: l, a, w, hw, h => by
    unfold wpQuiet at h
    unfold wpList
    split
    · rename_i hwd
      rw [if_pos hwd] at h
      exact .inl (Oper.wp_of_quiet hw (fun a' w' hw' hK => wpList_of_quiet hQ l a' w' hw' hK) h)
    · rename_i hwd
      rw [if_neg hwd] at h
      exact wpList_of_quiet hQ l _ _ hw h
theorem list_bel (n : Nat) {l : List Oper} {a : Act} {W : World} (_ : l.length = n) (h : wpQuiet P ops (Bel W) (fun a' => ∀ w', Bel W w' → Q' .normal a' w') l a) : wpList P ops Q' l a W :=
  wpList_of_quiet (C := Bel W) (fun a w hw h => h w hw) l a W (Bel.refl W) h
end
end Go.Proofs.Yticnponenkfneaa

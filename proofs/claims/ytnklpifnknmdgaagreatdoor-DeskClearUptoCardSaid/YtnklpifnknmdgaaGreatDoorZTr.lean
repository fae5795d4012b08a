import Derived.WalkKit
import Derived.WalkSpells
import Derived.Deep.MidRow
import Derived.Laws.Rows
import Derived.Laws.Tables
import Derived.WalkSmall
import Derived.Laws.ResultCell
import Derived.BigQuiet
import Derived.Deep.WholeRow
import Derived.Laws.BitsAllLaws
set_option linter.all false
set_option maxRecDepth 100000
namespace Go.Proofs.YtnklpifnknmdgaaGreatDoor
open Go Go.RowKit

def clkl (c : Nat → Int) : List Value := [.int .i64 (c 0), .int .i64 (c 1), .int .i64 (c 2), .int .i64 (c 3), .int .i64 (c 4), .int .i64 (c 5)]
def clk (c : Nat → Int) : Array Value := (clkl c).toArray
theorem clkl_length (c : Nat → Int) : (clkl c).length = 6 := rfl
theorem clkl_get (c : Nat → Int) (k : Nat) (h : k < 6) : (clkl c)[k]? = some (.int .i64 (c k)) := by
  match k, h with
  | 0, _ => rfl
  | 1, _ => rfl
  | 2, _ => rfl
  | 3, _ => rfl
  | 4, _ => rfl
  | 5, _ => rfl
theorem clk_get (c : Nat → Int) (k : Nat) (h : k < 6) : (clk c)[k]? = some (.int .i64 (c k)) := by
  simpa [clk] using clkl_get c k h
def upd (c : Nat → Int) (k : Nat) (v : Int) : Nat → Int := fun j => if j = k then v else c j
theorem clk_set (c : Nat → Int) (k : Nat) (h : k < 6) (v : Int) : (clk c).setIfInBounds k (.int .i64 v) = clk (upd c k v) := by
  match k, h with
  | 0, _ => rfl
  | 1, _ => rfl
  | 2, _ => rfl
  | 3, _ => rfl
  | 4, _ => rfl
  | 5, _ => rfl
theorem clk_congr {a b : Nat → Int} (h : ∀ k, k < 6 → a k = b k) : clk a = clk b := by
  simp [clk, clkl, h 0, h 1, h 2, h 3, h 4, h 5]
def within (a b : Nat → Int) : Bool := (List.range 6).all fun k => decide (a k ≤ b k)
theorem within_iff (a b : Nat → Int) : within a b = true ↔ ∀ k, k < 6 → a k ≤ b k := by simp [within]
theorem within_no {a b : Nat → Int} {k : Nat} (hk : k < 6) (h : b k < a k) : within a b = false := by
  rw [← Bool.not_eq_true, within_iff]
  intro hh
  have := hh k hk
  omega

def UpTo (P : Nat → Prop) (k : Nat) : Prop := ∀ j, j < k → P j
theorem UpTo.zero {P : Nat → Prop} : UpTo P 0 := fun _ h => absurd h (Nat.not_lt_zero _)
theorem UpTo.succ {P : Nat → Prop} {k : Nat} (h : UpTo P k) (hk : P k) : UpTo P (k + 1) := fun j hj => by
  rcases Nat.lt_succ_iff_lt_or_eq.1 hj with h' | rfl
  · exact h j h'
  · exact hk

def mx (x y : Int) : Int := if x < y then y else x
def Box (w : World) (B : Nat) (c : Array Value) (t : TypeId) : Prop := w.heap[B]? = some (.cells c t (0, 0))
theorem Box.lt {w : World} {B : Nat} {c : Array Value} {t : TypeId} (h : Box w B c t) : B < w.heap.size := by
  unfold Box at h
  rcases Nat.lt_or_ge B w.heap.size with h' | h'
  · exact h'
  · rw [Array.getElem?_eq_none h'] at h; cases h
theorem Box.new (w : World) (c : Array Value) (t : TypeId) : Box (w.alloc (.cells c t)) w.heap.size c t := heap_alloc_new w _
theorem Box.old {w : World} {B : Nat} {c : Array Value} {t : TypeId} (h : Box w B c t) (o : Obj) : Box (w.alloc o) B c t := (Below.heap_alloc w o B h.lt).trans h
theorem Box.drewN {w : World} {B : Nat} {c : Array Value} {t : TypeId} (h : Box w B c t) (n : Nat) : Box (w.drewN n) B c t := h
theorem Box.drew {w : World} {B : Nat} {c : Array Value} {t : TypeId} (h : Box w B c t) : Box w.drew B c t := h
theorem Box.below {N : Nat} {w w' : World} {B : Nat} {c : Array Value} {t : TypeId} (h : Box w B c t) (hb : Below N w w') (hN : B < N) : Box w' B c t := (hb.block B hN).trans h
theorem Box.set_ne {w : World} {B : Nat} {c : Array Value} {t : TypeId} (h : Box w B c t) (a : Addr) (v : Value) (hne : B ≠ a.block) : Box (w.setCell a v) B c t := (heap_setCell_other w a B v hne).trans h
theorem Box.set {w : World} {B : Nat} {c : Array Value} {t : TypeId} (h : Box w B c t) (i : Nat) (v : Value) : Box (w.setCell ⟨B, i, none⟩ v) B (c.setIfInBounds i v) t := heap_setCell_same w B i c t v h
theorem Box.cell {w : World} {B : Nat} {c : Array Value} {t : TypeId} (h : Box w B c t) (k : Nat) {v : Value} (hv : c[k]? = some v) : w.cell? ⟨B, k, none⟩ = some v := (cell_of_row w B k c t (0, 0) h).trans hv
theorem Box.frozen {w : World} {B : Nat} {c : Array Value} {t : TypeId} (h : Box w B c t) (k : Nat) : w.frozen? ⟨B, k, none⟩ = false := frozen_of_row w B k c t h
theorem Box.range {w : World} {B : Nat} {l : List Value} {t : TypeId} (h : Box w B l.toArray t) : w.rangeAt B 0 l := fun j v hv => by
  simpa using h.cell j (by simpa using hv)
theorem rangeAt_below {N : Nat} {w w' : World} (hb : Below N w w') {B o : Nat} {l : List Value} (hB : B < N) (h : w.rangeAt B o l) : w'.rangeAt B o l := fun j v hv => (hb.cell (p := ⟨B, o + j, none⟩) hB).trans (h j v hv)
theorem bdrewN {N : Nat} {w w' : World} (h : Below N w w') (n : Nat) : Below N w (w'.drewN n) := ⟨h.os, h.tape, h.output, h.size, h.block⟩
theorem ret_val {u v : Value} (h : u = v) : Ending.returned u = Ending.returned v := by rw [h]
theorem boxes2 (w : World) (c d : Array Value) (t u : TypeId) :
    Box ((w.alloc (.cells c t)).alloc (.cells d u)) w.heap.size c t ∧ Box ((w.alloc (.cells c t)).alloc (.cells d u)) (w.heap.size + 1) d u ∧
    Below w.heap.size w ((w.alloc (.cells c t)).alloc (.cells d u)) ∧ ((w.alloc (.cells c t)).alloc (.cells d u)).heap.size = w.heap.size + 2 :=
  ⟨(Box.new _ _ _).old _, by simpa using Box.new (w.alloc (.cells c t)) d u, ((Below.refl _ _).alloc (Nat.le_refl _) _).alloc (by simp) _, by simp⟩
theorem boxes1 (w : World) (c : Array Value) (t : TypeId) :
    Box (w.alloc (.cells c t)) w.heap.size c t ∧ Below w.heap.size w (w.alloc (.cells c t)) ∧ (w.alloc (.cells c t)).heap.size = w.heap.size + 1 :=
  ⟨Box.new _ _ _, (Below.refl _ _).alloc (Nat.le_refl _) _, by simp⟩
theorem boxes3 (w : World) (c d f : Array Value) (t u v : TypeId) :
    Box (((w.alloc (.cells c t)).alloc (.cells d u)).alloc (.cells f v)) w.heap.size c t ∧ Box (((w.alloc (.cells c t)).alloc (.cells d u)).alloc (.cells f v)) (w.heap.size + 1) d u ∧
    Box (((w.alloc (.cells c t)).alloc (.cells d u)).alloc (.cells f v)) (w.heap.size + 1 + 1) f v ∧
    Below w.heap.size w (((w.alloc (.cells c t)).alloc (.cells d u)).alloc (.cells f v)) ∧ (((w.alloc (.cells c t)).alloc (.cells d u)).alloc (.cells f v)).heap.size = w.heap.size + 3 := by
  obtain ⟨h1, h2, h3, h4⟩ := boxes2 w c d t u
  exact ⟨h1.old _, h2.old _, by have := Box.new ((w.alloc (.cells c t)).alloc (.cells d u)) f v; rw [h4] at this; exact this, h3.alloc (by omega) _, by simp⟩
theorem boxes4 (w : World) (c d f g : Array Value) (t u v x : TypeId) :
    Box ((((w.alloc (.cells c t)).alloc (.cells d u)).alloc (.cells f v)).alloc (.cells g x)) w.heap.size c t ∧ Box ((((w.alloc (.cells c t)).alloc (.cells d u)).alloc (.cells f v)).alloc (.cells g x)) (w.heap.size + 1) d u ∧
    Box ((((w.alloc (.cells c t)).alloc (.cells d u)).alloc (.cells f v)).alloc (.cells g x)) (w.heap.size + 1 + 1) f v ∧ Box ((((w.alloc (.cells c t)).alloc (.cells d u)).alloc (.cells f v)).alloc (.cells g x)) (w.heap.size + 1 + 1 + 1) g x ∧
    Below w.heap.size w ((((w.alloc (.cells c t)).alloc (.cells d u)).alloc (.cells f v)).alloc (.cells g x)) ∧ ((((w.alloc (.cells c t)).alloc (.cells d u)).alloc (.cells f v)).alloc (.cells g x)).heap.size = w.heap.size + 4 := by
  obtain ⟨h1, h2, h3, h4, h5⟩ := boxes3 w c d f t u v
  exact ⟨h1.old _, h2.old _, h3.old _, by have := Box.new (((w.alloc (.cells c t)).alloc (.cells d u)).alloc (.cells f v)) g x; rw [h5] at this; exact this, h4.alloc (by omega) _, by simp⟩
inductive RowTy (P : Program) (ty : TypeId) (n : Nat) : Prop
  | mk (d : TypeDesc) (hu : P.underlying ty = some d) (hd : d.isRow = true) (hi : (P.info? ty).map (·.size) = some n)
section
variable {P : Program} {ops : Array Oper} {rest : List Oper} {o : Oper} {a : Act} {w : World} {Q : Exit → Act → World → Prop}
theorem loadB (ty : TypeId) (x : Operand) (ho : o.op = .load ty x) (hgd : o.guard = none) {B : Nat} {c : Array Value} {t : TypeId} (hx : a.eval x = .pointer (some ⟨B, 0, none⟩)) (hb : Box w B c t) (hT : RowTy P ty c.size)
    (h : wpList P ops Q rest (a.put o.dst (.agg c)) w) : wpList P ops Q (o :: rest) a w :=
  let ⟨d, hu, hd, hi⟩ := hT
  wpList_load_row hgd ty x ho B hx t c (0, 0) d hb hu (by cases d <;> simp_all [TypeDesc.isRow]) hi h
theorem Box.setRow {w : World} {B : Nat} {c : Array Value} {t : TypeId} (h : Box w B c t) (c' : Array Value) : Box (w.setRow B c') B c' t := setRow_heap w B c c' t (0, 0) h
theorem Box.setRow_ne {w : World} {B : Nat} {c : Array Value} {t : TypeId} (h : Box w B c t) (g : Nat) (c' : Array Value) (hne : B ≠ g) : Box (w.setRow g c') B c t := (setRow_other w g B c' hne).trans h
theorem below_setRow' {N : Nat} {v w : World} (h : Below N v w) (g : Nat) (c : Array Value) (hg : N ≤ g) : Below N v (w.setRow g c) :=
  h.trans ⟨rfl, rfl, rfl, by simp, fun k hk => setRow_other w g k c (by omega)⟩
theorem storeB (ty : TypeId) (x y : Operand) (ho : o.op = .store ty x y) (hgd : o.guard = none) {B : Nat} {c c' : Array Value} {t : TypeId} (hx : a.eval x = .pointer (some ⟨B, 0, none⟩)) (hy : a.eval y = .agg c') (hb : Box w B c t)
    (hs : c.size = c'.size) (hT : RowTy P ty c'.size) (h1 : c'.all (·.oneCell') = true) (h : wpList P ops Q rest (a.put o.dst undef) (w.setRow B c')) : wpList P ops Q (o :: rest) a w := by
  obtain ⟨d, hu, hd, hi⟩ := hT
  refine wpList_plain hgd fun _ hK => ?_
  unfold Oper.wp execOp
  simp only [ho, hx, hy, Instr.storeAt, Instr.sureAddr, Sem.run_bind, Sem.run_pure, Result.andThen_ok, run_storeVar_row w B t ty c c' hb hi hs h1]
  exact hK _ _ h
theorem res_c {fn : Func} {p : Tmp} {ty : TypeId} (h : fn.results = #[.cell p ty]) {tmps : Array Value} {B : Nat} {c : Array Value} {t : TypeId} (hp : tmps.getD p undef = .pointer (some ⟨B, 0, none⟩)) (hb : Box w B c t) (hT : RowTy P ty c.size) :
    (results fn tmps).run P w = .ok (.agg c) w :=
  let ⟨d, hu, hd, hi⟩ := hT
  results_cell_row h tmps w B t c (0, 0) d hp hb hu (by cases d <;> simp_all [TypeDesc.isRow]) hi
theorem res_ct {fn : Func} {p u : Tmp} {ty : TypeId} (h : fn.results = #[.cell p ty, .tmp u]) {tmps : Array Value} {B : Nat} {c : Array Value} {t : TypeId} (hp : tmps.getD p undef = .pointer (some ⟨B, 0, none⟩)) (hb : Box w B c t) (hT : RowTy P ty c.size) :
    (results fn tmps).run P w = .ok (.tuple #[.agg c, tmps.getD u undef]) w := by
  obtain ⟨d, hu, hd, hi⟩ := hT
  rw [results_cell_tmp h, hp]
  simp only [asAddr, Sem.run_pure, Result.andThen_ok, run_loadVar_row w B t ty c (0, 0) d hb hu (by cases d <;> simp_all [TypeDesc.isRow]) hi]
end
theorem clk_all (c : Nat → Int) : (clk c).all (·.oneCell') = true := by simp [clk, clkl, Value.oneCell']
def jn (f : Int → Int → Int) (a b : Nat → Int) (k : Nat) : Nat → Int := fun j => if j < k then f (a j) (b j) else 0
theorem jn_succ (f : Int → Int → Int) (a b : Nat → Int) (k : Nat) : clk (upd (jn f a b k) k (f (a k) (b k))) = clk (jn f a b (k + 1)) := by
  apply clk_congr
  intro j _
  unfold upd jn
  by_cases h : j = k
  · subst h; simp
  · by_cases h2 : j < k
    · rw [if_neg h, if_pos h2, if_pos (by omega)]
    · rw [if_neg h, if_neg h2, if_neg (by omega)]
theorem jn_six (f : Int → Int → Int) (a b : Nat → Int) : ∀ k, k < 6 → jn f a b 6 k = f (a k) (b k) := fun k h => by simp [jn, h]
structure JRel (w : World) (a b : Nat → Int) (f : Int → Int → Int) (k : Nat) (t : TypeId) (wr : World) : Prop where
  ba : Box wr w.heap.size (clk a) t
  bb : Box wr (w.heap.size + 1) (clk b) t
  res : Box wr (w.heap.size + 1 + 1) (clk fun _ => 0) t
  out : Box wr (w.heap.size + 1 + 1 + 1) (clk (jn f a b k)) t
  below : Below w.heap.size w wr
def In64 (n : Int) : Prop := -9223372036854775808 ≤ n ∧ n ≤ 9223372036854775807
def isT (t : Int) : Bool := decide (0 ≤ t ∧ t < 6)
theorem isT_yes {t : Int} (h0 : 0 ≤ t) (h1 : t < 6) : isT t = true := by simp [isT, h0, h1]
theorem isT_no {t : Int} (h : ¬ (0 ≤ t ∧ t < 6)) : isT t = false := by simp only [isT, decide_eq_false_iff_not]; exact h
theorem isT_iff {t : Int} : isT t = true ↔ 0 ≤ t ∧ t < 6 := by simp [isT]
def seen (th n : Int) (c : Nat → Int) : Bool := isT th && decide (n ≤ c th.toNat)
def cf (x0 x1 x2 x3 x4 x5 : Int) : Nat → Int := fun k => match k with | 0 => x0 | 1 => x1 | 2 => x2 | 3 => x3 | 4 => x4 | _ => x5
def ep (t n : Int) : Array Value := #[.int .i64 t, .int .i64 n]
theorem ep_all (t n : Int) : (ep t n).all (·.oneCell') = true := by simp [ep, Value.oneCell']
def ofN (c : Nat → Int) (t : Int) : Int := if isT t = true then c t.toNat else 0
def ofT (t : Int) : Int := if isT t = true then t else 0
def ofE (t : Int) : Int := if isT t = true then 0 else 1
def outs (t a b : Int) : Bool := decide (t < a ∨ b < t)
def Bel (W w : World) : Prop := Below W.heap.size W w
theorem Bel.call {W w w' : World} (h : Bel W w) (hb : Below w.heap.size w w') : Bel W w' := Below.trans h (hb.mono h.size)
theorem Bel.box {W w : World} (h : Bel W w) {B : Nat} {c : Array Value} {t : TypeId} (hb : Box W B c t) : Box w B c t := hb.below h hb.lt
theorem Bel.cell {W w : World} (h : Bel W w) {p : Addr} {v : Value} (hc : W.cell? p = some v) : w.cell? p = some v := (Below.cell h (block_lt_of_cell hc)).trans hc
theorem Bel.out {W w : World} (h : Bel W w) : Below W.heap.size W w := h
section
variable {P : Program} {ops : Array Oper} {rest : List Oper} {o : Oper} {a : Act} {W : World} {C : World → Prop} {Q : Act → Prop}
theorem region_bel {id : Nat} {l : List Oper} {Q : Exit → Act → World → Prop} (hm : P.follows .mixedOrders = true) (hB : Region.lexB .any l.toArray = true)
    (h : wpQuiet P l.toArray (Bel W) (fun a' => ∀ w', Bel W w' → Q .normal a' w') l a) : (Code.region id l.toArray true).wp P Q a W :=
  wp_region_quiet (C := Bel W) hm hB (Below.drew (Below.refl _ _)) (by simpa using h)
theorem q_step (v : Value) (hw : Region.wanted o (yielded ops a.tmps) = true) (hq : ∀ w, C w → o.quietAt P a C w v) (h : wpQuiet P ops C Q rest (a.put o.dst v)) : wpQuiet P ops C Q (o :: rest) a :=
  BigFrame.wpQuiet_want hw fun _ hK => ⟨v, hq, hK _ h⟩
theorem q_any (hw : Region.wanted o (yielded ops a.tmps) = true) (h : ∃ v, (∀ w, C w → o.quietAt P a C w v) ∧ wpQuiet P ops C Q rest (a.put o.dst v)) : wpQuiet P ops C Q (o :: rest) a :=
  let ⟨v, h1, h2⟩ := h
  q_step v hw h1 h2
theorem q_load (ty : TypeId) (x : Operand) (ho : o.op = .load ty x) (hw : Region.wanted o (yielded ops a.tmps) = true) {B : Nat} {c : Array Value} {t : TypeId} (hx : a.eval x = .pointer (some ⟨B, 0, none⟩)) (hb : Box W B c t)
    (hT : RowTy P ty c.size) (h : wpQuiet P ops (Bel W) Q rest (a.put o.dst (.agg c))) : wpQuiet P ops (Bel W) Q (o :: rest) a := by
  refine q_step (.agg c) hw (fun w hw' => ?_) h
  obtain ⟨d, hu, hd, hi⟩ := hT
  unfold Oper.quietAt execOp
  simp only [ho, hx, Instr.loadAt, Instr.sureAddr, Sem.run_bind, Sem.run_pure, Result.andThen_ok, run_loadVar_row w B t ty c (0, 0) d (hw'.box hb) hu (by cases d <;> simp_all [TypeDesc.isRow]) hi]
  exact ⟨rfl, rfl⟩
theorem q_move (x : Operand) (ho : o.op = .move x) (hw : Region.wanted o (yielded ops a.tmps) = true) (h : wpQuiet P ops C Q rest (a.put o.dst (a.eval x))) : wpQuiet P ops C Q (o :: rest) a :=
  q_step _ hw (fun w _ => by unfold Oper.quietAt; rw [BigFrame.run_move x ho]; exact ⟨rfl, rfl⟩) h
theorem q_assign (x : Operand) (ho : o.op = .assign x) (hw : Region.wanted o (yielded ops a.tmps) = true) (h : wpQuiet P ops C Q rest (a.put o.dst (a.eval x))) : wpQuiet P ops C Q (o :: rest) a :=
  q_step _ hw (fun w _ => by unfold Oper.quietAt; rw [BigFrame.run_assign x ho]; exact ⟨rfl, rfl⟩) h
end
section
variable {P : Program} {ops : Array Oper} {rest : List Oper} {o : Oper} {a : Act} {w : World} {Q : Exit → Act → World → Prop}
theorem storeNew (ty : TypeId) (x y : Operand) (ho : o.op = .store ty x y) (hgd : o.guard = none) {c c' : Array Value} {t : TypeId} (hx : a.eval x = .pointer (some ⟨w.heap.size, 0, none⟩)) (hy : a.eval y = .agg c')
    (hs : c.size = c'.size) (hT : RowTy P ty c'.size) (h1 : c'.all (·.oneCell') = true) (h : wpList P ops Q rest (a.put o.dst undef) (w.alloc (.cells c' t))) : wpList P ops Q (o :: rest) a (w.alloc (.cells c t)) := by
  refine storeB ty x y ho hgd hx hy (Box.new w c t) hs hT h1 ?_
  rw [World.setRow_alloc_new]
  exact h
end
theorem Bel.refl (W : World) : Bel W W := Below.refl _ _
theorem Bel.trans {a b c : World} (h : Bel a b) (k : Bel b c) : Bel a c := Below.trans h (Below.mono k h.size)
theorem Bel.of {w w' : World} (h : Below w.heap.size w w') : Bel w w' := h
theorem Bel.alloc {W w : World} (h : Bel W w) (o : Obj) : Bel W (w.alloc o) := Below.alloc h h.size o
theorem Bel.drew {W w : World} (h : Bel W w) : Bel W w.drew := Below.drew h
theorem Bel.setCell {W w : World} (h : Bel W w) (p : Addr) (hp : W.heap.size ≤ p.block) (u : Value) : Bel W (w.setCell p u) := Below.setCell h hp u
end Go.Proofs.YtnklpifnknmdgaaGreatDoor
namespace Go.Proofs.YtnklpifnknmdgaaGreatDoor
open Go Go.RowKit

section
variable {P : Program} {ops : Array Oper} {C : World → Prop} {Q : Act → Prop} {Q' : Exit → Act → World → Prop}
end
end Go.Proofs.YtnklpifnknmdgaaGreatDoor
set_option linter.all false
set_option maxRecDepth 100000
namespace Go.Proofs.YtnklpifnknmdgaaGreatDoor
open Go Go.RowKit

structure Ev where
  k : Int
  t : Int
  o : Int
theorem Ev.ext' {a b : Ev} (h1 : a.k = b.k) (h2 : a.t = b.t) (h3 : a.o = b.o) : a = b := by
  cases a; cases b; simp_all
instance : DecidableEq Ev := fun a b =>
  if h : a.k = b.k ∧ a.t = b.t ∧ a.o = b.o then isTrue (Ev.ext' h.1 h.2.1 h.2.2) else isFalse (fun e => h (by subst e; exact ⟨rfl, rfl, rfl⟩))
def evl (e : Ev) : List Value := [.int .i64 e.k, .int .i64 e.t, .int .i64 e.o]
def evv (e : Ev) : Array Value := #[.int .i64 e.k, .int .i64 e.t, .int .i64 e.o]
theorem evv_all (e : Ev) : (evv e).all (·.oneCell') = true := by simp [evv, Value.oneCell']
def evc : List Ev → List Value
  | [] => []
  | e :: l => .int .i64 e.k :: .int .i64 e.t :: .int .i64 e.o :: evc l
theorem evc_length (l : List Ev) : (evc l).length = l.length * 3 := by
  induction l with
  | nil => rfl
  | cons e l ih => simp only [evc, List.length_cons, ih]; omega
theorem evc_append (l m : List Ev) : evc (l ++ m) = evc l ++ evc m := by
  induction l with
  | nil => rfl
  | cons e l ih => simp only [List.cons_append, evc, ih]
theorem evc_get (l : List Ev) (i : Nat) (e : Ev) (h : l[i]? = some e) :
    (evc l)[i * 3]? = some (.int .i64 e.k) ∧ (evc l)[i * 3 + 1]? = some (.int .i64 e.t) ∧ (evc l)[i * 3 + 2]? = some (.int .i64 e.o) := by
  induction l generalizing i with
  | nil => simp at h
  | cons x l ih =>
    cases i with
    | zero => simp at h; subst h; exact ⟨rfl, rfl, rfl⟩
    | succ i =>
      have := ih i (by simpa using h)
      simp only [evc]
      rw [show (i + 1) * 3 = i * 3 + 1 + 1 + 1 by omega]
      simpa using this
theorem evc_take (l : List Ev) (n : Nat) : (evc l).take (n * 3) = evc (l.take n) := by
  induction l generalizing n with
  | nil => simp [evc]
  | cons e l ih =>
    cases n with
    | zero => simp [evc]
    | succ n => rw [show (n + 1) * 3 = n * 3 + 1 + 1 + 1 by omega]; simp only [evc, List.take_succ_cons, ih]
theorem evc_drop (l : List Ev) (n : Nat) : (evc l).drop (n * 3) = evc (l.drop n) := by
  induction l generalizing n with
  | nil => simp [evc]
  | cons e l ih =>
    cases n with
    | zero => simp [evc]
    | succ n => rw [show (n + 1) * 3 = n * 3 + 1 + 1 + 1 by omega]; simp only [evc, List.drop_succ_cons, ih]
theorem evc_one (l : List Ev) : ∀ v ∈ evc l, v.oneCell' = true := by
  induction l with
  | nil => simp [evc]
  | cons e l ih =>
    intro v hv
    simp only [evc, List.mem_cons] at hv
    rcases hv with rfl | rfl | rfl | h
    · rfl
    · rfl
    · rfl
    · exact ih v h

def inB (n m : Int) : Bool := decide (0 ≤ n ∧ n < m)
theorem inB_iff {n m : Int} : inB n m = true ↔ 0 ≤ n ∧ n < m := by simp [inB]
theorem inB_yes {n m : Int} (h0 : 0 ≤ n) (h1 : n < m) : inB n m = true := inB_iff.2 ⟨h0, h1⟩
theorem inB_no {n m : Int} (h : ¬ (0 ≤ n ∧ n < m)) : inB n m = false := by rw [← Bool.not_eq_true, inB_iff]; exact h
def nobj (k : Int) : Int := if k = 1 ∨ k = 2 then 8 else if k = 3 ∨ k = 4 then 5 else if k = 5 ∨ k = 6 then 6 else if k = 7 ∨ k = 8 then 4 else 0
def isEv (e : Ev) : Bool := inB e.t 6 && inB e.o (nobj e.k)
def ownB (who : Int) (e : Ev) (k : Int) : Int := if e.o = k ∧ e.k = 4 then -1 else if e.o = k ∧ e.k = 3 then e.t else who
def owner (l : List Ev) (k : Int) : Int := l.foldl (fun who e => ownB who e k) (-1)
theorem owner_snoc (l : List Ev) (e : Ev) (k : Int) : owner (l ++ [e]) k = ownB (owner l k) e k := by simp [owner, List.foldl_append]
def did (l : List Ev) (kind obj : Int) : Bool := l.any fun e => decide (e.k = kind ∧ e.o = obj)
theorem did_snoc (l : List Ev) (e : Ev) (a b : Int) : did (l ++ [e]) a b = (did l a b || decide (e.k = a ∧ e.o = b)) := by simp [did]
def begun (l : List Ev) (t : Int) : Bool := decide (t = 0) || did l 5 t
theorem begun_snoc (l : List Ev) (e : Ev) (t : Int) : begun (l ++ [e]) t = (begun l t || decide (e.k = 5 ∧ e.o = t)) := by simp [begun, did_snoc, Bool.or_assoc]
def wrong (l : List Ev) (e : Ev) : Int :=
  if isEv e = false then 1 else if begun l e.t = false ∨ did l 6 e.t = true then 11
  else if e.k = 3 then (if 0 ≤ owner l e.o then 9 else 0)
  else if e.k = 4 then (if owner l e.o = e.t then 0 else 10)
  else if e.k = 5 then (if begun l e.o = true then 8 else 0)
  else if e.k = 6 then (if begun l e.o = false ∨ e.o = e.t then 7 else 0) else 0
theorem wrong_range (l : List Ev) (e : Ev) : 0 ≤ wrong l e ∧ wrong l e ≤ 11 := by
  unfold wrong; repeat' split
  all_goals omega
theorem wrong_isEv {l : List Ev} {e : Ev} (h : wrong l e = 0) : isEv e = true := by
  unfold wrong at h
  cases h1 : isEv e
  · simp [h1] at h
  · rfl
def chk (p : List Ev) : List Ev → Int × Int
  | [] => (0, 0)
  | e :: r => if wrong p e ≠ 0 then (p.length, wrong p e) else chk (p ++ [e]) r
def check (l : List Ev) : Int × Int := if 80 < l.length then (0, 2) else chk [] l
def may (l : List Ev) : Int := (check l).2
theorem chk_step {l : List Ev} {i : Nat} {e : Ev} (h : l[i]? = some e) :
    chk (l.take i) (l.drop i) = if wrong (l.take i) e ≠ 0 then ((i : Int), wrong (l.take i) e) else chk (l.take (i + 1)) (l.drop (i + 1)) := by
  have hi : i < l.length := (List.getElem?_eq_some_iff.1 h).1
  have hd : l.drop i = e :: l.drop (i + 1) := by
    rw [List.drop_eq_getElem_cons hi]; congr 1
    exact (List.getElem?_eq_some_iff.1 h).2
  have ht : l.take (i + 1) = l.take i ++ [e] := by
    rw [List.take_succ_eq_append_getElem hi]; congr 2
    exact (List.getElem?_eq_some_iff.1 h).2
  rw [hd, chk, ht, List.length_take, Nat.min_eq_left (Nat.le_of_lt hi)]
theorem chk_end (l : List Ev) : chk (l.take l.length) (l.drop l.length) = (0, 0) := by simp [chk]
def Fit (l : List Ev) : Prop := ∀ e ∈ l, 0 ≤ e.t ∧ e.t < 6
theorem Fit.nil : Fit [] := fun _ h => by cases h
theorem isEv_t {e : Ev} (h : isEv e = true) : 0 ≤ e.t ∧ e.t < 6 := by
  simp only [isEv, Bool.and_eq_true, inB_iff] at h; exact h.1
theorem isEv_o {e : Ev} (h : isEv e = true) : 0 ≤ e.o ∧ e.o < nobj e.k := by
  simp only [isEv, Bool.and_eq_true, inB_iff] at h; exact h.2
theorem Fit.snoc {l : List Ev} {e : Ev} (h : Fit l) (he : isEv e = true) : Fit (l ++ [e]) := by
  intro x hx
  rcases List.mem_append.1 hx with hx | hx
  · exact h x hx
  · simp at hx; subst hx; exact isEv_t he
theorem owner_range {l : List Ev} (h : Fit l) (k : Int) : -1 ≤ owner l k ∧ owner l k < 6 := by
  suffices H : ∀ (l : List Ev) (w : Int), Fit l → -1 ≤ w ∧ w < 6 → -1 ≤ l.foldl (fun who e => ownB who e k) w ∧ l.foldl (fun who e => ownB who e k) w < 6 from H l (-1) h (by omega)
  intro l
  induction l with
  | nil => intro w _ hw; exact hw
  | cons e l ih =>
    intro w hf hw
    refine ih _ (fun x hx => hf x (List.mem_cons_of_mem _ hx)) ?_
    have := hf e (List.mem_cons_self ..)
    show -1 ≤ ownB w e k ∧ ownB w e k < 6
    unfold ownB; split
    · omega
    · split <;> omega
def hs5 (b0 b1 b2 b3 b4 : Bool) : Int := (if b0 then 1 else 0) + (if b1 then 2 else 0) + (if b2 then 4 else 0) + (if b3 then 8 else 0) + (if b4 then 16 else 0)
def hset (f : Nat → Bool) : Int := hs5 (f 0) (f 1) (f 2) (f 3) (f 4)
theorem hset_range (f : Nat → Bool) : 0 ≤ hset f ∧ hset f < 32 := by
  unfold hset hs5; repeat' split
  all_goals omega
theorem hset_congr {f g : Nat → Bool} (h : ∀ k, k < 5 → f k = g k) : hset f = hset g := by
  simp [hset, h 0, h 1, h 2, h 3, h 4]
def held (l : List Ev) (t : Int) : Int := hset fun k => decide (owner l k = t)
end Go.Proofs.YtnklpifnknmdgaaGreatDoor
namespace Go.Proofs.YtnklpifnknmdgaaGreatDoor
open Go Go.RowKit

theorem chk_zero (p r : List Ev) : (chk p r).2 = 0 ↔ ∀ i e, r[i]? = some e → wrong (p ++ r.take i) e = 0 := by
  induction r generalizing p with
  | nil => simp [chk]
  | cons x r ih =>
    unfold chk
    by_cases h : wrong p x = 0
    · rw [if_neg (by simpa using h), ih]
      constructor
      · intro H i e he
        cases i with
        | zero => simp at he; subst he; simpa using h
        | succ i =>
          have := H i e (by simpa using he)
          simpa using this
      · intro H i e he
        have := H (i + 1) e (by simpa using he)
        simpa using this
    · rw [if_pos h]
      constructor
      · intro H; exact absurd H h
      · intro H
        have := H 0 x rfl
        simp at this
        exact absurd this h
theorem chk_fst_zero (p r : List Ev) (h : (chk p r).2 = 0) : chk p r = (0, 0) := by
  induction r generalizing p with
  | nil => rfl
  | cons x r ih =>
    unfold chk at h ⊢
    by_cases hw : wrong p x = 0
    · rw [if_neg (by simpa using hw)] at h ⊢; exact ih _ h
    · rw [if_pos hw] at h; exact absurd h hw
theorem may_iff (l : List Ev) : may l = 0 ↔ l.length ≤ 80 ∧ ∀ i e, l[i]? = some e → wrong (l.take i) e = 0 := by
  unfold may check
  by_cases h : 80 < l.length
  · rw [if_pos h]; constructor
    · intro h'; cases h'
    · intro ⟨h', _⟩; omega
  · rw [if_neg h, chk_zero]; simp; omega
theorem check_ok {l : List Ev} (h : may l = 0) : check l = (0, 0) := by
  have h80 := ((may_iff l).1 h).1
  unfold may check at h
  unfold check
  rw [if_neg (by omega)] at h ⊢
  exact chk_fst_zero _ _ h
theorem may_take {l : List Ev} (h : may l = 0) (i : Nat) : may (l.take i) = 0 := by
  rw [may_iff] at h ⊢
  refine ⟨by rw [List.length_take]; omega, fun j e he => ?_⟩
  rw [List.getElem?_take] at he
  split at he
  · have := h.2 j e he
    rwa [List.take_take, Nat.min_eq_left (by omega)]
  · cases he
theorem wrong_fork {p : List Ev} {e : Ev} (h : wrong p e = 0) (hk : e.k = 5) : begun p e.o = false := by
  have hev := wrong_isEv h
  unfold wrong at h
  simp only [hev, Bool.true_eq_false, if_false] at h
  split at h
  · cases h
  · simp [hk] at h; exact h
theorem wrong_thread {p : List Ev} {e : Ev} (h : wrong p e = 0) : begun p e.t = true := by
  have hev := wrong_isEv h
  unfold wrong at h
  simp only [hev, Bool.true_eq_false, if_false] at h
  split at h
  · cases h
  · rename_i hh
    cases hb : begun p e.t
    · exact absurd (.inl hb) hh
    · rfl
theorem begun_mono {p q : List Ev} {t : Int} (h : begun p t = true) : begun (p ++ q) t = true := by
  unfold begun did at *
  rw [List.any_append]
  simp only [Bool.or_eq_true] at *
  rcases h with h | h
  · exact .inl h
  · exact .inr (.inl h)
end Go.Proofs.YtnklpifnknmdgaaGreatDoor

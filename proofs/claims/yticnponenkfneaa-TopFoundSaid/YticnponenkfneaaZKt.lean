import Derived.DeepKeys4
import Derived.WideKeyMaps
import Derived.Test.YticnponenkfneaaZMapInt
import Derived.Test.YticnponenkfneaaZBase
import Derived.Test.YticnponenkfneaaZOpen
import Derived.Test.YticnponenkfneaaZRpG
set_option linter.all false
set_option maxRecDepth 100000
namespace Go.Proofs.Yticnponenkfneaa
open Go Go.RowKit

structure KeyT (mt kt : TypeId) (F : Array Value → Prop) : Prop where
  map : Try.prog.underlying mt = some (.map kt 4)
  law : WideMaps.KeyLaw Try.prog kt
  lit : ∀ x, F x → ∃ l, keyOf Try.prog kt (.agg x) = some l

def LitOk (d : Nat) (t : TypeId) (cs : List Value) : Prop := ∃ ls, Try.prog.keyLits d t cs = some ls
theorem mapM_ok {α β : Type} {f : α → Option β} : ∀ {l : List α}, (∀ x ∈ l, ∃ y, f x = some y) → ∃ ys, l.mapM f = some ys
  | [], _ => ⟨[], rfl⟩
  | x :: l, h => by
    obtain ⟨y, hy⟩ := h x (List.mem_cons_self ..)
    obtain ⟨ys, hys⟩ := mapM_ok (l := l) fun z hz => h z (List.mem_cons_of_mem _ hz)
    exact ⟨y :: ys, by simp [List.mapM_cons, hy, hys]⟩
theorem LitOk.int (d : Nat) {n : Int} (h : In64 n) : LitOk (d + 1) 3 [.int .i64 n] := by
  refine ⟨[.int .i64 n], ?_⟩
  have hw : (Lit.int .i64 n).wf = true := by simpa [Lit.wf, In64, IntKind.min, IntKind.max, IntKind.bits, IntKind.signed] using h
  unfold Program.keyLits
  rw [Try.underlying3]
  simp [hw]
theorem LitOk.arr {d : Nat} {t e : TypeId} {n c : Nat} {cs : List Value} (hu : Try.prog.underlying t = some (.array n e)) (hc : Try.prog.cellsOf e = c) (ht : Try.prog.cellsOf t = cs.length) (h : ∀ i, i < n → LitOk d e ((cs.drop (i * c)).take c)) : LitOk (d + 1) t cs := by
  obtain ⟨ys, hys⟩ := mapM_ok (f := fun i => Try.prog.keyLits d e ((cs.drop (i * c)).take c)) (l := List.range n) fun i hi => h i (List.mem_range.1 hi)
  refine ⟨ys.flatten, ?_⟩
  unfold Program.keyLits
  rw [hu]
  simp only [hc, ht, if_true, hys, Option.map_some]
theorem LitOk.str {d : Nat} {t : TypeId} {fs : Array Field} {cs : List Value} (hu : Try.prog.underlying t = some (.struct fs)) (ht : Try.prog.cellsOf t = cs.length) (hn : fs.all (·.name != "_") = true) (h : ∀ f ∈ fs.toList, LitOk d f.type ((cs.drop f.offset).take (Try.prog.cellsOf f.type))) : LitOk (d + 1) t cs := by
  obtain ⟨ys, hys⟩ := mapM_ok (f := fun f : Field => Try.prog.keyLits d f.type ((cs.drop f.offset).take (Try.prog.cellsOf f.type))) (l := fs.toList) h
  refine ⟨ys.flatten, ?_⟩
  unfold Program.keyLits
  rw [hu]
  simp only [ht, hn, and_self, if_true, hys, Option.map_some]
theorem key_of {t : TypeId} {fs : Array Field} {x : Array Value} (hu : Try.prog.underlying t = some (.struct fs)) (hk : Try.prog.keyType t = true) (hs : x.size = Try.prog.cellsOf t) (h : LitOk (Try.prog.types.size + 1) t x.toList) : ∃ l, keyOf Try.prog t (.agg x) = some l := by
  obtain ⟨ls, hl⟩ := h
  refine ⟨.string (keyBytes ls), ?_⟩
  unfold keyOf
  have hf : (Value.agg x).formed Try.prog t = true := by unfold Value.formed; rw [hu]; simp [hs]
  rw [hu]
  simp only [hk, hf, Bool.and_self, if_true]
  show (Try.prog.keyLits _ _ x.toList).map _ = _
  rw [hl]
  rfl

def aE (x : Array Value) (b : Nat) : MapEntry := ⟨.agg x, .bool true, b⟩
def entsA : Nat → List (Array Value) → List MapEntry
  | _, [] => []
  | k, p :: ps => aE p k :: entsA (k + 1) ps
def aM (ps : List (Array Value)) : Array MapEntry := (entsA 0 ps).toArray
theorem entsA_snoc (ps : List (Array Value)) (p : Array Value) : ∀ k, entsA k (ps ++ [p]) = entsA k ps ++ [aE p (k + ps.length)] := by
  induction ps with
  | nil => intro k; rfl
  | cons q ps ih => intro k; simp only [List.cons_append, entsA, ih, List.length_cons]; rw [show k + 1 + ps.length = k + (ps.length + 1) by omega]
theorem aM_snoc (ps : List (Array Value)) (p : Array Value) : (aM ps).push (aE p ps.length) = aM (ps ++ [p]) := by
  unfold aM; rw [entsA_snoc]; simp
theorem entsA_mem {e : MapEntry} : ∀ {ps : List (Array Value)} {k : Nat}, e ∈ entsA k ps → ∃ p b, e = aE p b ∧ p ∈ ps ∧ k ≤ b ∧ b < k + ps.length
  | [], _, h => by cases h
  | q :: ps, k, h => by
    simp only [entsA, List.mem_cons] at h
    rcases h with rfl | h
    · exact ⟨q, k, rfl, by simp, by omega, by simp⟩
    · obtain ⟨p, b, h1, h2, h3, h4⟩ := entsA_mem h
      exact ⟨p, b, h1, by simp [h2], by omega, by simp only [List.length_cons]; omega⟩
theorem mem_entsA {p : Array Value} : ∀ {ps : List (Array Value)} {k : Nat}, p ∈ ps → ∃ b, aE p b ∈ entsA k ps
  | [], _, h => by cases h
  | q :: ps, k, h => by
    rcases List.mem_cons.1 h with rfl | h
    · exact ⟨k, List.mem_cons_self ..⟩
    · obtain ⟨b, hb⟩ := mem_entsA (k := k + 1) h
      exact ⟨b, List.mem_cons_of_mem _ hb⟩
def MapA (w : World) (B : Nat) (ps : List (Array Value)) : Prop := w.heap[B]? = some (.map (aM ps) ps.length)
theorem MapA.lt {w : World} {B : Nat} {ps : List (Array Value)} (h : MapA w B ps) : B < w.heap.size := (Array.getElem?_eq_some_iff.1 h).1
theorem MapA.bel {w w' : World} {B : Nat} {ps : List (Array Value)} (h : MapA w B ps) (hb : Bel w w') : MapA w' B ps := (hb.out.block B h.lt).trans h
theorem MapA.blk {w w' : World} {B : Nat} {ps : List (Array Value)} (h : MapA w B ps) (hb : w'.heap[B]? = w.heap[B]?) : MapA w' B ps := hb.trans h
theorem bool_zeroa (w : World) : (zeroValue 4).run Try.prog w = .ok (.bool false) w := by kernel_rfl
section
variable {mt kt : TypeId} {F : Array Value → Prop} (T : KeyT mt kt F)
include T
theorem aM_keys {ps : List (Array Value)} (hF : ∀ x ∈ ps, F x) : ∀ e ∈ (aM ps).toList, ∃ l, keyOf Try.prog kt e.key = some l := fun e he => by
  obtain ⟨p, b, rfl, hp, _, _⟩ := entsA_mem (k := 0) (by simpa [aM] using he)
  exact T.lit p (hF p hp)
theorem run_key_a {ps : List (Array Value)} (hF : ∀ x ∈ ps, F x) {p : Array Value} (hp : F p) (w : World) :
    (p ∉ ps ∧ (Instr.findKey kt (.agg p) (aM ps).toList).run Try.prog w = .ok none w) ∨ (p ∈ ps ∧ ∃ j b, (Instr.findKey kt (.agg p) (aM ps).toList).run Try.prog w = .ok (some (j, .bool true)) w ∧ (aM ps)[j]? = some (aE p b)) := by
  obtain ⟨lx, hx⟩ := T.lit p hp
  rcases T.law.find w hx (aM ps).toList (aM_keys T hF) with ⟨h1, h2⟩ | ⟨j, e, h1, h2, h3⟩
  · refine .inl ⟨fun hm => ?_, h1⟩
    obtain ⟨b, hb⟩ := mem_entsA (k := 0) hm
    exact h2 (aE p b) (by simpa [aM] using hb) rfl
  · obtain ⟨q, b, rfl, hq, _, _⟩ := entsA_mem (k := 0) (by simpa [aM] using List.mem_of_getElem? h2)
    have : q = p := by have h3 : Value.agg q = Value.agg p := h3; simpa using h3
    subst this
    exact .inr ⟨hq, j, b, h1, by simpa using h2⟩
theorem run_look_a {w : World} {B : Nat} {ps : List (Array Value)} (h : MapA w B ps) (hF : ∀ x ∈ ps, F x) {p : Array Value} (hp : F p) :
    ∃ b : Bool, (Instr.lookup mt (.map (some B)) (.agg p) false).run Try.prog w = .ok (.bool b) w ∧ (b = true ↔ p ∈ ps) := by
  obtain ⟨lx, hx⟩ := T.lit p hp
  rcases run_key_a T hF hp w with ⟨h1, h2⟩ | ⟨h1, j, b, h2, h3⟩
  · refine ⟨false, ?_, by simp [h1]⟩
    simp [Instr.lookup, run_underlying T.map, MapKept.run_getObj_map h, T.law.check w _ hx, h2, bool_zeroa, Result.andThen]
  · refine ⟨true, ?_, by simp [h1]⟩
    simp [Instr.lookup, run_underlying T.map, MapKept.run_getObj_map h, T.law.check w _ hx, h2, Result.andThen]
def aset (w : World) (B : Nat) (ps : List (Array Value)) : World := { w with heap := w.heap.setIfInBounds B (.map (aM ps) ps.length) }
omit T in
theorem aset_map {w : World} {B : Nat} (ps : List (Array Value)) (h : B < w.heap.size) : MapA (aset w B ps) B ps := by simp [MapA, aset, h]
omit T in
theorem aset_other (w : World) (B : Nat) (ps : List (Array Value)) {k : Nat} (h : k ≠ B) : (aset w B ps).heap[k]? = w.heap[k]? := by simp [aset, Ne.symm h]
omit T in
theorem aset_size (w : World) (B : Nat) (ps : List (Array Value)) : (aset w B ps).heap.size = w.heap.size := by simp [aset]
theorem run_upd_a {w : World} {B : Nat} {ps : List (Array Value)} (h : MapA w B ps) (hF : ∀ x ∈ ps, F x) {p : Array Value} (hp : F p) (hn : p ∉ ps) :
    (Instr.mapUpdate mt (.map (some B)) (.agg p) (.bool true)).run Try.prog w = .ok () (aset w B (ps ++ [p])) := by
  obtain ⟨lx, hx⟩ := T.lit p hp
  rcases run_key_a T hF hp w with ⟨h1, h2⟩ | ⟨h1, _⟩
  · simp only [Instr.mapUpdate, Sem.run_bind, run_underlying T.map, MapKept.run_getObj_map h, Result.andThen_ok, T.law.check w _ hx, h2, MapKept.run_setObj_map _ h]
    have e : (aM ps).push ⟨.agg p, .bool true, ps.length⟩ = aM (ps ++ [p]) := aM_snoc ps p
    rw [e]
    unfold aset
    rw [List.length_append, List.length_singleton]
  · exact absurd h1 hn
end
section
variable {ops : Array Oper} {rest : List Oper} {o : Oper} {a : Act} {w : World} {Q : Exit → Act → World → Prop}
theorem updA {mt kt : TypeId} {F : Array Value → Prop} (T : KeyT mt kt F) (m k v : Operand) (ho : o.op = .mapUpdate mt m k v) (hgd : o.guard = none) {B : Nat} {ps : List (Array Value)} {p : Array Value} (hm : a.eval m = .map (some B)) (hk : a.eval k = .agg p) (hv : a.eval v = .bool true) (hb : MapA w B ps) (hF : ∀ x ∈ ps, F x) (hp : F p) (hn : p ∉ ps)
    (h : wpList Try.prog ops Q rest (a.put o.dst undef) (aset w B (ps ++ [p]))) : wpList Try.prog ops Q (o :: rest) a w := by
  refine wpList_plain hgd fun _ hK' => ?_
  unfold Oper.wp execOp
  simp only [ho, hm, hk, hv, Sem.run_bind, run_upd_a T hb hF hp hn, Result.andThen_ok, Sem.run_pure]
  exact hK' _ _ h
end
theorem drop_take_vs (n : Nat) (g : Nat → Value) (o c : Nat) (h : o + c ≤ n) : ((vs n g).toList.drop o).take c = (List.range c).map fun i => g (o + i) := by
  apply List.ext_getElem?
  intro i
  unfold vs
  by_cases hi : i < c
  · rw [List.getElem?_take_of_lt hi, List.getElem?_drop]
    simp [hi, show o + i < n by omega]
  · rw [List.getElem?_eq_none (by simp; omega), List.getElem?_eq_none (by simp; omega)]
theorem vs_list (n : Nat) (g : Nat → Value) : (vs n g).toList = (List.range n).map g := by simp [vs]
theorem dt_map (n : Nat) (g : Nat → Value) (o c : Nat) (h : o + c ≤ n) : (((List.range n).map g).drop o).take c = (List.range c).map fun i => g (o + i) := by rw [← vs_list, drop_take_vs n g o c h]
theorem LitOk.ints {d : Nat} {t : TypeId} {n : Nat} (hu : Try.prog.underlying t = some (.array n 3)) (ht : Try.prog.cellsOf t = n) (g : Nat → Int) (hg : ∀ i, i < n → In64 (g i)) : LitOk (d + 2) t ((List.range n).map fun i => .int .i64 (g i)) := by
  refine LitOk.arr (c := 1) hu (by kernel_rfl) (by rw [ht]; simp) fun i hi => ?_
  rw [dt_map n _ _ _ (by omega)]
  have := LitOk.int d (hg i hi)
  simpa using this
end Go.Proofs.Yticnponenkfneaa

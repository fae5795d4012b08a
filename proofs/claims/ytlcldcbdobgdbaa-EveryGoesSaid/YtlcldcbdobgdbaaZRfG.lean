import Derived.MapKept
import Derived.Test.YtlcldcbdobgdbaaZKt
import Derived.Test.YtlcldcbdobgdbaaZBase
import Derived.Test.YtlcldcbdobgdbaaZEqInt
import Derived.Maps.OwnSet
import Derived.Shelf.Abstract
import Derived.Test.YtlcldcbdobgdbaaZRpR
import Derived.Test.YtlcldcbdobgdbaaZKeepTw
set_option linter.all false
set_option maxRecDepth 100000
namespace Go.Proofs.Ytlcldcbdobgdbaa
open Go Go.RowKit

def TellF (es : Array MapEntry) (f : Int → Bool) : Prop := (∀ x ∈ es.toList, ∀ k, x.key = .int .i64 k → x.val = .bool (f k)) ∧ ∀ k, (∀ x ∈ es.toList, x.key ≠ .int .i64 k) → f k = false
def MapF (w : World) (B : Nat) (f : Int → Bool) : Prop := ∃ es c, w.heap[B]? = some (.map es c) ∧ MapKept.Stamped es c ∧ (∀ x ∈ es.toList, MapKept.IsKey (.int .i64) x.key) ∧ TellF es f
theorem MapF.lt {w : World} {B : Nat} {f : Int → Bool} (h : MapF w B f) : B < w.heap.size := by
  obtain ⟨es, c, h1, _⟩ := h
  exact (Array.getElem?_eq_some_iff.1 h1).1
theorem MapF.bel {w w' : World} {B : Nat} {f : Int → Bool} (h : MapF w B f) (hb : Bel w w') : MapF w' B f := by
  have hl := h.lt
  obtain ⟨es, c, h1, h2⟩ := h
  exact ⟨es, c, (hb.out.block B hl).trans h1, h2⟩
theorem MapF.new (w : World) : MapF (w.alloc (.map #[] 0)) w.heap.size (fun _ => false) :=
  ⟨#[], 0, heap_alloc_new w _, MapKept.stamped_empty 0, fun x hx => by simp at hx, fun x hx => by simp at hx, fun _ _ => rfl⟩
theorem mf_no {P : Program} {T K E : TypeId} (hT : P.underlying T = some (.map K E)) (hK : P.underlying K = some (.int .i64)) (i : TypeInfo) (v : Value) (hi : P.info? E = some i) (hz : i.zero = some v) (es : Array MapEntry) (c : Nat) (k : Int) (r : Nat) (w : World) (hw : w.heap[r]? = some (.map es c))
    (hn : Instr.findNow (.int .i64) (.int .i64 k) es.toList 0 = some none) :
    (Instr.lookup T (.map (some r)) (.int .i64 k) false).run P w = .ok v w := by
  unfold Instr.lookup
  simp [Sem.run_bind, run_underlying hT, MapKept.run_getObj_map hw, run_checkKey_int hK, Instr.findKey, run_underlying hK, hn, zeroValue, typeInfo, hi, hz]
theorem mapF_look {w : World} {B : Nat} {f : Int → Bool} (h : MapF w B f) (k : Int) : (Instr.lookup 62 (.map (some B)) (.int .i64 k) false).run Try.prog w = .ok (.bool (f k)) w := by
  obtain ⟨es, c, h1, h2, h3, h4⟩ := h
  have hi : (Try.prog.info? 4).map (fun i => i.zero) = some (some (.bool false)) := by kernel_rfl
  obtain ⟨i, hi1, hz⟩ : ∃ i, Try.prog.info? 4 = some i ∧ i.zero = some (.bool false) := by
    cases h : Try.prog.info? 4 with
    | none => rw [h] at hi; cases hi
    | some i => rw [h] at hi; simp only [Option.map_some, Option.some.injEq] at hi; exact ⟨i, rfl, hi⟩
  rcases MapKept.findNow_spec (d := .int .i64) (k := .int .i64 k) rfl es.toList 0 h3 with ⟨g1, g2⟩ | ⟨j, e, g1, g2, g3⟩
  · rw [h4.2 k g2]
    exact mf_no Try.underlying62 Try.underlying3 i _ hi1 hz es c k B w h1 g1
  · have hv := h4.1 e (List.mem_of_getElem? g2) k g3
    rw [hv] at g1
    exact look_in Try.underlying62 Try.underlying3 es c k _ B _ w h1 g1
def fset (w : World) (B : Nat) (es : Array MapEntry) (c : Nat) : World := { w with heap := w.heap.setIfInBounds B (.map es c) }
theorem fset_other (w : World) (B : Nat) (es : Array MapEntry) (c : Nat) {k : Nat} (h : k ≠ B) : (fset w B es c).heap[k]? = w.heap[k]? := by simp [fset, Ne.symm h]
theorem fset_below {N : Nat} {w w' : World} (h : Below N w w') {B : Nat} (hB : N ≤ B) (es : Array MapEntry) (c : Nat) : Below N w (fset w' B es c) :=
  h.trans ⟨rfl, rfl, rfl, by simp [fset], fun k hk => fset_other w' B es c (by omega)⟩
theorem fset_box {w : World} {B b : Nat} {es : Array MapEntry} {c : Nat} {x : Array Value} {t : TypeId} (h : Box w b x t) (hne : b ≠ B) : Box (fset w B es c) b x t := (fset_other w B es c hne).trans h
def setE (k : Int) (v : Bool) (e : MapEntry) : MapEntry := { e with key := .int .i64 k, val := .bool v }
def newE (k : Int) (v : Bool) (c : Nat) : MapEntry := ⟨.int .i64 k, .bool v, c⟩
def updM (f : Int → Bool) (k : Int) (v : Bool) : Int → Bool := fun x => if x = k then v else f x
theorem mapF_upd {w : World} {B : Nat} {f : Int → Bool} (h : MapF w B f) (k : Int) (v : Bool) :
    ∃ es c, (Instr.mapUpdate 62 (.map (some B)) (.int .i64 k) (.bool v)).run Try.prog w = .ok () (fset w B es c) ∧ MapF (fset w B es c) B (updM f k v) := by
  have hl := h.lt
  obtain ⟨es, c, h1, h2, h3, h4⟩ := h
  have hd := Try.underlying3
  have hm := Try.underlying62
  have hk : MapKept.IsKey (.int .i64) (.int .i64 k) := rfl
  rcases MapKept.findNow_spec hk es.toList 0 h3 with ⟨g1, g2⟩ | ⟨j, e, g1, g2, g3⟩
  · refine ⟨es.push (newE k v c), c + 1, ?_, es.push (newE k v c), c + 1, by simp [fset, hl], MapKept.stamped_push h2 g2, ?_, ?_, ?_⟩
    · unfold fset
      simp [Instr.mapUpdate, run_underlying hm, MapKept.run_getObj_map h1, MapKept.run_checkKey hd hk, MapKept.run_findKey hd g1, MapKept.run_setObj_map _ h1, Result.andThen, newE]
    · intro x hx
      simp only [Array.toList_push, List.mem_append, List.mem_singleton] at hx
      rcases hx with hx | rfl
      · exact h3 x hx
      · exact hk
    · intro x hx q hq
      simp only [Array.toList_push, List.mem_append, List.mem_singleton] at hx
      rcases hx with hx | rfl
      · have hne : q ≠ k := fun e => g2 x hx (by rw [hq, e])
        rw [h4.1 x hx q hq]
        unfold updM
        rw [if_neg hne]
      · have : q = k := by simpa [newE, setE, eq_comm] using hq
        unfold updM
        rw [if_pos this]
        rfl
    · intro q hq
      simp only [Array.toList_push, List.mem_append, List.mem_singleton] at hq
      have hne : q ≠ k := fun e => hq _ (.inr rfl) (by rw [e]; rfl)
      unfold updM
      rw [if_neg hne]
      exact h4.2 q fun x hx => hq x (.inl hx)
  · have hj : es[j]? = some e := by simpa using g2
    have hkey : ∀ e', es[j]? = some e' → (setE k v e').key = e'.key := fun e' he' => by rw [hj] at he'; cases he'; exact g3.symm
    have hat : ∀ x, x ∈ (es.modify j (setE k v)).toList → (x = setE k v e) ∨ (x ∈ es.toList ∧ x.key ≠ .int .i64 k) := fun x hx => by
      obtain ⟨i, hi⟩ := List.getElem?_of_mem hx
      rw [Array.getElem?_toList, Array.getElem?_modify] at hi
      by_cases hij : j = i
      · subst hij
        rw [if_pos rfl, hj] at hi
        simp only [Option.map_some, Option.some.injEq] at hi
        exact .inl hi.symm
      · rw [if_neg hij] at hi
        refine .inr ⟨Array.mem_toList_iff.2 (Array.mem_of_getElem? hi), fun hxk => hij ?_⟩
        have hn := h2.2.2
        have e1 : (es.toList.map (·.key))[j]? = some (.int .i64 k) := by rw [List.getElem?_map, Array.getElem?_toList, hj]; simp [g3]
        have e2 : (es.toList.map (·.key))[i]? = some (.int .i64 k) := by rw [List.getElem?_map, Array.getElem?_toList, hi]; simp [hxk]
        have l1 := (List.getElem?_eq_some_iff.1 e1).1
        exact (List.getElem?_inj l1 hn).1 (e1.trans e2.symm)
    refine ⟨es.modify j (setE k v), c, ?_, es.modify j (setE k v), c, by simp [fset, hl], MapKept.stamped_modify h2 _ _ (fun _ _ => rfl) (fun e' _ he' => hkey e' he'), MapKept.isKey_modify h3 _ _ hkey, ?_, ?_⟩
    · unfold fset
      simp [Instr.mapUpdate, run_underlying hm, MapKept.run_getObj_map h1, MapKept.run_checkKey hd hk, MapKept.run_findKey hd g1, hj, g3, MapKept.run_keyThatStays hk, MapKept.run_setObj_map _ h1, Result.andThen]
      rfl
    · intro x hx q hq
      rcases hat x hx with rfl | ⟨hx, hne⟩
      · have : q = k := by simpa [newE, setE, eq_comm] using hq
        unfold updM
        rw [if_pos this]
        rfl
      · have hqk : q ≠ k := fun e => hne (by rw [hq, e])
        rw [h4.1 x hx q hq]
        unfold updM
        rw [if_neg hqk]
    · intro q hq
      have hmem : setE k v e ∈ (es.modify j (setE k v)).toList := by
        refine Array.mem_toList_iff.2 (Array.mem_of_getElem? (i := j) ?_)
        rw [Array.getElem?_modify, if_pos rfl, hj]
        rfl
      have hqk : q ≠ k := fun e' => hq _ hmem (by rw [e']; rfl)
      unfold updM
      rw [if_neg hqk]
      refine h4.2 q fun x hx hxq => ?_
      obtain ⟨i, hi⟩ := List.getElem?_of_mem hx
      rw [Array.getElem?_toList] at hi
      by_cases hij : j = i
      · subst hij
        rw [hj] at hi
        cases hi
        rw [g3] at hxq
        simp only [Value.int.injEq, true_and] at hxq
        exact hqk hxq.symm
      · refine hq x (Array.mem_toList_iff.2 (Array.mem_of_getElem? (i := i) ?_)) hxq
        rw [Array.getElem?_modify, if_neg hij, hi]
section
variable {ops : Array Oper} {rest : List Oper} {o : Oper} {a : Act} {w : World} {Q : Exit → Act → World → Prop}
theorem updF_step (m k v : Operand) (ho : o.op = .mapUpdate 62 m k v) (hgd : o.guard = none) {B : Nat} {f : Int → Bool} {kk : Int} {b : Bool} (hm : a.eval m = .map (some B)) (hk : a.eval k = .int .i64 kk) (hv : a.eval v = .bool b) (hb : MapF w B f)
    (h : ∀ es c, MapF (fset w B es c) B (updM f kk b) → wpList Try.prog ops Q rest (a.put o.dst undef) (fset w B es c)) : wpList Try.prog ops Q (o :: rest) a w := by
  obtain ⟨es, c, h1, h2⟩ := mapF_upd hb kk b
  refine wpList_plain hgd fun _ hK => ?_
  unfold Oper.wp execOp
  simp [ho, hm, hk, hv, Sem.run_bind, h1]
  exact hK _ _ (h es c h2)
end
end Go.Proofs.Ytlcldcbdobgdbaa
set_option linter.all false
set_option maxRecDepth 100000
namespace Go.Proofs.Ytlcldcbdobgdbaa
open Go Go.RowKit

theorem mapF_del {w : World} {B : Nat} {f : Int → Bool} (h : MapF w B f) (k : Int) (ty : TypeId) :
    ∃ es c, (Builtin.delete_ #[62, 3] ty #[.map (some B), .int .i64 k]).run Try.prog w = .ok (.tuple #[]) (fset w B es c) ∧ MapF (fset w B es c) B (updM f k false) := by
  have hl := h.lt
  obtain ⟨es, c, h1, h2, h3, h4⟩ := h
  have hd := Try.underlying3
  have hm := Try.underlying62
  have hk : MapKept.IsKey (.int .i64) (.int .i64 k) := rfl
  rcases MapKept.findNow_spec hk es.toList 0 h3 with ⟨g1, g2⟩ | ⟨j, e, g1, g2, g3⟩
  · refine ⟨es, c, ?_, es, c, by simp [fset, hl], h2, h3, fun x hx q hq => ?_, fun q hq => ?_⟩
    · unfold fset
      simp [Builtin.delete_, run_underlying hm, MapKept.run_getObj_map h1, MapKept.run_checkKey hd hk, MapKept.run_findKey hd g1, MapKept.run_setObj_map _ h1, Result.andThen]
    · have hne : q ≠ k := fun e => g2 x hx (by rw [hq, e])
      rw [h4.1 x hx q hq]
      unfold updM
      rw [if_neg hne]
    · unfold updM
      split
      · rfl
      · exact h4.2 q hq
  · have hj : es[j]? = some e := by simpa using g2
    have hjl : j < es.size := (Array.getElem?_eq_some_iff.1 hj).1
    have hE : (es.eraseIdxIfInBounds j).toList = es.toList.eraseIdx j := by unfold Array.eraseIdxIfInBounds; rw [dif_pos hjl, Array.toList_eraseIdx]
    have hsub : ∀ x, x ∈ (es.eraseIdxIfInBounds j).toList → x ∈ es.toList := fun x hx => by rw [hE] at hx; exact (List.eraseIdx_sublist _ _).subset hx
    have hkeys : ∀ x, x ∈ (es.eraseIdxIfInBounds j).toList → x.key ≠ .int .i64 k := fun x hx hxk => by
      rw [hE, List.mem_eraseIdx_iff_getElem?] at hx
      obtain ⟨i, hij, hi⟩ := hx
      have hn := h2.2.2
      have e1 : (es.toList.map (·.key))[j]? = some (.int .i64 k) := by rw [List.getElem?_map, Array.getElem?_toList, hj]; simp [g3]
      have e2 : (es.toList.map (·.key))[i]? = some (.int .i64 k) := by rw [List.getElem?_map, hi]; simp [hxk]
      have l1 := (List.getElem?_eq_some_iff.1 e1).1
      exact hij ((List.getElem?_inj l1 hn).1 (e1.trans e2.symm)).symm
    have hrest : ∀ x, x ∈ es.toList → x.key ≠ .int .i64 k → x ∈ (es.eraseIdxIfInBounds j).toList := fun x hx hne => by
      rw [hE, List.mem_eraseIdx_iff_getElem?]
      obtain ⟨i, hi⟩ := List.getElem?_of_mem hx
      refine ⟨i, fun e' => ?_, hi⟩
      subst e'
      rw [Array.getElem?_toList, hj] at hi
      cases hi
      exact hne g3
    refine ⟨es.eraseIdxIfInBounds j, c, ?_, es.eraseIdxIfInBounds j, c, by simp [fset, hl], MapKept.stamped_erase h2 _, fun x hx => h3 x (hsub x hx), fun x hx q hq => ?_, fun q hq => ?_⟩
    · unfold fset
      simp [Builtin.delete_, run_underlying hm, MapKept.run_getObj_map h1, MapKept.run_checkKey hd hk, MapKept.run_findKey hd g1, MapKept.run_setObj_map _ h1, Result.andThen]
    · have hqk : q ≠ k := fun e' => hkeys x hx (by rw [hq, e'])
      rw [h4.1 x (hsub x hx) q hq]
      unfold updM
      rw [if_neg hqk]
    · unfold updM
      split
      · rfl
      · rename_i hqk
        refine h4.2 q fun x hx hxq => hq x (hrest x hx fun e' => hqk ?_) hxq
        rw [hxq] at e'
        simpa using e'
section
variable {ops : Array Oper} {rest : List Oper} {o : Oper} {a : Act} {w : World} {Q : Exit → Act → World → Prop}
theorem delF_step (m k : Operand) (ho : o.op = .call { callee := .builtin .delete, args := #[m, k], argTypes := #[62, 3] }) (hgd : o.guard = none) {B : Nat} {f : Int → Bool} {kk : Int} (hm : a.eval m = .map (some B)) (hk : a.eval k = .int .i64 kk) (hb : MapF w B f)
    (h : ∀ es c, MapF (fset w B es c) B (updM f kk false) → wpList Try.prog ops Q rest (a.put o.dst (.tuple #[])) (fset w B es c)) : wpList Try.prog ops Q (o :: rest) a w := by
  obtain ⟨es, c, h1, h2⟩ := mapF_del hb kk o.type
  refine wpList_plain hgd fun _ hK => ?_
  unfold Oper.wp
  simp [execOp, ho, resolve, invoke, builtin, hm, hk, h1, Result.andThen]
  exact hK _ _ (h es c h2)
end
end Go.Proofs.Ytlcldcbdobgdbaa
set_option linter.all false
set_option maxRecDepth 100000
namespace Go.Proofs.Ytlcldcbdobgdbaa
open Go Go.RowKit

end Go.Proofs.Ytlcldcbdobgdbaa
set_option linter.all false
set_option maxRecDepth 100000
namespace Go.Proofs.Ytlcldcbdobgdbaa
open Go Go.RowKit

def alA (ops : List Ev) (a b : Nat) (i : Nat) : Bool := match ops[i]? with | none => false | some o => decide (o.k = 4) && (decide (o.t = (b : Int)) && (hldL (ops.take i) a && !hldL (ops.take i) b))
theorem alB_any (ops : List Ev) (a b : Nat) : alB ops a b = (List.range ops.length).any (alA ops a b) := rfl
theorem alA_at {ops : List Ev} {i : Nat} {o : Ev} (h : ops[i]? = some o) (a b : Nat) : alA ops a b i = (decide (o.k = 4) && (decide (o.t = (b : Int)) && (hldL (ops.take i) a && !hldL (ops.take i) b))) := by unfold alA; rw [h]
theorem hld_next {l : List Ev} {j : Nat} {f : Ev} (h : l[j]? = some f) (x : Int) : hldL (l.take (j + 1)) x = if (f.k = 4 ∨ f.k = 5) ∧ f.t = x then decide (f.k = 4) else hldL (l.take j) x := by
  rw [take_snoc h, hldL_snoc]
  show (if (f.k = 4 ∨ f.k = 5) ∧ x = f.t then _ else _) = _
  simp only [eq_comm (a := x)]
end Go.Proofs.Ytlcldcbdobgdbaa
set_option linter.all false
set_option maxRecDepth 100000
namespace Go.Proofs.Ytlcldcbdobgdbaa
open Go Go.RowKit

def evA (l : List Ev) (i : Nat) : Ev := (l[i]?).getD ⟨0, 0, 0⟩
theorem evA_at {l : List Ev} {i : Nat} {e : Ev} (h : l[i]? = some e) : evA l i = e := by simp [evA, h]
def edgeAt (l : List Ev) (a b : Int) (i : Nat) : Bool := (evA l i).k == 3 && (evA l i).o == b && owner (l.take i) a == (evA l i).t
def edge (l : List Ev) (a b : Int) : Bool := (List.range l.length).any (edgeAt l a b)
end Go.Proofs.Ytlcldcbdobgdbaa

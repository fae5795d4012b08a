/- A small map from ints, as it is made and looked into. | Going through a map that the loop does not write. -/
import Derived.Test.YteihildhlcggoaaBase
import Derived.WalkKit
import Derived.WalkSpells
import Derived.Maps.RangeRun
import Derived.Maps.Range
import Derived.Maps.RangeWalk
set_option linter.all false
set_option maxRecDepth 100000
namespace Go.Proofs.Yteihildhlcggoaa
open Go Go.RowKit
theorem Box.oldm {w : World} {B : Nat} {c : Array Value} {t : TypeId} (h : Box w B c t) (o : Obj) : Box (w.alloc o) B c t := h.old o
section
variable {P : Program} {T K E : TypeId}
theorem heap_last (w : World) (o : Obj) : (w.alloc o).heap[w.heap.size]? = some o := heap_alloc_new w o
theorem set_last (w : World) (o o' : Obj) : ({ w.alloc o with heap := (w.alloc o).heap.setIfInBounds w.heap.size o' } : World) = w.alloc o' := by
  show ({ w with heap := (w.heap.push o).setIfInBounds w.heap.size o' } : World) = { w with heap := w.heap.push o' }
  congr 1
  apply Array.ext_getElem?
  intro i
  rw [Array.getElem?_setIfInBounds, Array.getElem?_push, Array.getElem?_push, Array.size_push]
  by_cases h : w.heap.size = i
  · subst h; simp
  · have h' : ¬ i = w.heap.size := fun e => h e.symm
    simp [h, h']
theorem run_checkKey_int (hK : P.underlying K = some (.int .i64)) (b : Bool) (k : Int) (w : World) : (Instr.checkKey b 10000 K (.int .i64 k)).run P w = .ok () w := by
  show (Instr.checkKey b (9999 + 1) K (.int .i64 k)).run P w = .ok () w
  unfold Instr.checkKey
  simp [Sem.run_bind, run_underlying hK]
theorem upd_new (hT : P.underlying T = some (.map K E)) (hK : P.underlying K = some (.int .i64)) (es : Array MapEntry) (c : Nat) (k : Int) (v : Value) (w : World)
    (hn : Instr.findNow (.int .i64) (.int .i64 k) es.toList 0 = some none) :
    (Instr.mapUpdate T (.map (some w.heap.size)) (.int .i64 k) v).run P (w.alloc (.map es c)) = .ok () (w.alloc (.map (es.push ⟨.int .i64 k, v, c⟩) (c + 1))) := by
  have hb : (w.alloc (.map es c)).heap[w.heap.size]? = some (.map es c) := heap_alloc_new w _
  unfold Instr.mapUpdate
  simp only [Sem.run_bind, run_underlying hT, MapKept.run_getObj_map hb, Result.andThen_ok, run_checkKey_int hK, Instr.findKey, run_underlying hK, hn, Sem.run_pure, MapKept.run_setObj_map _ hb]
  exact congrArg _ (set_last w _ _)
theorem look_in (hT : P.underlying T = some (.map K E)) (hK : P.underlying K = some (.int .i64)) (es : Array MapEntry) (c : Nat) (k : Int) (v : Value) (r i : Nat) (w : World) (hw : w.heap[r]? = some (.map es c))
    (hn : Instr.findNow (.int .i64) (.int .i64 k) es.toList 0 = some (some (i, v))) :
    (Instr.lookup T (.map (some r)) (.int .i64 k) false).run P w = .ok v w := by
  unfold Instr.lookup
  simp [Sem.run_bind, run_underlying hT, MapKept.run_getObj_map hw, run_checkKey_int hK, Instr.findKey, run_underlying hK, hn]
end
end Go.Proofs.Yteihildhlcggoaa
namespace Go.Proofs.Yteihildhlcggoaa
open Go Go.RowKit

section
variable {P : Program} {ops : Array Oper} {rest : List Oper} {o : Oper} {a : Act} {w : World} {Q : Exit → Act → World → Prop}
theorem rangeNew {T K E : TypeId} (hT : P.underlying T = some (.map K E)) (m : Operand) (ho : o.op = .range T m) (hgd : o.guard = none) {es : Array MapEntry} {c b : Nat} (hm : a.eval m = .map (some b)) (hb : w.heap[b]? = some (.map es c))
    (h : wpList P ops Q rest (a.put o.dst (.pointer (some ⟨w.heap.size, 0, none⟩))) (w.alloc (.mapIter (some b) c #[] c))) : wpList P ops Q (o :: rest) a w := by
  refine wpList_plain hgd fun _ hK' => ?_
  unfold Oper.wp execOp
  simp only [ho, hm, Sem.run_bind, run_range_map w T K E b es c hT hb, Result.andThen_ok, Sem.run_pure]
  exact hK' _ _ h
def AllSeen (es : Array MapEntry) (seen : Array Nat) : Prop := ∀ x ∈ es.toList, seen.contains x.born = true
def InM (es : Array MapEntry) (e : MapEntry) : Prop := e ∈ es.toList
/-- An iterator over a map that the loop does not write. -/
structure Itr (w : World) (r b : Nat) (es : Array MapEntry) (c : Nat) (seen : Array Nat) : Prop where
  it : w.heap[r]? = some (.mapIter (some b) c seen c)
  mp : w.heap[b]? = some (.map es c)
theorem nextMap (it : Operand) (ho : o.op = .next it false) (hgd : o.guard = none) {r b c : Nat} {es : Array MapEntry} {seen : Array Nat} (hit : a.eval it = .pointer (some ⟨r, 0, none⟩)) (hI : Itr w r b es c seen) (hold : ∀ x ∈ es.toList, x.born < c)
    (hDone : AllSeen es seen → wpList P ops Q rest (a.put o.dst (.tuple #[.bool false])) w)
    (hMore : ∀ e kv vv w', InM es e → e.key = kv → e.val = vv → Itr w' r b es c (seen.push e.born) → w.grownBy w' (some r) → (leftOf es (seen.push e.born)).size < (leftOf es seen).size → wpList P ops Q rest (a.put o.dst (.tuple #[.bool true, kv, vv])) w') : wpList P ops Q (o :: rest) a w := by
  refine wpList_plain hgd fun _ hK' => ?_
  unfold Oper.wp execOp
  have hne : b ≠ r := fun e => by have h1 := hI.it; rw [← e, hI.mp] at h1; cases h1
  rcases run_next_at (P := P) w o.type r b c c seen es c hI.it hI.mp hold (Nat.le_refl _) with ⟨h0, hrun⟩ | ⟨e, he, w1, hal, hrun⟩
  · simp only [ho, hit, Sem.run_bind, hrun, Result.andThen_ok, Sem.run_pure]
    exact hK' _ _ (hDone (all_seen es seen h0))
  · obtain ⟨hem, hes⟩ := mem_left he
    have hr1 : w1.heap[r]? = some (.mapIter (some b) c seen c) := by rcases hal with rfl | rfl <;> exact hI.it
    have hb1 : w1.heap[b]? = some (.map es c) := by rcases hal with rfl | rfl <;> exact hI.mp
    have hset := MapKept.heap_set (o' := .mapIter (some b) c (seen.push e.born) c) hr1
    simp only [ho, hit, Sem.run_bind, hrun, Result.andThen_ok, Sem.run_pure]
    refine hK' _ _ (hMore e _ _ _ hem rfl rfl ⟨hset.1, (hset.2 b hne).trans hb1⟩ ?_ (left_shrinks es seen e he))
    rcases hal with rfl | rfl <;> exact ⟨rfl, rfl, rfl, by simp [ChangeMaps.setBlock], fun i _ hi => hset.2 i (fun e1 => hi (by rw [e1]))⟩
theorem entryMap (it : Operand) (ho : o.op = .entry it) (hgd : o.guard = none) {r b c : Nat} {es : Array MapEntry} {seen : Array Nat} {e : MapEntry} (hit : a.eval it = .pointer (some ⟨r, 0, none⟩)) (hI : Itr w r b es c (seen.push e.born)) (he : e ∈ es.toList) (hn : (es.toList.map (·.born)).Nodup) {kv vv : Value} (hkv : e.key = kv) (hvv : e.val = vv)
    (h : wpList P ops Q rest (a.put o.dst (.tuple #[kv, vv])) w) : wpList P ops Q (o :: rest) a w := by
  refine wpList_plain hgd fun _ hK' => ?_
  unfold Oper.wp execOp
  subst hkv hvv
  simp only [ho, hit, Sem.run_bind, run_entry_at (P := P) w r b c seen es c e hI.it hI.mp he hn, Result.andThen_ok, Sem.run_pure]
  exact hK' _ _ h
end
theorem Itr.grown {w w' : World} {r b : Nat} {es : Array MapEntry} {c : Nat} {seen : Array Nat} (h : Itr w r b es c seen) (hb : Bel w w') : Itr w' r b es c seen := by
  have l1 : r < w.heap.size := (Array.getElem?_eq_some_iff.1 h.it).1
  have l2 : b < w.heap.size := (Array.getElem?_eq_some_iff.1 h.mp).1
  exact ⟨(hb.out.block r l1).trans h.it, (hb.out.block b l2).trans h.mp⟩
theorem Itr.left {w : World} {r b : Nat} {es : Array MapEntry} {c : Nat} {seen : Array Nat} (h : Itr w r b es c seen) : w.rangeLeft b r = (leftOf es seen).size := by simp only [World.rangeLeft, h.it, h.mp]
end Go.Proofs.Yteihildhlcggoaa

import Derived.Test.YtecdilijcjgjmaaZRpG
import Derived.Test.YtecdilijcjgjmaaZPg
import Derived.Test.YtecdilijcjgjmaaZCp
import Derived.Test.YtecdilijcjgjmaaZMapInt
import Derived.Test.YtecdilijcjgjmaaZGt
import Derived.Test.YtecdilijcjgjmaaZCi
import Derived.Deep.DeepCutAuto
import Derived.Deep.CutBlock
import Derived.Test.YtecdilijcjgjmaaZPp
import Derived.Test.YtecdilijcjgjmaaZRefTr
import Derived.Test.YtecdilijcjgjmaaZAppend
import Derived.Test.YtecdilijcjgjmaaZMid
set_option linter.all false
set_option maxRecDepth 100000
namespace Go.Proofs.Ytecdilijcjgjmaa
open Go Go.RowKit

section
variable {P : Program} {T K E : TypeId}
theorem look_no (hT : P.underlying T = some (.map K E)) (hK : P.underlying K = some (.int .i64)) (i : TypeInfo) (v : Value) (hi : P.info? E = some i) (hz : i.zero = some v) (es : Array MapEntry) (c : Nat) (k : Int) (r : Nat) (w : World) (hw : w.heap[r]? = some (.map es c))
    (hn : Instr.findNow (.int .i64) (.int .i64 k) es.toList 0 = some none) :
    (Instr.lookup T (.map (some r)) (.int .i64 k) false).run P w = .ok v w := by
  unfold Instr.lookup
  simp [Sem.run_bind, run_underlying hT, MapKept.run_getObj_map hw, run_checkKey_int hK, Instr.findKey, run_underlying hK, hn, zeroValue, typeInfo, hi, hz]
end
def kEs : Array MapEntry := #[⟨.int .i64 1, .int .i64 1, 0⟩, ⟨.int .i64 2, .int .i64 2, 1⟩, ⟨.int .i64 4, .int .i64 3, 2⟩, ⟨.int .i64 5, .int .i64 4, 3⟩, ⟨.int .i64 6, .int .i64 5, 4⟩, ⟨.int .i64 7, .int .i64 6, 5⟩, ⟨.int .i64 8, .int .i64 7, 6⟩, ⟨.int .i64 9, .int .i64 8, 7⟩]
def kEt (i : Nat) : Array MapEntry := kEs.extract 0 i
def KUp (w : World) (i : Nat) (k v : Int) : Prop :=
  (Instr.mapUpdate 53 (.map (some w.heap.size)) (.int .i64 k) (.int .i64 v)).run Try.prog (w.alloc (.map (kEt i) i)) = .ok () (w.alloc (.map (kEt (i + 1)) (i + 1)))
theorem kup (w : World) : KUp w 0 1 1 ∧ KUp w 1 2 2 ∧ KUp w 2 4 3 ∧ KUp w 3 5 4 ∧ KUp w 4 6 5 ∧ KUp w 5 7 6 ∧ KUp w 6 8 7 ∧ KUp w 7 9 8 :=
  ⟨upd_new Try.underlying53 Try.underlying3 _ _ _ _ _ rfl, upd_new Try.underlying53 Try.underlying3 _ _ _ _ _ rfl, upd_new Try.underlying53 Try.underlying3 _ _ _ _ _ rfl,
   upd_new Try.underlying53 Try.underlying3 _ _ _ _ _ rfl, upd_new Try.underlying53 Try.underlying3 _ _ _ _ _ rfl, upd_new Try.underlying53 Try.underlying3 _ _ _ _ _ rfl,
   upd_new Try.underlying53 Try.underlying3 _ _ _ _ _ rfl, upd_new Try.underlying53 Try.underlying3 _ _ _ _ _ rfl⟩
theorem klook (w : World) (r : Nat) (hw : w.heap[r]? = some (.map (kEt 8) 8)) {k : Int} (h1 : 1 ≤ k) (h9 : k ≤ 9) : (Instr.lookup 53 (.map (some r)) (.int .i64 k) false).run Try.prog w = .ok (.int .i64 (kOf k)) w := by
  have hc : k = 1 ∨ k = 2 ∨ k = 3 ∨ k = 4 ∨ k = 5 ∨ k = 6 ∨ k = 7 ∨ k = 8 ∨ k = 9 := by omega
  have hi : (Try.prog.info? 3).map (fun i => i.zero) = some (some (.int .i64 0)) := by kernel_rfl
  obtain ⟨i, hi1, hz⟩ : ∃ i, Try.prog.info? 3 = some i ∧ i.zero = some (.int .i64 0) := by
    cases h : Try.prog.info? 3 with
    | none => rw [h] at hi; cases hi
    | some i => rw [h] at hi; simp only [Option.map_some, Option.some.injEq] at hi; exact ⟨i, rfl, hi⟩
  rcases hc with rfl | rfl | rfl | rfl | rfl | rfl | rfl | rfl | rfl
  · exact look_in Try.underlying53 Try.underlying3 _ _ _ _ r 0 w hw rfl
  · exact look_in Try.underlying53 Try.underlying3 _ _ _ _ r 1 w hw rfl
  · exact look_no Try.underlying53 Try.underlying3 i _ hi1 hz _ _ _ r w hw rfl
  · exact look_in Try.underlying53 Try.underlying3 _ _ _ _ r 2 w hw rfl
  · exact look_in Try.underlying53 Try.underlying3 _ _ _ _ r 3 w hw rfl
  · exact look_in Try.underlying53 Try.underlying3 _ _ _ _ r 4 w hw rfl
  · exact look_in Try.underlying53 Try.underlying3 _ _ _ _ r 5 w hw rfl
  · exact look_in Try.underlying53 Try.underlying3 _ _ _ _ r 6 w hw rfl
  · exact look_in Try.underlying53 Try.underlying3 _ _ _ _ r 7 w hw rfl
variable {w w' : World} {A : Option Addr} {n c : Nat} {s : Ps} {LV QV : Value} {d k : Bool}
theorem memO_at {s : Ps} {t : Nat} {o : Ev} (h : o.k = 2) : memO s t o = updI s.mem o.t (s.has t) := if_pos h
theorem memO_no {s : Ps} {t : Nat} {o : Ev} (h : o.k ≠ 2) : memO s t o = s.mem := if_neg h
theorem volO_at {s : Ps} {t : Nat} {o : Ev} (h : o.k = 9) : volO s t o = updI s.vol o.t (s.has t) := if_pos h
theorem volO_no {s : Ps} {t : Nat} {o : Ev} (h : o.k ≠ 9) : volO s t o = s.vol := if_neg h
theorem hasO_1 {s : Ps} {t : Nat} {o : Ev} (h : o.k = 1) : hasO s t o = upF s.has t (s.mem o.t) := if_pos h
theorem hasO_3 {s : Ps} {t : Nat} {o : Ev} (h : o.k = 3) : hasO s t o = upF s.has t (s.has t + o.o) := by unfold hasO; rw [if_neg (by omega), if_pos h]
theorem hasO_8 {s : Ps} {t : Nat} {o : Ev} (h : o.k = 8) : hasO s t o = upF s.has t (s.vol o.t) := by unfold hasO; rw [if_neg (by omega), if_neg (by omega), if_pos h]
theorem hasO_no {s : Ps} {t : Nat} {o : Ev} (h1 : o.k ≠ 1) (h3 : o.k ≠ 3) (h8 : o.k ≠ 8) : hasO s t o = s.has := by unfold hasO; rw [if_neg h1, if_neg h3, if_neg h8]
theorem kind_of {P : List (List Ev)} {s : Ps} {t : Nat} {o : Ev} (h5 : o.k ≠ 5) (h6 : o.k ≠ 6) : kindO P s t o = kOf o.k := by unfold kindO kOf; rw [if_neg h5, if_neg h6, if_neg h5, if_neg h6]
theorem own_one {w : World} {base n size : Nat} {e : TypeId} {v : Value} {xs : List Value} (h : w.ownsRow base e size v n xs) : v.oneCell' = true := by
  rcases h.2 with ⟨rfl, _⟩ | ⟨g, cap, cur, rfl, _⟩ <;> rfl
end Go.Proofs.Ytecdilijcjgjmaa
namespace Go.Proofs.Ytecdilijcjgjmaa
open Go Go.RowKit

theorem pck_large {P : List (List Ev)} (h : ¬ (1 ≤ P.length ∧ P.length ≤ 6)) : chkP P = 2 := by unfold chkP; rw [if_neg]; exact fun g => h ⟨g.1, g.2.1⟩
theorem pck_long {P : List (List Ev)} {t : Nat} (ht : t < P.length) (h : 12 < (opsP P t).length) : chkP P = 2 := by
  unfold chkP
  rw [if_neg]
  exact fun g => by have := g.2.2 _ (opsP_mem ht); omega
def ShortTo (P : List (List Ev)) (i : Nat) : Prop := ∀ t, t < i → (opsP P t).length ≤ 12
theorem ShortTo.all {P : List (List Ev)} (h : ShortTo P P.length) : ∀ ops ∈ P, ops.length ≤ 12 := fun ops ho => by obtain ⟨t, ht, rfl⟩ := mem_opsP ho; exact h t ht
theorem ShortTo.succ {P : List (List Ev)} {i : Nat} (h : ShortTo P i) (hi : (opsP P i).length ≤ 12) : ShortTo P (i + 1) := fun t ht => by
  rcases Nat.lt_succ_iff_lt_or_eq.1 ht with h' | rfl
  · exact h t h'
  · exact hi
structure Long (P : List (List Ev)) : Prop where
  one : 1 ≤ P.length
  six : P.length ≤ 6
  len : ShortTo P P.length
theorem pck_bad {P : List (List Ev)} (h : Long P) {t : Nat} {o : Ev} (ht : t < P.length) (ho : o ∈ opsP P t) (hb : isOp o = false) : chkP P = 1 := by
  unfold chkP
  rw [if_pos ⟨h.one, h.six, h.len.all⟩, if_neg]
  exact fun g => by rw [g _ (opsP_mem ht) o ho] at hb; cases hb
def GoodTo (P : List (List Ev)) (i : Nat) : Prop := ∀ t, t < i → ∀ o ∈ opsP P t, isOp o = true
theorem pck_good {P : List (List Ev)} (h : Long P) (hg : GoodTo P P.length) : chkP P = 0 := by
  unfold chkP
  rw [if_pos ⟨h.one, h.six, h.len.all⟩, if_pos fun ops ho o hm => by obtain ⟨t, ht, rfl⟩ := mem_opsP ho; exact hg t ht o hm]
def GoodIn (l : List Ev) (j : Nat) : Prop := ∀ o ∈ l.take j, isOp o = true
theorem GoodIn.succ {l : List Ev} {j : Nat} {o : Ev} (h : GoodIn l j) (ho : l[j]? = some o) (hi : isOp o = true) : GoodIn l (j + 1) := fun x hx => by
  rw [take_snoc ho] at hx
  rcases List.mem_append.1 hx with hx | hx
  · exact h x hx
  · simp at hx; subst hx; exact hi
theorem TOp : RowTy Try.prog 55 3 := ⟨_, Try.underlying55, rfl, by kernel_rfl⟩
end Go.Proofs.Ytecdilijcjgjmaa
namespace Go.Proofs.Ytecdilijcjgjmaa
open Go Go.RowKit

theorem take_one {ts : List Int} {i : Nat} (h : i < ts.length) : ts.take (i + 1) = ts.take i ++ [ts[i]?.getD 0] := by
  rw [List.take_succ_eq_append_getElem h, List.getElem?_eq_getElem h]
  rfl
theorem z20_all : z20.all (·.oneCell') = true := by simp [z20, Value.oneCell']
end Go.Proofs.Ytecdilijcjgjmaa

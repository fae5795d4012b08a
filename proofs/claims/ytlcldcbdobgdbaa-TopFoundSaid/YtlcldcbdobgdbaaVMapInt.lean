import Derived.Deep.DeepCutAuto
import Derived.Test.YtlcldcbdobgdbaaVOpen
import Derived.Test.YtlcldcbdobgdbaaVAppend
import Derived.Test.YtlcldcbdobgdbaaVVs
import Derived.Test.YtlcldcbdobgdbaaShelf
import Derived.Test.YtlcldcbdobgdbaaVGrow
import Derived.WalkKit
import Derived.WalkSpells
import Derived.Maps.RangeRun
import Derived.Maps.Range
import Derived.Maps.RangeWalk
import Derived.Test.YtlcldcbdobgdbaaVBase
set_option linter.all false
set_option maxRecDepth 100000
namespace Go.Proofs.Ytlcldcbdobgdbaa
open Go Go.RowKit

def endF (m v h : Nat → Int) (d k : Bool) (i : Nat) : Value := if i < 8 then .int .i64 (m i) else if i < 12 then .int .i64 (v (i - 8)) else if i < 18 then .int .i64 (h (i - 12)) else if i = 18 then .bool d else .bool k
theorem TEnd : RowTy Try.prog 33 20 := ⟨_, Try.underlying33, rfl, by kernel_rfl⟩
theorem TOp' : RowTy Try.prog 59 3 := ⟨_, Try.underlying59, rfl, by kernel_rfl⟩
variable {w w' : World} {B : Nat} {A : Option Addr} {n c : Nat} {s : Ps} {LV QV : Value} {d k : Bool}
theorem upF_off {β : Type} (f : Nat → β) {k j : Nat} (x : β) (h : j ≠ k) : upF f k x j = f j := upF_ne f x h
theorem endF_has {m v h : Nat → Int} {t : Nat} {x : Int} (ht : t < 6) (j : Nat) : (if j = 12 + t then Value.int .i64 x else endF m v h d k j) = endF m v (upF h t x) d k j := by
  unfold endF
  by_cases h0 : j = 12 + t
  · rw [if_pos h0, if_neg (by omega), if_neg (by omega), if_pos (by omega), show j - 12 = t by omega]; simp [upF]
  · rw [if_neg h0]
    by_cases h1 : j < 8
    · rw [if_pos h1, if_pos h1]
    · rw [if_neg h1, if_neg h1]
      by_cases h2 : j < 12
      · rw [if_pos h2, if_pos h2]
      · rw [if_neg h2, if_neg h2]
        by_cases h3 : j < 18
        · rw [if_pos h3, if_pos h3, upF_off _ _ (by omega)]
        · rw [if_neg h3, if_neg h3]
theorem endF_mem {m v h : Nat → Int} {t : Nat} {x : Int} (ht : t < 8) (j : Nat) : (if j = t then Value.int .i64 x else endF m v h d k j) = endF (upF m t x) v h d k j := by
  unfold endF
  by_cases h0 : j = t
  · rw [if_pos h0, if_pos (by omega), h0]; simp [upF]
  · rw [if_neg h0]
    by_cases h1 : j < 8
    · rw [if_pos h1, if_pos h1, upF_off _ _ h0]
    · rw [if_neg h1, if_neg h1]
theorem endF_vol {m v h : Nat → Int} {t : Nat} {x : Int} (ht : t < 4) (j : Nat) : (if j = 8 + t then Value.int .i64 x else endF m v h d k j) = endF m (upF v t x) h d k j := by
  unfold endF
  by_cases h0 : j = 8 + t
  · rw [if_pos h0, if_neg (by omega), if_pos (by omega), show j - 8 = t by omega]; simp [upF]
  · rw [if_neg h0]
    by_cases h1 : j < 8
    · rw [if_pos h1, if_pos h1]
    · rw [if_neg h1, if_neg h1]
      by_cases h2 : j < 12
      · rw [if_pos h2, if_pos h2, upF_off _ _ (by omega)]
      · rw [if_neg h2, if_neg h2]
theorem nat_upd (f : Int → Int) (t : Nat) (x : Int) : nat (updI f t x) = upF (nat f) t x := by
  funext j
  unfold nat updI upF
  by_cases h : j = t
  · subst h; simp
  · rw [if_neg h, if_neg (by omega)]
structure LVal (w : World) (LV : Value) (l : List Ev) : Prop where
  ex : ∃ B m e, LV = .slice B m e ∧ Sl w B m l ∧ m ≤ e ∧ e ≤ maxLen
theorem can_late {P : List (List Ev)} {t : Nat} (h : begun s.L t = false) : canP P s t = false := by unfold canP; rw [h, Bool.false_and, Bool.and_false]
theorem can_over {P : List (List Ev)} {t : Nat} (h : (opsP P t)[s.a t]? = none) : canP P s t = false := by unfold canP; rw [h, Bool.and_false, Bool.and_false]
theorem can_at {P : List (List Ev)} {t : Nat} {o : Ev} (ht : t < P.length) (hb : begun s.L t = true) (h : (opsP P t)[s.a t]? = some o) : canP P s t = canO P s t o := by unfold canP; rw [h, hb, decide_eq_true ht, Bool.true_and, Bool.true_and]
end Go.Proofs.Ytlcldcbdobgdbaa
namespace Go.Proofs.Ytlcldcbdobgdbaa
open Go Go.RowKit

variable {w w' : World} {A : Option Addr} {n c : Nat} {s : Ps} {LV QV : Value} {d k : Bool}
end Go.Proofs.Ytlcldcbdobgdbaa
namespace Go.Proofs.Ytlcldcbdobgdbaa
open Go Go.RowKit

variable {w w' : World} {A : Option Addr} {n c : Nat} {s : Ps} {LV QV : Value} {d k : Bool}
def leftTo (P : List (List Ev)) (s : Ps) (i : Nat) : Bool := (List.range i).any fun t => begun s.L (t : Nat) && !decide (s.a t = (opsP P t).length)
def goesTo (P : List (List Ev)) (s : Ps) (i : Nat) : Bool := (List.range i).any fun t => canP P s t
theorem leftTo_succ (P : List (List Ev)) (s : Ps) (i : Nat) : leftTo P s (i + 1) = (leftTo P s i || (begun s.L (i : Nat) && !decide (s.a i = (opsP P i).length))) := by unfold leftTo; rw [List.range_succ, List.any_append]; simp
theorem goesTo_succ (P : List (List Ev)) (s : Ps) (i : Nat) : goesTo P s (i + 1) = (goesTo P s i || canP P s i) := by unfold goesTo; rw [List.range_succ, List.any_append]; simp
theorem done_left (P : List (List Ev)) (s : Ps) : doneP P s = !leftTo P s P.length := by
  unfold doneP leftTo
  rw [Bool.eq_iff_iff, Bool.not_eq_true', List.all_eq_true, List.any_eq_false]
  constructor
  · intro h t ht
    have := h t ht
    revert this
    cases begun s.L (t : Nat) <;> simp
  · intro h t ht
    have := h t ht
    revert this
    cases begun s.L (t : Nat) <;> simp
theorem stuck_left (P : List (List Ev)) (s : Ps) : stuckP P s = (leftTo P s P.length && !goesTo P s P.length) := by
  unfold stuckP
  rw [done_left, Bool.not_not]
  rfl
theorem end_vs (m v h : Nat → Int) (d k : Bool) : vs 20 (endF m v h d k) = (endc m v h d k).toArray := by kernel_rfl
theorem TEv (g : Nat → Value) : RowTy Try.prog 33 (vs 20 g).size := by rw [vs_size]; exact TEnd
theorem endF_one {m v h : Nat → Int} {d k : Bool} (i : Nat) : (endF m v h d k i).oneCell' = true := by
  unfold endF
  repeat' split
  all_goals rfl
def z20 : Array Value := #[.int .i64 0, .int .i64 0, .int .i64 0, .int .i64 0, .int .i64 0, .int .i64 0, .int .i64 0, .int .i64 0, .int .i64 0, .int .i64 0, .int .i64 0, .int .i64 0, .int .i64 0, .int .i64 0, .int .i64 0, .int .i64 0, .int .i64 0, .int .i64 0, .bool false, .bool false]
theorem load_row {P : Program} {ops : Array Oper} {rest : List Oper} {o : Oper} {a : Act} {w : World} {Q : Exit → Act → World → Prop} {ty : TypeId} {l : List Value} (hT : RowTy P ty l.length) (x : Operand) (ho : o.op = .load ty x) (hgd : o.guard = none) {b off : Nat}
    (hx : a.eval x = .pointer (some ⟨b, off, none⟩)) (hr : w.rangeAt b off l) (h : wpList P ops Q rest (a.put o.dst (.agg l.toArray)) w) : wpList P ops Q (o :: rest) a w := by
  obtain ⟨d, hu, hd, hi⟩ := hT
  exact wpList_load_mid hgd ty x ho b off hx l d hr hu hd hi h
theorem end_two {m v h : Nat → Int} {d k x y : Bool} (j : Nat) (_ : j < 20) : updC (updC (endF m v h d k) 18 (.bool x)) 19 (.bool y) j = endF m v h x y j := by
  unfold updC
  by_cases h9 : j = 19
  · subst h9; rfl
  · rw [if_neg h9]
    by_cases h8 : j = 18
    · subst h8; rfl
    · rw [if_neg h8]
      unfold endF
      by_cases h1 : j < 8
      · rw [if_pos h1, if_pos h1]
      · rw [if_neg h1, if_neg h1]
        by_cases h2 : j < 12
        · rw [if_pos h2, if_pos h2]
        · rw [if_neg h2, if_neg h2, if_pos (by omega), if_pos (by omega)]
end Go.Proofs.Ytlcldcbdobgdbaa
set_option linter.all false
set_option maxRecDepth 100000
namespace Go.Proofs.Ytlcldcbdobgdbaa
open Go Go.RowKit

def nb (b : Bool) : Int := if b = true then 1 else 0
end Go.Proofs.Ytlcldcbdobgdbaa
set_option linter.all false
set_option maxRecDepth 100000
namespace Go.Proofs.Ytlcldcbdobgdbaa
open Go Go.RowKit
section
variable {P : Program} {T K E : TypeId}
theorem run_checkKey_int (hK : P.underlying K = some (.int .i64)) (b : Bool) (k : Int) (w : World) : (Instr.checkKey b 10000 K (.int .i64 k)).run P w = .ok () w := by
  show (Instr.checkKey b (9999 + 1) K (.int .i64 k)).run P w = .ok () w
  unfold Instr.checkKey
  simp [Sem.run_bind, run_underlying hK]
end
end Go.Proofs.Ytlcldcbdobgdbaa
namespace Go.Proofs.Ytlcldcbdobgdbaa
open Go Go.RowKit

section
variable {P : Program} {ops : Array Oper} {rest : List Oper} {o : Oper} {a : Act} {w : World} {Q : Exit → Act → World → Prop}
end
end Go.Proofs.Ytlcldcbdobgdbaa

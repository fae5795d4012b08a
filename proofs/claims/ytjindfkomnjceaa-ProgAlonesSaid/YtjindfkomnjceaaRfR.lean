/- Contract of the reference's Ring. -/
import Derived.Test.YtjindfkomnjceaaRwl
import Derived.Test.YtjindfkomnjceaaPi
import Derived.Test.YtjindfkomnjceaaRefTr
set_option linter.all false
set_option maxRecDepth 100000
namespace Go.Proofs.Ytjindfkomnjceaa
open Go Go.RowKit

def qbad (x : Int × Int) : Bool := outs x.1 0 4 || outs x.2 0 4
def Pq (l : List (Int × Int)) (a b : Nat) : Bool := decide ((((a : Nat) : Int), ((b : Nat) : Int)) ∈ l)
/-- A row of locks is a ring. -/
def at0 (r : List Nat) (i : Nat) : Nat := r[i]?.getD 0
def isR (P : Nat → Nat → Bool) (r : List Nat) (k : Nat) : Bool := (List.range k).all fun i => P (at0 r i) (at0 r ((i + 1) % r.length))
theorem toI_at (r : List Nat) (k : Nat) : (toI r)[k]?.getD 0 = ((at0 r k : Nat) : Int) := by
  unfold toI at0; rw [List.getElem?_map]; cases r[k]? <;> rfl
theorem isR_zero (P : Nat → Nat → Bool) (r : List Nat) : isR P r 0 = true := rfl
theorem isR_succ (P : Nat → Nat → Bool) (r : List Nat) (k : Nat) : isR P r (k + 1) = (isR P r k && P (at0 r k) (at0 r ((k + 1) % r.length))) := by
  unfold isR; rw [List.range_succ, List.all_append]; simp
def noR (P : Nat → Nat → Bool) (m : Nat) : Prop := ∀ j, 1 ≤ j → j < m → ∀ r ∈ rowsL j, isR P r j = false
def RingR (P : Nat → Nat → Bool) (r : List Nat) : Prop :=
  (r = [] ∧ noR P 6) ∨ ∃ m i, 1 ≤ m ∧ m ≤ 5 ∧ (rowsL m)[i]? = some r ∧ isR P r m = true ∧ noR P m ∧ ∀ s ∈ (rowsL m).take i, isR P s m = false
def RingA (l : List (Int × Int)) (r : List Nat) (c : Int) : Prop :=
  (l.any qbad = true ∧ r = [] ∧ c = 1) ∨ (l.any qbad = false ∧ c = 0 ∧ RingR (Pq l) r)
def RfRPost (w : World) (l : List (Int × Int)) (e : Ending) (w' : World) : Prop :=
  ∃ v r c, e = .returned (.tuple #[v, .int .i64 c]) ∧ RingA l r c ∧ w'.ownsRow w.heap.size 3 1 v r.length (intq (toI r)) ∧ Below w.heap.size w w'
end Go.Proofs.Ytjindfkomnjceaa

/- Contract of the reference's LockGraph. -/
import Derived.Test.YtjindfkomnjceaaRefTr
import Derived.Test.YtjindfkomnjceaaRefPs
import Derived.Shelf.Abstract
set_option linter.all false
set_option maxRecDepth 100000
namespace Go.Proofs.Ytjindfkomnjceaa
open Go Go.RowKit

def evA (l : List Ev) (i : Nat) : Ev := (l[i]?).getD ⟨0, 0, 0⟩
theorem evA_at {l : List Ev} {i : Nat} {e : Ev} (h : l[i]? = some e) : evA l i = e := by simp [evA, h]
/-- Event i acquires b, by the owner of a. -/
def edgeAt (l : List Ev) (a b : Int) (i : Nat) : Bool := (evA l i).k == 3 && (evA l i).o == b && owner (l.take i) a == (evA l i).t
def edge (l : List Ev) (a b : Int) : Bool := (List.range l.length).any (edgeAt l a b)
def LgPost (w : World) (l : List Ev) (e : Ending) (w' : World) : Prop :=
  ∃ v, e = .returned v ∧ w'.ownsRow w.heap.size 43 2 v (prsA (fun a b => edge l a b) 5).length (prc (prsA (fun a b => edge l a b) 5)) ∧ Below w.heap.size w w'
end Go.Proofs.Ytjindfkomnjceaa

/- What a contract of the package swap says; traces that swaps make, as the laws make them. -/
import Derived.Test.YtmdpegljpdjfoaaSl
import Derived.Test.YtmdpegljpdjfoaaSb
import Derived.Test.YtmdpegljpdjfoaaRefTr
import Derived.Test.YtmdpegljpdjfoaaEqEv
import Derived.Test.YtmdpegljpdjfoaaRest
set_option linter.all false
set_option maxRecDepth 100000
namespace Go.Proofs.Ytmdpegljpdjfoaa
open Go Go.RowKit

def ApartC : Prop := ∀ (a b : Ev) (w : World), Calls Try.prog 35 #[.agg (evv a), .agg (evv b)] w fun e w' => e = .returned (.bool (!dep a b)) ∧ Below w.heap.size w w'
/-- A new list of events and an error. -/
def EvsPost (w : World) (r : List Ev) (c : Int) (e : Ending) (w' : World) : Prop :=
  ∃ A n d, e = .returned (.tuple #[.slice A n d, .int .i64 c]) ∧ Sl w' A n r ∧ n ≤ d ∧ d ≤ maxLen ∧ Below w.heap.size w w'
def SwB (l : List Ev) (i : Int) (r : List Ev) (c : Int) : Prop :=
  (may l ≠ 0 ∧ r = [] ∧ c = may l) ∨ (may l = 0 ∧ (i < 0 ∨ (l.length : Int) - 2 < i) ∧ r = [] ∧ c = 1) ∨
    (may l = 0 ∧ (∃ k : Nat, i = k ∧ k + 1 < l.length ∧ dep (evZ l k) (evZ l (k + 1)) = true) ∧ r = [] ∧ c = 5) ∨ (may l = 0 ∧ (∃ k : Nat, i = k ∧ SwAt k l r) ∧ c = 0)
def SwPost (w : World) (l : List Ev) (i : Int) (e : Ending) (w' : World) : Prop := ∃ r c, SwB l i r c ∧ EvsPost w r c e w'
def SwapC : Prop := ∀ (A : Option Addr) (n c : Nat) (l : List Ev) (i : Int) (w : World), Sl w A n l → n ≤ c → c ≤ maxLen → In64 i → Calls Try.prog 22 #[.slice A n c, .int .i64 i] w (SwPost w l i)
def LeB (l r : List Ev) (c : Int) : Prop := (may l ≠ 0 ∧ r = [] ∧ c = may l) ∨ (may l = 0 ∧ r = leastL l ∧ c = 0)
def LePost (w : World) (l : List Ev) (e : Ending) (w' : World) : Prop := ∃ r c, LeB l r c ∧ EvsPost w r c e w'
def LeastC : Prop := ∀ (A : Option Addr) (n c : Nat) (l : List Ev) (w : World), Sl w A n l → n ≤ c → c ≤ maxLen → Calls Try.prog 23 #[.slice A n c] w (LePost w l)
def sameE (a b : List Ev) : Int := if may a = 0 then may b else may a
def sameB (a b : List Ev) : Bool := decide (sameE a b = 0) && decide (leastL a = leastL b)
theorem swB_uniq {l r s : List Ev} {i c d : Int} (h : SwB l i r c) (k : SwB l i s d) : r = s ∧ c = d := by
  have key : ∀ {k k' : Nat} {r s : List Ev}, k = k' → SwAt k l r → SwAt k' l s → r = s := fun e h1 h2 => by
    subst e
    apply List.ext_getElem?
    intro j
    rw [← tr_tr _ j, h1.get, h2.get]
  have no : ∀ (k k' : Nat) (r : List Ev), k = k' → dep (evZ l k) (evZ l (k + 1)) = true → SwAt k' l r → False := fun k k' r e h1 h2 => by
    subst e
    have hl := h2.lt
    have ha : l[k]? = some (evZ l k) := by unfold evZ; rw [List.getElem?_eq_getElem (by omega)]; rfl
    have hb : l[k + 1]? = some (evZ l (k + 1)) := by unfold evZ; rw [List.getElem?_eq_getElem hl]; rfl
    rw [h2.dep ha hb] at h1
    cases h1
  rcases h with ⟨h1, h2, h3⟩ | ⟨h1, h2, h3, h4⟩ | ⟨h1, ⟨x, h2, h5, h6⟩, h3, h4⟩ | ⟨h1, ⟨x, h2, h3⟩, h4⟩ <;>
    rcases k with ⟨k1, k2, k3⟩ | ⟨k1, k2, k3, k4⟩ | ⟨k1, ⟨y, k2, k5, k6⟩, k3, k4⟩ | ⟨k1, ⟨y, k2, k3⟩, k4⟩ <;>
    first
    | exact absurd k1 h1
    | exact absurd h1 k1
    | exact ⟨h2.trans k2.symm, h3.trans k3.symm⟩
    | exact ⟨h3.trans k3.symm, h4.trans k4.symm⟩
    | (exfalso; omega)
    | (exfalso; have := k3.lt; omega)
    | (exfalso; have := h3.lt; omega)
    | exact (no _ _ _ (by omega) h6 k3).elim
    | exact (no _ _ _ (by omega) k6 h3).elim
    | exact ⟨key (by omega) h3 k3, h4.trans k4.symm⟩
theorem swB_ok {l r : List Ev} {i c : Int} (h : SwB l i r c) (hc : c = 0) : may l = 0 ∧ ∃ k : Nat, i = k ∧ SwAt k l r := by
  rcases h with ⟨h1, h2, h3⟩ | ⟨h1, h2, h3, h4⟩ | ⟨h1, _, h3, h4⟩ | ⟨h1, h2, h4⟩
  · exact absurd (h3.symm.trans hc) h1
  · omega
  · omega
  · exact ⟨h1, h2⟩
theorem swB_nil {l r : List Ev} {i c : Int} (h : SwB l i r c) (hc : c ≠ 0) : r = [] := by
  rcases h with ⟨_, h2, _⟩ | ⟨_, _, h3, _⟩ | ⟨_, _, h3, _⟩ | ⟨_, _, h4⟩
  · exact h2
  · exact h3
  · exact h3
  · exact absurd h4 hc
end Go.Proofs.Ytmdpegljpdjfoaa

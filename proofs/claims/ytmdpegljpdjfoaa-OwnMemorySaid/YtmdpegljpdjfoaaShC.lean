/- What a contract of the package shrink says: traces without an event, and what is left. -/
import Derived.Test.YtmdpegljpdjfoaaEb
import Derived.Test.YtmdpegljpdjfoaaSwC
import Derived.Test.YtmdpegljpdjfoaaKeepTw
import Derived.Test.YtmdpegljpdjfoaaAppend
import Derived.Test.YtmdpegljpdjfoaaCp
set_option linter.all false
set_option maxRecDepth 100000
namespace Go.Proofs.Ytmdpegljpdjfoaa
open Go Go.RowKit

/-- A new list of events, in memory of its own, and an error. -/
def EvsOwn (w : World) (r : List Ev) (c : Int) (e : Ending) (w' : World) : Prop :=
  ∃ v, e = .returned (.tuple #[v, .int .i64 c]) ∧ w'.ownsRow w.heap.size 29 3 v r.length (evc r) ∧ Below w.heap.size w w'
theorem EvsOwn.post {w w' : World} {r : List Ev} {c : Int} {e : Ending} (h : EvsOwn w r c e w') : EvsPost w r c e w' := by
  obtain ⟨v, rfl, h1, h2⟩ := h
  obtain ⟨A, d, rfl, h3, h4, h5⟩ := Sl.own h1
  exact ⟨A, r.length, d, rfl, h3, h4, h5, h2⟩
theorem own_nil (w w' : World) (c : Int) (h : Below w.heap.size w w') : EvsOwn w [] c (.returned (.tuple #[.slice none 0 0, .int .i64 c])) w' := ⟨_, rfl, World.ownsRow_nil _ _ _ _, h⟩
def WoB (l : List Ev) (i : Int) (r : List Ev) (c : Int) : Prop :=
  (may l ≠ 0 ∧ r = [] ∧ c = may l) ∨ (may l = 0 ∧ (i < 0 ∨ (l.length : Int) ≤ i) ∧ r = [] ∧ c = 1) ∨
    (may l = 0 ∧ (∃ k : Nat, i = k ∧ k < l.length ∧ may (l.eraseIdx k) ≠ 0) ∧ r = [] ∧ c = 5) ∨ (may l = 0 ∧ (∃ k : Nat, i = k ∧ k < l.length ∧ may (l.eraseIdx k) = 0 ∧ r = l.eraseIdx k) ∧ c = 0)
def WoPost (w : World) (l : List Ev) (i : Int) (e : Ending) (w' : World) : Prop := ∃ r c, WoB l i r c ∧ EvsOwn w r c e w'
def WithoutC : Prop := ∀ (A : Option Addr) (n c : Nat) (l : List Ev) (i : Int) (w : World), Sl w A n l → n ≤ c → c ≤ maxLen → In64 i → Calls Try.prog 11 #[.slice A n c, .int .i64 i] w (WoPost w l i)
def MinB (l r : List Ev) (c : Int) : Prop := (may l ≠ 0 ∧ r = [] ∧ c = may l) ∨ (may l = 0 ∧ rcs l = [] ∧ r = [] ∧ c = 7) ∨ (Ok l ∧ Red l 0 r ∧ c = 0)
def MinPost (w : World) (l : List Ev) (e : Ending) (w' : World) : Prop := ∃ r c, MinB l r c ∧ EvsOwn w r c e w'
def MinC : Prop := ∀ (A : Option Addr) (n c : Nat) (l : List Ev) (w : World), Sl w A n l → n ≤ c → c ≤ maxLen → Calls Try.prog 14 #[.slice A n c] w (MinPost w l)
theorem minB_uniq {l r s : List Ev} {c d : Int} (h : MinB l r c) (k : MinB l s d) : r = s ∧ c = d := by
  rcases h with ⟨h1, h2, h3⟩ | ⟨h1, h4, h2, h3⟩ | ⟨h1, h2, h3⟩ <;> rcases k with ⟨k1, k2, k3⟩ | ⟨k1, k4, k2, k3⟩ | ⟨k1, k2, k3⟩ <;>
    first
    | exact absurd k1 h1
    | exact absurd h1 k1
    | exact absurd k1.1 h1
    | exact absurd h1.1 k1
    | exact absurd h4 k1.2
    | exact absurd k4 h1.2
    | exact ⟨h2.trans k2.symm, h3.trans k3.symm⟩
    | exact ⟨h2.uniq k2, h3.trans k3.symm⟩
theorem minB_ok {l r : List Ev} {c : Int} (h : MinB l r c) (hc : c = 0) : Ok l ∧ Red l 0 r := by
  rcases h with ⟨h1, _, h3⟩ | ⟨_, _, _, h3⟩ | ⟨h1, h2, _⟩
  · exact absurd (h3.symm.trans hc) h1
  · omega
  · exact ⟨h1, h2⟩
theorem minB_no {l r : List Ev} {c : Int} (h : MinB l r c) (hc : c ≠ 0) : r = [] := by
  rcases h with ⟨_, h2, _⟩ | ⟨_, _, h2, _⟩ | ⟨_, _, h3⟩
  · exact h2
  · exact h2
  · exact absurd h3 hc
theorem woB_ok {l r : List Ev} {i c : Int} (h : WoB l i r c) (hc : c = 0) : may l = 0 ∧ ∃ k : Nat, i = k ∧ k < l.length ∧ may (l.eraseIdx k) = 0 ∧ r = l.eraseIdx k := by
  rcases h with ⟨h1, _, h3⟩ | ⟨_, _, _, h3⟩ | ⟨_, _, _, h3⟩ | ⟨h1, h2, _⟩
  · exact absurd (h3.symm.trans hc) h1
  · omega
  · omega
  · exact ⟨h1, h2⟩
theorem woB_no {l r : List Ev} {i c : Int} (h : WoB l i r c) (hc : c ≠ 0) : r = [] := by
  rcases h with ⟨_, h2, _⟩ | ⟨_, _, h2, _⟩ | ⟨_, _, h2, _⟩ | ⟨_, _, h3⟩
  · exact h2
  · exact h2
  · exact h2
  · exact absurd h3 hc
theorem woB_uniq {l r s : List Ev} {i c d : Int} (h : WoB l i r c) (k : WoB l i s d) : r = s ∧ c = d := by
  rcases h with ⟨h1, h2, h3⟩ | ⟨h1, h2, h3, h4⟩ | ⟨h1, ⟨x, h2, h5, h6⟩, h3, h4⟩ | ⟨h1, ⟨x, h2, h5, h6, h3⟩, h4⟩ <;>
    rcases k with ⟨k1, k2, k3⟩ | ⟨k1, k2, k3, k4⟩ | ⟨k1, ⟨y, k2, k5, k6⟩, k3, k4⟩ | ⟨k1, ⟨y, k2, k5, k6, k3⟩, k4⟩ <;>
    first
    | exact absurd k1 h1
    | exact absurd h1 k1
    | exact ⟨h2.trans k2.symm, h3.trans k3.symm⟩
    | exact ⟨h3.trans k3.symm, h4.trans k4.symm⟩
    | (exfalso; omega)
    | (obtain rfl : x = y := by omega
       first
       | exact absurd k6 h6
       | exact absurd h6 k6
       | exact ⟨h3.trans k3.symm, h4.trans k4.symm⟩)
/-- The trace of the laws' own first call. -/
def shrL : List Ev := twoL ++ [⟨1, 0, 0⟩]
def shrM : List Ev := [⟨5, 0, 1⟩, ⟨2, 1, 0⟩, ⟨1, 0, 0⟩]
theorem shr_red : MinB shrL shrM 0 := by
  refine .inr (.inr ⟨by unfold Ok; decide +kernel, ?_, rfl⟩)
  refine .skip (by decide) (by unfold Ok; decide +kernel) ?_
  refine .rem (by decide) (by unfold Ok; decide +kernel) ?_
  refine .done fun j hj => ?_
  have h3 : j < 3 := hj
  have hc : j = 0 ∨ j = 1 ∨ j = 2 := by omega
  rcases hc with rfl | rfl | rfl <;> (unfold Ok; decide +kernel)
end Go.Proofs.Ytmdpegljpdjfoaa

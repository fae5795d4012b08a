/- Plain facts: indices looked at in a circle: which of them are known to be needed. No program in sight. -/
import Derived.Test.YtmdpegljpdjfoaaEr
set_option linter.all false
set_option maxRecDepth 100000
namespace Go.Proofs.Ytmdpegljpdjfoaa
open Go Go.RowKit

/-- The q indices looked at before i, in the circle, can't be left out. -/
def Cyc (m : List Ev) (i q : Nat) : Prop := ∀ j, j < m.length → (j < i ∧ i ≤ j + q) ∨ m.length + i ≤ j + q → ¬ Ok (m.eraseIdx j)
theorem Cyc.start (m : List Ev) (i : Nat) : Cyc m i 0 := fun j hj h => by omega
theorem Cyc.fail {m : List Ev} {i q : Nat} (h : Cyc m i q) (hi : i < m.length) (hn : ¬ Ok (m.eraseIdx i)) : Cyc m (i + 1) (q + 1) := fun j hj hc => by
  by_cases he : j = i
  · subst he; exact hn
  · exact h j hj (by omega)
theorem Cyc.wrap {m : List Ev} {q : Nat} (h : Cyc m m.length q) : Cyc m 0 q := fun j hj hc => h j hj (by omega)
theorem Cyc.bare {m : List Ev} {i q : Nat} (h : Cyc m i q) (hi : i ≤ m.length) (hq : m.length ≤ q) : Bare m := fun j hj => h j hj (by omega)
theorem Ok.pos {m : List Ev} (h : Ok m) : 0 < m.length := by
  obtain ⟨_, a, b, h1, _, _⟩ := ok_iff.1 h
  omega
theorem Ok.len {m : List Ev} (h : Ok m) : m.length ≤ 80 := ((may_iff m).1 h.1).1
end Go.Proofs.Ytmdpegljpdjfoaa

/- Contracts of the reference: Text. -/
import Derived.Test.YtbkmkeaabcgifaaGreatDoorRefTx
import Derived.Test.YtbkmkeaabcgifaaGreatDoorRefTr
import Derived.Test.YtbkmkeaabcgifaaGreatDoorTr
set_option linter.all false
set_option maxRecDepth 100000
namespace Go.Proofs.YtbkmkeaabcgifaaGreatDoor
open Go.RowKit

theorem line_len (e : Ev) : (lineL e).length ≤ 13 := by
  have := word_size e.k
  rw [str_size] at this
  simp [lineL]; omega
theorem text_snoc : ∀ (l : List Ev) (e : Ev), l ≠ [] → textL (l ++ [e]) = textL l ++ 10 :: lineL e
  | [], _, h => absurd rfl h
  | [a], e, _ => by simp [textL]
  | a :: b :: l, e, _ => by
    have := text_snoc (b :: l) e (by simp)
    simp only [List.cons_append] at this ⊢
    rw [textL, this, textL, List.append_assoc, List.cons_append]
theorem text_len : ∀ l : List Ev, (textL l).length ≤ 14 * l.length
  | [] => by simp [textL]
  | [a] => by have := line_len a; simp [textL]; omega
  | a :: b :: l => by
    have h1 := line_len a
    have h2 := text_len (b :: l)
    rw [textL, List.length_append, List.length_cons]
    simp only [List.length_cons] at *
    omega
def textOf (l : List Ev) : List UInt8 := if may l = 0 then textL l else []
end Go.Proofs.YtbkmkeaabcgifaaGreatDoor

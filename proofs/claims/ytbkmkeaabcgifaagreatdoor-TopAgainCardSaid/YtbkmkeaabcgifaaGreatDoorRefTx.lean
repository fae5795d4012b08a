/- Contracts of the reference: Digits of one digit, words, Line. | Contracts of the reference: Line. | Contracts of the reference: EventOf. -/
import Derived.Test.YtbkmkeaabcgifaaGreatDoorChr
import Derived.Test.YtbkmkeaabcgifaaGreatDoorBase
import Derived.Test.YtbkmkeaabcgifaaGreatDoorTx
import Derived.WalkKit
import Derived.WalkSpells
import Derived.WalkLawsBesides
import Derived.BigQuiet
import Derived.Laws.BytesString
import Derived.Test.YtbkmkeaabcgifaaGreatDoorGrow
import Derived.IntWalk
import Derived.Lib.Hide
import Derived.Test.YtbkmkeaabcgifaaGreatDoorRefTr
set_option linter.all false
set_option maxRecDepth 100000
namespace Go.Proofs.YtbkmkeaabcgifaaGreatDoor
open Go Go.RowKit

theorem digit_chr {n : Int} (h : 0 ≤ n ∧ n < 10) : UInt8.ofNat (48 + n).toNat = digit n := by
  unfold digit; congr 1; omega
def wordsV : Array Value := #[.string (str (word 1)), .string (str (word 2)), .string (str (word 3)), .string (str (word 4)), .string (str (word 5)), .string (str (word 6)), .string (str (word 7)), .string (str (word 8))]
def WordsPost (w : World) (e : Ending) (w' : World) : Prop := ∃ B, e = .returned (.slice (some ⟨B, 0, none⟩) 8 8) ∧ Box w' B wordsV 9 ∧ w.heap.size ≤ B ∧ Below w.heap.size w w'
end Go.Proofs.YtbkmkeaabcgifaaGreatDoor
namespace Go.Proofs.YtbkmkeaabcgifaaGreatDoor
open Go.RowKit

/-- What Line answers. -/
def lineOf (e : Ev) : List UInt8 := if isEv e = true then lineL e else []
def lineErr (e : Ev) : Int := if isEv e = true then 0 else 1
theorem wordsV_get (k : Int) (h : 1 ≤ k ∧ k ≤ 8) : wordsV[(k - 1).toNat]? = some (.string (str (word k))) := by
  have : k = 1 ∨ k = 2 ∨ k = 3 ∨ k = 4 ∨ k = 5 ∨ k = 6 ∨ k = 7 ∨ k = 8 := by omega
  rcases this with rfl | rfl | rfl | rfl | rfl | rfl | rfl | rfl <;> rfl
theorem word_size (k : Int) : (str (word k)).size ≤ 9 := by
  rw [str_size]; unfold word; repeat' split
  all_goals simp
theorem line_parts (e : Ev) : str [116] ++ str [digit e.t] ++ str [32] ++ str (word e.k) ++ str [digit e.o] = str (lineL e) := by simp [str_app, lineL]
end Go.Proofs.YtbkmkeaabcgifaaGreatDoor
namespace Go.Proofs.YtbkmkeaabcgifaaGreatDoor
open Go.RowKit

/-- No event ahead of this place has this line. -/
def NoLine (s : List UInt8) (k t o : Int) : Prop := ∀ e, isEv e = true → lineL e = s → k < e.k ∨ (e.k = k ∧ (t < e.t ∨ (e.t = t ∧ o ≤ e.o)))
theorem NoLine.start (s : List UInt8) : NoLine s 1 0 0 := fun e he _ => by
  have := isEv_k he; have := isEv_t he; have := isEv_o he; omega
theorem NoLine.obj {s : List UInt8} {k t o : Int} (h : NoLine s k t o) (hn : isEv ⟨k, t, o⟩ = true → lineL ⟨k, t, o⟩ ≠ s) : NoLine s k t (o + 1) := fun e he hl => by
  rcases h e he hl with h1 | ⟨h1, h2 | ⟨h2, h3⟩⟩
  · exact .inl h1
  · exact .inr ⟨h1, .inl h2⟩
  · by_cases h4 : e.o = o
    · have : e = ⟨k, t, o⟩ := Ev.ext' h1 h2 h4
      subst this
      exact absurd hl (hn he)
    · exact .inr ⟨h1, .inr ⟨h2, by omega⟩⟩
theorem NoLine.thread {s : List UInt8} {k t : Int} (h : NoLine s k t 8) : NoLine s k (t + 1) 0 := fun e he hl => by
  have h1 := isEv_o he; have h2 := nobj_le e.k
  rcases h e he hl with h3 | ⟨h3, h4 | ⟨h4, h5⟩⟩ <;> omega
theorem NoLine.kind {s : List UInt8} {k : Int} (h : NoLine s k 6 0) : NoLine s (k + 1) 0 0 := fun e he hl => by
  have h1 := isEv_o he; have h2 := isEv_t he
  rcases h e he hl with h3 | ⟨h3, h4 | ⟨h4, h5⟩⟩ <;> omega
theorem NoLine.none {s : List UInt8} (h : NoLine s 9 0 0) : evOf s = (⟨0, 0, 0⟩, 3) := by
  rcases evOf_code s with h1 | h1
  · exfalso
    obtain ⟨h2, h3⟩ := evOf_some h1
    have := isEv_k h2
    rcases h _ h2 h3 with h4 | ⟨h4, _⟩ <;> omega
  · exact h1

end Go.Proofs.YtbkmkeaabcgifaaGreatDoor

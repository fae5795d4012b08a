/- Slices of integers, read; the reference's Eq over them. | The reference's Has over integers. -/
import Derived.Test.YteihildhlcggoaaRows
import Derived.Test.YteihildhlcggoaaBase
import Derived.WalkKit
import Derived.WalkSpells
import Derived.WalkLawsBesides
import Derived.Lib.Hide
set_option linter.all false
set_option maxRecDepth 100000
namespace Go.Proofs.Yteihildhlcggoaa
open Go Go.RowKit

/-- The value is a slice of the numbers l. -/
def SlI (w : World) (v : Value) (l : List Int) : Prop :=
  (v = .slice none 0 0 ∧ l = []) ∨ ∃ b o n c, v = .slice (some ⟨b, o, none⟩) n c ∧ l.length = n ∧ n ≤ maxLen ∧ ∀ i, i < n → w.cell? ⟨b, o + i, none⟩ = some (.int .i64 (l[i]?.getD 0))

def ints (l : List Int) : Array Value := (l.map (Value.int .i64)).toArray
theorem ints_get (l : List Int) (i : Nat) (h : i < l.length) : (ints l)[i]? = some (.int .i64 (l[i]?.getD 0)) := by
  simp [ints, List.getElem?_eq_getElem h]
theorem SlI.lit {w : World} {B : Nat} {l : List Int} {t : TypeId} (h : Box w B (ints l) t) (n : Nat) (hn : l.length = n) (hm : n ≤ maxLen) (c : Nat) : SlI w (.slice (some ⟨B, 0, none⟩) n c) l :=
  .inr ⟨B, 0, n, c, rfl, hn, hm, fun i hi => by
    have := h.cell i (ints_get l i (by omega))
    simpa using this⟩
theorem list_eq_of {la lb : List Int} (hl : la.length = lb.length) (h : UpTo (fun j => la[j]?.getD 0 = lb[j]?.getD 0) la.length) : la = lb :=
  List.ext_getElem hl fun i h1 h2 => by
    have := h i h1
    simpa [List.getElem?_eq_getElem h1, List.getElem?_eq_getElem h2] using this

end Go.Proofs.Yteihildhlcggoaa
namespace Go.Proofs.Yteihildhlcggoaa
open Go Go.RowKit

/-- A slice of the numbers l, nil let in, its value written out. -/
def SI (w : World) (A : Option Addr) (n : Nat) (l : List Int) : Prop :=
  l.length = n ∧ (0 < n → ∃ b o, A = some ⟨b, o, none⟩ ∧ ∀ i, i < n → w.cell? ⟨b, o + i, none⟩ = some (.int .i64 (l[i]?.getD 0)))
theorem SlI.form {w : World} {v : Value} {l : List Int} (h : SlI w v l) : ∃ A n c, v = .slice A n c ∧ SI w A n l ∧ n ≤ maxLen := by
  rcases h with ⟨rfl, rfl⟩ | ⟨b, o, n, c, rfl, hl, hm, hc⟩
  · exact ⟨none, 0, 0, rfl, ⟨rfl, fun h => absurd h (by omega)⟩, by omega⟩
  · exact ⟨_, n, c, rfl, ⟨hl, fun _ => ⟨b, o, rfl, hc⟩⟩, hm⟩
theorem SI.keep {w w' : World} {A : Option Addr} {n : Nat} {l : List Int} (h : SI w A n l) (hb : Bel w w') : SI w' A n l :=
  ⟨h.1, fun h0 => by
    obtain ⟨b, o, hA, hc⟩ := h.2 h0
    exact ⟨b, o, hA, fun i hi => hb.cell (hc i hi)⟩⟩
theorem mem_take_succ {l : List Int} {k : Nat} (h : k < l.length) (x : Int) : x ∈ l.take (k + 1) ↔ x ∈ l.take k ∨ x = l[k]?.getD 0 := by
  rw [List.take_succ_eq_append_getElem h, List.mem_append, List.mem_singleton, List.getElem?_eq_getElem h, Option.getD_some]
end Go.Proofs.Yteihildhlcggoaa

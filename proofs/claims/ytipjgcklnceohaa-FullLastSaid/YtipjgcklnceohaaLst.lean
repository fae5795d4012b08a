/- A plain list of operations whose callees make memory: one walk in every world that has grown. -/
import Derived.Test.YtipjgcklnceohaaBase
import Derived.WalkKit
import Derived.WalkSpells
import Derived.BigQuiet
set_option linter.all false
set_option maxRecDepth 100000
namespace Go.Proofs.Ytipjgcklnceohaa
open Go Go.RowKit

section
variable {P : Program} {ops : Array Oper} {C : World → Prop} {Q : Act → Prop} {Q' : Exit → Act → World → Prop}
theorem wpList_of_quiet (hQ : ∀ a w, C w → Q a → Q' .normal a w) : ∀ (l : List Oper) (a : Act) (w : World), C w → wpQuiet P ops C Q l a → wpList P ops Q' l a w
  | [], a, w, hw, h => hQ a w hw h
  | o :: l, a, w, hw, h => by
    unfold wpQuiet at h
    unfold wpList
    split
    · rename_i hwd
      rw [if_pos hwd] at h
      exact .inl (Oper.wp_of_quiet hw (fun a' w' hw' hK => wpList_of_quiet hQ l a' w' hw' hK) h)
    · rename_i hwd
      rw [if_neg hwd] at h
      exact wpList_of_quiet hQ l _ _ hw h
/-- A plain region whose callees make memory (n operations are left): one walk in every world that W has grown into. -/
theorem list_bel (n : Nat) {l : List Oper} {a : Act} {W : World} (_ : l.length = n) (h : wpQuiet P ops (Bel W) (fun a' => ∀ w', Bel W w' → Q' .normal a' w') l a) : wpList P ops Q' l a W :=
  wpList_of_quiet (C := Bel W) (fun a w hw h => h w hw) l a W (Bel.refl W) h
end
end Go.Proofs.Ytipjgcklnceohaa

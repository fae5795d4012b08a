import Derived.Test.YtecdilijcjgjmaaZSw
set_option linter.all false
set_option maxRecDepth 100000
namespace Go.Proofs.Ytecdilijcjgjmaa
open Go Go.RowKit

theorem rc_ex {l : List Ev} : rcsA l ≠ [] ↔ ∃ a b, a < l.length ∧ b < l.length ∧ racB l a b = true := by
  unfold rcsA
  constructor
  · intro h
    obtain ⟨p, hp⟩ := List.exists_mem_of_ne_nil _ (fun e => h (by rw [e]; rfl) : prsA (racB l) l.length ≠ [])
    exact ⟨p.1, p.2, mem_prsA.1 hp⟩
  · rintro ⟨a, b, h1, h2, h3⟩ e
    have : (a, b) ∈ prsA (racB l) l.length := mem_prsA.2 ⟨h1, h2, h3⟩
    rw [List.map_eq_nil_iff.1 e] at this
    cases this
end Go.Proofs.Ytecdilijcjgjmaa

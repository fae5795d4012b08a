import Derived.Test.YtecdilijcjgjmaaRows
import Derived.Test.YtecdilijcjgjmaaZBase
import Derived.WalkKit
import Derived.WalkSpells
import Derived.WalkLawsBesides
import Derived.Lib.Hide
set_option linter.all false
set_option maxRecDepth 100000
namespace Go.Proofs.Ytecdilijcjgjmaa
open Go Go.RowKit

end Go.Proofs.Ytecdilijcjgjmaa
namespace Go.Proofs.Ytecdilijcjgjmaa
open Go Go.RowKit

def SI (w : World) (A : Option Addr) (n : Nat) (l : List Int) : Prop :=
  l.length = n ∧ (0 < n → ∃ b o, A = some ⟨b, o, none⟩ ∧ ∀ i, i < n → w.cell? ⟨b, o + i, none⟩ = some (.int .i64 (l[i]?.getD 0)))
theorem SI.keep {w w' : World} {A : Option Addr} {n : Nat} {l : List Int} (h : SI w A n l) (hb : Bel w w') : SI w' A n l :=
  ⟨h.1, fun h0 => by
    obtain ⟨b, o, hA, hc⟩ := h.2 h0
    exact ⟨b, o, hA, fun i hi => hb.cell (hc i hi)⟩⟩
end Go.Proofs.Ytecdilijcjgjmaa

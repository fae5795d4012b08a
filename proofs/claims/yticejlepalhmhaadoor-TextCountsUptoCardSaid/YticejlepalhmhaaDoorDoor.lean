/- A world for the witness of the rows that list tables: the tables hold what the rows say. -/
import Derived.Test.YticejlepalhmhaaDoorCards
import Derived.Test.YticejlepalhmhaaDoorTie
import Derived.Test.YticejlepalhmhaaDoorOpen
import Derived.Test.YticejlepalhmhaaDoorPTx
import Derived.ProofKit
import Derived.OpenShut
import Derived.Deep.DeepHandedRow
import Derived.LaidMore
import Derived.SevenTiedAt
set_option linter.all false
set_option maxRecDepth 100000
namespace Go.Proofs.YticejlepalhmhaaDoor
open Go Go.ChangeShapes Go.WideShapes Go.ChangeAt Go.RowKit

def litV : DataW Unit → Value
  | .lit (.int k n) => .int k n
  | _ => undef
def cells1 : DataW Unit → Array Value
  | .agg l => (l.map litV).toArray
  | _ => #[]
def part1 : DataW Unit → List Value
  | .agg l => l.map litV
  | _ => []
def cells2 : DataW Unit → Array Value
  | .agg l => (l.flatMap part1).toArray
  | _ => #[]
def setC (c : Array Value) : Obj → Obj
  | .cells _ t fr => .cells c t fr
  | o => o
noncomputable def heap0 (os : Os) : Array Obj := (World.holding Tryd.prog os ⟨#[], #[], []⟩).heap
noncomputable def heap1 (os : Os) : Array Obj := (((heap0 os).modify 4 (setC (cells1 Rows.laid_math_bits_deBruijn32tab))).modify 5 (setC (cells1 Rows.laid_math_bits_deBruijn64tab))).modify 3 (setC (cells1 Rows.laid_internal_strconv_uint64pow10))
noncomputable def heap2 (os : Os) : Array Obj := ((heap1 os).modify 2 (setC (cells2 Rows.laid_unicode_utf8_acceptRanges))).modify 1 (setC (cells1 Rows.laid_unicode_utf8_first))
noncomputable def doorW (os : Os) : World := { World.holding Tryd.prog os ⟨#[], #[], []⟩ with heap := heap2 os }
theorem open_str {H : Type} {enc : TypeId × Value → H} {P : Program} {w : World} {base : Nat} {sp : Nat → Bool} {held : Bool} {r : Reach} {b0 : Nat} {t : TypeId} {v : Value} {d : DataW H} {ps : List MemPlace} (ht : P.underlying t = some .string) (hval : Value.okWide P w r b0 t v) (hd : DataW.Trod enc P w base sp held t v d ps) :
    ∃ l : List UInt8, v = .string (str l) ∧ d = .lit (.string l) ∧ l.length ≤ maxLen := by
  obtain ⟨s, rfl, rfl, rfl, hs⟩ := Go.ChangeMaps.open_string ht hval hd
  exact ⟨s.data.toList, rfl, rfl, hs⟩
end Go.Proofs.YticejlepalhmhaaDoor

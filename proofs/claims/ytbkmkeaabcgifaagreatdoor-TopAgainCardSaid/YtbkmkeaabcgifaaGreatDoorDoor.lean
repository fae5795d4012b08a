/- A world for the witness of the rows that list tables: the tables hold what the rows say. -/
import Derived.Test.YtbkmkeaabcgifaaGreatDoorCards
import Derived.Test.YtbkmkeaabcgifaaGreatDoorTie
import Derived.Test.YtbkmkeaabcgifaaGreatDoorOpen
import Derived.Test.YtbkmkeaabcgifaaGreatDoorOpenStr
import Derived.Test.YtbkmkeaabcgifaaGreatDoorTx
import Derived.ProofKit
import Derived.OpenShut
import Derived.Deep.DeepHandedRow
import Derived.LaidMore
import Derived.SevenTiedAt
set_option linter.all false
set_option maxRecDepth 100000
namespace Go.Proofs.YtbkmkeaabcgifaaGreatDoor
open Go Go.ChangeShapes Go.WideShapes Go.ChangeAt Go.RowKit

def litV : DataW Unit → Value
  | .lit (.int k n) => .int k n
  | _ => undef
def cells1 : DataW Unit → Array Value
  | .agg l => (l.map litV).toArray
  | _ => #[]
def part1 : DataW Unit → List Value
  | .agg l => l.map litV
  | _ => []
def cells2 : DataW Unit → Array Value
  | .agg l => (l.flatMap part1).toArray
  | _ => #[]
def setC (c : Array Value) : Obj → Obj
  | .cells _ t fr => .cells c t fr
  | o => o
noncomputable def heap0 (os : Os) : Array Obj := (World.holding Tryz.prog os ⟨#[], #[], []⟩).heap
noncomputable def heap1 (os : Os) : Array Obj := (((heap0 os).modify 4 (setC (cells1 Rows.laid_math_bits_deBruijn32tab))).modify 5 (setC (cells1 Rows.laid_math_bits_deBruijn64tab))).modify 1 (setC (cells1 Rows.laid_internal_strconv_uint64pow10))
noncomputable def heap2 (os : Os) : Array Obj := ((heap1 os).modify 3 (setC (cells2 Rows.laid_unicode_utf8_acceptRanges))).modify 2 (setC (cells1 Rows.laid_unicode_utf8_first))
noncomputable def doorW (os : Os) : World := { World.holding Tryz.prog os ⟨#[], #[], []⟩ with heap := heap2 os }
end Go.Proofs.YtbkmkeaabcgifaaGreatDoor

/-
  No cell of these rows narrows 'for every input' (looked for: loops, veiled, ifaces, maps, wideKeys, modest, calm, conditions, laid).
  DERIVED. THE GIVEN ROWS OF THIS SEAT. 12 by the template 'for every input the law returns true; each argument reads behind the call as it read before'; 0 by the template 'total and deterministic' (their statements: YtjlomojhbjpdfaaTotals.lean).
  GIVEN WITH THE SEED: the statements are not yours to turn. If you find one false, say at which input.
  Laid BY PROGRAM, IN A SANDBOX (cutbox-rows.mjs): the forced cells as the released guide's own fill.sh prints them over the translation 1643d8792c4efeb0… (all of the seat's roots in one cut). By AI agents, Wed Nov 11 2026. No macro, syntax, notation, axiom, sorry.
-/
import Derived.Test.YtjlomojhbjpdfaaChecked
import GoSem.Claim
import GoSem.ClaimJoined
import GoSem.ClaimMapViews
import Derived.JoinedTies
import Derived.KernelRfl
namespace Go.Proofs.Ytjlomojhbjpdfaa
/- THE CELL 'sum', in the pinned program and in every row, IS THE sha256 OF THE DUMP (.gsa) THAT YtjlomojhbjpdfaaProg.lean LOADS. Nothing in Lean hashes anything: it is a label: what it is worth is what the hold of that sum in a sandbox is worth. -/
noncomputable def Try.pinned : Pinned := { name := "ytjlomojhbjpdfaa", sum := "1643d8792c4efeb0a6dca760f3203c0d6ad4919a96ba20cb23626b9a280d4445", checked := Try.checked }
namespace Rows
def none {H : Type} : Left H := { results := [], args := [] }

/-- 'deadheatlaw.SwapAparts': WHATEVER THE INPUT: true; the input reads as it did. -/
def swapApartsSpec : ChangeSpec := { name := "swapAparts", fn := fun _ => fun
  | [d1, d2] => { results := [.lit (.bool true)], args := [d1, d2] }
  | _ => none }
def swapApartsRow : OpenClaim := { program := "ytjlomojhbjpdfaa", sum := "1643d8792c4efeb0a6dca760f3203c0d6ad4919a96ba20cb23626b9a280d4445", func := "deadheat/deadheatlaw.SwapAparts", spec := "swapAparts", unfollowed := true, recurses := true, apart := false }
def SwapApartsSaid : Prop := swapApartsRow.holds Try.pinned (OpenSpec.ofChange swapApartsSpec)

/-- ITS FALSE NEIGHBOUR: 'it returns false'. Refute it at one input. -/
def swapApartsWrong : ChangeSpec := { name := "swapAparts", fn := fun _ => fun
  | [d1, d2] => { results := [.lit (.bool false)], args := [d1, d2] }
  | _ => none }
def SwapApartsWrongFalsely : Prop := swapApartsRow.holds Try.pinned (OpenSpec.ofChange swapApartsWrong)

/-- 'deadheatlaw.SwapSwaps': WHATEVER THE INPUT: true; the input reads as it did. -/
def swapSwapsSpec : ChangeSpec := { name := "swapSwaps", fn := fun _ => fun
  | [d1, d2] => { results := [.lit (.bool true)], args := [d1, d2] }
  | _ => none }
def swapSwapsRow : OpenClaim := { program := "ytjlomojhbjpdfaa", sum := "1643d8792c4efeb0a6dca760f3203c0d6ad4919a96ba20cb23626b9a280d4445", func := "deadheat/deadheatlaw.SwapSwaps", spec := "swapSwaps", unfollowed := true, recurses := true, apart := false }
def SwapSwapsSaid : Prop := swapSwapsRow.holds Try.pinned (OpenSpec.ofChange swapSwapsSpec)

/-- ITS FALSE NEIGHBOUR: 'it returns false'. Refute it at one input. -/
def swapSwapsWrong : ChangeSpec := { name := "swapSwaps", fn := fun _ => fun
  | [d1, d2] => { results := [.lit (.bool false)], args := [d1, d2] }
  | _ => none }
def SwapSwapsWrongFalsely : Prop := swapSwapsRow.holds Try.pinned (OpenSpec.ofChange swapSwapsWrong)

/-- 'deadheatlaw.SwapLeast': WHATEVER THE INPUT: true; the input reads as it did. -/
def swapLeastSpec : ChangeSpec := { name := "swapLeast", fn := fun _ => fun
  | [d] => { results := [.lit (.bool true)], args := [d] }
  | _ => none }
def swapLeastRow : OpenClaim := { program := "ytjlomojhbjpdfaa", sum := "1643d8792c4efeb0a6dca760f3203c0d6ad4919a96ba20cb23626b9a280d4445", func := "deadheat/deadheatlaw.SwapLeast", spec := "swapLeast", unfollowed := true, recurses := true, apart := false }
def SwapLeastSaid : Prop := swapLeastRow.holds Try.pinned (OpenSpec.ofChange swapLeastSpec)

/-- ITS FALSE NEIGHBOUR: 'it returns false'. Refute it at one input. -/
def swapLeastWrong : ChangeSpec := { name := "swapLeast", fn := fun _ => fun
  | [d] => { results := [.lit (.bool false)], args := [d] }
  | _ => none }
def SwapLeastWrongFalsely : Prop := swapLeastRow.holds Try.pinned (OpenSpec.ofChange swapLeastWrong)

/-- 'deadheatlaw.SwapSames': WHATEVER THE INPUT: true; the input reads as it did. -/
def swapSamesSpec : ChangeSpec := { name := "swapSames", fn := fun _ => fun
  | [d1, d2] => { results := [.lit (.bool true)], args := [d1, d2] }
  | _ => none }
def swapSamesRow : OpenClaim := { program := "ytjlomojhbjpdfaa", sum := "1643d8792c4efeb0a6dca760f3203c0d6ad4919a96ba20cb23626b9a280d4445", func := "deadheat/deadheatlaw.SwapSames", spec := "swapSames", unfollowed := true, recurses := true, apart := false }
def SwapSamesSaid : Prop := swapSamesRow.holds Try.pinned (OpenSpec.ofChange swapSamesSpec)

/-- ITS FALSE NEIGHBOUR: 'it returns false'. Refute it at one input. -/
def swapSamesWrong : ChangeSpec := { name := "swapSames", fn := fun _ => fun
  | [d1, d2] => { results := [.lit (.bool false)], args := [d1, d2] }
  | _ => none }
def SwapSamesWrongFalsely : Prop := swapSamesRow.holds Try.pinned (OpenSpec.ofChange swapSamesWrong)

/-- 'deadheatkeep.SwapBack': WHATEVER THE INPUT: true; the input reads as it did. -/
def swapBackSpec : ChangeSpec := { name := "swapBack", fn := fun _ => fun
  | [d1, d2, d3, d4] => { results := [.lit (.bool true)], args := [d1, d2, d3, d4] }
  | _ => none }
def swapBackRow : OpenClaim := { program := "ytjlomojhbjpdfaa", sum := "1643d8792c4efeb0a6dca760f3203c0d6ad4919a96ba20cb23626b9a280d4445", func := "deadheat/deadheatkeep.SwapBack", spec := "swapBack", apart := false }
def SwapBackSaid : Prop := swapBackRow.holds Try.pinned (OpenSpec.ofChange swapBackSpec)

/-- ITS FALSE NEIGHBOUR: 'it returns false'. Refute it at one input. -/
def swapBackWrong : ChangeSpec := { name := "swapBack", fn := fun _ => fun
  | [d1, d2, d3, d4] => { results := [.lit (.bool false)], args := [d1, d2, d3, d4] }
  | _ => none }
def SwapBackWrongFalsely : Prop := swapBackRow.holds Try.pinned (OpenSpec.ofChange swapBackWrong)

/-- 'deadheatkeep.SwapMay': WHATEVER THE INPUT: true; the input reads as it did. -/
def swapMaySpec : ChangeSpec := { name := "swapMay", fn := fun _ => fun
  | [d1, d2] => { results := [.lit (.bool true)], args := [d1, d2] }
  | _ => none }
def swapMayRow : OpenClaim := { program := "ytjlomojhbjpdfaa", sum := "1643d8792c4efeb0a6dca760f3203c0d6ad4919a96ba20cb23626b9a280d4445", func := "deadheat/deadheatkeep.SwapMay", spec := "swapMay", apart := false }
def SwapMaySaid : Prop := swapMayRow.holds Try.pinned (OpenSpec.ofChange swapMaySpec)

/-- ITS FALSE NEIGHBOUR: 'it returns false'. Refute it at one input. -/
def swapMayWrong : ChangeSpec := { name := "swapMay", fn := fun _ => fun
  | [d1, d2] => { results := [.lit (.bool false)], args := [d1, d2] }
  | _ => none }
def SwapMayWrongFalsely : Prop := swapMayRow.holds Try.pinned (OpenSpec.ofChange swapMayWrong)

/-- 'deadheatkeep.SwapOrder': WHATEVER THE INPUT: true; the input reads as it did. -/
def swapOrderSpec : ChangeSpec := { name := "swapOrder", fn := fun _ => fun
  | [d1, d2] => { results := [.lit (.bool true)], args := [d1, d2] }
  | _ => none }
def swapOrderRow : OpenClaim := { program := "ytjlomojhbjpdfaa", sum := "1643d8792c4efeb0a6dca760f3203c0d6ad4919a96ba20cb23626b9a280d4445", func := "deadheat/deadheatkeep.SwapOrder", spec := "swapOrder", unfollowed := true, recurses := true, apart := false }
def SwapOrderSaid : Prop := swapOrderRow.holds Try.pinned (OpenSpec.ofChange swapOrderSpec)

/-- ITS FALSE NEIGHBOUR: 'it returns false'. Refute it at one input. -/
def swapOrderWrong : ChangeSpec := { name := "swapOrder", fn := fun _ => fun
  | [d1, d2] => { results := [.lit (.bool false)], args := [d1, d2] }
  | _ => none }
def SwapOrderWrongFalsely : Prop := swapOrderRow.holds Try.pinned (OpenSpec.ofChange swapOrderWrong)

/-- 'deadheatkeep.SwapRaces': WHATEVER THE INPUT: true; the input reads as it did. -/
def swapRacesSpec : ChangeSpec := { name := "swapRaces", fn := fun _ => fun
  | [d1, d2] => { results := [.lit (.bool true)], args := [d1, d2] }
  | _ => none }
def swapRacesRow : OpenClaim := { program := "ytjlomojhbjpdfaa", sum := "1643d8792c4efeb0a6dca760f3203c0d6ad4919a96ba20cb23626b9a280d4445", func := "deadheat/deadheatkeep.SwapRaces", spec := "swapRaces", unfollowed := true, recurses := true, apart := false }
def SwapRacesSaid : Prop := swapRacesRow.holds Try.pinned (OpenSpec.ofChange swapRacesSpec)

/-- ITS FALSE NEIGHBOUR: 'it returns false'. Refute it at one input. -/
def swapRacesWrong : ChangeSpec := { name := "swapRaces", fn := fun _ => fun
  | [d1, d2] => { results := [.lit (.bool false)], args := [d1, d2] }
  | _ => none }
def SwapRacesWrongFalsely : Prop := swapRacesRow.holds Try.pinned (OpenSpec.ofChange swapRacesWrong)

/-- 'deadheatkeep.SwapLeasts': WHATEVER THE INPUT: true; the input reads as it did. -/
def swapLeastsSpec : ChangeSpec := { name := "swapLeasts", fn := fun _ => fun
  | [d1, d2] => { results := [.lit (.bool true)], args := [d1, d2] }
  | _ => none }
def swapLeastsRow : OpenClaim := { program := "ytjlomojhbjpdfaa", sum := "1643d8792c4efeb0a6dca760f3203c0d6ad4919a96ba20cb23626b9a280d4445", func := "deadheat/deadheatkeep.SwapLeasts", spec := "swapLeasts", unfollowed := true, recurses := true, apart := false }
def SwapLeastsSaid : Prop := swapLeastsRow.holds Try.pinned (OpenSpec.ofChange swapLeastsSpec)

/-- ITS FALSE NEIGHBOUR: 'it returns false'. Refute it at one input. -/
def swapLeastsWrong : ChangeSpec := { name := "swapLeasts", fn := fun _ => fun
  | [d1, d2] => { results := [.lit (.bool false)], args := [d1, d2] }
  | _ => none }
def SwapLeastsWrongFalsely : Prop := swapLeastsRow.holds Try.pinned (OpenSpec.ofChange swapLeastsWrong)

/-- 'deadheatkeep.SwapSame': WHATEVER THE INPUT: true; the input reads as it did. -/
def swapSameSpec : ChangeSpec := { name := "swapSame", fn := fun _ => fun
  | [d1, d2, d3] => { results := [.lit (.bool true)], args := [d1, d2, d3] }
  | _ => none }
def swapSameRow : OpenClaim := { program := "ytjlomojhbjpdfaa", sum := "1643d8792c4efeb0a6dca760f3203c0d6ad4919a96ba20cb23626b9a280d4445", func := "deadheat/deadheatkeep.SwapSame", spec := "swapSame", unfollowed := true, recurses := true, apart := false }
def SwapSameSaid : Prop := swapSameRow.holds Try.pinned (OpenSpec.ofChange swapSameSpec)

/-- ITS FALSE NEIGHBOUR: 'it returns false'. Refute it at one input. -/
def swapSameWrong : ChangeSpec := { name := "swapSame", fn := fun _ => fun
  | [d1, d2, d3] => { results := [.lit (.bool false)], args := [d1, d2, d3] }
  | _ => none }
def SwapSameWrongFalsely : Prop := swapSameRow.holds Try.pinned (OpenSpec.ofChange swapSameWrong)

/-- 'deadheatkeep.SwapSort': WHATEVER THE INPUT: true; the input reads as it did. -/
def swapSortSpec : ChangeSpec := { name := "swapSort", fn := fun _ => fun
  | [d] => { results := [.lit (.bool true)], args := [d] }
  | _ => none }
def swapSortRow : OpenClaim := { program := "ytjlomojhbjpdfaa", sum := "1643d8792c4efeb0a6dca760f3203c0d6ad4919a96ba20cb23626b9a280d4445", func := "deadheat/deadheatkeep.SwapSort", spec := "swapSort", unfollowed := true, recurses := true, apart := false }
def SwapSortSaid : Prop := swapSortRow.holds Try.pinned (OpenSpec.ofChange swapSortSpec)

/-- ITS FALSE NEIGHBOUR: 'it returns false'. Refute it at one input. -/
def swapSortWrong : ChangeSpec := { name := "swapSort", fn := fun _ => fun
  | [d] => { results := [.lit (.bool false)], args := [d] }
  | _ => none }
def SwapSortWrongFalsely : Prop := swapSortRow.holds Try.pinned (OpenSpec.ofChange swapSortWrong)

/-- 'deadheatkeep.SwapMoves': WHATEVER THE INPUT: true; the input reads as it did. -/
def swapMovesSpec : ChangeSpec := { name := "swapMoves", fn := fun _ => fun
  | [d1, d2] => { results := [.lit (.bool true)], args := [d1, d2] }
  | _ => none }
def swapMovesRow : OpenClaim := { program := "ytjlomojhbjpdfaa", sum := "1643d8792c4efeb0a6dca760f3203c0d6ad4919a96ba20cb23626b9a280d4445", func := "deadheat/deadheatkeep.SwapMoves", spec := "swapMoves", unfollowed := true, recurses := true, apart := false }
def SwapMovesSaid : Prop := swapMovesRow.holds Try.pinned (OpenSpec.ofChange swapMovesSpec)

/-- ITS FALSE NEIGHBOUR: 'it returns false'. Refute it at one input. -/
def swapMovesWrong : ChangeSpec := { name := "swapMoves", fn := fun _ => fun
  | [d1, d2] => { results := [.lit (.bool false)], args := [d1, d2] }
  | _ => none }
def SwapMovesWrongFalsely : Prop := swapMovesRow.holds Try.pinned (OpenSpec.ofChange swapMovesWrong)

/- THE SECOND FORM. 'bulk': how many values and letters a reading holds, each counted each time it is reached (what is shared counts as often as it is met; a slice's spare places count too). A statement '..UptoSaid' is the law's where the arguments, and the package variables that the reading takes, are together of bulk at most 1048576: NARROWER than '..Said'. Prove '..Said' where nothing that the law and all that it calls make is longer than what came in: it says more and counts as full. Else prove '..UptoSaid'. A law counts once. -/
mutual
def uptoBulk {H : Type} : DataW H → Nat
  | .lit (.string bytes) => bytes.length + 1
  | .lit _ => 1
  | .nil => 1
  | .ptr d => uptoBulk d + 1
  | .slice elems spare => uptoBulkAll elems + uptoBulkAll spare + 1
  | .agg parts => uptoBulkAll parts + 1
  | .iface _ d => uptoBulk d + 1
  | .map entries => uptoBulkEntries entries + 1
  | .held _ => 1
def uptoBulkAll {H : Type} : List (DataW H) → Nat
  | [] => 0
  | d :: r => uptoBulk d + uptoBulkAll r
def uptoBulkEntries {H : Type} : List (Lit × DataW H) → Nat
  | [] => 0
  | x :: r => uptoBulkEntry x + uptoBulkEntries r
def uptoBulkEntry {H : Type} : Lit × DataW H → Nat
  | (.string bytes, d) => bytes.length + uptoBulk d + 1
  | (_, d) => uptoBulk d + 1
 end
def uptoSmall : (H : Type) → List (DataW H) → Bool := fun _ ds => decide (uptoBulkAll ds ≤ 1048576)
def OpenSpec.upto (s : _root_.Go.ChangeSpec) : _root_.Go.OpenSpec := { _root_.Go.OpenSpec.ofChange s with cond := some uptoSmall }

/-- 'deadheatlaw.SwapAparts', WHERE WHAT IT READS IS OF BULK AT MOST 1048576: true; the input reads as it did. -/
def swapApartsUptoRow : OpenClaim := { program := "ytjlomojhbjpdfaa", sum := "1643d8792c4efeb0a6dca760f3203c0d6ad4919a96ba20cb23626b9a280d4445", func := "deadheat/deadheatlaw.SwapAparts", spec := "swapAparts", unfollowed := true, recurses := true, apart := false, narrowed := true }
def SwapApartsUptoSaid : Prop := swapApartsUptoRow.holds Try.pinned (OpenSpec.upto swapApartsSpec)

/-- 'deadheatlaw.SwapSwaps', WHERE WHAT IT READS IS OF BULK AT MOST 1048576: true; the input reads as it did. -/
def swapSwapsUptoRow : OpenClaim := { program := "ytjlomojhbjpdfaa", sum := "1643d8792c4efeb0a6dca760f3203c0d6ad4919a96ba20cb23626b9a280d4445", func := "deadheat/deadheatlaw.SwapSwaps", spec := "swapSwaps", unfollowed := true, recurses := true, apart := false, narrowed := true }
def SwapSwapsUptoSaid : Prop := swapSwapsUptoRow.holds Try.pinned (OpenSpec.upto swapSwapsSpec)

/-- 'deadheatlaw.SwapLeast', WHERE WHAT IT READS IS OF BULK AT MOST 1048576: true; the input reads as it did. -/
def swapLeastUptoRow : OpenClaim := { program := "ytjlomojhbjpdfaa", sum := "1643d8792c4efeb0a6dca760f3203c0d6ad4919a96ba20cb23626b9a280d4445", func := "deadheat/deadheatlaw.SwapLeast", spec := "swapLeast", unfollowed := true, recurses := true, apart := false, narrowed := true }
def SwapLeastUptoSaid : Prop := swapLeastUptoRow.holds Try.pinned (OpenSpec.upto swapLeastSpec)

/-- 'deadheatlaw.SwapSames', WHERE WHAT IT READS IS OF BULK AT MOST 1048576: true; the input reads as it did. -/
def swapSamesUptoRow : OpenClaim := { program := "ytjlomojhbjpdfaa", sum := "1643d8792c4efeb0a6dca760f3203c0d6ad4919a96ba20cb23626b9a280d4445", func := "deadheat/deadheatlaw.SwapSames", spec := "swapSames", unfollowed := true, recurses := true, apart := false, narrowed := true }
def SwapSamesUptoSaid : Prop := swapSamesUptoRow.holds Try.pinned (OpenSpec.upto swapSamesSpec)

/-- 'deadheatkeep.SwapBack', WHERE WHAT IT READS IS OF BULK AT MOST 1048576: true; the input reads as it did. -/
def swapBackUptoRow : OpenClaim := { program := "ytjlomojhbjpdfaa", sum := "1643d8792c4efeb0a6dca760f3203c0d6ad4919a96ba20cb23626b9a280d4445", func := "deadheat/deadheatkeep.SwapBack", spec := "swapBack", apart := false, narrowed := true }
def SwapBackUptoSaid : Prop := swapBackUptoRow.holds Try.pinned (OpenSpec.upto swapBackSpec)

/-- 'deadheatkeep.SwapMay', WHERE WHAT IT READS IS OF BULK AT MOST 1048576: true; the input reads as it did. -/
def swapMayUptoRow : OpenClaim := { program := "ytjlomojhbjpdfaa", sum := "1643d8792c4efeb0a6dca760f3203c0d6ad4919a96ba20cb23626b9a280d4445", func := "deadheat/deadheatkeep.SwapMay", spec := "swapMay", apart := false, narrowed := true }
def SwapMayUptoSaid : Prop := swapMayUptoRow.holds Try.pinned (OpenSpec.upto swapMaySpec)

/-- 'deadheatkeep.SwapOrder', WHERE WHAT IT READS IS OF BULK AT MOST 1048576: true; the input reads as it did. -/
def swapOrderUptoRow : OpenClaim := { program := "ytjlomojhbjpdfaa", sum := "1643d8792c4efeb0a6dca760f3203c0d6ad4919a96ba20cb23626b9a280d4445", func := "deadheat/deadheatkeep.SwapOrder", spec := "swapOrder", unfollowed := true, recurses := true, apart := false, narrowed := true }
def SwapOrderUptoSaid : Prop := swapOrderUptoRow.holds Try.pinned (OpenSpec.upto swapOrderSpec)

/-- 'deadheatkeep.SwapRaces', WHERE WHAT IT READS IS OF BULK AT MOST 1048576: true; the input reads as it did. -/
def swapRacesUptoRow : OpenClaim := { program := "ytjlomojhbjpdfaa", sum := "1643d8792c4efeb0a6dca760f3203c0d6ad4919a96ba20cb23626b9a280d4445", func := "deadheat/deadheatkeep.SwapRaces", spec := "swapRaces", unfollowed := true, recurses := true, apart := false, narrowed := true }
def SwapRacesUptoSaid : Prop := swapRacesUptoRow.holds Try.pinned (OpenSpec.upto swapRacesSpec)

/-- 'deadheatkeep.SwapLeasts', WHERE WHAT IT READS IS OF BULK AT MOST 1048576: true; the input reads as it did. -/
def swapLeastsUptoRow : OpenClaim := { program := "ytjlomojhbjpdfaa", sum := "1643d8792c4efeb0a6dca760f3203c0d6ad4919a96ba20cb23626b9a280d4445", func := "deadheat/deadheatkeep.SwapLeasts", spec := "swapLeasts", unfollowed := true, recurses := true, apart := false, narrowed := true }
def SwapLeastsUptoSaid : Prop := swapLeastsUptoRow.holds Try.pinned (OpenSpec.upto swapLeastsSpec)

/-- 'deadheatkeep.SwapSame', WHERE WHAT IT READS IS OF BULK AT MOST 1048576: true; the input reads as it did. -/
def swapSameUptoRow : OpenClaim := { program := "ytjlomojhbjpdfaa", sum := "1643d8792c4efeb0a6dca760f3203c0d6ad4919a96ba20cb23626b9a280d4445", func := "deadheat/deadheatkeep.SwapSame", spec := "swapSame", unfollowed := true, recurses := true, apart := false, narrowed := true }
def SwapSameUptoSaid : Prop := swapSameUptoRow.holds Try.pinned (OpenSpec.upto swapSameSpec)

/-- 'deadheatkeep.SwapSort', WHERE WHAT IT READS IS OF BULK AT MOST 1048576: true; the input reads as it did. -/
def swapSortUptoRow : OpenClaim := { program := "ytjlomojhbjpdfaa", sum := "1643d8792c4efeb0a6dca760f3203c0d6ad4919a96ba20cb23626b9a280d4445", func := "deadheat/deadheatkeep.SwapSort", spec := "swapSort", unfollowed := true, recurses := true, apart := false, narrowed := true }
def SwapSortUptoSaid : Prop := swapSortUptoRow.holds Try.pinned (OpenSpec.upto swapSortSpec)

/-- 'deadheatkeep.SwapMoves', WHERE WHAT IT READS IS OF BULK AT MOST 1048576: true; the input reads as it did. -/
def swapMovesUptoRow : OpenClaim := { program := "ytjlomojhbjpdfaa", sum := "1643d8792c4efeb0a6dca760f3203c0d6ad4919a96ba20cb23626b9a280d4445", func := "deadheat/deadheatkeep.SwapMoves", spec := "swapMoves", unfollowed := true, recurses := true, apart := false, narrowed := true }
def SwapMovesUptoSaid : Prop := swapMovesUptoRow.holds Try.pinned (OpenSpec.upto swapMovesSpec)

end Rows
end Go.Proofs.Ytjlomojhbjpdfaa

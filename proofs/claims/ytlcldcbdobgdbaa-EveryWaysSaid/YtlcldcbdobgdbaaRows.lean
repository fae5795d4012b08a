/-
  No cell of these rows narrows 'for every input' (looked for: loops, veiled, ifaces, maps, wideKeys, modest, calm, conditions, laid).
  DERIVED. THE GIVEN ROWS OF THIS SEAT. 12 by the template 'for every input the law returns true; each argument reads behind the call as it read before'; 0 by the template 'total and deterministic' (their statements: YtlcldcbdobgdbaaTotals.lean).
  GIVEN WITH THE SEED: the statements are not yours to turn. If you find one false, say at which input.
  Laid BY PROGRAM, IN A SANDBOX (cutbox-rows.mjs): the forced cells as the released guide's own fill.sh prints them over the translation 8eaf49683a282ba9… (all of the seat's roots in one cut). By AI agents, Wed Nov 11 2026. No macro, syntax, notation, axiom, sorry.
-/
import Derived.Test.YtlcldcbdobgdbaaChecked
import GoSem.Claim
import GoSem.ClaimJoined
import GoSem.ClaimMapViews
import Derived.JoinedTies
import Derived.KernelRfl
namespace Go.Proofs.Ytlcldcbdobgdbaa
/- THE CELL 'sum', in the pinned program and in every row, IS THE sha256 OF THE DUMP (.gsa) THAT YtlcldcbdobgdbaaProg.lean LOADS. Nothing in Lean hashes anything: it is a label: what it is worth is what the hold of that sum in a sandbox is worth. -/
noncomputable def Try.pinned : Pinned := { name := "ytlcldcbdobgdbaa", sum := "8eaf49683a282ba9f5339571a1edb232b7998ca21c6c2d60a0e3fc8713f408d8", checked := Try.checked }
namespace Rows
def none {H : Type} : Left H := { results := [], args := [] }

/-- 'deadheatlaw.EveryEnds': WHATEVER THE INPUT: true; the input reads as it did. -/
def everyEndsSpec : ChangeSpec := { name := "everyEnds", fn := fun _ => fun
  | [d] => { results := [.lit (.bool true)], args := [d] }
  | _ => none }
def everyEndsRow : OpenClaim := { program := "ytlcldcbdobgdbaa", sum := "8eaf49683a282ba9f5339571a1edb232b7998ca21c6c2d60a0e3fc8713f408d8", func := "deadheat/deadheatlaw.EveryEnds", spec := "everyEnds", unfollowed := true, recurses := true, plainKeys := false, apart := false }
def EveryEndsSaid : Prop := everyEndsRow.holds Try.pinned (OpenSpec.ofChange everyEndsSpec)

/-- ITS FALSE NEIGHBOUR: 'it returns false'. Refute it at one input. -/
def everyEndsWrong : ChangeSpec := { name := "everyEnds", fn := fun _ => fun
  | [d] => { results := [.lit (.bool false)], args := [d] }
  | _ => none }
def EveryEndsWrongFalsely : Prop := everyEndsRow.holds Try.pinned (OpenSpec.ofChange everyEndsWrong)

/-- 'deadheatlaw.EveryWays': WHATEVER THE INPUT: true; the input reads as it did. -/
def everyWaysSpec : ChangeSpec := { name := "everyWays", fn := fun _ => fun
  | [d1, d2] => { results := [.lit (.bool true)], args := [d1, d2] }
  | _ => none }
def everyWaysRow : OpenClaim := { program := "ytlcldcbdobgdbaa", sum := "8eaf49683a282ba9f5339571a1edb232b7998ca21c6c2d60a0e3fc8713f408d8", func := "deadheat/deadheatlaw.EveryWays", spec := "everyWays", unfollowed := true, recurses := true, plainKeys := false, apart := false }
def EveryWaysSaid : Prop := everyWaysRow.holds Try.pinned (OpenSpec.ofChange everyWaysSpec)

/-- ITS FALSE NEIGHBOUR: 'it returns false'. Refute it at one input. -/
def everyWaysWrong : ChangeSpec := { name := "everyWays", fn := fun _ => fun
  | [d1, d2] => { results := [.lit (.bool false)], args := [d1, d2] }
  | _ => none }
def EveryWaysWrongFalsely : Prop := everyWaysRow.holds Try.pinned (OpenSpec.ofChange everyWaysWrong)

/-- 'deadheatlaw.EveryRaces': WHATEVER THE INPUT: true; the input reads as it did. -/
def everyRacesSpec : ChangeSpec := { name := "everyRaces", fn := fun _ => fun
  | [d] => { results := [.lit (.bool true)], args := [d] }
  | _ => none }
def everyRacesRow : OpenClaim := { program := "ytlcldcbdobgdbaa", sum := "8eaf49683a282ba9f5339571a1edb232b7998ca21c6c2d60a0e3fc8713f408d8", func := "deadheat/deadheatlaw.EveryRaces", spec := "everyRaces", unfollowed := true, recurses := true, plainKeys := false, apart := false }
def EveryRacesSaid : Prop := everyRacesRow.holds Try.pinned (OpenSpec.ofChange everyRacesSpec)

/-- ITS FALSE NEIGHBOUR: 'it returns false'. Refute it at one input. -/
def everyRacesWrong : ChangeSpec := { name := "everyRaces", fn := fun _ => fun
  | [d] => { results := [.lit (.bool false)], args := [d] }
  | _ => none }
def EveryRacesWrongFalsely : Prop := everyRacesRow.holds Try.pinned (OpenSpec.ofChange everyRacesWrong)

/-- 'deadheatkeep.EveryHas': WHATEVER THE INPUT: true; the input reads as it did. -/
def everyHasSpec : ChangeSpec := { name := "everyHas", fn := fun _ => fun
  | [d1, d2] => { results := [.lit (.bool true)], args := [d1, d2] }
  | _ => none }
def everyHasRow : OpenClaim := { program := "ytlcldcbdobgdbaa", sum := "8eaf49683a282ba9f5339571a1edb232b7998ca21c6c2d60a0e3fc8713f408d8", func := "deadheat/deadheatkeep.EveryHas", spec := "everyHas", unfollowed := true, recurses := true, plainKeys := false, apart := false }
def EveryHasSaid : Prop := everyHasRow.holds Try.pinned (OpenSpec.ofChange everyHasSpec)

/-- ITS FALSE NEIGHBOUR: 'it returns false'. Refute it at one input. -/
def everyHasWrong : ChangeSpec := { name := "everyHas", fn := fun _ => fun
  | [d1, d2] => { results := [.lit (.bool false)], args := [d1, d2] }
  | _ => none }
def EveryHasWrongFalsely : Prop := everyHasRow.holds Try.pinned (OpenSpec.ofChange everyHasWrong)

/-- 'deadheatkeep.EveryWay': WHATEVER THE INPUT: true; the input reads as it did. -/
def everyWaySpec : ChangeSpec := { name := "everyWay", fn := fun _ => fun
  | [d] => { results := [.lit (.bool true)], args := [d] }
  | _ => none }
def everyWayRow : OpenClaim := { program := "ytlcldcbdobgdbaa", sum := "8eaf49683a282ba9f5339571a1edb232b7998ca21c6c2d60a0e3fc8713f408d8", func := "deadheat/deadheatkeep.EveryWay", spec := "everyWay", unfollowed := true, recurses := true, plainKeys := false, apart := false }
def EveryWaySaid : Prop := everyWayRow.holds Try.pinned (OpenSpec.ofChange everyWaySpec)

/-- ITS FALSE NEIGHBOUR: 'it returns false'. Refute it at one input. -/
def everyWayWrong : ChangeSpec := { name := "everyWay", fn := fun _ => fun
  | [d] => { results := [.lit (.bool false)], args := [d] }
  | _ => none }
def EveryWayWrongFalsely : Prop := everyWayRow.holds Try.pinned (OpenSpec.ofChange everyWayWrong)

/-- 'deadheatkeep.EveryRaced': WHATEVER THE INPUT: true; the input reads as it did. -/
def everyRacedSpec : ChangeSpec := { name := "everyRaced", fn := fun _ => fun
  | [d1, d2] => { results := [.lit (.bool true)], args := [d1, d2] }
  | _ => none }
def everyRacedRow : OpenClaim := { program := "ytlcldcbdobgdbaa", sum := "8eaf49683a282ba9f5339571a1edb232b7998ca21c6c2d60a0e3fc8713f408d8", func := "deadheat/deadheatkeep.EveryRaced", spec := "everyRaced", unfollowed := true, recurses := true, plainKeys := false, apart := false }
def EveryRacedSaid : Prop := everyRacedRow.holds Try.pinned (OpenSpec.ofChange everyRacedSpec)

/-- ITS FALSE NEIGHBOUR: 'it returns false'. Refute it at one input. -/
def everyRacedWrong : ChangeSpec := { name := "everyRaced", fn := fun _ => fun
  | [d1, d2] => { results := [.lit (.bool false)], args := [d1, d2] }
  | _ => none }
def EveryRacedWrongFalsely : Prop := everyRacedRow.holds Try.pinned (OpenSpec.ofChange everyRacedWrong)

/-- 'deadheatkeep.EveryFree': WHATEVER THE INPUT: true; the input reads as it did. -/
def everyFreeSpec : ChangeSpec := { name := "everyFree", fn := fun _ => fun
  | [d] => { results := [.lit (.bool true)], args := [d] }
  | _ => none }
def everyFreeRow : OpenClaim := { program := "ytlcldcbdobgdbaa", sum := "8eaf49683a282ba9f5339571a1edb232b7998ca21c6c2d60a0e3fc8713f408d8", func := "deadheat/deadheatkeep.EveryFree", spec := "everyFree", unfollowed := true, recurses := true, plainKeys := false, apart := false }
def EveryFreeSaid : Prop := everyFreeRow.holds Try.pinned (OpenSpec.ofChange everyFreeSpec)

/-- ITS FALSE NEIGHBOUR: 'it returns false'. Refute it at one input. -/
def everyFreeWrong : ChangeSpec := { name := "everyFree", fn := fun _ => fun
  | [d] => { results := [.lit (.bool false)], args := [d] }
  | _ => none }
def EveryFreeWrongFalsely : Prop := everyFreeRow.holds Try.pinned (OpenSpec.ofChange everyFreeWrong)

/-- 'deadheatkeep.EveryOne': WHATEVER THE INPUT: true; the input reads as it did. -/
def everyOneSpec : ChangeSpec := { name := "everyOne", fn := fun _ => fun
  | [d] => { results := [.lit (.bool true)], args := [d] }
  | _ => none }
def everyOneRow : OpenClaim := { program := "ytlcldcbdobgdbaa", sum := "8eaf49683a282ba9f5339571a1edb232b7998ca21c6c2d60a0e3fc8713f408d8", func := "deadheat/deadheatkeep.EveryOne", spec := "everyOne", unfollowed := true, recurses := true, plainKeys := false, apart := false }
def EveryOneSaid : Prop := everyOneRow.holds Try.pinned (OpenSpec.ofChange everyOneSpec)

/-- ITS FALSE NEIGHBOUR: 'it returns false'. Refute it at one input. -/
def everyOneWrong : ChangeSpec := { name := "everyOne", fn := fun _ => fun
  | [d] => { results := [.lit (.bool false)], args := [d] }
  | _ => none }
def EveryOneWrongFalsely : Prop := everyOneRow.holds Try.pinned (OpenSpec.ofChange everyOneWrong)

/-- 'deadheatkeep.EveryGoes': WHATEVER THE INPUT: true; the input reads as it did. -/
def everyGoesSpec : ChangeSpec := { name := "everyGoes", fn := fun _ => fun
  | [d] => { results := [.lit (.bool true)], args := [d] }
  | _ => none }
def everyGoesRow : OpenClaim := { program := "ytlcldcbdobgdbaa", sum := "8eaf49683a282ba9f5339571a1edb232b7998ca21c6c2d60a0e3fc8713f408d8", func := "deadheat/deadheatkeep.EveryGoes", spec := "everyGoes", unfollowed := true, recurses := true, plainKeys := false, apart := false }
def EveryGoesSaid : Prop := everyGoesRow.holds Try.pinned (OpenSpec.ofChange everyGoesSpec)

/-- ITS FALSE NEIGHBOUR: 'it returns false'. Refute it at one input. -/
def everyGoesWrong : ChangeSpec := { name := "everyGoes", fn := fun _ => fun
  | [d] => { results := [.lit (.bool false)], args := [d] }
  | _ => none }
def EveryGoesWrongFalsely : Prop := everyGoesRow.holds Try.pinned (OpenSpec.ofChange everyGoesWrong)

/-- 'deadheatkeep.EveryLost': WHATEVER THE INPUT: true; the input reads as it did. -/
def everyLostSpec : ChangeSpec := { name := "everyLost", fn := fun _ => fun
  | [d1, d2] => { results := [.lit (.bool true)], args := [d1, d2] }
  | _ => none }
def everyLostRow : OpenClaim := { program := "ytlcldcbdobgdbaa", sum := "8eaf49683a282ba9f5339571a1edb232b7998ca21c6c2d60a0e3fc8713f408d8", func := "deadheat/deadheatkeep.EveryLost", spec := "everyLost", unfollowed := true, recurses := true, plainKeys := false, apart := false }
def EveryLostSaid : Prop := everyLostRow.holds Try.pinned (OpenSpec.ofChange everyLostSpec)

/-- ITS FALSE NEIGHBOUR: 'it returns false'. Refute it at one input. -/
def everyLostWrong : ChangeSpec := { name := "everyLost", fn := fun _ => fun
  | [d1, d2] => { results := [.lit (.bool false)], args := [d1, d2] }
  | _ => none }
def EveryLostWrongFalsely : Prop := everyLostRow.holds Try.pinned (OpenSpec.ofChange everyLostWrong)

/-- 'deadheatkeep.EveryDining': WHATEVER THE INPUT: true; the input reads as it did. -/
def everyDiningSpec : ChangeSpec := { name := "everyDining", fn := fun _ => fun
  | [d1, d2, d3] => { results := [.lit (.bool true)], args := [d1, d2, d3] }
  | _ => none }
def everyDiningRow : OpenClaim := { program := "ytlcldcbdobgdbaa", sum := "8eaf49683a282ba9f5339571a1edb232b7998ca21c6c2d60a0e3fc8713f408d8", func := "deadheat/deadheatkeep.EveryDining", spec := "everyDining", unfollowed := true, recurses := true, plainKeys := false, apart := false }
def EveryDiningSaid : Prop := everyDiningRow.holds Try.pinned (OpenSpec.ofChange everyDiningSpec)

/-- ITS FALSE NEIGHBOUR: 'it returns false'. Refute it at one input. -/
def everyDiningWrong : ChangeSpec := { name := "everyDining", fn := fun _ => fun
  | [d1, d2, d3] => { results := [.lit (.bool false)], args := [d1, d2, d3] }
  | _ => none }
def EveryDiningWrongFalsely : Prop := everyDiningRow.holds Try.pinned (OpenSpec.ofChange everyDiningWrong)

/-- 'deadheattop.TopFound': WHATEVER THE INPUT: true; the input reads as it did. -/
def topFoundSpec : ChangeSpec := { name := "topFound", fn := fun _ => fun
  | [d1, d2] => { results := [.lit (.bool true)], args := [d1, d2] }
  | _ => none }
def topFoundRow : OpenClaim := { program := "ytlcldcbdobgdbaa", sum := "8eaf49683a282ba9f5339571a1edb232b7998ca21c6c2d60a0e3fc8713f408d8", func := "deadheat/deadheattop.TopFound", spec := "topFound", unfollowed := true, recurses := true, plainKeys := false, apart := false }
def TopFoundSaid : Prop := topFoundRow.holds Try.pinned (OpenSpec.ofChange topFoundSpec)

/-- ITS FALSE NEIGHBOUR: 'it returns false'. Refute it at one input. -/
def topFoundWrong : ChangeSpec := { name := "topFound", fn := fun _ => fun
  | [d1, d2] => { results := [.lit (.bool false)], args := [d1, d2] }
  | _ => none }
def TopFoundWrongFalsely : Prop := topFoundRow.holds Try.pinned (OpenSpec.ofChange topFoundWrong)

/- THE SECOND FORM. 'bulk': how many values and letters a reading holds, each counted each time it is reached (what is shared counts as often as it is met; a slice's spare places count too). A statement '..UptoSaid' is the law's where the arguments, and the package variables that the reading takes, are together of bulk at most 1048576: NARROWER than '..Said'. Prove '..Said' where nothing that the law and all that it calls make is longer than what came in: it says more and counts as full. Else prove '..UptoSaid'. A law counts once. -/
mutual
def uptoBulk {H : Type} : DataW H → Nat
  | .lit (.string bytes) => bytes.length + 1
  | .lit _ => 1
  | .nil => 1
  | .ptr d => uptoBulk d + 1
  | .slice elems spare => uptoBulkAll elems + uptoBulkAll spare + 1
  | .agg parts => uptoBulkAll parts + 1
  | .iface _ d => uptoBulk d + 1
  | .map entries => uptoBulkEntries entries + 1
  | .held _ => 1
def uptoBulkAll {H : Type} : List (DataW H) → Nat
  | [] => 0
  | d :: r => uptoBulk d + uptoBulkAll r
def uptoBulkEntries {H : Type} : List (Lit × DataW H) → Nat
  | [] => 0
  | x :: r => uptoBulkEntry x + uptoBulkEntries r
def uptoBulkEntry {H : Type} : Lit × DataW H → Nat
  | (.string bytes, d) => bytes.length + uptoBulk d + 1
  | (_, d) => uptoBulk d + 1
 end
def uptoSmall : (H : Type) → List (DataW H) → Bool := fun _ ds => decide (uptoBulkAll ds ≤ 1048576)
def OpenSpec.upto (s : _root_.Go.ChangeSpec) : _root_.Go.OpenSpec := { _root_.Go.OpenSpec.ofChange s with cond := some uptoSmall }

/-- 'deadheatlaw.EveryEnds', WHERE WHAT IT READS IS OF BULK AT MOST 1048576: true; the input reads as it did. -/
def everyEndsUptoRow : OpenClaim := { program := "ytlcldcbdobgdbaa", sum := "8eaf49683a282ba9f5339571a1edb232b7998ca21c6c2d60a0e3fc8713f408d8", func := "deadheat/deadheatlaw.EveryEnds", spec := "everyEnds", unfollowed := true, recurses := true, plainKeys := false, apart := false, narrowed := true }
def EveryEndsUptoSaid : Prop := everyEndsUptoRow.holds Try.pinned (OpenSpec.upto everyEndsSpec)

/-- 'deadheatlaw.EveryWays', WHERE WHAT IT READS IS OF BULK AT MOST 1048576: true; the input reads as it did. -/
def everyWaysUptoRow : OpenClaim := { program := "ytlcldcbdobgdbaa", sum := "8eaf49683a282ba9f5339571a1edb232b7998ca21c6c2d60a0e3fc8713f408d8", func := "deadheat/deadheatlaw.EveryWays", spec := "everyWays", unfollowed := true, recurses := true, plainKeys := false, apart := false, narrowed := true }
def EveryWaysUptoSaid : Prop := everyWaysUptoRow.holds Try.pinned (OpenSpec.upto everyWaysSpec)

/-- 'deadheatlaw.EveryRaces', WHERE WHAT IT READS IS OF BULK AT MOST 1048576: true; the input reads as it did. -/
def everyRacesUptoRow : OpenClaim := { program := "ytlcldcbdobgdbaa", sum := "8eaf49683a282ba9f5339571a1edb232b7998ca21c6c2d60a0e3fc8713f408d8", func := "deadheat/deadheatlaw.EveryRaces", spec := "everyRaces", unfollowed := true, recurses := true, plainKeys := false, apart := false, narrowed := true }
def EveryRacesUptoSaid : Prop := everyRacesUptoRow.holds Try.pinned (OpenSpec.upto everyRacesSpec)

/-- 'deadheatkeep.EveryHas', WHERE WHAT IT READS IS OF BULK AT MOST 1048576: true; the input reads as it did. -/
def everyHasUptoRow : OpenClaim := { program := "ytlcldcbdobgdbaa", sum := "8eaf49683a282ba9f5339571a1edb232b7998ca21c6c2d60a0e3fc8713f408d8", func := "deadheat/deadheatkeep.EveryHas", spec := "everyHas", unfollowed := true, recurses := true, plainKeys := false, apart := false, narrowed := true }
def EveryHasUptoSaid : Prop := everyHasUptoRow.holds Try.pinned (OpenSpec.upto everyHasSpec)

/-- 'deadheatkeep.EveryWay', WHERE WHAT IT READS IS OF BULK AT MOST 1048576: true; the input reads as it did. -/
def everyWayUptoRow : OpenClaim := { program := "ytlcldcbdobgdbaa", sum := "8eaf49683a282ba9f5339571a1edb232b7998ca21c6c2d60a0e3fc8713f408d8", func := "deadheat/deadheatkeep.EveryWay", spec := "everyWay", unfollowed := true, recurses := true, plainKeys := false, apart := false, narrowed := true }
def EveryWayUptoSaid : Prop := everyWayUptoRow.holds Try.pinned (OpenSpec.upto everyWaySpec)

/-- 'deadheatkeep.EveryRaced', WHERE WHAT IT READS IS OF BULK AT MOST 1048576: true; the input reads as it did. -/
def everyRacedUptoRow : OpenClaim := { program := "ytlcldcbdobgdbaa", sum := "8eaf49683a282ba9f5339571a1edb232b7998ca21c6c2d60a0e3fc8713f408d8", func := "deadheat/deadheatkeep.EveryRaced", spec := "everyRaced", unfollowed := true, recurses := true, plainKeys := false, apart := false, narrowed := true }
def EveryRacedUptoSaid : Prop := everyRacedUptoRow.holds Try.pinned (OpenSpec.upto everyRacedSpec)

/-- 'deadheatkeep.EveryFree', WHERE WHAT IT READS IS OF BULK AT MOST 1048576: true; the input reads as it did. -/
def everyFreeUptoRow : OpenClaim := { program := "ytlcldcbdobgdbaa", sum := "8eaf49683a282ba9f5339571a1edb232b7998ca21c6c2d60a0e3fc8713f408d8", func := "deadheat/deadheatkeep.EveryFree", spec := "everyFree", unfollowed := true, recurses := true, plainKeys := false, apart := false, narrowed := true }
def EveryFreeUptoSaid : Prop := everyFreeUptoRow.holds Try.pinned (OpenSpec.upto everyFreeSpec)

/-- 'deadheatkeep.EveryOne', WHERE WHAT IT READS IS OF BULK AT MOST 1048576: true; the input reads as it did. -/
def everyOneUptoRow : OpenClaim := { program := "ytlcldcbdobgdbaa", sum := "8eaf49683a282ba9f5339571a1edb232b7998ca21c6c2d60a0e3fc8713f408d8", func := "deadheat/deadheatkeep.EveryOne", spec := "everyOne", unfollowed := true, recurses := true, plainKeys := false, apart := false, narrowed := true }
def EveryOneUptoSaid : Prop := everyOneUptoRow.holds Try.pinned (OpenSpec.upto everyOneSpec)

/-- 'deadheatkeep.EveryGoes', WHERE WHAT IT READS IS OF BULK AT MOST 1048576: true; the input reads as it did. -/
def everyGoesUptoRow : OpenClaim := { program := "ytlcldcbdobgdbaa", sum := "8eaf49683a282ba9f5339571a1edb232b7998ca21c6c2d60a0e3fc8713f408d8", func := "deadheat/deadheatkeep.EveryGoes", spec := "everyGoes", unfollowed := true, recurses := true, plainKeys := false, apart := false, narrowed := true }
def EveryGoesUptoSaid : Prop := everyGoesUptoRow.holds Try.pinned (OpenSpec.upto everyGoesSpec)

/-- 'deadheatkeep.EveryLost', WHERE WHAT IT READS IS OF BULK AT MOST 1048576: true; the input reads as it did. -/
def everyLostUptoRow : OpenClaim := { program := "ytlcldcbdobgdbaa", sum := "8eaf49683a282ba9f5339571a1edb232b7998ca21c6c2d60a0e3fc8713f408d8", func := "deadheat/deadheatkeep.EveryLost", spec := "everyLost", unfollowed := true, recurses := true, plainKeys := false, apart := false, narrowed := true }
def EveryLostUptoSaid : Prop := everyLostUptoRow.holds Try.pinned (OpenSpec.upto everyLostSpec)

/-- 'deadheatkeep.EveryDining', WHERE WHAT IT READS IS OF BULK AT MOST 1048576: true; the input reads as it did. -/
def everyDiningUptoRow : OpenClaim := { program := "ytlcldcbdobgdbaa", sum := "8eaf49683a282ba9f5339571a1edb232b7998ca21c6c2d60a0e3fc8713f408d8", func := "deadheat/deadheatkeep.EveryDining", spec := "everyDining", unfollowed := true, recurses := true, plainKeys := false, apart := false, narrowed := true }
def EveryDiningUptoSaid : Prop := everyDiningUptoRow.holds Try.pinned (OpenSpec.upto everyDiningSpec)

/-- 'deadheattop.TopFound', WHERE WHAT IT READS IS OF BULK AT MOST 1048576: true; the input reads as it did. -/
def topFoundUptoRow : OpenClaim := { program := "ytlcldcbdobgdbaa", sum := "8eaf49683a282ba9f5339571a1edb232b7998ca21c6c2d60a0e3fc8713f408d8", func := "deadheat/deadheattop.TopFound", spec := "topFound", unfollowed := true, recurses := true, plainKeys := false, apart := false, narrowed := true }
def TopFoundUptoSaid : Prop := topFoundUptoRow.holds Try.pinned (OpenSpec.upto topFoundSpec)

end Rows
end Go.Proofs.Ytlcldcbdobgdbaa

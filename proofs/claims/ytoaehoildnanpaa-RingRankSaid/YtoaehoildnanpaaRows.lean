/-
  No cell of these rows narrows 'for every input' (looked for: loops, veiled, ifaces, maps, wideKeys, modest, calm, conditions, laid).
  DERIVED. THE GIVEN ROWS OF THIS SEAT. 9 by the template 'for every input the law returns true; each argument reads behind the call as it read before'; 0 by the template 'total and deterministic' (their statements: YtoaehoildnanpaaTotals.lean).
  GIVEN WITH THE SEED: the statements are not yours to turn. If you find one false, say at which input.
  Laid BY PROGRAM, IN A SANDBOX (cutbox-rows.mjs): the forced cells as the released guide's own fill.sh prints them over the translation 623d8eb112f665e3… (all of the seat's roots in one cut). By AI agents, Wed Nov 11 2026. No macro, syntax, notation, axiom, sorry.
-/
import Derived.Test.YtoaehoildnanpaaChecked
import GoSem.Claim
import GoSem.ClaimJoined
import GoSem.ClaimMapViews
import Derived.JoinedTies
import Derived.KernelRfl
namespace Go.Proofs.Ytoaehoildnanpaa
/- THE CELL 'sum', in the pinned program and in every row, IS THE sha256 OF THE DUMP (.gsa) THAT YtoaehoildnanpaaProg.lean LOADS. Nothing in Lean hashes anything: it is a label: what it is worth is what the hold of that sum in a sandbox is worth. -/
noncomputable def Try.pinned : Pinned := { name := "ytoaehoildnanpaa", sum := "623d8eb112f665e33d7146d7e1123a25450d69f4bd3b677cc02fc946babf60de", checked := Try.checked }
namespace Rows
def none {H : Type} : Left H := { results := [], args := [] }

/-- 'deadheatlaw.RingGraphs': WHATEVER THE INPUT: true; the input reads as it did. -/
def ringGraphsSpec : ChangeSpec := { name := "ringGraphs", fn := fun _ => fun
  | [d] => { results := [.lit (.bool true)], args := [d] }
  | _ => none }
def ringGraphsRow : OpenClaim := { program := "ytoaehoildnanpaa", sum := "623d8eb112f665e33d7146d7e1123a25450d69f4bd3b677cc02fc946babf60de", func := "deadheat/deadheatlaw.RingGraphs", spec := "ringGraphs", unfollowed := true, recurses := true, apart := false }
def RingGraphsSaid : Prop := ringGraphsRow.holds Try.pinned (OpenSpec.ofChange ringGraphsSpec)

/-- ITS FALSE NEIGHBOUR: 'it returns false'. Refute it at one input. -/
def ringGraphsWrong : ChangeSpec := { name := "ringGraphs", fn := fun _ => fun
  | [d] => { results := [.lit (.bool false)], args := [d] }
  | _ => none }
def RingGraphsWrongFalsely : Prop := ringGraphsRow.holds Try.pinned (OpenSpec.ofChange ringGraphsWrong)

/-- 'deadheatlaw.RingFinds': WHATEVER THE INPUT: true; the input reads as it did. -/
def ringFindsSpec : ChangeSpec := { name := "ringFinds", fn := fun _ => fun
  | [d] => { results := [.lit (.bool true)], args := [d] }
  | _ => none }
def ringFindsRow : OpenClaim := { program := "ytoaehoildnanpaa", sum := "623d8eb112f665e33d7146d7e1123a25450d69f4bd3b677cc02fc946babf60de", func := "deadheat/deadheatlaw.RingFinds", spec := "ringFinds", recurses := true, apart := false }
def RingFindsSaid : Prop := ringFindsRow.holds Try.pinned (OpenSpec.ofChange ringFindsSpec)

/-- ITS FALSE NEIGHBOUR: 'it returns false'. Refute it at one input. -/
def ringFindsWrong : ChangeSpec := { name := "ringFinds", fn := fun _ => fun
  | [d] => { results := [.lit (.bool false)], args := [d] }
  | _ => none }
def RingFindsWrongFalsely : Prop := ringFindsRow.holds Try.pinned (OpenSpec.ofChange ringFindsWrong)

/-- 'deadheatlaw.RingRanks': WHATEVER THE INPUT: true; the input reads as it did. -/
def ringRanksSpec : ChangeSpec := { name := "ringRanks", fn := fun _ => fun
  | [d] => { results := [.lit (.bool true)], args := [d] }
  | _ => none }
def ringRanksRow : OpenClaim := { program := "ytoaehoildnanpaa", sum := "623d8eb112f665e33d7146d7e1123a25450d69f4bd3b677cc02fc946babf60de", func := "deadheat/deadheatlaw.RingRanks", spec := "ringRanks", recurses := true, apart := false }
def RingRanksSaid : Prop := ringRanksRow.holds Try.pinned (OpenSpec.ofChange ringRanksSpec)

/-- ITS FALSE NEIGHBOUR: 'it returns false'. Refute it at one input. -/
def ringRanksWrong : ChangeSpec := { name := "ringRanks", fn := fun _ => fun
  | [d] => { results := [.lit (.bool false)], args := [d] }
  | _ => none }
def RingRanksWrongFalsely : Prop := ringRanksRow.holds Try.pinned (OpenSpec.ofChange ringRanksWrong)

/-- 'deadheatkeep.RingTrue': WHATEVER THE INPUT: true; the input reads as it did. -/
def ringTrueSpec : ChangeSpec := { name := "ringTrue", fn := fun _ => fun
  | [d1, d2] => { results := [.lit (.bool true)], args := [d1, d2] }
  | _ => none }
def ringTrueRow : OpenClaim := { program := "ytoaehoildnanpaa", sum := "623d8eb112f665e33d7146d7e1123a25450d69f4bd3b677cc02fc946babf60de", func := "deadheat/deadheatkeep.RingTrue", spec := "ringTrue", recurses := true, apart := false }
def RingTrueSaid : Prop := ringTrueRow.holds Try.pinned (OpenSpec.ofChange ringTrueSpec)

/-- ITS FALSE NEIGHBOUR: 'it returns false'. Refute it at one input. -/
def ringTrueWrong : ChangeSpec := { name := "ringTrue", fn := fun _ => fun
  | [d1, d2] => { results := [.lit (.bool false)], args := [d1, d2] }
  | _ => none }
def RingTrueWrongFalsely : Prop := ringTrueRow.holds Try.pinned (OpenSpec.ofChange ringTrueWrong)

/-- 'deadheatkeep.RingRank': WHATEVER THE INPUT: true; the input reads as it did. -/
def ringRankSpec : ChangeSpec := { name := "ringRank", fn := fun _ => fun
  | [d] => { results := [.lit (.bool true)], args := [d] }
  | _ => none }
def ringRankRow : OpenClaim := { program := "ytoaehoildnanpaa", sum := "623d8eb112f665e33d7146d7e1123a25450d69f4bd3b677cc02fc946babf60de", func := "deadheat/deadheatkeep.RingRank", spec := "ringRank", recurses := true, apart := false }
def RingRankSaid : Prop := ringRankRow.holds Try.pinned (OpenSpec.ofChange ringRankSpec)

/-- ITS FALSE NEIGHBOUR: 'it returns false'. Refute it at one input. -/
def ringRankWrong : ChangeSpec := { name := "ringRank", fn := fun _ => fun
  | [d] => { results := [.lit (.bool false)], args := [d] }
  | _ => none }
def RingRankWrongFalsely : Prop := ringRankRow.holds Try.pinned (OpenSpec.ofChange ringRankWrong)

/-- 'deadheatkeep.RingLess': WHATEVER THE INPUT: true; the input reads as it did. -/
def ringLessSpec : ChangeSpec := { name := "ringLess", fn := fun _ => fun
  | [d1, d2] => { results := [.lit (.bool true)], args := [d1, d2] }
  | _ => none }
def ringLessRow : OpenClaim := { program := "ytoaehoildnanpaa", sum := "623d8eb112f665e33d7146d7e1123a25450d69f4bd3b677cc02fc946babf60de", func := "deadheat/deadheatkeep.RingLess", spec := "ringLess", recurses := true, apart := false }
def RingLessSaid : Prop := ringLessRow.holds Try.pinned (OpenSpec.ofChange ringLessSpec)

/-- ITS FALSE NEIGHBOUR: 'it returns false'. Refute it at one input. -/
def ringLessWrong : ChangeSpec := { name := "ringLess", fn := fun _ => fun
  | [d1, d2] => { results := [.lit (.bool false)], args := [d1, d2] }
  | _ => none }
def RingLessWrongFalsely : Prop := ringLessRow.holds Try.pinned (OpenSpec.ofChange ringLessWrong)

/-- 'deadheatkeep.RingFront': WHATEVER THE INPUT: true; the input reads as it did. -/
def ringFrontSpec : ChangeSpec := { name := "ringFront", fn := fun _ => fun
  | [d1, d2] => { results := [.lit (.bool true)], args := [d1, d2] }
  | _ => none }
def ringFrontRow : OpenClaim := { program := "ytoaehoildnanpaa", sum := "623d8eb112f665e33d7146d7e1123a25450d69f4bd3b677cc02fc946babf60de", func := "deadheat/deadheatkeep.RingFront", spec := "ringFront", recurses := true, apart := false }
def RingFrontSaid : Prop := ringFrontRow.holds Try.pinned (OpenSpec.ofChange ringFrontSpec)

/-- ITS FALSE NEIGHBOUR: 'it returns false'. Refute it at one input. -/
def ringFrontWrong : ChangeSpec := { name := "ringFront", fn := fun _ => fun
  | [d1, d2] => { results := [.lit (.bool false)], args := [d1, d2] }
  | _ => none }
def RingFrontWrongFalsely : Prop := ringFrontRow.holds Try.pinned (OpenSpec.ofChange ringFrontWrong)

/-- 'deadheatkeep.RingOrdered': WHATEVER THE INPUT: true; the input reads as it did. -/
def ringOrderedSpec : ChangeSpec := { name := "ringOrdered", fn := fun _ => fun
  | [d] => { results := [.lit (.bool true)], args := [d] }
  | _ => none }
def ringOrderedRow : OpenClaim := { program := "ytoaehoildnanpaa", sum := "623d8eb112f665e33d7146d7e1123a25450d69f4bd3b677cc02fc946babf60de", func := "deadheat/deadheatkeep.RingOrdered", spec := "ringOrdered", recurses := true, apart := false }
def RingOrderedSaid : Prop := ringOrderedRow.holds Try.pinned (OpenSpec.ofChange ringOrderedSpec)

/-- ITS FALSE NEIGHBOUR: 'it returns false'. Refute it at one input. -/
def ringOrderedWrong : ChangeSpec := { name := "ringOrdered", fn := fun _ => fun
  | [d] => { results := [.lit (.bool false)], args := [d] }
  | _ => none }
def RingOrderedWrongFalsely : Prop := ringOrderedRow.holds Try.pinned (OpenSpec.ofChange ringOrderedWrong)

/-- 'deadheatkeep.RingTurned': WHATEVER THE INPUT: true; the input reads as it did. -/
def ringTurnedSpec : ChangeSpec := { name := "ringTurned", fn := fun _ => fun
  | [d1, d2] => { results := [.lit (.bool true)], args := [d1, d2] }
  | _ => none }
def ringTurnedRow : OpenClaim := { program := "ytoaehoildnanpaa", sum := "623d8eb112f665e33d7146d7e1123a25450d69f4bd3b677cc02fc946babf60de", func := "deadheat/deadheatkeep.RingTurned", spec := "ringTurned", recurses := true, apart := false }
def RingTurnedSaid : Prop := ringTurnedRow.holds Try.pinned (OpenSpec.ofChange ringTurnedSpec)

/-- ITS FALSE NEIGHBOUR: 'it returns false'. Refute it at one input. -/
def ringTurnedWrong : ChangeSpec := { name := "ringTurned", fn := fun _ => fun
  | [d1, d2] => { results := [.lit (.bool false)], args := [d1, d2] }
  | _ => none }
def RingTurnedWrongFalsely : Prop := ringTurnedRow.holds Try.pinned (OpenSpec.ofChange ringTurnedWrong)

/- THE SECOND FORM. 'bulk': how many values and letters a reading holds, each counted each time it is reached (what is shared counts as often as it is met; a slice's spare places count too). A statement '..UptoSaid' is the law's where the arguments, and the package variables that the reading takes, are together of bulk at most 1048576: NARROWER than '..Said'. Prove '..Said' where nothing that the law and all that it calls make is longer than what came in: it says more and counts as full. Else prove '..UptoSaid'. A law counts once. -/
mutual
def uptoBulk {H : Type} : DataW H → Nat
  | .lit (.string bytes) => bytes.length + 1
  | .lit _ => 1
  | .nil => 1
  | .ptr d => uptoBulk d + 1
  | .slice elems spare => uptoBulkAll elems + uptoBulkAll spare + 1
  | .agg parts => uptoBulkAll parts + 1
  | .iface _ d => uptoBulk d + 1
  | .map entries => uptoBulkEntries entries + 1
  | .held _ => 1
def uptoBulkAll {H : Type} : List (DataW H) → Nat
  | [] => 0
  | d :: r => uptoBulk d + uptoBulkAll r
def uptoBulkEntries {H : Type} : List (Lit × DataW H) → Nat
  | [] => 0
  | x :: r => uptoBulkEntry x + uptoBulkEntries r
def uptoBulkEntry {H : Type} : Lit × DataW H → Nat
  | (.string bytes, d) => bytes.length + uptoBulk d + 1
  | (_, d) => uptoBulk d + 1
 end
def uptoSmall : (H : Type) → List (DataW H) → Bool := fun _ ds => decide (uptoBulkAll ds ≤ 1048576)
def OpenSpec.upto (s : _root_.Go.ChangeSpec) : _root_.Go.OpenSpec := { _root_.Go.OpenSpec.ofChange s with cond := some uptoSmall }

/-- 'deadheatlaw.RingGraphs', WHERE WHAT IT READS IS OF BULK AT MOST 1048576: true; the input reads as it did. -/
def ringGraphsUptoRow : OpenClaim := { program := "ytoaehoildnanpaa", sum := "623d8eb112f665e33d7146d7e1123a25450d69f4bd3b677cc02fc946babf60de", func := "deadheat/deadheatlaw.RingGraphs", spec := "ringGraphs", unfollowed := true, recurses := true, apart := false, narrowed := true }
def RingGraphsUptoSaid : Prop := ringGraphsUptoRow.holds Try.pinned (OpenSpec.upto ringGraphsSpec)

/-- 'deadheatlaw.RingFinds', WHERE WHAT IT READS IS OF BULK AT MOST 1048576: true; the input reads as it did. -/
def ringFindsUptoRow : OpenClaim := { program := "ytoaehoildnanpaa", sum := "623d8eb112f665e33d7146d7e1123a25450d69f4bd3b677cc02fc946babf60de", func := "deadheat/deadheatlaw.RingFinds", spec := "ringFinds", recurses := true, apart := false, narrowed := true }
def RingFindsUptoSaid : Prop := ringFindsUptoRow.holds Try.pinned (OpenSpec.upto ringFindsSpec)

/-- 'deadheatlaw.RingRanks', WHERE WHAT IT READS IS OF BULK AT MOST 1048576: true; the input reads as it did. -/
def ringRanksUptoRow : OpenClaim := { program := "ytoaehoildnanpaa", sum := "623d8eb112f665e33d7146d7e1123a25450d69f4bd3b677cc02fc946babf60de", func := "deadheat/deadheatlaw.RingRanks", spec := "ringRanks", recurses := true, apart := false, narrowed := true }
def RingRanksUptoSaid : Prop := ringRanksUptoRow.holds Try.pinned (OpenSpec.upto ringRanksSpec)

/-- 'deadheatkeep.RingTrue', WHERE WHAT IT READS IS OF BULK AT MOST 1048576: true; the input reads as it did. -/
def ringTrueUptoRow : OpenClaim := { program := "ytoaehoildnanpaa", sum := "623d8eb112f665e33d7146d7e1123a25450d69f4bd3b677cc02fc946babf60de", func := "deadheat/deadheatkeep.RingTrue", spec := "ringTrue", recurses := true, apart := false, narrowed := true }
def RingTrueUptoSaid : Prop := ringTrueUptoRow.holds Try.pinned (OpenSpec.upto ringTrueSpec)

/-- 'deadheatkeep.RingRank', WHERE WHAT IT READS IS OF BULK AT MOST 1048576: true; the input reads as it did. -/
def ringRankUptoRow : OpenClaim := { program := "ytoaehoildnanpaa", sum := "623d8eb112f665e33d7146d7e1123a25450d69f4bd3b677cc02fc946babf60de", func := "deadheat/deadheatkeep.RingRank", spec := "ringRank", recurses := true, apart := false, narrowed := true }
def RingRankUptoSaid : Prop := ringRankUptoRow.holds Try.pinned (OpenSpec.upto ringRankSpec)

/-- 'deadheatkeep.RingLess', WHERE WHAT IT READS IS OF BULK AT MOST 1048576: true; the input reads as it did. -/
def ringLessUptoRow : OpenClaim := { program := "ytoaehoildnanpaa", sum := "623d8eb112f665e33d7146d7e1123a25450d69f4bd3b677cc02fc946babf60de", func := "deadheat/deadheatkeep.RingLess", spec := "ringLess", recurses := true, apart := false, narrowed := true }
def RingLessUptoSaid : Prop := ringLessUptoRow.holds Try.pinned (OpenSpec.upto ringLessSpec)

/-- 'deadheatkeep.RingFront', WHERE WHAT IT READS IS OF BULK AT MOST 1048576: true; the input reads as it did. -/
def ringFrontUptoRow : OpenClaim := { program := "ytoaehoildnanpaa", sum := "623d8eb112f665e33d7146d7e1123a25450d69f4bd3b677cc02fc946babf60de", func := "deadheat/deadheatkeep.RingFront", spec := "ringFront", recurses := true, apart := false, narrowed := true }
def RingFrontUptoSaid : Prop := ringFrontUptoRow.holds Try.pinned (OpenSpec.upto ringFrontSpec)

/-- 'deadheatkeep.RingOrdered', WHERE WHAT IT READS IS OF BULK AT MOST 1048576: true; the input reads as it did. -/
def ringOrderedUptoRow : OpenClaim := { program := "ytoaehoildnanpaa", sum := "623d8eb112f665e33d7146d7e1123a25450d69f4bd3b677cc02fc946babf60de", func := "deadheat/deadheatkeep.RingOrdered", spec := "ringOrdered", recurses := true, apart := false, narrowed := true }
def RingOrderedUptoSaid : Prop := ringOrderedUptoRow.holds Try.pinned (OpenSpec.upto ringOrderedSpec)

/-- 'deadheatkeep.RingTurned', WHERE WHAT IT READS IS OF BULK AT MOST 1048576: true; the input reads as it did. -/
def ringTurnedUptoRow : OpenClaim := { program := "ytoaehoildnanpaa", sum := "623d8eb112f665e33d7146d7e1123a25450d69f4bd3b677cc02fc946babf60de", func := "deadheat/deadheatkeep.RingTurned", spec := "ringTurned", recurses := true, apart := false, narrowed := true }
def RingTurnedUptoSaid : Prop := ringTurnedUptoRow.holds Try.pinned (OpenSpec.upto ringTurnedSpec)

end Rows
end Go.Proofs.Ytoaehoildnanpaa

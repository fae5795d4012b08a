/-
  No cell of these rows narrows 'for every input' (looked for: loops, veiled, ifaces, maps, wideKeys, modest, calm, conditions, laid).
  DERIVED. THE GIVEN ROWS OF THIS SEAT. 5 by the template 'for every input the law returns true; each argument reads behind the call as it read before'; 0 by the template 'total and deterministic' (their statements: YtipjgcklnceohaaTotals.lean).
  GIVEN WITH THE SEED: the statements are not yours to turn. If you find one false, say at which input.
  Laid BY PROGRAM, IN A SANDBOX (cutbox-rows.mjs): the forced cells as the released guide's own fill.sh prints them over the translation a344305cd5b2a3fb… (all of the seat's roots in one cut). By AI agents, Wed Nov 11 2026. No macro, syntax, notation, axiom, sorry.
-/
import Derived.Test.YtipjgcklnceohaaChecked
import GoSem.Claim
import GoSem.ClaimJoined
import GoSem.ClaimMapViews
import Derived.JoinedTies
import Derived.KernelRfl
namespace Go.Proofs.Ytipjgcklnceohaa
/- THE CELL 'sum', in the pinned program and in every row, IS THE sha256 OF THE DUMP (.gsa) THAT YtipjgcklnceohaaProg.lean LOADS. Nothing in Lean hashes anything: it is a label: what it is worth is what the hold of that sum in a sandbox is worth. -/
noncomputable def Try.pinned : Pinned := { name := "ytipjgcklnceohaa", sum := "a344305cd5b2a3fb62eb439fad2080a01a1222327307380772557d3967082bf5", checked := Try.checked }
namespace Rows
def none {H : Type} : Left H := { results := [], args := [] }

/-- 'deadheatlaw.FullRuns': WHATEVER THE INPUT: true; the input reads as it did. -/
def fullRunsSpec : ChangeSpec := { name := "fullRuns", fn := fun _ => fun
  | [d] => { results := [.lit (.bool true)], args := [d] }
  | _ => none }
def fullRunsRow : OpenClaim := { program := "ytipjgcklnceohaa", sum := "a344305cd5b2a3fb62eb439fad2080a01a1222327307380772557d3967082bf5", func := "deadheat/deadheatlaw.FullRuns", spec := "fullRuns", apart := false }
def FullRunsSaid : Prop := fullRunsRow.holds Try.pinned (OpenSpec.ofChange fullRunsSpec)

/-- ITS FALSE NEIGHBOUR: 'it returns false'. Refute it at one input. -/
def fullRunsWrong : ChangeSpec := { name := "fullRuns", fn := fun _ => fun
  | [d] => { results := [.lit (.bool false)], args := [d] }
  | _ => none }
def FullRunsWrongFalsely : Prop := fullRunsRow.holds Try.pinned (OpenSpec.ofChange fullRunsWrong)

/-- 'deadheatlaw.FullLast': WHATEVER THE INPUT: true; the input reads as it did. -/
def fullLastSpec : ChangeSpec := { name := "fullLast", fn := fun _ => fun
  | [d1, d2] => { results := [.lit (.bool true)], args := [d1, d2] }
  | _ => none }
def fullLastRow : OpenClaim := { program := "ytipjgcklnceohaa", sum := "a344305cd5b2a3fb62eb439fad2080a01a1222327307380772557d3967082bf5", func := "deadheat/deadheatlaw.FullLast", spec := "fullLast", apart := false }
def FullLastSaid : Prop := fullLastRow.holds Try.pinned (OpenSpec.ofChange fullLastSpec)

/-- ITS FALSE NEIGHBOUR: 'it returns false'. Refute it at one input. -/
def fullLastWrong : ChangeSpec := { name := "fullLast", fn := fun _ => fun
  | [d1, d2] => { results := [.lit (.bool false)], args := [d1, d2] }
  | _ => none }
def FullLastWrongFalsely : Prop := fullLastRow.holds Try.pinned (OpenSpec.ofChange fullLastWrong)

/-- 'deadheatkeep.FullExact': WHATEVER THE INPUT: true; the input reads as it did. -/
def fullExactSpec : ChangeSpec := { name := "fullExact", fn := fun _ => fun
  | [d] => { results := [.lit (.bool true)], args := [d] }
  | _ => none }
def fullExactRow : OpenClaim := { program := "ytipjgcklnceohaa", sum := "a344305cd5b2a3fb62eb439fad2080a01a1222327307380772557d3967082bf5", func := "deadheat/deadheatkeep.FullExact", spec := "fullExact", unfollowed := true, recurses := true, apart := false }
def FullExactSaid : Prop := fullExactRow.holds Try.pinned (OpenSpec.ofChange fullExactSpec)

/-- ITS FALSE NEIGHBOUR: 'it returns false'. Refute it at one input. -/
def fullExactWrong : ChangeSpec := { name := "fullExact", fn := fun _ => fun
  | [d] => { results := [.lit (.bool false)], args := [d] }
  | _ => none }
def FullExactWrongFalsely : Prop := fullExactRow.holds Try.pinned (OpenSpec.ofChange fullExactWrong)

/-- 'deadheatkeep.FullFront': WHATEVER THE INPUT: true; the input reads as it did. -/
def fullFrontSpec : ChangeSpec := { name := "fullFront", fn := fun _ => fun
  | [d1, d2] => { results := [.lit (.bool true)], args := [d1, d2] }
  | _ => none }
def fullFrontRow : OpenClaim := { program := "ytipjgcklnceohaa", sum := "a344305cd5b2a3fb62eb439fad2080a01a1222327307380772557d3967082bf5", func := "deadheat/deadheatkeep.FullFront", spec := "fullFront", apart := false }
def FullFrontSaid : Prop := fullFrontRow.holds Try.pinned (OpenSpec.ofChange fullFrontSpec)

/-- ITS FALSE NEIGHBOUR: 'it returns false'. Refute it at one input. -/
def fullFrontWrong : ChangeSpec := { name := "fullFront", fn := fun _ => fun
  | [d1, d2] => { results := [.lit (.bool false)], args := [d1, d2] }
  | _ => none }
def FullFrontWrongFalsely : Prop := fullFrontRow.holds Try.pinned (OpenSpec.ofChange fullFrontWrong)

/-- 'deadheatkeep.FullSeen': WHATEVER THE INPUT: true; the input reads as it did. -/
def fullSeenSpec : ChangeSpec := { name := "fullSeen", fn := fun _ => fun
  | [d1, d2] => { results := [.lit (.bool true)], args := [d1, d2] }
  | _ => none }
def fullSeenRow : OpenClaim := { program := "ytipjgcklnceohaa", sum := "a344305cd5b2a3fb62eb439fad2080a01a1222327307380772557d3967082bf5", func := "deadheat/deadheatkeep.FullSeen", spec := "fullSeen", apart := false }
def FullSeenSaid : Prop := fullSeenRow.holds Try.pinned (OpenSpec.ofChange fullSeenSpec)

/-- ITS FALSE NEIGHBOUR: 'it returns false'. Refute it at one input. -/
def fullSeenWrong : ChangeSpec := { name := "fullSeen", fn := fun _ => fun
  | [d1, d2] => { results := [.lit (.bool false)], args := [d1, d2] }
  | _ => none }
def FullSeenWrongFalsely : Prop := fullSeenRow.holds Try.pinned (OpenSpec.ofChange fullSeenWrong)

/- THE SECOND FORM. 'bulk': how many values and letters a reading holds, each counted each time it is reached (what is shared counts as often as it is met; a slice's spare places count too). A statement '..UptoSaid' is the law's where the arguments, and the package variables that the reading takes, are together of bulk at most 1048576: NARROWER than '..Said'. Prove '..Said' where nothing that the law and all that it calls make is longer than what came in: it says more and counts as full. Else prove '..UptoSaid'. A law counts once. -/
mutual
def uptoBulk {H : Type} : DataW H → Nat
  | .lit (.string bytes) => bytes.length + 1
  | .lit _ => 1
  | .nil => 1
  | .ptr d => uptoBulk d + 1
  | .slice elems spare => uptoBulkAll elems + uptoBulkAll spare + 1
  | .agg parts => uptoBulkAll parts + 1
  | .iface _ d => uptoBulk d + 1
  | .map entries => uptoBulkEntries entries + 1
  | .held _ => 1
def uptoBulkAll {H : Type} : List (DataW H) → Nat
  | [] => 0
  | d :: r => uptoBulk d + uptoBulkAll r
def uptoBulkEntries {H : Type} : List (Lit × DataW H) → Nat
  | [] => 0
  | x :: r => uptoBulkEntry x + uptoBulkEntries r
def uptoBulkEntry {H : Type} : Lit × DataW H → Nat
  | (.string bytes, d) => bytes.length + uptoBulk d + 1
  | (_, d) => uptoBulk d + 1
 end
def uptoSmall : (H : Type) → List (DataW H) → Bool := fun _ ds => decide (uptoBulkAll ds ≤ 1048576)
def OpenSpec.upto (s : _root_.Go.ChangeSpec) : _root_.Go.OpenSpec := { _root_.Go.OpenSpec.ofChange s with cond := some uptoSmall }

/-- 'deadheatlaw.FullRuns', WHERE WHAT IT READS IS OF BULK AT MOST 1048576: true; the input reads as it did. -/
def fullRunsUptoRow : OpenClaim := { program := "ytipjgcklnceohaa", sum := "a344305cd5b2a3fb62eb439fad2080a01a1222327307380772557d3967082bf5", func := "deadheat/deadheatlaw.FullRuns", spec := "fullRuns", apart := false, narrowed := true }
def FullRunsUptoSaid : Prop := fullRunsUptoRow.holds Try.pinned (OpenSpec.upto fullRunsSpec)

/-- 'deadheatlaw.FullLast', WHERE WHAT IT READS IS OF BULK AT MOST 1048576: true; the input reads as it did. -/
def fullLastUptoRow : OpenClaim := { program := "ytipjgcklnceohaa", sum := "a344305cd5b2a3fb62eb439fad2080a01a1222327307380772557d3967082bf5", func := "deadheat/deadheatlaw.FullLast", spec := "fullLast", apart := false, narrowed := true }
def FullLastUptoSaid : Prop := fullLastUptoRow.holds Try.pinned (OpenSpec.upto fullLastSpec)

/-- 'deadheatkeep.FullExact', WHERE WHAT IT READS IS OF BULK AT MOST 1048576: true; the input reads as it did. -/
def fullExactUptoRow : OpenClaim := { program := "ytipjgcklnceohaa", sum := "a344305cd5b2a3fb62eb439fad2080a01a1222327307380772557d3967082bf5", func := "deadheat/deadheatkeep.FullExact", spec := "fullExact", unfollowed := true, recurses := true, apart := false, narrowed := true }
def FullExactUptoSaid : Prop := fullExactUptoRow.holds Try.pinned (OpenSpec.upto fullExactSpec)

/-- 'deadheatkeep.FullFront', WHERE WHAT IT READS IS OF BULK AT MOST 1048576: true; the input reads as it did. -/
def fullFrontUptoRow : OpenClaim := { program := "ytipjgcklnceohaa", sum := "a344305cd5b2a3fb62eb439fad2080a01a1222327307380772557d3967082bf5", func := "deadheat/deadheatkeep.FullFront", spec := "fullFront", apart := false, narrowed := true }
def FullFrontUptoSaid : Prop := fullFrontUptoRow.holds Try.pinned (OpenSpec.upto fullFrontSpec)

/-- 'deadheatkeep.FullSeen', WHERE WHAT IT READS IS OF BULK AT MOST 1048576: true; the input reads as it did. -/
def fullSeenUptoRow : OpenClaim := { program := "ytipjgcklnceohaa", sum := "a344305cd5b2a3fb62eb439fad2080a01a1222327307380772557d3967082bf5", func := "deadheat/deadheatkeep.FullSeen", spec := "fullSeen", apart := false, narrowed := true }
def FullSeenUptoSaid : Prop := fullSeenUptoRow.holds Try.pinned (OpenSpec.upto fullSeenSpec)

end Rows
end Go.Proofs.Ytipjgcklnceohaa

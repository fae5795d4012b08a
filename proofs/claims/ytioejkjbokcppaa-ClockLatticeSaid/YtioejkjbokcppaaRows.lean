/-
  No cell of these rows narrows 'for every input' (looked for: loops, veiled, ifaces, maps, wideKeys, modest, calm, conditions, laid).
  DERIVED. THE GIVEN ROWS OF THIS SEAT. 10 by the template 'for every input the law returns true; each argument reads behind the call as it read before'; 0 by the template 'total and deterministic' (their statements: YtioejkjbokcppaaTotals.lean).
  GIVEN WITH THE SEED: the statements are not yours to turn. If you find one false, say at which input.
  Laid BY PROGRAM, IN A SANDBOX (cutbox-rows.mjs): the forced cells as the released guide's own fill.sh prints them over the translation ecab1ef5317e9a24… (all of the seat's roots in one cut). By AI agents, Wed Nov 11 2026. No macro, syntax, notation, axiom, sorry.
-/
import Derived.Test.YtioejkjbokcppaaChecked
import GoSem.Claim
import GoSem.ClaimJoined
import GoSem.ClaimMapViews
import Derived.JoinedTies
import Derived.KernelRfl
namespace Go.Proofs.Ytioejkjbokcppaa
/- THE CELL 'sum', in the pinned program and in every row, IS THE sha256 OF THE DUMP (.gsa) THAT YtioejkjbokcppaaProg.lean LOADS. Nothing in Lean hashes anything: it is a label: what it is worth is what the hold of that sum in a sandbox is worth. -/
noncomputable def Try.pinned : Pinned := { name := "ytioejkjbokcppaa", sum := "ecab1ef5317e9a24a95824ae9118545c7dc580833ee5e1cda746db42b789a9c6", checked := Try.checked }
namespace Rows
def none {H : Type} : Left H := { results := [], args := [] }

/-- 'deadheatlaw.TraceChecks': WHATEVER THE INPUT: true; the input reads as it did. -/
def traceChecksSpec : ChangeSpec := { name := "traceChecks", fn := fun _ => fun
  | [d] => { results := [.lit (.bool true)], args := [d] }
  | _ => none }
def traceChecksRow : OpenClaim := { program := "ytioejkjbokcppaa", sum := "ecab1ef5317e9a24a95824ae9118545c7dc580833ee5e1cda746db42b789a9c6", func := "deadheat/deadheatlaw.TraceChecks", spec := "traceChecks", apart := false }
def TraceChecksSaid : Prop := traceChecksRow.holds Try.pinned (OpenSpec.ofChange traceChecksSpec)

/-- ITS FALSE NEIGHBOUR: 'it returns false'. Refute it at one input. -/
def traceChecksWrong : ChangeSpec := { name := "traceChecks", fn := fun _ => fun
  | [d] => { results := [.lit (.bool false)], args := [d] }
  | _ => none }
def TraceChecksWrongFalsely : Prop := traceChecksRow.holds Try.pinned (OpenSpec.ofChange traceChecksWrong)

/-- 'deadheatlaw.TraceHeld': WHATEVER THE INPUT: true; the input reads as it did. -/
def traceHeldSpec : ChangeSpec := { name := "traceHeld", fn := fun _ => fun
  | [d1, d2] => { results := [.lit (.bool true)], args := [d1, d2] }
  | _ => none }
def traceHeldRow : OpenClaim := { program := "ytioejkjbokcppaa", sum := "ecab1ef5317e9a24a95824ae9118545c7dc580833ee5e1cda746db42b789a9c6", func := "deadheat/deadheatlaw.TraceHeld", spec := "traceHeld", apart := false }
def TraceHeldSaid : Prop := traceHeldRow.holds Try.pinned (OpenSpec.ofChange traceHeldSpec)

/-- ITS FALSE NEIGHBOUR: 'it returns false'. Refute it at one input. -/
def traceHeldWrong : ChangeSpec := { name := "traceHeld", fn := fun _ => fun
  | [d1, d2] => { results := [.lit (.bool false)], args := [d1, d2] }
  | _ => none }
def TraceHeldWrongFalsely : Prop := traceHeldRow.holds Try.pinned (OpenSpec.ofChange traceHeldWrong)

/-- 'deadheatlaw.TraceThreads': WHATEVER THE INPUT: true; the input reads as it did. -/
def traceThreadsSpec : ChangeSpec := { name := "traceThreads", fn := fun _ => fun
  | [d] => { results := [.lit (.bool true)], args := [d] }
  | _ => none }
def traceThreadsRow : OpenClaim := { program := "ytioejkjbokcppaa", sum := "ecab1ef5317e9a24a95824ae9118545c7dc580833ee5e1cda746db42b789a9c6", func := "deadheat/deadheatlaw.TraceThreads", spec := "traceThreads", apart := false }
def TraceThreadsSaid : Prop := traceThreadsRow.holds Try.pinned (OpenSpec.ofChange traceThreadsSpec)

/-- ITS FALSE NEIGHBOUR: 'it returns false'. Refute it at one input. -/
def traceThreadsWrong : ChangeSpec := { name := "traceThreads", fn := fun _ => fun
  | [d] => { results := [.lit (.bool false)], args := [d] }
  | _ => none }
def TraceThreadsWrongFalsely : Prop := traceThreadsRow.holds Try.pinned (OpenSpec.ofChange traceThreadsWrong)

/-- 'deadheatkeep.TracePrefix': WHATEVER THE INPUT: true; the input reads as it did. -/
def tracePrefixSpec : ChangeSpec := { name := "tracePrefix", fn := fun _ => fun
  | [d1, d2] => { results := [.lit (.bool true)], args := [d1, d2] }
  | _ => none }
def tracePrefixRow : OpenClaim := { program := "ytioejkjbokcppaa", sum := "ecab1ef5317e9a24a95824ae9118545c7dc580833ee5e1cda746db42b789a9c6", func := "deadheat/deadheatkeep.TracePrefix", spec := "tracePrefix", apart := false }
def TracePrefixSaid : Prop := tracePrefixRow.holds Try.pinned (OpenSpec.ofChange tracePrefixSpec)

/-- ITS FALSE NEIGHBOUR: 'it returns false'. Refute it at one input. -/
def tracePrefixWrong : ChangeSpec := { name := "tracePrefix", fn := fun _ => fun
  | [d1, d2] => { results := [.lit (.bool false)], args := [d1, d2] }
  | _ => none }
def TracePrefixWrongFalsely : Prop := tracePrefixRow.holds Try.pinned (OpenSpec.ofChange tracePrefixWrong)

/-- 'deadheatkeep.TraceOwn': WHATEVER THE INPUT: true; the input reads as it did. -/
def traceOwnSpec : ChangeSpec := { name := "traceOwn", fn := fun _ => fun
  | [d] => { results := [.lit (.bool true)], args := [d] }
  | _ => none }
def traceOwnRow : OpenClaim := { program := "ytioejkjbokcppaa", sum := "ecab1ef5317e9a24a95824ae9118545c7dc580833ee5e1cda746db42b789a9c6", func := "deadheat/deadheatkeep.TraceOwn", spec := "traceOwn", apart := false }
def TraceOwnSaid : Prop := traceOwnRow.holds Try.pinned (OpenSpec.ofChange traceOwnSpec)

/-- ITS FALSE NEIGHBOUR: 'it returns false'. Refute it at one input. -/
def traceOwnWrong : ChangeSpec := { name := "traceOwn", fn := fun _ => fun
  | [d] => { results := [.lit (.bool false)], args := [d] }
  | _ => none }
def TraceOwnWrongFalsely : Prop := traceOwnRow.holds Try.pinned (OpenSpec.ofChange traceOwnWrong)

/-- 'deadheatkeep.TraceMore': WHATEVER THE INPUT: true; the input reads as it did. -/
def traceMoreSpec : ChangeSpec := { name := "traceMore", fn := fun _ => fun
  | [d1, d2, d3] => { results := [.lit (.bool true)], args := [d1, d2, d3] }
  | _ => none }
def traceMoreRow : OpenClaim := { program := "ytioejkjbokcppaa", sum := "ecab1ef5317e9a24a95824ae9118545c7dc580833ee5e1cda746db42b789a9c6", func := "deadheat/deadheatkeep.TraceMore", spec := "traceMore", apart := false }
def TraceMoreSaid : Prop := traceMoreRow.holds Try.pinned (OpenSpec.ofChange traceMoreSpec)

/-- ITS FALSE NEIGHBOUR: 'it returns false'. Refute it at one input. -/
def traceMoreWrong : ChangeSpec := { name := "traceMore", fn := fun _ => fun
  | [d1, d2, d3] => { results := [.lit (.bool false)], args := [d1, d2, d3] }
  | _ => none }
def TraceMoreWrongFalsely : Prop := traceMoreRow.holds Try.pinned (OpenSpec.ofChange traceMoreWrong)

/-- 'deadheatkeep.TraceBegun': WHATEVER THE INPUT: true; the input reads as it did. -/
def traceBegunSpec : ChangeSpec := { name := "traceBegun", fn := fun _ => fun
  | [d] => { results := [.lit (.bool true)], args := [d] }
  | _ => none }
def traceBegunRow : OpenClaim := { program := "ytioejkjbokcppaa", sum := "ecab1ef5317e9a24a95824ae9118545c7dc580833ee5e1cda746db42b789a9c6", func := "deadheat/deadheatkeep.TraceBegun", spec := "traceBegun", apart := false }
def TraceBegunSaid : Prop := traceBegunRow.holds Try.pinned (OpenSpec.ofChange traceBegunSpec)

/-- ITS FALSE NEIGHBOUR: 'it returns false'. Refute it at one input. -/
def traceBegunWrong : ChangeSpec := { name := "traceBegun", fn := fun _ => fun
  | [d] => { results := [.lit (.bool false)], args := [d] }
  | _ => none }
def TraceBegunWrongFalsely : Prop := traceBegunRow.holds Try.pinned (OpenSpec.ofChange traceBegunWrong)

/-- 'deadheatkeep.TraceLess': WHATEVER THE INPUT: true; the input reads as it did. -/
def traceLessSpec : ChangeSpec := { name := "traceLess", fn := fun _ => fun
  | [d1, d2] => { results := [.lit (.bool true)], args := [d1, d2] }
  | _ => none }
def traceLessRow : OpenClaim := { program := "ytioejkjbokcppaa", sum := "ecab1ef5317e9a24a95824ae9118545c7dc580833ee5e1cda746db42b789a9c6", func := "deadheat/deadheatkeep.TraceLess", spec := "traceLess", apart := false }
def TraceLessSaid : Prop := traceLessRow.holds Try.pinned (OpenSpec.ofChange traceLessSpec)

/-- ITS FALSE NEIGHBOUR: 'it returns false'. Refute it at one input. -/
def traceLessWrong : ChangeSpec := { name := "traceLess", fn := fun _ => fun
  | [d1, d2] => { results := [.lit (.bool false)], args := [d1, d2] }
  | _ => none }
def TraceLessWrongFalsely : Prop := traceLessRow.holds Try.pinned (OpenSpec.ofChange traceLessWrong)

/-- 'deadheatkeep.ClockLattice': WHATEVER THE INPUT: true; the input reads as it did. -/
def clockLatticeSpec : ChangeSpec := { name := "clockLattice", fn := fun _ => fun
  | [d1, d2, d3] => { results := [.lit (.bool true)], args := [d1, d2, d3] }
  | _ => none }
def clockLatticeRow : OpenClaim := { program := "ytioejkjbokcppaa", sum := "ecab1ef5317e9a24a95824ae9118545c7dc580833ee5e1cda746db42b789a9c6", func := "deadheat/deadheatkeep.ClockLattice", spec := "clockLattice", apart := false }
def ClockLatticeSaid : Prop := clockLatticeRow.holds Try.pinned (OpenSpec.ofChange clockLatticeSpec)

/-- ITS FALSE NEIGHBOUR: 'it returns false'. Refute it at one input. -/
def clockLatticeWrong : ChangeSpec := { name := "clockLattice", fn := fun _ => fun
  | [d1, d2, d3] => { results := [.lit (.bool false)], args := [d1, d2, d3] }
  | _ => none }
def ClockLatticeWrongFalsely : Prop := clockLatticeRow.holds Try.pinned (OpenSpec.ofChange clockLatticeWrong)

/-- 'deadheatkeep.ClockCounts': WHATEVER THE INPUT: true; the input reads as it did. -/
def clockCountsSpec : ChangeSpec := { name := "clockCounts", fn := fun _ => fun
  | [d1, d2] => { results := [.lit (.bool true)], args := [d1, d2] }
  | _ => none }
def clockCountsRow : OpenClaim := { program := "ytioejkjbokcppaa", sum := "ecab1ef5317e9a24a95824ae9118545c7dc580833ee5e1cda746db42b789a9c6", func := "deadheat/deadheatkeep.ClockCounts", spec := "clockCounts", apart := false }
def ClockCountsSaid : Prop := clockCountsRow.holds Try.pinned (OpenSpec.ofChange clockCountsSpec)

/-- ITS FALSE NEIGHBOUR: 'it returns false'. Refute it at one input. -/
def clockCountsWrong : ChangeSpec := { name := "clockCounts", fn := fun _ => fun
  | [d1, d2] => { results := [.lit (.bool false)], args := [d1, d2] }
  | _ => none }
def ClockCountsWrongFalsely : Prop := clockCountsRow.holds Try.pinned (OpenSpec.ofChange clockCountsWrong)

/- THE SECOND FORM. 'bulk': how many values and letters a reading holds, each counted each time it is reached (what is shared counts as often as it is met; a slice's spare places count too). A statement '..UptoSaid' is the law's where the arguments, and the package variables that the reading takes, are together of bulk at most 1048576: NARROWER than '..Said'. Prove '..Said' where nothing that the law and all that it calls make is longer than what came in: it says more and counts as full. Else prove '..UptoSaid'. A law counts once. -/
mutual
def uptoBulk {H : Type} : DataW H → Nat
  | .lit (.string bytes) => bytes.length + 1
  | .lit _ => 1
  | .nil => 1
  | .ptr d => uptoBulk d + 1
  | .slice elems spare => uptoBulkAll elems + uptoBulkAll spare + 1
  | .agg parts => uptoBulkAll parts + 1
  | .iface _ d => uptoBulk d + 1
  | .map entries => uptoBulkEntries entries + 1
  | .held _ => 1
def uptoBulkAll {H : Type} : List (DataW H) → Nat
  | [] => 0
  | d :: r => uptoBulk d + uptoBulkAll r
def uptoBulkEntries {H : Type} : List (Lit × DataW H) → Nat
  | [] => 0
  | x :: r => uptoBulkEntry x + uptoBulkEntries r
def uptoBulkEntry {H : Type} : Lit × DataW H → Nat
  | (.string bytes, d) => bytes.length + uptoBulk d + 1
  | (_, d) => uptoBulk d + 1
 end
def uptoSmall : (H : Type) → List (DataW H) → Bool := fun _ ds => decide (uptoBulkAll ds ≤ 1048576)
def OpenSpec.upto (s : _root_.Go.ChangeSpec) : _root_.Go.OpenSpec := { _root_.Go.OpenSpec.ofChange s with cond := some uptoSmall }

/-- 'deadheatlaw.TraceChecks', WHERE WHAT IT READS IS OF BULK AT MOST 1048576: true; the input reads as it did. -/
def traceChecksUptoRow : OpenClaim := { program := "ytioejkjbokcppaa", sum := "ecab1ef5317e9a24a95824ae9118545c7dc580833ee5e1cda746db42b789a9c6", func := "deadheat/deadheatlaw.TraceChecks", spec := "traceChecks", apart := false, narrowed := true }
def TraceChecksUptoSaid : Prop := traceChecksUptoRow.holds Try.pinned (OpenSpec.upto traceChecksSpec)

/-- 'deadheatlaw.TraceHeld', WHERE WHAT IT READS IS OF BULK AT MOST 1048576: true; the input reads as it did. -/
def traceHeldUptoRow : OpenClaim := { program := "ytioejkjbokcppaa", sum := "ecab1ef5317e9a24a95824ae9118545c7dc580833ee5e1cda746db42b789a9c6", func := "deadheat/deadheatlaw.TraceHeld", spec := "traceHeld", apart := false, narrowed := true }
def TraceHeldUptoSaid : Prop := traceHeldUptoRow.holds Try.pinned (OpenSpec.upto traceHeldSpec)

/-- 'deadheatlaw.TraceThreads', WHERE WHAT IT READS IS OF BULK AT MOST 1048576: true; the input reads as it did. -/
def traceThreadsUptoRow : OpenClaim := { program := "ytioejkjbokcppaa", sum := "ecab1ef5317e9a24a95824ae9118545c7dc580833ee5e1cda746db42b789a9c6", func := "deadheat/deadheatlaw.TraceThreads", spec := "traceThreads", apart := false, narrowed := true }
def TraceThreadsUptoSaid : Prop := traceThreadsUptoRow.holds Try.pinned (OpenSpec.upto traceThreadsSpec)

/-- 'deadheatkeep.TracePrefix', WHERE WHAT IT READS IS OF BULK AT MOST 1048576: true; the input reads as it did. -/
def tracePrefixUptoRow : OpenClaim := { program := "ytioejkjbokcppaa", sum := "ecab1ef5317e9a24a95824ae9118545c7dc580833ee5e1cda746db42b789a9c6", func := "deadheat/deadheatkeep.TracePrefix", spec := "tracePrefix", apart := false, narrowed := true }
def TracePrefixUptoSaid : Prop := tracePrefixUptoRow.holds Try.pinned (OpenSpec.upto tracePrefixSpec)

/-- 'deadheatkeep.TraceOwn', WHERE WHAT IT READS IS OF BULK AT MOST 1048576: true; the input reads as it did. -/
def traceOwnUptoRow : OpenClaim := { program := "ytioejkjbokcppaa", sum := "ecab1ef5317e9a24a95824ae9118545c7dc580833ee5e1cda746db42b789a9c6", func := "deadheat/deadheatkeep.TraceOwn", spec := "traceOwn", apart := false, narrowed := true }
def TraceOwnUptoSaid : Prop := traceOwnUptoRow.holds Try.pinned (OpenSpec.upto traceOwnSpec)

/-- 'deadheatkeep.TraceMore', WHERE WHAT IT READS IS OF BULK AT MOST 1048576: true; the input reads as it did. -/
def traceMoreUptoRow : OpenClaim := { program := "ytioejkjbokcppaa", sum := "ecab1ef5317e9a24a95824ae9118545c7dc580833ee5e1cda746db42b789a9c6", func := "deadheat/deadheatkeep.TraceMore", spec := "traceMore", apart := false, narrowed := true }
def TraceMoreUptoSaid : Prop := traceMoreUptoRow.holds Try.pinned (OpenSpec.upto traceMoreSpec)

/-- 'deadheatkeep.TraceBegun', WHERE WHAT IT READS IS OF BULK AT MOST 1048576: true; the input reads as it did. -/
def traceBegunUptoRow : OpenClaim := { program := "ytioejkjbokcppaa", sum := "ecab1ef5317e9a24a95824ae9118545c7dc580833ee5e1cda746db42b789a9c6", func := "deadheat/deadheatkeep.TraceBegun", spec := "traceBegun", apart := false, narrowed := true }
def TraceBegunUptoSaid : Prop := traceBegunUptoRow.holds Try.pinned (OpenSpec.upto traceBegunSpec)

/-- 'deadheatkeep.TraceLess', WHERE WHAT IT READS IS OF BULK AT MOST 1048576: true; the input reads as it did. -/
def traceLessUptoRow : OpenClaim := { program := "ytioejkjbokcppaa", sum := "ecab1ef5317e9a24a95824ae9118545c7dc580833ee5e1cda746db42b789a9c6", func := "deadheat/deadheatkeep.TraceLess", spec := "traceLess", apart := false, narrowed := true }
def TraceLessUptoSaid : Prop := traceLessUptoRow.holds Try.pinned (OpenSpec.upto traceLessSpec)

/-- 'deadheatkeep.ClockLattice', WHERE WHAT IT READS IS OF BULK AT MOST 1048576: true; the input reads as it did. -/
def clockLatticeUptoRow : OpenClaim := { program := "ytioejkjbokcppaa", sum := "ecab1ef5317e9a24a95824ae9118545c7dc580833ee5e1cda746db42b789a9c6", func := "deadheat/deadheatkeep.ClockLattice", spec := "clockLattice", apart := false, narrowed := true }
def ClockLatticeUptoSaid : Prop := clockLatticeUptoRow.holds Try.pinned (OpenSpec.upto clockLatticeSpec)

/-- 'deadheatkeep.ClockCounts', WHERE WHAT IT READS IS OF BULK AT MOST 1048576: true; the input reads as it did. -/
def clockCountsUptoRow : OpenClaim := { program := "ytioejkjbokcppaa", sum := "ecab1ef5317e9a24a95824ae9118545c7dc580833ee5e1cda746db42b789a9c6", func := "deadheat/deadheatkeep.ClockCounts", spec := "clockCounts", apart := false, narrowed := true }
def ClockCountsUptoSaid : Prop := clockCountsUptoRow.holds Try.pinned (OpenSpec.upto clockCountsSpec)

end Rows
end Go.Proofs.Ytioejkjbokcppaa

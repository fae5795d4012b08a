/-
  No cell of these rows narrows 'for every input' (looked for: loops, veiled, ifaces, maps, wideKeys, modest, calm, conditions, laid).
  DERIVED. THE GIVEN ROWS OF THIS SEAT. 10 by the template 'for every input the law returns true; each argument reads behind the call as it read before'; 0 by the template 'total and deterministic' (their statements: YteihildhlcggoaaTotals.lean).
  GIVEN WITH THE SEED: the statements are not yours to turn. If you find one false, say at which input.
  Laid BY PROGRAM, IN A SANDBOX (cutbox-rows.mjs): the forced cells as the released guide's own fill.sh prints them over the translation 917e8cc455342db2… (all of the seat's roots in one cut). By AI agents, Wed Nov 11 2026. No macro, syntax, notation, axiom, sorry.
-/
import Derived.Test.YteihildhlcggoaaChecked
import GoSem.Claim
import GoSem.ClaimJoined
import GoSem.ClaimMapViews
import Derived.JoinedTies
import Derived.KernelRfl
namespace Go.Proofs.Yteihildhlcggoaa
/- THE CELL 'sum', in the pinned program and in every row, IS THE sha256 OF THE DUMP (.gsa) THAT YteihildhlcggoaaProg.lean LOADS. Nothing in Lean hashes anything: it is a label: what it is worth is what the hold of that sum in a sandbox is worth. -/
noncomputable def Try.pinned : Pinned := { name := "yteihildhlcggoaa", sum := "917e8cc455342db205853a55cecfcae51f8e61a9368ed275af227a280dd9cd62", checked := Try.checked }
namespace Rows
def none {H : Type} : Left H := { results := [], args := [] }

/-- 'deadheatlaw.FastRuns': WHATEVER THE INPUT: true; the input reads as it did. -/
def fastRunsSpec : ChangeSpec := { name := "fastRuns", fn := fun _ => fun
  | [d] => { results := [.lit (.bool true)], args := [d] }
  | _ => none }
def fastRunsRow : OpenClaim := { program := "yteihildhlcggoaa", sum := "917e8cc455342db205853a55cecfcae51f8e61a9368ed275af227a280dd9cd62", func := "deadheat/deadheatlaw.FastRuns", spec := "fastRuns", unfollowed := true, recurses := true, apart := false }
def FastRunsSaid : Prop := fastRunsRow.holds Try.pinned (OpenSpec.ofChange fastRunsSpec)

/-- ITS FALSE NEIGHBOUR: 'it returns false'. Refute it at one input. -/
def fastRunsWrong : ChangeSpec := { name := "fastRuns", fn := fun _ => fun
  | [d] => { results := [.lit (.bool false)], args := [d] }
  | _ => none }
def FastRunsWrongFalsely : Prop := fastRunsRow.holds Try.pinned (OpenSpec.ofChange fastRunsWrong)

/-- 'deadheatlaw.FastSlow': WHATEVER THE INPUT: true; the input reads as it did. -/
def fastSlowSpec : ChangeSpec := { name := "fastSlow", fn := fun _ => fun
  | [d] => { results := [.lit (.bool true)], args := [d] }
  | _ => none }
def fastSlowRow : OpenClaim := { program := "yteihildhlcggoaa", sum := "917e8cc455342db205853a55cecfcae51f8e61a9368ed275af227a280dd9cd62", func := "deadheat/deadheatlaw.FastSlow", spec := "fastSlow", unfollowed := true, recurses := true, apart := false }
def FastSlowSaid : Prop := fastSlowRow.holds Try.pinned (OpenSpec.ofChange fastSlowSpec)

/-- ITS FALSE NEIGHBOUR: 'it returns false'. Refute it at one input. -/
def fastSlowWrong : ChangeSpec := { name := "fastSlow", fn := fun _ => fun
  | [d] => { results := [.lit (.bool false)], args := [d] }
  | _ => none }
def FastSlowWrongFalsely : Prop := fastSlowRow.holds Try.pinned (OpenSpec.ofChange fastSlowWrong)

/-- 'deadheatkeep.FastTrue': WHATEVER THE INPUT: true; the input reads as it did. -/
def fastTrueSpec : ChangeSpec := { name := "fastTrue", fn := fun _ => fun
  | [d] => { results := [.lit (.bool true)], args := [d] }
  | _ => none }
def fastTrueRow : OpenClaim := { program := "yteihildhlcggoaa", sum := "917e8cc455342db205853a55cecfcae51f8e61a9368ed275af227a280dd9cd62", func := "deadheat/deadheatkeep.FastTrue", spec := "fastTrue", unfollowed := true, recurses := true, apart := false }
def FastTrueSaid : Prop := fastTrueRow.holds Try.pinned (OpenSpec.ofChange fastTrueSpec)

/-- ITS FALSE NEIGHBOUR: 'it returns false'. Refute it at one input. -/
def fastTrueWrong : ChangeSpec := { name := "fastTrue", fn := fun _ => fun
  | [d] => { results := [.lit (.bool false)], args := [d] }
  | _ => none }
def FastTrueWrongFalsely : Prop := fastTrueRow.holds Try.pinned (OpenSpec.ofChange fastTrueWrong)

/-- 'deadheatkeep.FastFirst': WHATEVER THE INPUT: true; the input reads as it did. -/
def fastFirstSpec : ChangeSpec := { name := "fastFirst", fn := fun _ => fun
  | [d] => { results := [.lit (.bool true)], args := [d] }
  | _ => none }
def fastFirstRow : OpenClaim := { program := "yteihildhlcggoaa", sum := "917e8cc455342db205853a55cecfcae51f8e61a9368ed275af227a280dd9cd62", func := "deadheat/deadheatkeep.FastFirst", spec := "fastFirst", unfollowed := true, recurses := true, apart := false }
def FastFirstSaid : Prop := fastFirstRow.holds Try.pinned (OpenSpec.ofChange fastFirstSpec)

/-- ITS FALSE NEIGHBOUR: 'it returns false'. Refute it at one input. -/
def fastFirstWrong : ChangeSpec := { name := "fastFirst", fn := fun _ => fun
  | [d] => { results := [.lit (.bool false)], args := [d] }
  | _ => none }
def FastFirstWrongFalsely : Prop := fastFirstRow.holds Try.pinned (OpenSpec.ofChange fastFirstWrong)

/-- 'deadheatkeep.FastNone': WHATEVER THE INPUT: true; the input reads as it did. -/
def fastNoneSpec : ChangeSpec := { name := "fastNone", fn := fun _ => fun
  | [d] => { results := [.lit (.bool true)], args := [d] }
  | _ => none }
def fastNoneRow : OpenClaim := { program := "yteihildhlcggoaa", sum := "917e8cc455342db205853a55cecfcae51f8e61a9368ed275af227a280dd9cd62", func := "deadheat/deadheatkeep.FastNone", spec := "fastNone", unfollowed := true, recurses := true, apart := false }
def FastNoneSaid : Prop := fastNoneRow.holds Try.pinned (OpenSpec.ofChange fastNoneSpec)

/-- ITS FALSE NEIGHBOUR: 'it returns false'. Refute it at one input. -/
def fastNoneWrong : ChangeSpec := { name := "fastNone", fn := fun _ => fun
  | [d] => { results := [.lit (.bool false)], args := [d] }
  | _ => none }
def FastNoneWrongFalsely : Prop := fastNoneRow.holds Try.pinned (OpenSpec.ofChange fastNoneWrong)

/-- 'deadheatkeep.FastFront': WHATEVER THE INPUT: true; the input reads as it did. -/
def fastFrontSpec : ChangeSpec := { name := "fastFront", fn := fun _ => fun
  | [d1, d2] => { results := [.lit (.bool true)], args := [d1, d2] }
  | _ => none }
def fastFrontRow : OpenClaim := { program := "yteihildhlcggoaa", sum := "917e8cc455342db205853a55cecfcae51f8e61a9368ed275af227a280dd9cd62", func := "deadheat/deadheatkeep.FastFront", spec := "fastFront", unfollowed := true, recurses := true, apart := false }
def FastFrontSaid : Prop := fastFrontRow.holds Try.pinned (OpenSpec.ofChange fastFrontSpec)

/-- ITS FALSE NEIGHBOUR: 'it returns false'. Refute it at one input. -/
def fastFrontWrong : ChangeSpec := { name := "fastFront", fn := fun _ => fun
  | [d1, d2] => { results := [.lit (.bool false)], args := [d1, d2] }
  | _ => none }
def FastFrontWrongFalsely : Prop := fastFrontRow.holds Try.pinned (OpenSpec.ofChange fastFrontWrong)

/-- 'deadheatkeep.FastVars': WHATEVER THE INPUT: true; the input reads as it did. -/
def fastVarsSpec : ChangeSpec := { name := "fastVars", fn := fun _ => fun
  | [d1, d2] => { results := [.lit (.bool true)], args := [d1, d2] }
  | _ => none }
def fastVarsRow : OpenClaim := { program := "yteihildhlcggoaa", sum := "917e8cc455342db205853a55cecfcae51f8e61a9368ed275af227a280dd9cd62", func := "deadheat/deadheatkeep.FastVars", spec := "fastVars", unfollowed := true, recurses := true, apart := false }
def FastVarsSaid : Prop := fastVarsRow.holds Try.pinned (OpenSpec.ofChange fastVarsSpec)

/-- ITS FALSE NEIGHBOUR: 'it returns false'. Refute it at one input. -/
def fastVarsWrong : ChangeSpec := { name := "fastVars", fn := fun _ => fun
  | [d1, d2] => { results := [.lit (.bool false)], args := [d1, d2] }
  | _ => none }
def FastVarsWrongFalsely : Prop := fastVarsRow.holds Try.pinned (OpenSpec.ofChange fastVarsWrong)

/-- 'deadheatkeep.FastOne': WHATEVER THE INPUT: true; the input reads as it did. -/
def fastOneSpec : ChangeSpec := { name := "fastOne", fn := fun _ => fun
  | [d] => { results := [.lit (.bool true)], args := [d] }
  | _ => none }
def fastOneRow : OpenClaim := { program := "yteihildhlcggoaa", sum := "917e8cc455342db205853a55cecfcae51f8e61a9368ed275af227a280dd9cd62", func := "deadheat/deadheatkeep.FastOne", spec := "fastOne", unfollowed := true, recurses := true, apart := false }
def FastOneSaid : Prop := fastOneRow.holds Try.pinned (OpenSpec.ofChange fastOneSpec)

/-- ITS FALSE NEIGHBOUR: 'it returns false'. Refute it at one input. -/
def fastOneWrong : ChangeSpec := { name := "fastOne", fn := fun _ => fun
  | [d] => { results := [.lit (.bool false)], args := [d] }
  | _ => none }
def FastOneWrongFalsely : Prop := fastOneRow.holds Try.pinned (OpenSpec.ofChange fastOneWrong)

/-- 'deadheatkeep.FastAgain': WHATEVER THE INPUT: true; the input reads as it did. -/
def fastAgainSpec : ChangeSpec := { name := "fastAgain", fn := fun _ => fun
  | [d1, d2] => { results := [.lit (.bool true)], args := [d1, d2] }
  | _ => none }
def fastAgainRow : OpenClaim := { program := "yteihildhlcggoaa", sum := "917e8cc455342db205853a55cecfcae51f8e61a9368ed275af227a280dd9cd62", func := "deadheat/deadheatkeep.FastAgain", spec := "fastAgain", unfollowed := true, recurses := true, apart := false }
def FastAgainSaid : Prop := fastAgainRow.holds Try.pinned (OpenSpec.ofChange fastAgainSpec)

/-- ITS FALSE NEIGHBOUR: 'it returns false'. Refute it at one input. -/
def fastAgainWrong : ChangeSpec := { name := "fastAgain", fn := fun _ => fun
  | [d1, d2] => { results := [.lit (.bool false)], args := [d1, d2] }
  | _ => none }
def FastAgainWrongFalsely : Prop := fastAgainRow.holds Try.pinned (OpenSpec.ofChange fastAgainWrong)

/-- 'deadheatlaw.BoardTells': WHATEVER THE INPUT: true; the input reads as it did. -/
def boardTellsSpec : ChangeSpec := { name := "boardTells", fn := fun _ => fun
  | [d] => { results := [.lit (.bool true)], args := [d] }
  | _ => none }
def boardTellsRow : OpenClaim := { program := "yteihildhlcggoaa", sum := "917e8cc455342db205853a55cecfcae51f8e61a9368ed275af227a280dd9cd62", func := "deadheat/deadheatlaw.BoardTells", spec := "boardTells", inPlace := ["(*internal/sync.Mutex).Lock", "internal/race.Disable", "sync/atomic.CompareAndSwapInt32", "internal/race.Enable", "internal/race.Acquire", "(*internal/sync.Mutex).lockSlow", "internal/sync.runtime_canSpin", "internal/sync.runtime_doSpin", "internal/sync.throw", "internal/sync.runtime_nanotime", "internal/sync.runtime_SemacquireMutex", "sync/atomic.AddInt32", "(*internal/sync.Mutex).Unlock", "internal/race.ReleaseMerge", "(*internal/sync.Mutex).unlockSlow", "internal/sync.fatal", "internal/sync.runtime_Semrelease"], unfollowed := true, recurses := true, apart := false }
def BoardTellsSaid : Prop := boardTellsRow.holds Try.pinned (OpenSpec.ofChange boardTellsSpec)

/-- ITS FALSE NEIGHBOUR: 'it returns false'. Refute it at one input. -/
def boardTellsWrong : ChangeSpec := { name := "boardTells", fn := fun _ => fun
  | [d] => { results := [.lit (.bool false)], args := [d] }
  | _ => none }
def BoardTellsWrongFalsely : Prop := boardTellsRow.holds Try.pinned (OpenSpec.ofChange boardTellsWrong)

/- THE SECOND FORM. 'bulk': how many values and letters a reading holds, each counted each time it is reached (what is shared counts as often as it is met; a slice's spare places count too). A statement '..UptoSaid' is the law's where the arguments, and the package variables that the reading takes, are together of bulk at most 1048576: NARROWER than '..Said'. Prove '..Said' where nothing that the law and all that it calls make is longer than what came in: it says more and counts as full. Else prove '..UptoSaid'. A law counts once. -/
mutual
def uptoBulk {H : Type} : DataW H → Nat
  | .lit (.string bytes) => bytes.length + 1
  | .lit _ => 1
  | .nil => 1
  | .ptr d => uptoBulk d + 1
  | .slice elems spare => uptoBulkAll elems + uptoBulkAll spare + 1
  | .agg parts => uptoBulkAll parts + 1
  | .iface _ d => uptoBulk d + 1
  | .map entries => uptoBulkEntries entries + 1
  | .held _ => 1
def uptoBulkAll {H : Type} : List (DataW H) → Nat
  | [] => 0
  | d :: r => uptoBulk d + uptoBulkAll r
def uptoBulkEntries {H : Type} : List (Lit × DataW H) → Nat
  | [] => 0
  | x :: r => uptoBulkEntry x + uptoBulkEntries r
def uptoBulkEntry {H : Type} : Lit × DataW H → Nat
  | (.string bytes, d) => bytes.length + uptoBulk d + 1
  | (_, d) => uptoBulk d + 1
 end
def uptoSmall : (H : Type) → List (DataW H) → Bool := fun _ ds => decide (uptoBulkAll ds ≤ 1048576)
def OpenSpec.upto (s : _root_.Go.ChangeSpec) : _root_.Go.OpenSpec := { _root_.Go.OpenSpec.ofChange s with cond := some uptoSmall }

/-- 'deadheatlaw.FastRuns', WHERE WHAT IT READS IS OF BULK AT MOST 1048576: true; the input reads as it did. -/
def fastRunsUptoRow : OpenClaim := { program := "yteihildhlcggoaa", sum := "917e8cc455342db205853a55cecfcae51f8e61a9368ed275af227a280dd9cd62", func := "deadheat/deadheatlaw.FastRuns", spec := "fastRuns", unfollowed := true, recurses := true, apart := false, narrowed := true }
def FastRunsUptoSaid : Prop := fastRunsUptoRow.holds Try.pinned (OpenSpec.upto fastRunsSpec)

/-- 'deadheatlaw.FastSlow', WHERE WHAT IT READS IS OF BULK AT MOST 1048576: true; the input reads as it did. -/
def fastSlowUptoRow : OpenClaim := { program := "yteihildhlcggoaa", sum := "917e8cc455342db205853a55cecfcae51f8e61a9368ed275af227a280dd9cd62", func := "deadheat/deadheatlaw.FastSlow", spec := "fastSlow", unfollowed := true, recurses := true, apart := false, narrowed := true }
def FastSlowUptoSaid : Prop := fastSlowUptoRow.holds Try.pinned (OpenSpec.upto fastSlowSpec)

/-- 'deadheatkeep.FastTrue', WHERE WHAT IT READS IS OF BULK AT MOST 1048576: true; the input reads as it did. -/
def fastTrueUptoRow : OpenClaim := { program := "yteihildhlcggoaa", sum := "917e8cc455342db205853a55cecfcae51f8e61a9368ed275af227a280dd9cd62", func := "deadheat/deadheatkeep.FastTrue", spec := "fastTrue", unfollowed := true, recurses := true, apart := false, narrowed := true }
def FastTrueUptoSaid : Prop := fastTrueUptoRow.holds Try.pinned (OpenSpec.upto fastTrueSpec)

/-- 'deadheatkeep.FastFirst', WHERE WHAT IT READS IS OF BULK AT MOST 1048576: true; the input reads as it did. -/
def fastFirstUptoRow : OpenClaim := { program := "yteihildhlcggoaa", sum := "917e8cc455342db205853a55cecfcae51f8e61a9368ed275af227a280dd9cd62", func := "deadheat/deadheatkeep.FastFirst", spec := "fastFirst", unfollowed := true, recurses := true, apart := false, narrowed := true }
def FastFirstUptoSaid : Prop := fastFirstUptoRow.holds Try.pinned (OpenSpec.upto fastFirstSpec)

/-- 'deadheatkeep.FastNone', WHERE WHAT IT READS IS OF BULK AT MOST 1048576: true; the input reads as it did. -/
def fastNoneUptoRow : OpenClaim := { program := "yteihildhlcggoaa", sum := "917e8cc455342db205853a55cecfcae51f8e61a9368ed275af227a280dd9cd62", func := "deadheat/deadheatkeep.FastNone", spec := "fastNone", unfollowed := true, recurses := true, apart := false, narrowed := true }
def FastNoneUptoSaid : Prop := fastNoneUptoRow.holds Try.pinned (OpenSpec.upto fastNoneSpec)

/-- 'deadheatkeep.FastFront', WHERE WHAT IT READS IS OF BULK AT MOST 1048576: true; the input reads as it did. -/
def fastFrontUptoRow : OpenClaim := { program := "yteihildhlcggoaa", sum := "917e8cc455342db205853a55cecfcae51f8e61a9368ed275af227a280dd9cd62", func := "deadheat/deadheatkeep.FastFront", spec := "fastFront", unfollowed := true, recurses := true, apart := false, narrowed := true }
def FastFrontUptoSaid : Prop := fastFrontUptoRow.holds Try.pinned (OpenSpec.upto fastFrontSpec)

/-- 'deadheatkeep.FastVars', WHERE WHAT IT READS IS OF BULK AT MOST 1048576: true; the input reads as it did. -/
def fastVarsUptoRow : OpenClaim := { program := "yteihildhlcggoaa", sum := "917e8cc455342db205853a55cecfcae51f8e61a9368ed275af227a280dd9cd62", func := "deadheat/deadheatkeep.FastVars", spec := "fastVars", unfollowed := true, recurses := true, apart := false, narrowed := true }
def FastVarsUptoSaid : Prop := fastVarsUptoRow.holds Try.pinned (OpenSpec.upto fastVarsSpec)

/-- 'deadheatkeep.FastOne', WHERE WHAT IT READS IS OF BULK AT MOST 1048576: true; the input reads as it did. -/
def fastOneUptoRow : OpenClaim := { program := "yteihildhlcggoaa", sum := "917e8cc455342db205853a55cecfcae51f8e61a9368ed275af227a280dd9cd62", func := "deadheat/deadheatkeep.FastOne", spec := "fastOne", unfollowed := true, recurses := true, apart := false, narrowed := true }
def FastOneUptoSaid : Prop := fastOneUptoRow.holds Try.pinned (OpenSpec.upto fastOneSpec)

/-- 'deadheatkeep.FastAgain', WHERE WHAT IT READS IS OF BULK AT MOST 1048576: true; the input reads as it did. -/
def fastAgainUptoRow : OpenClaim := { program := "yteihildhlcggoaa", sum := "917e8cc455342db205853a55cecfcae51f8e61a9368ed275af227a280dd9cd62", func := "deadheat/deadheatkeep.FastAgain", spec := "fastAgain", unfollowed := true, recurses := true, apart := false, narrowed := true }
def FastAgainUptoSaid : Prop := fastAgainUptoRow.holds Try.pinned (OpenSpec.upto fastAgainSpec)

/-- 'deadheatlaw.BoardTells', WHERE WHAT IT READS IS OF BULK AT MOST 1048576: true; the input reads as it did. -/
def boardTellsUptoRow : OpenClaim := { program := "yteihildhlcggoaa", sum := "917e8cc455342db205853a55cecfcae51f8e61a9368ed275af227a280dd9cd62", func := "deadheat/deadheatlaw.BoardTells", spec := "boardTells", inPlace := ["(*internal/sync.Mutex).Lock", "internal/race.Disable", "sync/atomic.CompareAndSwapInt32", "internal/race.Enable", "internal/race.Acquire", "(*internal/sync.Mutex).lockSlow", "internal/sync.runtime_canSpin", "internal/sync.runtime_doSpin", "internal/sync.throw", "internal/sync.runtime_nanotime", "internal/sync.runtime_SemacquireMutex", "sync/atomic.AddInt32", "(*internal/sync.Mutex).Unlock", "internal/race.ReleaseMerge", "(*internal/sync.Mutex).unlockSlow", "internal/sync.fatal", "internal/sync.runtime_Semrelease"], unfollowed := true, recurses := true, apart := false, narrowed := true }
def BoardTellsUptoSaid : Prop := boardTellsUptoRow.holds Try.pinned (OpenSpec.upto boardTellsSpec)

end Rows
end Go.Proofs.Yteihildhlcggoaa

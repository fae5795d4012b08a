/-
  No cell of these rows narrows 'for every input' (looked for: loops, veiled, ifaces, maps, wideKeys, modest, calm, conditions, laid).
  DERIVED. THE GIVEN ROWS OF THIS SEAT. 8 by the template 'for every input the law returns true; each argument reads behind the call as it read before'; 0 by the template 'total and deterministic' (their statements: YtlifmedkadjdcaaTotals.lean).
  GIVEN WITH THE SEED: the statements are not yours to turn. If you find one false, say at which input.
  Laid BY PROGRAM, IN A SANDBOX (cutbox-rows.mjs): the forced cells as the released guide's own fill.sh prints them over the translation 74fe385d356d3f0a… (all of the seat's roots in one cut). By AI agents, Wed Nov 11 2026. No macro, syntax, notation, axiom, sorry.
-/
import Derived.Test.YtlifmedkadjdcaaChecked
import GoSem.Claim
import GoSem.ClaimJoined
import GoSem.ClaimMapViews
import Derived.JoinedTies
import Derived.KernelRfl
namespace Go.Proofs.Ytlifmedkadjdcaa
/- THE CELL 'sum', in the pinned program and in every row, IS THE sha256 OF THE DUMP (.gsa) THAT YtlifmedkadjdcaaProg.lean LOADS. Nothing in Lean hashes anything: it is a label: what it is worth is what the hold of that sum in a sandbox is worth. -/
noncomputable def Try.pinned : Pinned := { name := "ytlifmedkadjdcaa", sum := "74fe385d356d3f0a0fb8a4308ccd80316e3d6295d4446c25e3b9e4a66b22285d", checked := Try.checked }
namespace Rows
def none {H : Type} : Left H := { results := [], args := [] }

/-- 'deadheatlaw.GuardTells': WHATEVER THE INPUT: true; the input reads as it did. -/
def guardTellsSpec : ChangeSpec := { name := "guardTells", fn := fun _ => fun
  | [d] => { results := [.lit (.bool true)], args := [d] }
  | _ => none }
def guardTellsRow : OpenClaim := { program := "ytlifmedkadjdcaa", sum := "74fe385d356d3f0a0fb8a4308ccd80316e3d6295d4446c25e3b9e4a66b22285d", func := "deadheat/deadheatlaw.GuardTells", spec := "guardTells", unfollowed := true, recurses := true, apart := false }
def GuardTellsSaid : Prop := guardTellsRow.holds Try.pinned (OpenSpec.ofChange guardTellsSpec)

/-- ITS FALSE NEIGHBOUR: 'it returns false'. Refute it at one input. -/
def guardTellsWrong : ChangeSpec := { name := "guardTells", fn := fun _ => fun
  | [d] => { results := [.lit (.bool false)], args := [d] }
  | _ => none }
def GuardTellsWrongFalsely : Prop := guardTellsRow.holds Try.pinned (OpenSpec.ofChange guardTellsWrong)

/-- 'deadheatlaw.GuardWarns': WHATEVER THE INPUT: true; the input reads as it did. -/
def guardWarnsSpec : ChangeSpec := { name := "guardWarns", fn := fun _ => fun
  | [d] => { results := [.lit (.bool true)], args := [d] }
  | _ => none }
def guardWarnsRow : OpenClaim := { program := "ytlifmedkadjdcaa", sum := "74fe385d356d3f0a0fb8a4308ccd80316e3d6295d4446c25e3b9e4a66b22285d", func := "deadheat/deadheatlaw.GuardWarns", spec := "guardWarns", unfollowed := true, recurses := true, apart := false }
def GuardWarnsSaid : Prop := guardWarnsRow.holds Try.pinned (OpenSpec.ofChange guardWarnsSpec)

/-- ITS FALSE NEIGHBOUR: 'it returns false'. Refute it at one input. -/
def guardWarnsWrong : ChangeSpec := { name := "guardWarns", fn := fun _ => fun
  | [d] => { results := [.lit (.bool false)], args := [d] }
  | _ => none }
def GuardWarnsWrongFalsely : Prop := guardWarnsRow.holds Try.pinned (OpenSpec.ofChange guardWarnsWrong)

/-- 'deadheatlaw.GuardCommon': WHATEVER THE INPUT: true; the input reads as it did. -/
def guardCommonSpec : ChangeSpec := { name := "guardCommon", fn := fun _ => fun
  | [d1, d2] => { results := [.lit (.bool true)], args := [d1, d2] }
  | _ => none }
def guardCommonRow : OpenClaim := { program := "ytlifmedkadjdcaa", sum := "74fe385d356d3f0a0fb8a4308ccd80316e3d6295d4446c25e3b9e4a66b22285d", func := "deadheat/deadheatlaw.GuardCommon", spec := "guardCommon", unfollowed := true, recurses := true, apart := false }
def GuardCommonSaid : Prop := guardCommonRow.holds Try.pinned (OpenSpec.ofChange guardCommonSpec)

/-- ITS FALSE NEIGHBOUR: 'it returns false'. Refute it at one input. -/
def guardCommonWrong : ChangeSpec := { name := "guardCommon", fn := fun _ => fun
  | [d1, d2] => { results := [.lit (.bool false)], args := [d1, d2] }
  | _ => none }
def GuardCommonWrongFalsely : Prop := guardCommonRow.holds Try.pinned (OpenSpec.ofChange guardCommonWrong)

/-- 'deadheatkeep.GuardSafe': WHATEVER THE INPUT: true; the input reads as it did. -/
def guardSafeSpec : ChangeSpec := { name := "guardSafe", fn := fun _ => fun
  | [d] => { results := [.lit (.bool true)], args := [d] }
  | _ => none }
def guardSafeRow : OpenClaim := { program := "ytlifmedkadjdcaa", sum := "74fe385d356d3f0a0fb8a4308ccd80316e3d6295d4446c25e3b9e4a66b22285d", func := "deadheat/deadheatkeep.GuardSafe", spec := "guardSafe", unfollowed := true, recurses := true, apart := false }
def GuardSafeSaid : Prop := guardSafeRow.holds Try.pinned (OpenSpec.ofChange guardSafeSpec)

/-- ITS FALSE NEIGHBOUR: 'it returns false'. Refute it at one input. -/
def guardSafeWrong : ChangeSpec := { name := "guardSafe", fn := fun _ => fun
  | [d] => { results := [.lit (.bool false)], args := [d] }
  | _ => none }
def GuardSafeWrongFalsely : Prop := guardSafeRow.holds Try.pinned (OpenSpec.ofChange guardSafeWrong)

/-- 'deadheatkeep.GuardKeeps': WHATEVER THE INPUT: true; the input reads as it did. -/
def guardKeepsSpec : ChangeSpec := { name := "guardKeeps", fn := fun _ => fun
  | [d] => { results := [.lit (.bool true)], args := [d] }
  | _ => none }
def guardKeepsRow : OpenClaim := { program := "ytlifmedkadjdcaa", sum := "74fe385d356d3f0a0fb8a4308ccd80316e3d6295d4446c25e3b9e4a66b22285d", func := "deadheat/deadheatkeep.GuardKeeps", spec := "guardKeeps", unfollowed := true, recurses := true, apart := false }
def GuardKeepsSaid : Prop := guardKeepsRow.holds Try.pinned (OpenSpec.ofChange guardKeepsSpec)

/-- ITS FALSE NEIGHBOUR: 'it returns false'. Refute it at one input. -/
def guardKeepsWrong : ChangeSpec := { name := "guardKeeps", fn := fun _ => fun
  | [d] => { results := [.lit (.bool false)], args := [d] }
  | _ => none }
def GuardKeepsWrongFalsely : Prop := guardKeepsRow.holds Try.pinned (OpenSpec.ofChange guardKeepsWrong)

/-- 'deadheatkeep.GuardStates': WHATEVER THE INPUT: true; the input reads as it did. -/
def guardStatesSpec : ChangeSpec := { name := "guardStates", fn := fun _ => fun
  | [d] => { results := [.lit (.bool true)], args := [d] }
  | _ => none }
def guardStatesRow : OpenClaim := { program := "ytlifmedkadjdcaa", sum := "74fe385d356d3f0a0fb8a4308ccd80316e3d6295d4446c25e3b9e4a66b22285d", func := "deadheat/deadheatkeep.GuardStates", spec := "guardStates", unfollowed := true, recurses := true, apart := false }
def GuardStatesSaid : Prop := guardStatesRow.holds Try.pinned (OpenSpec.ofChange guardStatesSpec)

/-- ITS FALSE NEIGHBOUR: 'it returns false'. Refute it at one input. -/
def guardStatesWrong : ChangeSpec := { name := "guardStates", fn := fun _ => fun
  | [d] => { results := [.lit (.bool false)], args := [d] }
  | _ => none }
def GuardStatesWrongFalsely : Prop := guardStatesRow.holds Try.pinned (OpenSpec.ofChange guardStatesWrong)

/-- 'deadheatkeep.GuardFront': WHATEVER THE INPUT: true; the input reads as it did. -/
def guardFrontSpec : ChangeSpec := { name := "guardFront", fn := fun _ => fun
  | [d1, d2] => { results := [.lit (.bool true)], args := [d1, d2] }
  | _ => none }
def guardFrontRow : OpenClaim := { program := "ytlifmedkadjdcaa", sum := "74fe385d356d3f0a0fb8a4308ccd80316e3d6295d4446c25e3b9e4a66b22285d", func := "deadheat/deadheatkeep.GuardFront", spec := "guardFront", unfollowed := true, recurses := true, apart := false }
def GuardFrontSaid : Prop := guardFrontRow.holds Try.pinned (OpenSpec.ofChange guardFrontSpec)

/-- ITS FALSE NEIGHBOUR: 'it returns false'. Refute it at one input. -/
def guardFrontWrong : ChangeSpec := { name := "guardFront", fn := fun _ => fun
  | [d1, d2] => { results := [.lit (.bool false)], args := [d1, d2] }
  | _ => none }
def GuardFrontWrongFalsely : Prop := guardFrontRow.holds Try.pinned (OpenSpec.ofChange guardFrontWrong)

/-- 'deadheatkeep.GuardOne': WHATEVER THE INPUT: true; the input reads as it did. -/
def guardOneSpec : ChangeSpec := { name := "guardOne", fn := fun _ => fun
  | [d1, d2] => { results := [.lit (.bool true)], args := [d1, d2] }
  | _ => none }
def guardOneRow : OpenClaim := { program := "ytlifmedkadjdcaa", sum := "74fe385d356d3f0a0fb8a4308ccd80316e3d6295d4446c25e3b9e4a66b22285d", func := "deadheat/deadheatkeep.GuardOne", spec := "guardOne", unfollowed := true, recurses := true, apart := false }
def GuardOneSaid : Prop := guardOneRow.holds Try.pinned (OpenSpec.ofChange guardOneSpec)

/-- ITS FALSE NEIGHBOUR: 'it returns false'. Refute it at one input. -/
def guardOneWrong : ChangeSpec := { name := "guardOne", fn := fun _ => fun
  | [d1, d2] => { results := [.lit (.bool false)], args := [d1, d2] }
  | _ => none }
def GuardOneWrongFalsely : Prop := guardOneRow.holds Try.pinned (OpenSpec.ofChange guardOneWrong)

/- THE SECOND FORM. 'bulk': how many values and letters a reading holds, each counted each time it is reached (what is shared counts as often as it is met; a slice's spare places count too). A statement '..UptoSaid' is the law's where the arguments, and the package variables that the reading takes, are together of bulk at most 1048576: NARROWER than '..Said'. Prove '..Said' where nothing that the law and all that it calls make is longer than what came in: it says more and counts as full. Else prove '..UptoSaid'. A law counts once. -/
mutual
def uptoBulk {H : Type} : DataW H → Nat
  | .lit (.string bytes) => bytes.length + 1
  | .lit _ => 1
  | .nil => 1
  | .ptr d => uptoBulk d + 1
  | .slice elems spare => uptoBulkAll elems + uptoBulkAll spare + 1
  | .agg parts => uptoBulkAll parts + 1
  | .iface _ d => uptoBulk d + 1
  | .map entries => uptoBulkEntries entries + 1
  | .held _ => 1
def uptoBulkAll {H : Type} : List (DataW H) → Nat
  | [] => 0
  | d :: r => uptoBulk d + uptoBulkAll r
def uptoBulkEntries {H : Type} : List (Lit × DataW H) → Nat
  | [] => 0
  | x :: r => uptoBulkEntry x + uptoBulkEntries r
def uptoBulkEntry {H : Type} : Lit × DataW H → Nat
  | (.string bytes, d) => bytes.length + uptoBulk d + 1
  | (_, d) => uptoBulk d + 1
 end
def uptoSmall : (H : Type) → List (DataW H) → Bool := fun _ ds => decide (uptoBulkAll ds ≤ 1048576)
def OpenSpec.upto (s : _root_.Go.ChangeSpec) : _root_.Go.OpenSpec := { _root_.Go.OpenSpec.ofChange s with cond := some uptoSmall }

/-- 'deadheatlaw.GuardTells', WHERE WHAT IT READS IS OF BULK AT MOST 1048576: true; the input reads as it did. -/
def guardTellsUptoRow : OpenClaim := { program := "ytlifmedkadjdcaa", sum := "74fe385d356d3f0a0fb8a4308ccd80316e3d6295d4446c25e3b9e4a66b22285d", func := "deadheat/deadheatlaw.GuardTells", spec := "guardTells", unfollowed := true, recurses := true, apart := false, narrowed := true }
def GuardTellsUptoSaid : Prop := guardTellsUptoRow.holds Try.pinned (OpenSpec.upto guardTellsSpec)

/-- 'deadheatlaw.GuardWarns', WHERE WHAT IT READS IS OF BULK AT MOST 1048576: true; the input reads as it did. -/
def guardWarnsUptoRow : OpenClaim := { program := "ytlifmedkadjdcaa", sum := "74fe385d356d3f0a0fb8a4308ccd80316e3d6295d4446c25e3b9e4a66b22285d", func := "deadheat/deadheatlaw.GuardWarns", spec := "guardWarns", unfollowed := true, recurses := true, apart := false, narrowed := true }
def GuardWarnsUptoSaid : Prop := guardWarnsUptoRow.holds Try.pinned (OpenSpec.upto guardWarnsSpec)

/-- 'deadheatlaw.GuardCommon', WHERE WHAT IT READS IS OF BULK AT MOST 1048576: true; the input reads as it did. -/
def guardCommonUptoRow : OpenClaim := { program := "ytlifmedkadjdcaa", sum := "74fe385d356d3f0a0fb8a4308ccd80316e3d6295d4446c25e3b9e4a66b22285d", func := "deadheat/deadheatlaw.GuardCommon", spec := "guardCommon", unfollowed := true, recurses := true, apart := false, narrowed := true }
def GuardCommonUptoSaid : Prop := guardCommonUptoRow.holds Try.pinned (OpenSpec.upto guardCommonSpec)

/-- 'deadheatkeep.GuardSafe', WHERE WHAT IT READS IS OF BULK AT MOST 1048576: true; the input reads as it did. -/
def guardSafeUptoRow : OpenClaim := { program := "ytlifmedkadjdcaa", sum := "74fe385d356d3f0a0fb8a4308ccd80316e3d6295d4446c25e3b9e4a66b22285d", func := "deadheat/deadheatkeep.GuardSafe", spec := "guardSafe", unfollowed := true, recurses := true, apart := false, narrowed := true }
def GuardSafeUptoSaid : Prop := guardSafeUptoRow.holds Try.pinned (OpenSpec.upto guardSafeSpec)

/-- 'deadheatkeep.GuardKeeps', WHERE WHAT IT READS IS OF BULK AT MOST 1048576: true; the input reads as it did. -/
def guardKeepsUptoRow : OpenClaim := { program := "ytlifmedkadjdcaa", sum := "74fe385d356d3f0a0fb8a4308ccd80316e3d6295d4446c25e3b9e4a66b22285d", func := "deadheat/deadheatkeep.GuardKeeps", spec := "guardKeeps", unfollowed := true, recurses := true, apart := false, narrowed := true }
def GuardKeepsUptoSaid : Prop := guardKeepsUptoRow.holds Try.pinned (OpenSpec.upto guardKeepsSpec)

/-- 'deadheatkeep.GuardStates', WHERE WHAT IT READS IS OF BULK AT MOST 1048576: true; the input reads as it did. -/
def guardStatesUptoRow : OpenClaim := { program := "ytlifmedkadjdcaa", sum := "74fe385d356d3f0a0fb8a4308ccd80316e3d6295d4446c25e3b9e4a66b22285d", func := "deadheat/deadheatkeep.GuardStates", spec := "guardStates", unfollowed := true, recurses := true, apart := false, narrowed := true }
def GuardStatesUptoSaid : Prop := guardStatesUptoRow.holds Try.pinned (OpenSpec.upto guardStatesSpec)

/-- 'deadheatkeep.GuardFront', WHERE WHAT IT READS IS OF BULK AT MOST 1048576: true; the input reads as it did. -/
def guardFrontUptoRow : OpenClaim := { program := "ytlifmedkadjdcaa", sum := "74fe385d356d3f0a0fb8a4308ccd80316e3d6295d4446c25e3b9e4a66b22285d", func := "deadheat/deadheatkeep.GuardFront", spec := "guardFront", unfollowed := true, recurses := true, apart := false, narrowed := true }
def GuardFrontUptoSaid : Prop := guardFrontUptoRow.holds Try.pinned (OpenSpec.upto guardFrontSpec)

/-- 'deadheatkeep.GuardOne', WHERE WHAT IT READS IS OF BULK AT MOST 1048576: true; the input reads as it did. -/
def guardOneUptoRow : OpenClaim := { program := "ytlifmedkadjdcaa", sum := "74fe385d356d3f0a0fb8a4308ccd80316e3d6295d4446c25e3b9e4a66b22285d", func := "deadheat/deadheatkeep.GuardOne", spec := "guardOne", unfollowed := true, recurses := true, apart := false, narrowed := true }
def GuardOneUptoSaid : Prop := guardOneUptoRow.holds Try.pinned (OpenSpec.upto guardOneSpec)

end Rows
end Go.Proofs.Ytlifmedkadjdcaa

/-
  No cell of these rows narrows 'for every input' (looked for: loops, veiled, ifaces, maps, wideKeys, modest, calm, conditions, laid).
  DERIVED. THE GIVEN ROWS OF THIS SEAT. 7 by the template 'for every input the law returns true; each argument reads behind the call as it read before'; 0 by the template 'total and deterministic' (their statements: YtfmkbjgkicipcaaTotals.lean).
  GIVEN WITH THE SEED: the statements are not yours to turn. If you find one false, say at which input.
  Laid BY PROGRAM, IN A SANDBOX (cutbox-rows.mjs): the forced cells as the released guide's own fill.sh prints them over the translation 7f9ec24a87197b93… (all of the seat's roots in one cut). By AI agents, Wed Nov 11 2026. No macro, syntax, notation, axiom, sorry.
-/
import Derived.Test.YtfmkbjgkicipcaaChecked
import GoSem.Claim
import GoSem.ClaimJoined
import GoSem.ClaimMapViews
import Derived.JoinedTies
import Derived.KernelRfl
namespace Go.Proofs.Ytfmkbjgkicipcaa
/- THE CELL 'sum', in the pinned program and in every row, IS THE sha256 OF THE DUMP (.gsa) THAT YtfmkbjgkicipcaaProg.lean LOADS. Nothing in Lean hashes anything: it is a label: what it is worth is what the hold of that sum in a sandbox is worth. -/
noncomputable def Try.pinned : Pinned := { name := "ytfmkbjgkicipcaa", sum := "7f9ec24a87197b934b4912cfe0181b1e3b038050a376d146cd1d59617430dd76", checked := Try.checked }
namespace Rows
def none {H : Type} : Left H := { results := [], args := [] }

/-- 'deadheatlaw.StampTells': WHATEVER THE INPUT: true; the input reads as it did. -/
def stampTellsSpec : ChangeSpec := { name := "stampTells", fn := fun _ => fun
  | [d] => { results := [.lit (.bool true)], args := [d] }
  | _ => none }
def stampTellsRow : OpenClaim := { program := "ytfmkbjgkicipcaa", sum := "7f9ec24a87197b934b4912cfe0181b1e3b038050a376d146cd1d59617430dd76", func := "deadheat/deadheatlaw.StampTells", spec := "stampTells", unfollowed := true, recurses := true, plainKeys := false, apart := false }
def StampTellsSaid : Prop := stampTellsRow.holds Try.pinned (OpenSpec.ofChange stampTellsSpec)

/-- ITS FALSE NEIGHBOUR: 'it returns false'. Refute it at one input. -/
def stampTellsWrong : ChangeSpec := { name := "stampTells", fn := fun _ => fun
  | [d] => { results := [.lit (.bool false)], args := [d] }
  | _ => none }
def StampTellsWrongFalsely : Prop := stampTellsRow.holds Try.pinned (OpenSpec.ofChange stampTellsWrong)

/-- 'deadheatlaw.StampKnows': WHATEVER THE INPUT: true; the input reads as it did. -/
def stampKnowsSpec : ChangeSpec := { name := "stampKnows", fn := fun _ => fun
  | [d1, d2] => { results := [.lit (.bool true)], args := [d1, d2] }
  | _ => none }
def stampKnowsRow : OpenClaim := { program := "ytfmkbjgkicipcaa", sum := "7f9ec24a87197b934b4912cfe0181b1e3b038050a376d146cd1d59617430dd76", func := "deadheat/deadheatlaw.StampKnows", spec := "stampKnows", unfollowed := true, recurses := true, plainKeys := false, apart := false }
def StampKnowsSaid : Prop := stampKnowsRow.holds Try.pinned (OpenSpec.ofChange stampKnowsSpec)

/-- ITS FALSE NEIGHBOUR: 'it returns false'. Refute it at one input. -/
def stampKnowsWrong : ChangeSpec := { name := "stampKnows", fn := fun _ => fun
  | [d1, d2] => { results := [.lit (.bool false)], args := [d1, d2] }
  | _ => none }
def StampKnowsWrongFalsely : Prop := stampKnowsRow.holds Try.pinned (OpenSpec.ofChange stampKnowsWrong)

/-- 'deadheatkeep.StampMattern': WHATEVER THE INPUT: true; the input reads as it did. -/
def stampMatternSpec : ChangeSpec := { name := "stampMattern", fn := fun _ => fun
  | [d] => { results := [.lit (.bool true)], args := [d] }
  | _ => none }
def stampMatternRow : OpenClaim := { program := "ytfmkbjgkicipcaa", sum := "7f9ec24a87197b934b4912cfe0181b1e3b038050a376d146cd1d59617430dd76", func := "deadheat/deadheatkeep.StampMattern", spec := "stampMattern", unfollowed := true, recurses := true, plainKeys := false, apart := false }
def StampMatternSaid : Prop := stampMatternRow.holds Try.pinned (OpenSpec.ofChange stampMatternSpec)

/-- ITS FALSE NEIGHBOUR: 'it returns false'. Refute it at one input. -/
def stampMatternWrong : ChangeSpec := { name := "stampMattern", fn := fun _ => fun
  | [d] => { results := [.lit (.bool false)], args := [d] }
  | _ => none }
def StampMatternWrongFalsely : Prop := stampMatternRow.holds Try.pinned (OpenSpec.ofChange stampMatternWrong)

/-- 'deadheatkeep.StampOwn': WHATEVER THE INPUT: true; the input reads as it did. -/
def stampOwnSpec : ChangeSpec := { name := "stampOwn", fn := fun _ => fun
  | [d] => { results := [.lit (.bool true)], args := [d] }
  | _ => none }
def stampOwnRow : OpenClaim := { program := "ytfmkbjgkicipcaa", sum := "7f9ec24a87197b934b4912cfe0181b1e3b038050a376d146cd1d59617430dd76", func := "deadheat/deadheatkeep.StampOwn", spec := "stampOwn", unfollowed := true, recurses := true, plainKeys := false, apart := false }
def StampOwnSaid : Prop := stampOwnRow.holds Try.pinned (OpenSpec.ofChange stampOwnSpec)

/-- ITS FALSE NEIGHBOUR: 'it returns false'. Refute it at one input. -/
def stampOwnWrong : ChangeSpec := { name := "stampOwn", fn := fun _ => fun
  | [d] => { results := [.lit (.bool false)], args := [d] }
  | _ => none }
def StampOwnWrongFalsely : Prop := stampOwnRow.holds Try.pinned (OpenSpec.ofChange stampOwnWrong)

/-- 'deadheatkeep.StampRises': WHATEVER THE INPUT: true; the input reads as it did. -/
def stampRisesSpec : ChangeSpec := { name := "stampRises", fn := fun _ => fun
  | [d] => { results := [.lit (.bool true)], args := [d] }
  | _ => none }
def stampRisesRow : OpenClaim := { program := "ytfmkbjgkicipcaa", sum := "7f9ec24a87197b934b4912cfe0181b1e3b038050a376d146cd1d59617430dd76", func := "deadheat/deadheatkeep.StampRises", spec := "stampRises", unfollowed := true, recurses := true, plainKeys := false, apart := false }
def StampRisesSaid : Prop := stampRisesRow.holds Try.pinned (OpenSpec.ofChange stampRisesSpec)

/-- ITS FALSE NEIGHBOUR: 'it returns false'. Refute it at one input. -/
def stampRisesWrong : ChangeSpec := { name := "stampRises", fn := fun _ => fun
  | [d] => { results := [.lit (.bool false)], args := [d] }
  | _ => none }
def StampRisesWrongFalsely : Prop := stampRisesRow.holds Try.pinned (OpenSpec.ofChange stampRisesWrong)

/-- 'deadheatkeep.StampPasses': WHATEVER THE INPUT: true; the input reads as it did. -/
def stampPassesSpec : ChangeSpec := { name := "stampPasses", fn := fun _ => fun
  | [d] => { results := [.lit (.bool true)], args := [d] }
  | _ => none }
def stampPassesRow : OpenClaim := { program := "ytfmkbjgkicipcaa", sum := "7f9ec24a87197b934b4912cfe0181b1e3b038050a376d146cd1d59617430dd76", func := "deadheat/deadheatkeep.StampPasses", spec := "stampPasses", unfollowed := true, recurses := true, plainKeys := false, apart := false }
def StampPassesSaid : Prop := stampPassesRow.holds Try.pinned (OpenSpec.ofChange stampPassesSpec)

/-- ITS FALSE NEIGHBOUR: 'it returns false'. Refute it at one input. -/
def stampPassesWrong : ChangeSpec := { name := "stampPasses", fn := fun _ => fun
  | [d] => { results := [.lit (.bool false)], args := [d] }
  | _ => none }
def StampPassesWrongFalsely : Prop := stampPassesRow.holds Try.pinned (OpenSpec.ofChange stampPassesWrong)

/-- 'deadheatkeep.StampKnown': WHATEVER THE INPUT: true; the input reads as it did. -/
def stampKnownSpec : ChangeSpec := { name := "stampKnown", fn := fun _ => fun
  | [d1, d2] => { results := [.lit (.bool true)], args := [d1, d2] }
  | _ => none }
def stampKnownRow : OpenClaim := { program := "ytfmkbjgkicipcaa", sum := "7f9ec24a87197b934b4912cfe0181b1e3b038050a376d146cd1d59617430dd76", func := "deadheat/deadheatkeep.StampKnown", spec := "stampKnown", unfollowed := true, recurses := true, plainKeys := false, apart := false }
def StampKnownSaid : Prop := stampKnownRow.holds Try.pinned (OpenSpec.ofChange stampKnownSpec)

/-- ITS FALSE NEIGHBOUR: 'it returns false'. Refute it at one input. -/
def stampKnownWrong : ChangeSpec := { name := "stampKnown", fn := fun _ => fun
  | [d1, d2] => { results := [.lit (.bool false)], args := [d1, d2] }
  | _ => none }
def StampKnownWrongFalsely : Prop := stampKnownRow.holds Try.pinned (OpenSpec.ofChange stampKnownWrong)

/- THE SECOND FORM. 'bulk': how many values and letters a reading holds, each counted each time it is reached (what is shared counts as often as it is met; a slice's spare places count too). A statement '..UptoSaid' is the law's where the arguments, and the package variables that the reading takes, are together of bulk at most 1048576: NARROWER than '..Said'. Prove '..Said' where nothing that the law and all that it calls make is longer than what came in: it says more and counts as full. Else prove '..UptoSaid'. A law counts once. -/
mutual
def uptoBulk {H : Type} : DataW H → Nat
  | .lit (.string bytes) => bytes.length + 1
  | .lit _ => 1
  | .nil => 1
  | .ptr d => uptoBulk d + 1
  | .slice elems spare => uptoBulkAll elems + uptoBulkAll spare + 1
  | .agg parts => uptoBulkAll parts + 1
  | .iface _ d => uptoBulk d + 1
  | .map entries => uptoBulkEntries entries + 1
  | .held _ => 1
def uptoBulkAll {H : Type} : List (DataW H) → Nat
  | [] => 0
  | d :: r => uptoBulk d + uptoBulkAll r
def uptoBulkEntries {H : Type} : List (Lit × DataW H) → Nat
  | [] => 0
  | x :: r => uptoBulkEntry x + uptoBulkEntries r
def uptoBulkEntry {H : Type} : Lit × DataW H → Nat
  | (.string bytes, d) => bytes.length + uptoBulk d + 1
  | (_, d) => uptoBulk d + 1
 end
def uptoSmall : (H : Type) → List (DataW H) → Bool := fun _ ds => decide (uptoBulkAll ds ≤ 1048576)
def OpenSpec.upto (s : _root_.Go.ChangeSpec) : _root_.Go.OpenSpec := { _root_.Go.OpenSpec.ofChange s with cond := some uptoSmall }

/-- 'deadheatlaw.StampTells', WHERE WHAT IT READS IS OF BULK AT MOST 1048576: true; the input reads as it did. -/
def stampTellsUptoRow : OpenClaim := { program := "ytfmkbjgkicipcaa", sum := "7f9ec24a87197b934b4912cfe0181b1e3b038050a376d146cd1d59617430dd76", func := "deadheat/deadheatlaw.StampTells", spec := "stampTells", unfollowed := true, recurses := true, plainKeys := false, apart := false, narrowed := true }
def StampTellsUptoSaid : Prop := stampTellsUptoRow.holds Try.pinned (OpenSpec.upto stampTellsSpec)

/-- 'deadheatlaw.StampKnows', WHERE WHAT IT READS IS OF BULK AT MOST 1048576: true; the input reads as it did. -/
def stampKnowsUptoRow : OpenClaim := { program := "ytfmkbjgkicipcaa", sum := "7f9ec24a87197b934b4912cfe0181b1e3b038050a376d146cd1d59617430dd76", func := "deadheat/deadheatlaw.StampKnows", spec := "stampKnows", unfollowed := true, recurses := true, plainKeys := false, apart := false, narrowed := true }
def StampKnowsUptoSaid : Prop := stampKnowsUptoRow.holds Try.pinned (OpenSpec.upto stampKnowsSpec)

/-- 'deadheatkeep.StampMattern', WHERE WHAT IT READS IS OF BULK AT MOST 1048576: true; the input reads as it did. -/
def stampMatternUptoRow : OpenClaim := { program := "ytfmkbjgkicipcaa", sum := "7f9ec24a87197b934b4912cfe0181b1e3b038050a376d146cd1d59617430dd76", func := "deadheat/deadheatkeep.StampMattern", spec := "stampMattern", unfollowed := true, recurses := true, plainKeys := false, apart := false, narrowed := true }
def StampMatternUptoSaid : Prop := stampMatternUptoRow.holds Try.pinned (OpenSpec.upto stampMatternSpec)

/-- 'deadheatkeep.StampOwn', WHERE WHAT IT READS IS OF BULK AT MOST 1048576: true; the input reads as it did. -/
def stampOwnUptoRow : OpenClaim := { program := "ytfmkbjgkicipcaa", sum := "7f9ec24a87197b934b4912cfe0181b1e3b038050a376d146cd1d59617430dd76", func := "deadheat/deadheatkeep.StampOwn", spec := "stampOwn", unfollowed := true, recurses := true, plainKeys := false, apart := false, narrowed := true }
def StampOwnUptoSaid : Prop := stampOwnUptoRow.holds Try.pinned (OpenSpec.upto stampOwnSpec)

/-- 'deadheatkeep.StampRises', WHERE WHAT IT READS IS OF BULK AT MOST 1048576: true; the input reads as it did. -/
def stampRisesUptoRow : OpenClaim := { program := "ytfmkbjgkicipcaa", sum := "7f9ec24a87197b934b4912cfe0181b1e3b038050a376d146cd1d59617430dd76", func := "deadheat/deadheatkeep.StampRises", spec := "stampRises", unfollowed := true, recurses := true, plainKeys := false, apart := false, narrowed := true }
def StampRisesUptoSaid : Prop := stampRisesUptoRow.holds Try.pinned (OpenSpec.upto stampRisesSpec)

/-- 'deadheatkeep.StampPasses', WHERE WHAT IT READS IS OF BULK AT MOST 1048576: true; the input reads as it did. -/
def stampPassesUptoRow : OpenClaim := { program := "ytfmkbjgkicipcaa", sum := "7f9ec24a87197b934b4912cfe0181b1e3b038050a376d146cd1d59617430dd76", func := "deadheat/deadheatkeep.StampPasses", spec := "stampPasses", unfollowed := true, recurses := true, plainKeys := false, apart := false, narrowed := true }
def StampPassesUptoSaid : Prop := stampPassesUptoRow.holds Try.pinned (OpenSpec.upto stampPassesSpec)

/-- 'deadheatkeep.StampKnown', WHERE WHAT IT READS IS OF BULK AT MOST 1048576: true; the input reads as it did. -/
def stampKnownUptoRow : OpenClaim := { program := "ytfmkbjgkicipcaa", sum := "7f9ec24a87197b934b4912cfe0181b1e3b038050a376d146cd1d59617430dd76", func := "deadheat/deadheatkeep.StampKnown", spec := "stampKnown", unfollowed := true, recurses := true, plainKeys := false, apart := false, narrowed := true }
def StampKnownUptoSaid : Prop := stampKnownUptoRow.holds Try.pinned (OpenSpec.upto stampKnownSpec)

end Rows
end Go.Proofs.Ytfmkbjgkicipcaa

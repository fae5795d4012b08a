/-
  No cell of these rows narrows 'for every input' (looked for: loops, veiled, ifaces, maps, wideKeys, modest, calm, conditions, laid).
  DERIVED. THE GIVEN ROWS OF THIS SEAT. 8 by the template 'for every input the law returns true; each argument reads behind the call as it read before'; 0 by the template 'total and deterministic' (their statements: YtdgoeibaekkhmaaTotals.lean).
  GIVEN WITH THE SEED: the statements are not yours to turn. If you find one false, say at which input.
  Laid BY PROGRAM, IN A SANDBOX (cutbox-rows.mjs): the forced cells as the released guide's own fill.sh prints them over the translation 5d76a90ef3662707… (all of the seat's roots in one cut). By AI agents, Wed Nov 11 2026. No macro, syntax, notation, axiom, sorry.
-/
import Derived.Test.YtdgoeibaekkhmaaChecked
import GoSem.Claim
import GoSem.ClaimJoined
import GoSem.ClaimMapViews
import Derived.JoinedTies
import Derived.KernelRfl
namespace Go.Proofs.Ytdgoeibaekkhmaa
/- THE CELL 'sum', in the pinned program and in every row, IS THE sha256 OF THE DUMP (.gsa) THAT YtdgoeibaekkhmaaProg.lean LOADS. Nothing in Lean hashes anything: it is a label: what it is worth is what the hold of that sum in a sandbox is worth. -/
noncomputable def Try.pinned : Pinned := { name := "ytdgoeibaekkhmaa", sum := "5d76a90ef36627071bcf7020bb3b2994a1dc96a1161104f029363165790f065c", checked := Try.checked }
namespace Rows
def none {H : Type} : Left H := { results := [], args := [] }

/-- 'deadheatlaw.RaceAll': WHATEVER THE INPUT: true; the input reads as it did. -/
def raceAllSpec : ChangeSpec := { name := "raceAll", fn := fun _ => fun
  | [d] => { results := [.lit (.bool true)], args := [d] }
  | _ => none }
def raceAllRow : OpenClaim := { program := "ytdgoeibaekkhmaa", sum := "5d76a90ef36627071bcf7020bb3b2994a1dc96a1161104f029363165790f065c", func := "deadheat/deadheatlaw.RaceAll", spec := "raceAll", unfollowed := true, recurses := true, plainKeys := false, apart := false }
def RaceAllSaid : Prop := raceAllRow.holds Try.pinned (OpenSpec.ofChange raceAllSpec)

/-- ITS FALSE NEIGHBOUR: 'it returns false'. Refute it at one input. -/
def raceAllWrong : ChangeSpec := { name := "raceAll", fn := fun _ => fun
  | [d] => { results := [.lit (.bool false)], args := [d] }
  | _ => none }
def RaceAllWrongFalsely : Prop := raceAllRow.holds Try.pinned (OpenSpec.ofChange raceAllWrong)

/-- 'deadheatlaw.RaceSeconds': WHATEVER THE INPUT: true; the input reads as it did. -/
def raceSecondsSpec : ChangeSpec := { name := "raceSeconds", fn := fun _ => fun
  | [d] => { results := [.lit (.bool true)], args := [d] }
  | _ => none }
def raceSecondsRow : OpenClaim := { program := "ytdgoeibaekkhmaa", sum := "5d76a90ef36627071bcf7020bb3b2994a1dc96a1161104f029363165790f065c", func := "deadheat/deadheatlaw.RaceSeconds", spec := "raceSeconds", unfollowed := true, recurses := true, plainKeys := false, apart := false }
def RaceSecondsSaid : Prop := raceSecondsRow.holds Try.pinned (OpenSpec.ofChange raceSecondsSpec)

/-- ITS FALSE NEIGHBOUR: 'it returns false'. Refute it at one input. -/
def raceSecondsWrong : ChangeSpec := { name := "raceSeconds", fn := fun _ => fun
  | [d] => { results := [.lit (.bool false)], args := [d] }
  | _ => none }
def RaceSecondsWrongFalsely : Prop := raceSecondsRow.holds Try.pinned (OpenSpec.ofChange raceSecondsWrong)

/-- 'deadheatlaw.RaceVars': WHATEVER THE INPUT: true; the input reads as it did. -/
def raceVarsSpec : ChangeSpec := { name := "raceVars", fn := fun _ => fun
  | [d1, d2] => { results := [.lit (.bool true)], args := [d1, d2] }
  | _ => none }
def raceVarsRow : OpenClaim := { program := "ytdgoeibaekkhmaa", sum := "5d76a90ef36627071bcf7020bb3b2994a1dc96a1161104f029363165790f065c", func := "deadheat/deadheatlaw.RaceVars", spec := "raceVars", unfollowed := true, recurses := true, plainKeys := false, apart := false }
def RaceVarsSaid : Prop := raceVarsRow.holds Try.pinned (OpenSpec.ofChange raceVarsSpec)

/-- ITS FALSE NEIGHBOUR: 'it returns false'. Refute it at one input. -/
def raceVarsWrong : ChangeSpec := { name := "raceVars", fn := fun _ => fun
  | [d1, d2] => { results := [.lit (.bool false)], args := [d1, d2] }
  | _ => none }
def RaceVarsWrongFalsely : Prop := raceVarsRow.holds Try.pinned (OpenSpec.ofChange raceVarsWrong)

/-- 'deadheatkeep.RacePairs': WHATEVER THE INPUT: true; the input reads as it did. -/
def racePairsSpec : ChangeSpec := { name := "racePairs", fn := fun _ => fun
  | [d] => { results := [.lit (.bool true)], args := [d] }
  | _ => none }
def racePairsRow : OpenClaim := { program := "ytdgoeibaekkhmaa", sum := "5d76a90ef36627071bcf7020bb3b2994a1dc96a1161104f029363165790f065c", func := "deadheat/deadheatkeep.RacePairs", spec := "racePairs", unfollowed := true, recurses := true, plainKeys := false, apart := false }
def RacePairsSaid : Prop := racePairsRow.holds Try.pinned (OpenSpec.ofChange racePairsSpec)

/-- ITS FALSE NEIGHBOUR: 'it returns false'. Refute it at one input. -/
def racePairsWrong : ChangeSpec := { name := "racePairs", fn := fun _ => fun
  | [d] => { results := [.lit (.bool false)], args := [d] }
  | _ => none }
def RacePairsWrongFalsely : Prop := racePairsRow.holds Try.pinned (OpenSpec.ofChange racePairsWrong)

/-- 'deadheatkeep.RaceFront': WHATEVER THE INPUT: true; the input reads as it did. -/
def raceFrontSpec : ChangeSpec := { name := "raceFront", fn := fun _ => fun
  | [d1, d2] => { results := [.lit (.bool true)], args := [d1, d2] }
  | _ => none }
def raceFrontRow : OpenClaim := { program := "ytdgoeibaekkhmaa", sum := "5d76a90ef36627071bcf7020bb3b2994a1dc96a1161104f029363165790f065c", func := "deadheat/deadheatkeep.RaceFront", spec := "raceFront", unfollowed := true, recurses := true, plainKeys := false, apart := false }
def RaceFrontSaid : Prop := raceFrontRow.holds Try.pinned (OpenSpec.ofChange raceFrontSpec)

/-- ITS FALSE NEIGHBOUR: 'it returns false'. Refute it at one input. -/
def raceFrontWrong : ChangeSpec := { name := "raceFront", fn := fun _ => fun
  | [d1, d2] => { results := [.lit (.bool false)], args := [d1, d2] }
  | _ => none }
def RaceFrontWrongFalsely : Prop := raceFrontRow.holds Try.pinned (OpenSpec.ofChange raceFrontWrong)

/-- 'deadheatkeep.RaceOne': WHATEVER THE INPUT: true; the input reads as it did. -/
def raceOneSpec : ChangeSpec := { name := "raceOne", fn := fun _ => fun
  | [d] => { results := [.lit (.bool true)], args := [d] }
  | _ => none }
def raceOneRow : OpenClaim := { program := "ytdgoeibaekkhmaa", sum := "5d76a90ef36627071bcf7020bb3b2994a1dc96a1161104f029363165790f065c", func := "deadheat/deadheatkeep.RaceOne", spec := "raceOne", unfollowed := true, recurses := true, plainKeys := false, apart := false }
def RaceOneSaid : Prop := raceOneRow.holds Try.pinned (OpenSpec.ofChange raceOneSpec)

/-- ITS FALSE NEIGHBOUR: 'it returns false'. Refute it at one input. -/
def raceOneWrong : ChangeSpec := { name := "raceOne", fn := fun _ => fun
  | [d] => { results := [.lit (.bool false)], args := [d] }
  | _ => none }
def RaceOneWrongFalsely : Prop := raceOneRow.holds Try.pinned (OpenSpec.ofChange raceOneWrong)

/-- 'deadheatkeep.RaceSums': WHATEVER THE INPUT: true; the input reads as it did. -/
def raceSumsSpec : ChangeSpec := { name := "raceSums", fn := fun _ => fun
  | [d] => { results := [.lit (.bool true)], args := [d] }
  | _ => none }
def raceSumsRow : OpenClaim := { program := "ytdgoeibaekkhmaa", sum := "5d76a90ef36627071bcf7020bb3b2994a1dc96a1161104f029363165790f065c", func := "deadheat/deadheatkeep.RaceSums", spec := "raceSums", unfollowed := true, recurses := true, plainKeys := false, apart := false }
def RaceSumsSaid : Prop := raceSumsRow.holds Try.pinned (OpenSpec.ofChange raceSumsSpec)

/-- ITS FALSE NEIGHBOUR: 'it returns false'. Refute it at one input. -/
def raceSumsWrong : ChangeSpec := { name := "raceSums", fn := fun _ => fun
  | [d] => { results := [.lit (.bool false)], args := [d] }
  | _ => none }
def RaceSumsWrongFalsely : Prop := raceSumsRow.holds Try.pinned (OpenSpec.ofChange raceSumsWrong)

/-- 'deadheatkeep.RaceGuarded': WHATEVER THE INPUT: true; the input reads as it did. -/
def raceGuardedSpec : ChangeSpec := { name := "raceGuarded", fn := fun _ => fun
  | [d1, d2] => { results := [.lit (.bool true)], args := [d1, d2] }
  | _ => none }
def raceGuardedRow : OpenClaim := { program := "ytdgoeibaekkhmaa", sum := "5d76a90ef36627071bcf7020bb3b2994a1dc96a1161104f029363165790f065c", func := "deadheat/deadheatkeep.RaceGuarded", spec := "raceGuarded", unfollowed := true, recurses := true, plainKeys := false, apart := false }
def RaceGuardedSaid : Prop := raceGuardedRow.holds Try.pinned (OpenSpec.ofChange raceGuardedSpec)

/-- ITS FALSE NEIGHBOUR: 'it returns false'. Refute it at one input. -/
def raceGuardedWrong : ChangeSpec := { name := "raceGuarded", fn := fun _ => fun
  | [d1, d2] => { results := [.lit (.bool false)], args := [d1, d2] }
  | _ => none }
def RaceGuardedWrongFalsely : Prop := raceGuardedRow.holds Try.pinned (OpenSpec.ofChange raceGuardedWrong)

/- THE SECOND FORM. 'bulk': how many values and letters a reading holds, each counted each time it is reached (what is shared counts as often as it is met; a slice's spare places count too). A statement '..UptoSaid' is the law's where the arguments, and the package variables that the reading takes, are together of bulk at most 1048576: NARROWER than '..Said'. Prove '..Said' where nothing that the law and all that it calls make is longer than what came in: it says more and counts as full. Else prove '..UptoSaid'. A law counts once. -/
mutual
def uptoBulk {H : Type} : DataW H → Nat
  | .lit (.string bytes) => bytes.length + 1
  | .lit _ => 1
  | .nil => 1
  | .ptr d => uptoBulk d + 1
  | .slice elems spare => uptoBulkAll elems + uptoBulkAll spare + 1
  | .agg parts => uptoBulkAll parts + 1
  | .iface _ d => uptoBulk d + 1
  | .map entries => uptoBulkEntries entries + 1
  | .held _ => 1
def uptoBulkAll {H : Type} : List (DataW H) → Nat
  | [] => 0
  | d :: r => uptoBulk d + uptoBulkAll r
def uptoBulkEntries {H : Type} : List (Lit × DataW H) → Nat
  | [] => 0
  | x :: r => uptoBulkEntry x + uptoBulkEntries r
def uptoBulkEntry {H : Type} : Lit × DataW H → Nat
  | (.string bytes, d) => bytes.length + uptoBulk d + 1
  | (_, d) => uptoBulk d + 1
 end
def uptoSmall : (H : Type) → List (DataW H) → Bool := fun _ ds => decide (uptoBulkAll ds ≤ 1048576)
def OpenSpec.upto (s : _root_.Go.ChangeSpec) : _root_.Go.OpenSpec := { _root_.Go.OpenSpec.ofChange s with cond := some uptoSmall }

/-- 'deadheatlaw.RaceAll', WHERE WHAT IT READS IS OF BULK AT MOST 1048576: true; the input reads as it did. -/
def raceAllUptoRow : OpenClaim := { program := "ytdgoeibaekkhmaa", sum := "5d76a90ef36627071bcf7020bb3b2994a1dc96a1161104f029363165790f065c", func := "deadheat/deadheatlaw.RaceAll", spec := "raceAll", unfollowed := true, recurses := true, plainKeys := false, apart := false, narrowed := true }
def RaceAllUptoSaid : Prop := raceAllUptoRow.holds Try.pinned (OpenSpec.upto raceAllSpec)

/-- 'deadheatlaw.RaceSeconds', WHERE WHAT IT READS IS OF BULK AT MOST 1048576: true; the input reads as it did. -/
def raceSecondsUptoRow : OpenClaim := { program := "ytdgoeibaekkhmaa", sum := "5d76a90ef36627071bcf7020bb3b2994a1dc96a1161104f029363165790f065c", func := "deadheat/deadheatlaw.RaceSeconds", spec := "raceSeconds", unfollowed := true, recurses := true, plainKeys := false, apart := false, narrowed := true }
def RaceSecondsUptoSaid : Prop := raceSecondsUptoRow.holds Try.pinned (OpenSpec.upto raceSecondsSpec)

/-- 'deadheatlaw.RaceVars', WHERE WHAT IT READS IS OF BULK AT MOST 1048576: true; the input reads as it did. -/
def raceVarsUptoRow : OpenClaim := { program := "ytdgoeibaekkhmaa", sum := "5d76a90ef36627071bcf7020bb3b2994a1dc96a1161104f029363165790f065c", func := "deadheat/deadheatlaw.RaceVars", spec := "raceVars", unfollowed := true, recurses := true, plainKeys := false, apart := false, narrowed := true }
def RaceVarsUptoSaid : Prop := raceVarsUptoRow.holds Try.pinned (OpenSpec.upto raceVarsSpec)

/-- 'deadheatkeep.RacePairs', WHERE WHAT IT READS IS OF BULK AT MOST 1048576: true; the input reads as it did. -/
def racePairsUptoRow : OpenClaim := { program := "ytdgoeibaekkhmaa", sum := "5d76a90ef36627071bcf7020bb3b2994a1dc96a1161104f029363165790f065c", func := "deadheat/deadheatkeep.RacePairs", spec := "racePairs", unfollowed := true, recurses := true, plainKeys := false, apart := false, narrowed := true }
def RacePairsUptoSaid : Prop := racePairsUptoRow.holds Try.pinned (OpenSpec.upto racePairsSpec)

/-- 'deadheatkeep.RaceFront', WHERE WHAT IT READS IS OF BULK AT MOST 1048576: true; the input reads as it did. -/
def raceFrontUptoRow : OpenClaim := { program := "ytdgoeibaekkhmaa", sum := "5d76a90ef36627071bcf7020bb3b2994a1dc96a1161104f029363165790f065c", func := "deadheat/deadheatkeep.RaceFront", spec := "raceFront", unfollowed := true, recurses := true, plainKeys := false, apart := false, narrowed := true }
def RaceFrontUptoSaid : Prop := raceFrontUptoRow.holds Try.pinned (OpenSpec.upto raceFrontSpec)

/-- 'deadheatkeep.RaceOne', WHERE WHAT IT READS IS OF BULK AT MOST 1048576: true; the input reads as it did. -/
def raceOneUptoRow : OpenClaim := { program := "ytdgoeibaekkhmaa", sum := "5d76a90ef36627071bcf7020bb3b2994a1dc96a1161104f029363165790f065c", func := "deadheat/deadheatkeep.RaceOne", spec := "raceOne", unfollowed := true, recurses := true, plainKeys := false, apart := false, narrowed := true }
def RaceOneUptoSaid : Prop := raceOneUptoRow.holds Try.pinned (OpenSpec.upto raceOneSpec)

/-- 'deadheatkeep.RaceSums', WHERE WHAT IT READS IS OF BULK AT MOST 1048576: true; the input reads as it did. -/
def raceSumsUptoRow : OpenClaim := { program := "ytdgoeibaekkhmaa", sum := "5d76a90ef36627071bcf7020bb3b2994a1dc96a1161104f029363165790f065c", func := "deadheat/deadheatkeep.RaceSums", spec := "raceSums", unfollowed := true, recurses := true, plainKeys := false, apart := false, narrowed := true }
def RaceSumsUptoSaid : Prop := raceSumsUptoRow.holds Try.pinned (OpenSpec.upto raceSumsSpec)

/-- 'deadheatkeep.RaceGuarded', WHERE WHAT IT READS IS OF BULK AT MOST 1048576: true; the input reads as it did. -/
def raceGuardedUptoRow : OpenClaim := { program := "ytdgoeibaekkhmaa", sum := "5d76a90ef36627071bcf7020bb3b2994a1dc96a1161104f029363165790f065c", func := "deadheat/deadheatkeep.RaceGuarded", spec := "raceGuarded", unfollowed := true, recurses := true, plainKeys := false, apart := false, narrowed := true }
def RaceGuardedUptoSaid : Prop := raceGuardedUptoRow.holds Try.pinned (OpenSpec.upto raceGuardedSpec)

end Rows
end Go.Proofs.Ytdgoeibaekkhmaa

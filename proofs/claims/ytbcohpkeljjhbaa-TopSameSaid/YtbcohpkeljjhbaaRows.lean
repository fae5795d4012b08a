/-
  No cell of these rows narrows 'for every input' (looked for: loops, veiled, ifaces, maps, wideKeys, modest, calm, conditions, laid).
  DERIVED. THE GIVEN ROWS OF THIS SEAT. 13 by the template 'for every input the law returns true; each argument reads behind the call as it read before'; 0 by the template 'total and deterministic' (their statements: YtbcohpkeljjhbaaTotals.lean).
  GIVEN WITH THE SEED: the statements are not yours to turn. If you find one false, say at which input.
  Laid BY PROGRAM, IN A SANDBOX (cutbox-rows.mjs): the forced cells as the released guide's own fill.sh prints them over the translation 4f612008d6a6c398… (all of the seat's roots in one cut). By AI agents, Wed Nov 11 2026. No macro, syntax, notation, axiom, sorry.
-/
import Derived.Test.YtbcohpkeljjhbaaChecked
import GoSem.Claim
import GoSem.ClaimJoined
import GoSem.ClaimMapViews
import Derived.JoinedTies
import Derived.KernelRfl
namespace Go.Proofs.Ytbcohpkeljjhbaa
/- THE CELL 'sum', in the pinned program and in every row, IS THE sha256 OF THE DUMP (.gsa) THAT YtbcohpkeljjhbaaProg.lean LOADS. Nothing in Lean hashes anything: it is a label: what it is worth is what the hold of that sum in a sandbox is worth. -/
noncomputable def Try.pinned : Pinned := { name := "ytbcohpkeljjhbaa", sum := "4f612008d6a6c39871f6850a6a6402fac9fe699e963860980d60314d817e0ee3", checked := Try.checked }
namespace Rows
def none {H : Type} : Left H := { results := [], args := [] }

/-- 'deadheatlaw.ProgRuns': WHATEVER THE INPUT: true; the input reads as it did. -/
def progRunsSpec : ChangeSpec := { name := "progRuns", fn := fun _ => fun
  | [d1, d2] => { results := [.lit (.bool true)], args := [d1, d2] }
  | _ => none }
def progRunsRow : OpenClaim := { program := "ytbcohpkeljjhbaa", sum := "4f612008d6a6c39871f6850a6a6402fac9fe699e963860980d60314d817e0ee3", func := "deadheat/deadheatlaw.ProgRuns", spec := "progRuns", apart := false }
def ProgRunsSaid : Prop := progRunsRow.holds Try.pinned (OpenSpec.ofChange progRunsSpec)

/-- ITS FALSE NEIGHBOUR: 'it returns false'. Refute it at one input. -/
def progRunsWrong : ChangeSpec := { name := "progRuns", fn := fun _ => fun
  | [d1, d2] => { results := [.lit (.bool false)], args := [d1, d2] }
  | _ => none }
def ProgRunsWrongFalsely : Prop := progRunsRow.holds Try.pinned (OpenSpec.ofChange progRunsWrong)

/-- 'deadheatkeep.ProgMay': WHATEVER THE INPUT: true; the input reads as it did. -/
def progMaySpec : ChangeSpec := { name := "progMay", fn := fun _ => fun
  | [d1, d2] => { results := [.lit (.bool true)], args := [d1, d2] }
  | _ => none }
def progMayRow : OpenClaim := { program := "ytbcohpkeljjhbaa", sum := "4f612008d6a6c39871f6850a6a6402fac9fe699e963860980d60314d817e0ee3", func := "deadheat/deadheatkeep.ProgMay", spec := "progMay", apart := false }
def ProgMaySaid : Prop := progMayRow.holds Try.pinned (OpenSpec.ofChange progMaySpec)

/-- ITS FALSE NEIGHBOUR: 'it returns false'. Refute it at one input. -/
def progMayWrong : ChangeSpec := { name := "progMay", fn := fun _ => fun
  | [d1, d2] => { results := [.lit (.bool false)], args := [d1, d2] }
  | _ => none }
def ProgMayWrongFalsely : Prop := progMayRow.holds Try.pinned (OpenSpec.ofChange progMayWrong)

/-- 'deadheatkeep.ProgPicks': WHATEVER THE INPUT: true; the input reads as it did. -/
def progPicksSpec : ChangeSpec := { name := "progPicks", fn := fun _ => fun
  | [d1, d2, d3, d4] => { results := [.lit (.bool true)], args := [d1, d2, d3, d4] }
  | _ => none }
def progPicksRow : OpenClaim := { program := "ytbcohpkeljjhbaa", sum := "4f612008d6a6c39871f6850a6a6402fac9fe699e963860980d60314d817e0ee3", func := "deadheat/deadheatkeep.ProgPicks", spec := "progPicks", apart := false }
def ProgPicksSaid : Prop := progPicksRow.holds Try.pinned (OpenSpec.ofChange progPicksSpec)

/-- ITS FALSE NEIGHBOUR: 'it returns false'. Refute it at one input. -/
def progPicksWrong : ChangeSpec := { name := "progPicks", fn := fun _ => fun
  | [d1, d2, d3, d4] => { results := [.lit (.bool false)], args := [d1, d2, d3, d4] }
  | _ => none }
def ProgPicksWrongFalsely : Prop := progPicksRow.holds Try.pinned (OpenSpec.ofChange progPicksWrong)

/-- 'deadheatkeep.ProgFront': WHATEVER THE INPUT: true; the input reads as it did. -/
def progFrontSpec : ChangeSpec := { name := "progFront", fn := fun _ => fun
  | [d1, d2, d3] => { results := [.lit (.bool true)], args := [d1, d2, d3] }
  | _ => none }
def progFrontRow : OpenClaim := { program := "ytbcohpkeljjhbaa", sum := "4f612008d6a6c39871f6850a6a6402fac9fe699e963860980d60314d817e0ee3", func := "deadheat/deadheatkeep.ProgFront", spec := "progFront", apart := false }
def ProgFrontSaid : Prop := progFrontRow.holds Try.pinned (OpenSpec.ofChange progFrontSpec)

/-- ITS FALSE NEIGHBOUR: 'it returns false'. Refute it at one input. -/
def progFrontWrong : ChangeSpec := { name := "progFront", fn := fun _ => fun
  | [d1, d2, d3] => { results := [.lit (.bool false)], args := [d1, d2, d3] }
  | _ => none }
def ProgFrontWrongFalsely : Prop := progFrontRow.holds Try.pinned (OpenSpec.ofChange progFrontWrong)

/-- 'deadheatkeep.ProgOrder': WHATEVER THE INPUT: true; the input reads as it did. -/
def progOrderSpec : ChangeSpec := { name := "progOrder", fn := fun _ => fun
  | [d1, d2] => { results := [.lit (.bool true)], args := [d1, d2] }
  | _ => none }
def progOrderRow : OpenClaim := { program := "ytbcohpkeljjhbaa", sum := "4f612008d6a6c39871f6850a6a6402fac9fe699e963860980d60314d817e0ee3", func := "deadheat/deadheatkeep.ProgOrder", spec := "progOrder", apart := false }
def ProgOrderSaid : Prop := progOrderRow.holds Try.pinned (OpenSpec.ofChange progOrderSpec)

/-- ITS FALSE NEIGHBOUR: 'it returns false'. Refute it at one input. -/
def progOrderWrong : ChangeSpec := { name := "progOrder", fn := fun _ => fun
  | [d1, d2] => { results := [.lit (.bool false)], args := [d1, d2] }
  | _ => none }
def ProgOrderWrongFalsely : Prop := progOrderRow.holds Try.pinned (OpenSpec.ofChange progOrderWrong)

/-- 'deadheatkeep.ProgSame': WHATEVER THE INPUT: true; the input reads as it did. -/
def progSameSpec : ChangeSpec := { name := "progSame", fn := fun _ => fun
  | [d1, d2, d3] => { results := [.lit (.bool true)], args := [d1, d2, d3] }
  | _ => none }
def progSameRow : OpenClaim := { program := "ytbcohpkeljjhbaa", sum := "4f612008d6a6c39871f6850a6a6402fac9fe699e963860980d60314d817e0ee3", func := "deadheat/deadheatkeep.ProgSame", spec := "progSame", unfollowed := true, recurses := true, apart := false }
def ProgSameSaid : Prop := progSameRow.holds Try.pinned (OpenSpec.ofChange progSameSpec)

/-- ITS FALSE NEIGHBOUR: 'it returns false'. Refute it at one input. -/
def progSameWrong : ChangeSpec := { name := "progSame", fn := fun _ => fun
  | [d1, d2, d3] => { results := [.lit (.bool false)], args := [d1, d2, d3] }
  | _ => none }
def ProgSameWrongFalsely : Prop := progSameRow.holds Try.pinned (OpenSpec.ofChange progSameWrong)

/-- 'deadheatkeep.ProgOne': WHATEVER THE INPUT: true; the input reads as it did. -/
def progOneSpec : ChangeSpec := { name := "progOne", fn := fun _ => fun
  | [d] => { results := [.lit (.bool true)], args := [d] }
  | _ => none }
def progOneRow : OpenClaim := { program := "ytbcohpkeljjhbaa", sum := "4f612008d6a6c39871f6850a6a6402fac9fe699e963860980d60314d817e0ee3", func := "deadheat/deadheatkeep.ProgOne", spec := "progOne", apart := false }
def ProgOneSaid : Prop := progOneRow.holds Try.pinned (OpenSpec.ofChange progOneSpec)

/-- ITS FALSE NEIGHBOUR: 'it returns false'. Refute it at one input. -/
def progOneWrong : ChangeSpec := { name := "progOne", fn := fun _ => fun
  | [d] => { results := [.lit (.bool false)], args := [d] }
  | _ => none }
def ProgOneWrongFalsely : Prop := progOneRow.holds Try.pinned (OpenSpec.ofChange progOneWrong)

/-- 'deadheatkeep.ProgSums': WHATEVER THE INPUT: true; the input reads as it did. -/
def progSumsSpec : ChangeSpec := { name := "progSums", fn := fun _ => fun
  | [d] => { results := [.lit (.bool true)], args := [d] }
  | _ => none }
def progSumsRow : OpenClaim := { program := "ytbcohpkeljjhbaa", sum := "4f612008d6a6c39871f6850a6a6402fac9fe699e963860980d60314d817e0ee3", func := "deadheat/deadheatkeep.ProgSums", spec := "progSums", apart := false }
def ProgSumsSaid : Prop := progSumsRow.holds Try.pinned (OpenSpec.ofChange progSumsSpec)

/-- ITS FALSE NEIGHBOUR: 'it returns false'. Refute it at one input. -/
def progSumsWrong : ChangeSpec := { name := "progSums", fn := fun _ => fun
  | [d] => { results := [.lit (.bool false)], args := [d] }
  | _ => none }
def ProgSumsWrongFalsely : Prop := progSumsRow.holds Try.pinned (OpenSpec.ofChange progSumsWrong)

/-- 'deadheatkeep.ProgAtomic': WHATEVER THE INPUT: true; the input reads as it did. -/
def progAtomicSpec : ChangeSpec := { name := "progAtomic", fn := fun _ => fun
  | [d1, d2] => { results := [.lit (.bool true)], args := [d1, d2] }
  | _ => none }
def progAtomicRow : OpenClaim := { program := "ytbcohpkeljjhbaa", sum := "4f612008d6a6c39871f6850a6a6402fac9fe699e963860980d60314d817e0ee3", func := "deadheat/deadheatkeep.ProgAtomic", spec := "progAtomic", unfollowed := true, recurses := true, apart := false }
def ProgAtomicSaid : Prop := progAtomicRow.holds Try.pinned (OpenSpec.ofChange progAtomicSpec)

/-- ITS FALSE NEIGHBOUR: 'it returns false'. Refute it at one input. -/
def progAtomicWrong : ChangeSpec := { name := "progAtomic", fn := fun _ => fun
  | [d1, d2] => { results := [.lit (.bool false)], args := [d1, d2] }
  | _ => none }
def ProgAtomicWrongFalsely : Prop := progAtomicRow.holds Try.pinned (OpenSpec.ofChange progAtomicWrong)

/-- 'deadheattop.TopFree': WHATEVER THE INPUT: true; the input reads as it did. -/
def topFreeSpec : ChangeSpec := { name := "topFree", fn := fun _ => fun
  | [d1, d2, d3] => { results := [.lit (.bool true)], args := [d1, d2, d3] }
  | _ => none }
def topFreeRow : OpenClaim := { program := "ytbcohpkeljjhbaa", sum := "4f612008d6a6c39871f6850a6a6402fac9fe699e963860980d60314d817e0ee3", func := "deadheat/deadheattop.TopFree", spec := "topFree", unfollowed := true, recurses := true, apart := false }
def TopFreeSaid : Prop := topFreeRow.holds Try.pinned (OpenSpec.ofChange topFreeSpec)

/-- ITS FALSE NEIGHBOUR: 'it returns false'. Refute it at one input. -/
def topFreeWrong : ChangeSpec := { name := "topFree", fn := fun _ => fun
  | [d1, d2, d3] => { results := [.lit (.bool false)], args := [d1, d2, d3] }
  | _ => none }
def TopFreeWrongFalsely : Prop := topFreeRow.holds Try.pinned (OpenSpec.ofChange topFreeWrong)

/-- 'deadheattop.TopLocked': WHATEVER THE INPUT: true; the input reads as it did. -/
def topLockedSpec : ChangeSpec := { name := "topLocked", fn := fun _ => fun
  | [d1, d2] => { results := [.lit (.bool true)], args := [d1, d2] }
  | _ => none }
def topLockedRow : OpenClaim := { program := "ytbcohpkeljjhbaa", sum := "4f612008d6a6c39871f6850a6a6402fac9fe699e963860980d60314d817e0ee3", func := "deadheat/deadheattop.TopLocked", spec := "topLocked", unfollowed := true, recurses := true, apart := false }
def TopLockedSaid : Prop := topLockedRow.holds Try.pinned (OpenSpec.ofChange topLockedSpec)

/-- ITS FALSE NEIGHBOUR: 'it returns false'. Refute it at one input. -/
def topLockedWrong : ChangeSpec := { name := "topLocked", fn := fun _ => fun
  | [d1, d2] => { results := [.lit (.bool false)], args := [d1, d2] }
  | _ => none }
def TopLockedWrongFalsely : Prop := topLockedRow.holds Try.pinned (OpenSpec.ofChange topLockedWrong)

/-- 'deadheattop.TopReplay': WHATEVER THE INPUT: true; the input reads as it did. -/
def topReplaySpec : ChangeSpec := { name := "topReplay", fn := fun _ => fun
  | [d1, d2] => { results := [.lit (.bool true)], args := [d1, d2] }
  | _ => none }
def topReplayRow : OpenClaim := { program := "ytbcohpkeljjhbaa", sum := "4f612008d6a6c39871f6850a6a6402fac9fe699e963860980d60314d817e0ee3", func := "deadheat/deadheattop.TopReplay", spec := "topReplay", unfollowed := true, recurses := true, apart := false }
def TopReplaySaid : Prop := topReplayRow.holds Try.pinned (OpenSpec.ofChange topReplaySpec)

/-- ITS FALSE NEIGHBOUR: 'it returns false'. Refute it at one input. -/
def topReplayWrong : ChangeSpec := { name := "topReplay", fn := fun _ => fun
  | [d1, d2] => { results := [.lit (.bool false)], args := [d1, d2] }
  | _ => none }
def TopReplayWrongFalsely : Prop := topReplayRow.holds Try.pinned (OpenSpec.ofChange topReplayWrong)

/-- 'deadheattop.TopSame': WHATEVER THE INPUT: true; the input reads as it did. -/
def topSameSpec : ChangeSpec := { name := "topSame", fn := fun _ => fun
  | [d1, d2, d3] => { results := [.lit (.bool true)], args := [d1, d2, d3] }
  | _ => none }
def topSameRow : OpenClaim := { program := "ytbcohpkeljjhbaa", sum := "4f612008d6a6c39871f6850a6a6402fac9fe699e963860980d60314d817e0ee3", func := "deadheat/deadheattop.TopSame", spec := "topSame", unfollowed := true, recurses := true, apart := false }
def TopSameSaid : Prop := topSameRow.holds Try.pinned (OpenSpec.ofChange topSameSpec)

/-- ITS FALSE NEIGHBOUR: 'it returns false'. Refute it at one input. -/
def topSameWrong : ChangeSpec := { name := "topSame", fn := fun _ => fun
  | [d1, d2, d3] => { results := [.lit (.bool false)], args := [d1, d2, d3] }
  | _ => none }
def TopSameWrongFalsely : Prop := topSameRow.holds Try.pinned (OpenSpec.ofChange topSameWrong)

/- THE SECOND FORM. 'bulk': how many values and letters a reading holds, each counted each time it is reached (what is shared counts as often as it is met; a slice's spare places count too). A statement '..UptoSaid' is the law's where the arguments, and the package variables that the reading takes, are together of bulk at most 1048576: NARROWER than '..Said'. Prove '..Said' where nothing that the law and all that it calls make is longer than what came in: it says more and counts as full. Else prove '..UptoSaid'. A law counts once. -/
mutual
def uptoBulk {H : Type} : DataW H → Nat
  | .lit (.string bytes) => bytes.length + 1
  | .lit _ => 1
  | .nil => 1
  | .ptr d => uptoBulk d + 1
  | .slice elems spare => uptoBulkAll elems + uptoBulkAll spare + 1
  | .agg parts => uptoBulkAll parts + 1
  | .iface _ d => uptoBulk d + 1
  | .map entries => uptoBulkEntries entries + 1
  | .held _ => 1
def uptoBulkAll {H : Type} : List (DataW H) → Nat
  | [] => 0
  | d :: r => uptoBulk d + uptoBulkAll r
def uptoBulkEntries {H : Type} : List (Lit × DataW H) → Nat
  | [] => 0
  | x :: r => uptoBulkEntry x + uptoBulkEntries r
def uptoBulkEntry {H : Type} : Lit × DataW H → Nat
  | (.string bytes, d) => bytes.length + uptoBulk d + 1
  | (_, d) => uptoBulk d + 1
 end
def uptoSmall : (H : Type) → List (DataW H) → Bool := fun _ ds => decide (uptoBulkAll ds ≤ 1048576)
def OpenSpec.upto (s : _root_.Go.ChangeSpec) : _root_.Go.OpenSpec := { _root_.Go.OpenSpec.ofChange s with cond := some uptoSmall }

/-- 'deadheatlaw.ProgRuns', WHERE WHAT IT READS IS OF BULK AT MOST 1048576: true; the input reads as it did. -/
def progRunsUptoRow : OpenClaim := { program := "ytbcohpkeljjhbaa", sum := "4f612008d6a6c39871f6850a6a6402fac9fe699e963860980d60314d817e0ee3", func := "deadheat/deadheatlaw.ProgRuns", spec := "progRuns", apart := false, narrowed := true }
def ProgRunsUptoSaid : Prop := progRunsUptoRow.holds Try.pinned (OpenSpec.upto progRunsSpec)

/-- 'deadheatkeep.ProgMay', WHERE WHAT IT READS IS OF BULK AT MOST 1048576: true; the input reads as it did. -/
def progMayUptoRow : OpenClaim := { program := "ytbcohpkeljjhbaa", sum := "4f612008d6a6c39871f6850a6a6402fac9fe699e963860980d60314d817e0ee3", func := "deadheat/deadheatkeep.ProgMay", spec := "progMay", apart := false, narrowed := true }
def ProgMayUptoSaid : Prop := progMayUptoRow.holds Try.pinned (OpenSpec.upto progMaySpec)

/-- 'deadheatkeep.ProgPicks', WHERE WHAT IT READS IS OF BULK AT MOST 1048576: true; the input reads as it did. -/
def progPicksUptoRow : OpenClaim := { program := "ytbcohpkeljjhbaa", sum := "4f612008d6a6c39871f6850a6a6402fac9fe699e963860980d60314d817e0ee3", func := "deadheat/deadheatkeep.ProgPicks", spec := "progPicks", apart := false, narrowed := true }
def ProgPicksUptoSaid : Prop := progPicksUptoRow.holds Try.pinned (OpenSpec.upto progPicksSpec)

/-- 'deadheatkeep.ProgFront', WHERE WHAT IT READS IS OF BULK AT MOST 1048576: true; the input reads as it did. -/
def progFrontUptoRow : OpenClaim := { program := "ytbcohpkeljjhbaa", sum := "4f612008d6a6c39871f6850a6a6402fac9fe699e963860980d60314d817e0ee3", func := "deadheat/deadheatkeep.ProgFront", spec := "progFront", apart := false, narrowed := true }
def ProgFrontUptoSaid : Prop := progFrontUptoRow.holds Try.pinned (OpenSpec.upto progFrontSpec)

/-- 'deadheatkeep.ProgOrder', WHERE WHAT IT READS IS OF BULK AT MOST 1048576: true; the input reads as it did. -/
def progOrderUptoRow : OpenClaim := { program := "ytbcohpkeljjhbaa", sum := "4f612008d6a6c39871f6850a6a6402fac9fe699e963860980d60314d817e0ee3", func := "deadheat/deadheatkeep.ProgOrder", spec := "progOrder", apart := false, narrowed := true }
def ProgOrderUptoSaid : Prop := progOrderUptoRow.holds Try.pinned (OpenSpec.upto progOrderSpec)

/-- 'deadheatkeep.ProgSame', WHERE WHAT IT READS IS OF BULK AT MOST 1048576: true; the input reads as it did. -/
def progSameUptoRow : OpenClaim := { program := "ytbcohpkeljjhbaa", sum := "4f612008d6a6c39871f6850a6a6402fac9fe699e963860980d60314d817e0ee3", func := "deadheat/deadheatkeep.ProgSame", spec := "progSame", unfollowed := true, recurses := true, apart := false, narrowed := true }
def ProgSameUptoSaid : Prop := progSameUptoRow.holds Try.pinned (OpenSpec.upto progSameSpec)

/-- 'deadheatkeep.ProgOne', WHERE WHAT IT READS IS OF BULK AT MOST 1048576: true; the input reads as it did. -/
def progOneUptoRow : OpenClaim := { program := "ytbcohpkeljjhbaa", sum := "4f612008d6a6c39871f6850a6a6402fac9fe699e963860980d60314d817e0ee3", func := "deadheat/deadheatkeep.ProgOne", spec := "progOne", apart := false, narrowed := true }
def ProgOneUptoSaid : Prop := progOneUptoRow.holds Try.pinned (OpenSpec.upto progOneSpec)

/-- 'deadheatkeep.ProgSums', WHERE WHAT IT READS IS OF BULK AT MOST 1048576: true; the input reads as it did. -/
def progSumsUptoRow : OpenClaim := { program := "ytbcohpkeljjhbaa", sum := "4f612008d6a6c39871f6850a6a6402fac9fe699e963860980d60314d817e0ee3", func := "deadheat/deadheatkeep.ProgSums", spec := "progSums", apart := false, narrowed := true }
def ProgSumsUptoSaid : Prop := progSumsUptoRow.holds Try.pinned (OpenSpec.upto progSumsSpec)

/-- 'deadheatkeep.ProgAtomic', WHERE WHAT IT READS IS OF BULK AT MOST 1048576: true; the input reads as it did. -/
def progAtomicUptoRow : OpenClaim := { program := "ytbcohpkeljjhbaa", sum := "4f612008d6a6c39871f6850a6a6402fac9fe699e963860980d60314d817e0ee3", func := "deadheat/deadheatkeep.ProgAtomic", spec := "progAtomic", unfollowed := true, recurses := true, apart := false, narrowed := true }
def ProgAtomicUptoSaid : Prop := progAtomicUptoRow.holds Try.pinned (OpenSpec.upto progAtomicSpec)

/-- 'deadheattop.TopFree', WHERE WHAT IT READS IS OF BULK AT MOST 1048576: true; the input reads as it did. -/
def topFreeUptoRow : OpenClaim := { program := "ytbcohpkeljjhbaa", sum := "4f612008d6a6c39871f6850a6a6402fac9fe699e963860980d60314d817e0ee3", func := "deadheat/deadheattop.TopFree", spec := "topFree", unfollowed := true, recurses := true, apart := false, narrowed := true }
def TopFreeUptoSaid : Prop := topFreeUptoRow.holds Try.pinned (OpenSpec.upto topFreeSpec)

/-- 'deadheattop.TopLocked', WHERE WHAT IT READS IS OF BULK AT MOST 1048576: true; the input reads as it did. -/
def topLockedUptoRow : OpenClaim := { program := "ytbcohpkeljjhbaa", sum := "4f612008d6a6c39871f6850a6a6402fac9fe699e963860980d60314d817e0ee3", func := "deadheat/deadheattop.TopLocked", spec := "topLocked", unfollowed := true, recurses := true, apart := false, narrowed := true }
def TopLockedUptoSaid : Prop := topLockedUptoRow.holds Try.pinned (OpenSpec.upto topLockedSpec)

/-- 'deadheattop.TopReplay', WHERE WHAT IT READS IS OF BULK AT MOST 1048576: true; the input reads as it did. -/
def topReplayUptoRow : OpenClaim := { program := "ytbcohpkeljjhbaa", sum := "4f612008d6a6c39871f6850a6a6402fac9fe699e963860980d60314d817e0ee3", func := "deadheat/deadheattop.TopReplay", spec := "topReplay", unfollowed := true, recurses := true, apart := false, narrowed := true }
def TopReplayUptoSaid : Prop := topReplayUptoRow.holds Try.pinned (OpenSpec.upto topReplaySpec)

/-- 'deadheattop.TopSame', WHERE WHAT IT READS IS OF BULK AT MOST 1048576: true; the input reads as it did. -/
def topSameUptoRow : OpenClaim := { program := "ytbcohpkeljjhbaa", sum := "4f612008d6a6c39871f6850a6a6402fac9fe699e963860980d60314d817e0ee3", func := "deadheat/deadheattop.TopSame", spec := "topSame", unfollowed := true, recurses := true, apart := false, narrowed := true }
def TopSameUptoSaid : Prop := topSameUptoRow.holds Try.pinned (OpenSpec.upto topSameSpec)

end Rows
end Go.Proofs.Ytbcohpkeljjhbaa

/- Two rows of events that one loop makes. -/
import Derived.Test.YtmdpegljpdjfoaaOr
import Derived.Test.YtmdpegljpdjfoaaAppend
import Derived.Test.YtmdpegljpdjfoaaKeepTw
set_option linter.all false
set_option maxRecDepth 100000
namespace Go.Proofs.Ytmdpegljpdjfoaa
open Go Go.RowKit

theorem own_two {w w' : World} {b1 b2 : Nat} {e1 e2 : TypeId} {s1 s2 n1 n2 : Nat} {v1 v2 v1' : Value} {x1 x2 : List Value} (h1 : w.ownsRow b1 e1 s1 v1 n1 x1) (h2 : w.ownsRow b2 e2 s2 v2 n2 x2) (ap : ∀ g, v1.ownBlock = some g → v2.ownBlock ≠ some g)
    (hg : w.grownBy w' v1.ownBlock) (hat : v1'.ownBlock = v1.ownBlock ∨ v1'.ownBlock = some w.heap.size) : w'.ownsRow b2 e2 s2 v2 n2 x2 ∧ (∀ g, v1'.ownBlock = some g → v2.ownBlock ≠ some g) := by
  refine ⟨own_keep h2 fun g hv hlt => hg.block g hlt fun e => ap g e.symm hv, fun g hv hv2 => ?_⟩
  rcases hat with h | h
  · exact ap g (h ▸ hv) hv2
  · rw [h] at hv; have := Option.some.inj hv; have := (own_lt h2 hv2).2; omega
theorem take_filter_yes {p : Ev → Bool} {l : List Ev} {i : Nat} {e : Ev} (h : l[i]? = some e) (hp : p e = true) : (l.take (i + 1)).filter p = (l.take i).filter p ++ [e] := by
  rw [take_snoc' h, List.filter_append]; simp [hp]
theorem take_filter_no {p : Ev → Bool} {l : List Ev} {i : Nat} {e : Ev} (h : l[i]? = some e) (hp : p e = false) : (l.take (i + 1)).filter p = (l.take i).filter p := by
  rw [take_snoc' h, List.filter_append]; simp [hp]
theorem filter_len (p : Ev → Bool) (l : List Ev) (i : Nat) : ((l.take i).filter p).length ≤ i := Nat.le_trans (List.length_filter_le _ _) (by rw [List.length_take]; omega)
/-- Two rows of events that one loop makes. -/
structure TwoR (w : World) (L1 L2 : List Ev) (v1 v2 : Value) (wr : World) : Prop where
  own1 : wr.ownsRow w.heap.size 29 3 v1 L1.length (evc L1)
  own2 : wr.ownsRow w.heap.size 29 3 v2 L2.length (evc L2)
  apart : ∀ g, v1.ownBlock = some g → v2.ownBlock ≠ some g
  below : Bel w wr
theorem TwoR.bel {w : World} {L1 L2 : List Ev} {v1 v2 : Value} {wr w' : World} (h : TwoR w L1 L2 v1 v2 wr) (hb : Bel wr w') : TwoR w L1 L2 v1 v2 w' := ⟨own_bel h.own1 hb, own_bel h.own2 hb, h.apart, h.below.trans hb⟩
theorem TwoR.to {w : World} {L1 L2 M1 M2 : List Ev} {v1 v2 : Value} {wr : World} (h : TwoR w L1 L2 v1 v2 wr) (e1 : M1 = L1) (e2 : M2 = L2) : TwoR w M1 M2 v1 v2 wr := by subst e1; subst e2; exact h
theorem TwoR.add1 {w : World} {L1 L2 : List Ev} {v1 v2 v : Value} {wr w' : World} {e : Ev} (h : TwoR w L1 L2 v1 v2 wr) (hg : wr.grownBy w' v1.ownBlock) (hat : v.ownBlock = v1.ownBlock ∨ v.ownBlock = some wr.heap.size)
    (ho : w'.ownsRow w.heap.size 29 3 v (L1.length + 1) (evc L1 ++ evl e)) : TwoR w (L1 ++ [e]) L2 v v2 w' := by
  obtain ⟨h2, hap⟩ := own_two h.own1 h.own2 h.apart hg hat
  refine ⟨?_, h2, hap, Bel.of (h.below.out.grown hg h.below.size (own_block_ge h.own1))⟩
  rw [List.length_append, evc_append]; exact ho
theorem TwoR.add2 {w : World} {L1 L2 : List Ev} {v1 v2 v : Value} {wr w' : World} {e : Ev} (h : TwoR w L1 L2 v1 v2 wr) (hg : wr.grownBy w' v2.ownBlock) (hat : v.ownBlock = v2.ownBlock ∨ v.ownBlock = some wr.heap.size)
    (ho : w'.ownsRow w.heap.size 29 3 v (L2.length + 1) (evc L2 ++ evl e)) : TwoR w L1 (L2 ++ [e]) v1 v w' := by
  obtain ⟨h2, hap⟩ := own_two h.own2 h.own1 (fun g hv hv2 => h.apart g hv2 hv) hg hat
  refine ⟨h2, ?_, fun g hv hv2 => hap g hv2 hv, Bel.of (h.below.out.grown hg h.below.size (own_block_ge h.own2))⟩
  rw [List.length_append, evc_append]; exact ho
end Go.Proofs.Ytmdpegljpdjfoaa

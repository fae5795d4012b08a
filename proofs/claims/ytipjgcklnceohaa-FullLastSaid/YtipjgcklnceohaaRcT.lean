/- Rows of races that grow. -/
import Derived.Test.YtipjgcklnceohaaRr
import Derived.Test.YtipjgcklnceohaaAppend
import Derived.Test.YtipjgcklnceohaaOrder2
import Derived.Test.YtipjgcklnceohaaOwn
set_option linter.all false
set_option maxRecDepth 100000
namespace Go.Proofs.Ytipjgcklnceohaa
open Go Go.RowKit

structure RcR (w : World) (l : List Ev) (n i j : Nat) (v : Value) (wr : World) : Prop where
  own : wr.ownsRow w.heap.size 57 4 v (rcTo l n i j).length (rcc (rcTo l n i j))
  below : Bel w wr
theorem RcR.to {w : World} {l : List Ev} {n i j i' j' : Nat} {v : Value} {wr : World} (h : RcR w l n i j v wr) (e : rcTo l n i' j' = rcTo l n i j) : RcR w l n i' j' v wr := by
  obtain ⟨h1, h2⟩ := h; rw [← e] at h1; exact ⟨h1, h2⟩
theorem RcR.bel {w : World} {l : List Ev} {n i j : Nat} {v : Value} {wr w' : World} (h : RcR w l n i j v wr) (hb : Bel wr w') : RcR w l n i j v w' := ⟨own_bel h.own hb, h.below.trans hb⟩
theorem rcTo_small {l : List Ev} {n i j : Nat} (hn : n ≤ 80) (hi : i ≤ n) (hj : j ≤ n) : (rcTo l n i j).length ≤ 6480 := by rw [rcTo_len]; exact prs_small hn hi hj
end Go.Proofs.Ytipjgcklnceohaa

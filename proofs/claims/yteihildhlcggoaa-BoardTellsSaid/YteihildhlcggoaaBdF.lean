/- Package board, one goroutine: Flags. -/
import Derived.Test.YteihildhlcggoaaBdT
import Derived.Test.YteihildhlcggoaaFastC
set_option linter.all false
set_option maxRecDepth 100000
namespace Go.Proofs.Yteihildhlcggoaa
open Go Go.RowKit Go.Conc.Locks Go.MuLone

def BFlagPost (w : World) (l : List Ev) (e : Ending) (w' : World) : Prop :=
  ∃ v, e = .returned v ∧ w'.ownsRow w.heap.size 33 3 v (fflags l).length (evc (fflags l)) ∧ Below w.heap.size w w'
set_option maxHeartbeats 2000000 in
theorem bflags_any (N B : Nat) (v : Value) (l : List Ev) (w : World) (h : Bd w N B 0 v l) : Calls Try.prog 32 #[.pointer (some ⟨B, 0, none⟩)] w (BFlagPost w l) := by
  have HB := Lib.hid h
  have hw0 : Bel w w := Bel.refl _
  clear h
  go_enter Try.func32, Try.ntmps32
  go_wp2_with fail
  refine (btrace_any N B v l _ HB.out).mono ?_
  rintro e1 w1 ⟨v1, rfl, ho1, hb1⟩
  have hw1 := hw0.call hb1
  clear hb1
  obtain ⟨A1, c1, rfl, hs1, _, _⟩ := Sl.own ho1
  have HS := Lib.hid hs1
  clear ho1 hs1
  go_wp2_with fail
  refine (frun_any A1 _ c1 l _ HS.out).mono ?_
  rintro e2 w2 ⟨v2, rfl, ho2, hb2⟩
  have hw2 := hw1.call hb2
  clear hb2
  have HO := Lib.hid (own_drop_alloc ho2 hw1.size)
  clear ho2
  go_wp2
  go_ret
  exact ⟨_, rfl, HO.out, hw2⟩
end Go.Proofs.Yteihildhlcggoaa

/- Contracts of the package race: Seconds, Vars. -/
import Derived.Test.YtdgoeibaekkhmaaProj
import Derived.Test.YtdgoeibaekkhmaaAll
set_option linter.all false
set_option maxRecDepth 100000
namespace Go.Proofs.Ytdgoeibaekkhmaa
open Go Go.RowKit

theorem rcs_len (l : List Ev) : (rcs l).length ≤ 6480 := by
  unfold rcs
  split
  · rename_i hm
    unfold rcsA; rw [List.length_map]; exact prs_small ((may_iff l).1 hm).1 (Nat.le_refl _) (Nat.zero_le _)
  · exact Nat.zero_le _
theorem all_any (A : Option Addr) (n c : Nat) (l : List Ev) (w : World) (hl : Sl w A n l) : Calls Try.prog 11 #[.slice A n c] w (AllPost w l) := by
  by_cases hm : may l = 0
  · exact all_ok A n c l w hl hm
  · refine (all_bad A n c l w hl hm).mono ?_
    rintro e w' ⟨rfl, hb⟩
    exact ⟨_, rfl, by rw [rcs_no hm]; exact World.ownsRow_nil _ _ _ _, hb⟩
def fB (r : Rc) : Int := r.b
def fV (r : Rc) : Int := r.v
theorem tellsB : TellsR 34 fB := fun r w => by
  obtain ⟨b1, hB, hs⟩ := boxes1 w (rcv r) 31
  generalize hW : w.alloc (.cells (rcv r) 31) = W at *
  have HB := Lib.hid hB
  have c1 := b1.cell 1 (v := .int .i64 r.b) rfl
  clear hB hs b1
  go_enter Try.func34, Try.ntmps34
  go_wp2
  go_ret
  exact ⟨rfl, HB.out⟩
theorem tellsV : TellsR 35 fV := fun r w => by
  obtain ⟨b1, hB, hs⟩ := boxes1 w (rcv r) 31
  generalize hW : w.alloc (.cells (rcv r) 31) = W at *
  have HB := Lib.hid hB
  have c1 := b1.cell 2 (v := .int .i64 r.v) rfl
  clear hB hs b1
  go_enter Try.func35, Try.ntmps35
  go_wp2
  go_ret
  exact ⟨rfl, HB.out⟩
def SecPost (w : World) (l : List Ev) (f : Rc → Int) (e : Ending) (w' : World) : Prop :=
  ∃ v, e = .returned (.tuple #[v, .int .i64 (may l)]) ∧ SlI w' v (dd ((rcs l).map f)) ∧ Below w.heap.size w w'
set_option maxHeartbeats 4000000 in
theorem seconds_any (A : Option Addr) (n c : Nat) (l : List Ev) (w : World) (hl : Sl w A n l) : Calls Try.prog 16 #[.slice A n c] w (SecPost w l fB) := by
  have hw0 := Bel.refl w
  have HL := Lib.hid hl
  have HLN := Lib.hid (rcs_len l)
  have HE := Lib.hid (enters_of Try.func34 (by kernel_rfl) rfl)
  clear hl
  go_enter Try.func16, Try.ntmps16
  go_wp2_with fail
  refine (all_any A n c l _ HL.out).mono ?_
  rintro e1 w1 ⟨v1, rfl, hown1, hb1⟩
  have hw1 := hw0.call hb1
  clear hb1
  obtain ⟨A1, c1, rfl, hs1, _⟩ := SlR.own hown1
  have HS1 := Lib.hid hs1
  clear hown1 hs1
  go_wp2_with fail
  refine (project_any _ fB A1 _ c1 (rcs l) _ HS1.out HLN.out HE.out tellsB).mono ?_
  rintro e2 w2 ⟨v2, rfl, hs2, hb2⟩
  have hw2 := hw1.call hb2
  clear hb2
  have HS2 := Lib.hid hs2
  clear hs2
  go_wp2
  go_ret2
  exact ⟨_, rfl, HS2.out, hw2⟩
set_option maxHeartbeats 4000000 in
theorem vars_any (A : Option Addr) (n c : Nat) (l : List Ev) (w : World) (hl : Sl w A n l) : Calls Try.prog 19 #[.slice A n c] w (SecPost w l fV) := by
  have hw0 := Bel.refl w
  have HL := Lib.hid hl
  have HLN := Lib.hid (rcs_len l)
  have HE := Lib.hid (enters_of Try.func35 (by kernel_rfl) rfl)
  clear hl
  go_enter Try.func19, Try.ntmps19
  go_wp2_with fail
  refine (all_any A n c l _ HL.out).mono ?_
  rintro e1 w1 ⟨v1, rfl, hown1, hb1⟩
  have hw1 := hw0.call hb1
  clear hb1
  obtain ⟨A1, c1, rfl, hs1, _⟩ := SlR.own hown1
  have HS1 := Lib.hid hs1
  clear hown1 hs1
  go_wp2_with fail
  refine (project_any _ fV A1 _ c1 (rcs l) _ HS1.out HLN.out HE.out tellsV).mono ?_
  rintro e2 w2 ⟨v2, rfl, hs2, hb2⟩
  have hw2 := hw1.call hb2
  clear hb2
  have HS2 := Lib.hid hs2
  clear hs2
  go_wp2
  go_ret2
  exact ⟨_, rfl, HS2.out, hw2⟩
end Go.Proofs.Ytdgoeibaekkhmaa

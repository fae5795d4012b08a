/- Contracts of the package race: conflict; the library's Contains over a row of the call's own. -/
import Derived.Test.YtnjaeampnakbbaaRr
import Derived.Test.YtnjaeampnakbbaaPred
import Derived.Test.YtnjaeampnakbbaaShelf
set_option linter.all false
set_option maxRecDepth 100000
namespace Go.Proofs.Ytnjaeampnakbbaa
open Go Go.RowKit

set_option maxHeartbeats 4000000 in
theorem conf_any (a b : Ev) (w : World) : Calls Try.prog 47 #[.agg (evv a), .agg (evv b)] w fun e w' => e = .returned (.int .i64 (conf a b)) ∧ Below w.heap.size w w' := by
  obtain ⟨b1, b2, hB, hs⟩ := boxes2 w (evv a) (evv b) 45 45
  generalize hW : ((w.alloc (.cells (evv a) 45)).alloc (.cells (evv b) 45)) = W at *
  have HB := Lib.hid hB
  clear hB hs
  have c0 := b1.cell 0 (v := .int .i64 a.k) rfl
  have c2 := b1.cell 2 (v := .int .i64 a.o) rfl
  have d0 := b2.cell 0 (v := .int .i64 b.k) rfl
  have d2 := b2.cell 2 (v := .int .i64 b.o) rfl
  clear b1 b2
  cases h1 : (a.o != b.o)
  · have ho : a.o = b.o := by simpa using h1
    cases h2 : (a.k == 2)
    · have k2 : ¬ a.k = 2 := by simpa using h2
      cases h3 : (a.k == 1)
      · have k3 : ¬ a.k = 1 := by simpa using h3
        have HV := Lib.hid (show conf a b = 0 by simp [conf, ho, k2, k3])
        clear ho k2 k3
        go_enter Try.func47, Try.ntmps47
        go_wp2
        go_ret
        exact ⟨by rw [HV.out]; rfl, HB.out⟩
      · have k3 : a.k = 1 := by simpa using h3
        cases h4 : (b.k == 2)
        · have k4 : ¬ b.k = 2 := by simpa using h4
          have HV := Lib.hid (show conf a b = 0 by simp [conf, ho, k3, k4])
          clear ho k2 k3 k4
          go_enter Try.func47, Try.ntmps47
          go_wp2
          go_ret
          exact ⟨by rw [HV.out]; rfl, HB.out⟩
        · have k4 : b.k = 2 := by simpa using h4
          have HV := Lib.hid (show conf a b = 3 by simp [conf, ho, k3, k4])
          clear ho k2 k3 k4
          go_enter Try.func47, Try.ntmps47
          go_wp2
          go_ret
          exact ⟨by rw [HV.out]; rfl, HB.out⟩
    · have k2 : a.k = 2 := by simpa using h2
      have h3 : (a.k == 1) = false := by rw [k2]; rfl
      cases h4 : (b.k == 2)
      · have k4 : ¬ b.k = 2 := by simpa using h4
        cases h5 : (b.k == 1)
        · have k5 : ¬ b.k = 1 := by simpa using h5
          have HV := Lib.hid (show conf a b = 0 by simp [conf, ho, k2, k4, k5])
          clear ho k2 k4 k5
          go_enter Try.func47, Try.ntmps47
          go_wp2
          go_ret
          exact ⟨by rw [HV.out]; rfl, HB.out⟩
        · have k5 : b.k = 1 := by simpa using h5
          have HV := Lib.hid (show conf a b = 2 by simp [conf, ho, k2, k5])
          clear ho k2 k4 k5
          go_enter Try.func47, Try.ntmps47
          go_wp2
          go_ret
          exact ⟨by rw [HV.out]; rfl, HB.out⟩
      · have k4 : b.k = 2 := by simpa using h4
        have HV := Lib.hid (show conf a b = 1 by simp [conf, ho, k2, k4])
        clear ho k2 k4
        go_enter Try.func47, Try.ntmps47
        go_wp2
        go_ret
        exact ⟨by rw [HV.out]; rfl, HB.out⟩
  · have ho : ¬ a.o = b.o := by simpa using h1
    have HV := Lib.hid (show conf a b = 0 by simp [conf, ho])
    clear ho
    go_enter Try.func47, Try.ntmps47
    go_wp2
    go_ret
    exact ⟨by rw [HV.out]; rfl, HB.out⟩
/-- A row of the call's own, looked through. -/
theorem contains_any (v : Value) (ns : List Nat) (a : Nat) (base : Nat) (w : World) (h : w.ownsRow base 3 1 v ns.length (il ns)) (hn : ns.length ≤ 1000000) :
    Calls Try.prog 48 #[v, .int .i64 a] w fun e w' => e = .returned (.bool (decide (a ∈ ns))) ∧ w = w' := by
  rcases h.2 with ⟨rfl, h0⟩ | ⟨g, cap, cur, rfl, hg, hh, hnc, hc, hs, ht⟩
  · have : ns = [] := List.eq_nil_of_length_eq_zero h0
    subst this
    refine (Try.slices_Contains_int_empty none 0 a w).mono ?_
    rintro e w' ⟨rfl, rfl⟩
    exact ⟨rfl, rfl⟩
  · have hb : Box w g cur 3 := hh
    refine (Try.slices_Contains_int g 0 ns.length cap (ns.map fun (x : Nat) => (x : Int)) a w (by simp) (by omega) ?_).mono ?_
    · intro j hj
      rw [List.length_map] at hj
      rw [Nat.zero_add]
      refine hb.cell j ?_
      have h1 : (il ns)[j]? = some (.int .i64 ((ns.map fun (x : Nat) => (x : Int)).getD j 0)) := by simp [il, hj]
      rw [← ht, List.getElem?_take] at h1
      split at h1
      · simpa using h1
      · cases h1
    · rintro e w' ⟨rfl, rfl⟩
      refine ⟨?_, rfl⟩
      congr 2
      rw [List.take_of_length_le (by simp), Bool.eq_iff_iff]
      simp only [List.contains_iff_mem, List.mem_map, decide_eq_true_eq]
      exact ⟨fun ⟨x, h1, h2⟩ => (by omega : x = a) ▸ h1, fun h => ⟨a, h, rfl⟩⟩
end Go.Proofs.Ytnjaeampnakbbaa

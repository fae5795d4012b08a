/- Contracts of the package order: isAwaited, precedes, isIndex; the reference's Directly. -/
import Derived.Test.YteihildhlcggoaaRows
import Derived.Test.YteihildhlcggoaaMid
import Derived.Test.YteihildhlcggoaaOr
set_option linter.all false
set_option maxRecDepth 100000
namespace Go.Proofs.Yteihildhlcggoaa
open Go Go.RowKit

theorem aw_else {a b : Int} (h3 : (b == 3) = false) (h6 : (b == 6) = false) (h7 : (b == 7) = false) : awaited a b = false := by
  simp only [beq_eq_false_iff_ne] at h3 h6 h7
  unfold awaited; rw [if_neg h3, if_neg h6, if_neg h7]
theorem isAwaited_any (a b : Int) (w : World) : Calls Try.prog 93 #[.int .i64 a, .int .i64 b] w fun e w' => e = .returned (.bool (awaited a b)) ∧ w = w' := by
  cases h3 : (b == 3)
  · cases h6 : (b == 6)
    · cases h7 : (b == 7)
      · have HV := Lib.hid (aw_else (a := a) h3 h6 h7)
        go_enter Try.func93, Try.ntmps93
        go_wp2
        go_ret
        exact ⟨by rw [HV.out]; rfl, rfl⟩
      · obtain rfl := eq_of_beq h7
        go_enter Try.func93, Try.ntmps93
        go_wp2
        go_ret
        exact ⟨rfl, rfl⟩
    · obtain rfl := eq_of_beq h6
      go_enter Try.func93, Try.ntmps93
      go_wp2
      go_ret
      exact ⟨rfl, rfl⟩
  · obtain rfl := eq_of_beq h3
    go_enter Try.func93, Try.ntmps93
    go_wp2
    go_ret
    exact ⟨rfl, rfl⟩
set_option maxHeartbeats 4000000 in
theorem precedes_any (a b : Ev) (w : World) : Calls Try.prog 72 #[.agg (evv a), .agg (evv b)] w fun e w' => e = .returned (.bool (directly a b)) ∧ Below w.heap.size w w' := by
  have HD := Lib.hid (directly_eq a b)
  obtain ⟨b1, b2, hB, hs⟩ := boxes2 w (evv a) (evv b) 50 50
  generalize hW : ((w.alloc (.cells (evv a) 50)).alloc (.cells (evv b) 50)) = W at *
  have HB := Lib.hid hB
  clear hB hs
  have c0 := b1.cell 0 (v := .int .i64 a.k) rfl
  have c1 := b1.cell 1 (v := .int .i64 a.t) rfl
  have c2 := b1.cell 2 (v := .int .i64 a.o) rfl
  have d0 := b2.cell 0 (v := .int .i64 b.k) rfl
  have d1 := b2.cell 1 (v := .int .i64 b.t) rfl
  have d2 := b2.cell 2 (v := .int .i64 b.o) rfl
  clear b1 b2
  cases h1 : (a.t == b.t)
  · cases h2 : (a.k == 5)
    · cases h4 : (b.k == 6)
      · cases h6 : (a.o == b.o)
        · go_enter Try.func72, Try.ntmps72
          go_wp2_with (first | (go_at_call 93; (with_reducible refine (isAwaited_any _ _ _).mono ?_); rintro e w' ⟨rfl, rfl⟩))
          go_ret
          exact ⟨by rw [HD.out]; simp [h1, h2, h4, h6], HB.out⟩
        · go_enter Try.func72, Try.ntmps72
          go_wp2_with (first | (go_at_call 93; (with_reducible refine (isAwaited_any _ _ _).mono ?_); rintro e w' ⟨rfl, rfl⟩))
          go_ret
          exact ⟨by rw [HD.out]; simp [h1, h2, h4, h6], HB.out⟩
      · cases h5 : (b.o == a.t)
        · cases h6 : (a.o == b.o)
          · go_enter Try.func72, Try.ntmps72
            go_wp2_with (first | (go_at_call 93; (with_reducible refine (isAwaited_any _ _ _).mono ?_); rintro e w' ⟨rfl, rfl⟩))
            go_ret
            exact ⟨by rw [HD.out]; simp [h1, h2, h4, h5, h6], HB.out⟩
          · go_enter Try.func72, Try.ntmps72
            go_wp2_with (first | (go_at_call 93; (with_reducible refine (isAwaited_any _ _ _).mono ?_); rintro e w' ⟨rfl, rfl⟩))
            go_ret
            exact ⟨by rw [HD.out]; simp [h1, h2, h4, h5, h6], HB.out⟩
        · go_enter Try.func72, Try.ntmps72
          go_wp2_with (first | (go_at_call 93; (with_reducible refine (isAwaited_any _ _ _).mono ?_); rintro e w' ⟨rfl, rfl⟩))
          go_ret
          exact ⟨by rw [HD.out]; simp [h1, h2, h4, h5], HB.out⟩
    · cases h3 : (a.o == b.t)
      · cases h4 : (b.k == 6)
        · cases h6 : (a.o == b.o)
          · go_enter Try.func72, Try.ntmps72
            go_wp2_with (first | (go_at_call 93; (with_reducible refine (isAwaited_any _ _ _).mono ?_); rintro e w' ⟨rfl, rfl⟩))
            go_ret
            exact ⟨by rw [HD.out]; simp [h1, h2, h3, h4, h6], HB.out⟩
          · go_enter Try.func72, Try.ntmps72
            go_wp2_with (first | (go_at_call 93; (with_reducible refine (isAwaited_any _ _ _).mono ?_); rintro e w' ⟨rfl, rfl⟩))
            go_ret
            exact ⟨by rw [HD.out]; simp [h1, h2, h3, h4, h6], HB.out⟩
        · cases h5 : (b.o == a.t)
          · cases h6 : (a.o == b.o)
            · go_enter Try.func72, Try.ntmps72
              go_wp2_with (first | (go_at_call 93; (with_reducible refine (isAwaited_any _ _ _).mono ?_); rintro e w' ⟨rfl, rfl⟩))
              go_ret
              exact ⟨by rw [HD.out]; simp [h1, h2, h3, h4, h5, h6], HB.out⟩
            · go_enter Try.func72, Try.ntmps72
              go_wp2_with (first | (go_at_call 93; (with_reducible refine (isAwaited_any _ _ _).mono ?_); rintro e w' ⟨rfl, rfl⟩))
              go_ret
              exact ⟨by rw [HD.out]; simp [h1, h2, h3, h4, h5, h6], HB.out⟩
          · go_enter Try.func72, Try.ntmps72
            go_wp2_with (first | (go_at_call 93; (with_reducible refine (isAwaited_any _ _ _).mono ?_); rintro e w' ⟨rfl, rfl⟩))
            go_ret
            exact ⟨by rw [HD.out]; simp [h1, h2, h3, h4, h5], HB.out⟩
      · go_enter Try.func72, Try.ntmps72
        go_wp2_with (first | (go_at_call 93; (with_reducible refine (isAwaited_any _ _ _).mono ?_); rintro e w' ⟨rfl, rfl⟩))
        go_ret
        exact ⟨by rw [HD.out]; simp [h1, h2, h3], HB.out⟩
  · go_enter Try.func72, Try.ntmps72
    go_wp2_with (first | (go_at_call 93; (with_reducible refine (isAwaited_any _ _ _).mono ?_); rintro e w' ⟨rfl, rfl⟩))
    go_ret
    exact ⟨by rw [HD.out]; simp [h1], HB.out⟩
end Go.Proofs.Yteihildhlcggoaa

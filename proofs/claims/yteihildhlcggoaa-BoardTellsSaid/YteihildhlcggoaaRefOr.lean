/- Contracts of the reference: Directly. -/
import Derived.Test.YteihildhlcggoaaOrder
set_option linter.all false
set_option maxRecDepth 100000
namespace Go.Proofs.Yteihildhlcggoaa
open Go Go.RowKit

theorem kindsA (k : Int) : k = 4 ∨ k = 5 ∨ k = 8 ∨ ((k == 4) = false ∧ (k == 5) = false ∧ (k == 8) = false) := by
  simp only [beq_eq_false_iff_ne]; omega
theorem kindsB (k : Int) : k = 3 ∨ k = 6 ∨ k = 7 ∨ ((k == 3) = false ∧ (k == 6) = false ∧ (k == 7) = false) := by
  simp only [beq_eq_false_iff_ne]; omega
set_option maxHeartbeats 8000000 in
theorem directly_any (a b : Ev) (w : World) : Calls Try.prog 56 #[.agg (evv a), .agg (evv b)] w fun e w' => e = .returned (.bool (directly a b)) ∧ Below w.heap.size w w' := by
  obtain ⟨ka, ta, oa⟩ := a
  obtain ⟨kb, tb, ob⟩ := b
  have HD := Lib.hid (show directly ⟨ka, ta, oa⟩ ⟨kb, tb, ob⟩ = (ta == tb || (ka == 4 && (kb == 3 && oa == ob)) || (ka == 5 && tb == oa) || (kb == 6 && ta == ob) || (ka == 8 && (kb == 7 && oa == ob)) || (ka == 5 && (kb == 6 && oa == ob))) from rfl)
  obtain ⟨b1, b2, hB, hs⟩ := boxes2 w (evv ⟨ka, ta, oa⟩) (evv ⟨kb, tb, ob⟩) 50 50
  generalize hW : ((w.alloc (.cells (evv ⟨ka, ta, oa⟩) 50)).alloc (.cells (evv ⟨kb, tb, ob⟩) 50)) = W at *
  have HB := Lib.hid hB
  clear hB hs
  have c0 := b1.cell 0 (v := .int .i64 ka) rfl
  have c1 := b1.cell 1 (v := .int .i64 ta) rfl
  have c2 := b1.cell 2 (v := .int .i64 oa) rfl
  have d0 := b2.cell 0 (v := .int .i64 kb) rfl
  have d1 := b2.cell 1 (v := .int .i64 tb) rfl
  have d2 := b2.cell 2 (v := .int .i64 ob) rfl
  clear b1 b2
  cases h1 : (ta == tb)
  · rcases kindsA ka with rfl | rfl | rfl | ⟨a4, a5, a8⟩
    · rcases kindsB kb with rfl | rfl | rfl | ⟨b3, b6, b7⟩
      · cases h2 : (oa == ob)
        · go_enter Try.func56, Try.ntmps56
          dsimp only [List.append, List.append_eq, HAppend.hAppend, Append.append]
          go_wp2
          go_ret
          exact ⟨by rw [HD.out]; simp [h1, h2], HB.out⟩
        · go_enter Try.func56, Try.ntmps56
          dsimp only [List.append, List.append_eq, HAppend.hAppend, Append.append]
          go_wp2
          go_ret
          exact ⟨by rw [HD.out]; simp [h1, h2], HB.out⟩
      · cases h4 : (ta == ob)
        · go_enter Try.func56, Try.ntmps56
          dsimp only [List.append, List.append_eq, HAppend.hAppend, Append.append]
          go_wp2
          go_ret
          exact ⟨by rw [HD.out]; simp [h1, h4], HB.out⟩
        · go_enter Try.func56, Try.ntmps56
          dsimp only [List.append, List.append_eq, HAppend.hAppend, Append.append]
          go_wp2
          go_ret
          exact ⟨by rw [HD.out]; simp [h1, h4], HB.out⟩
      · go_enter Try.func56, Try.ntmps56
        dsimp only [List.append, List.append_eq, HAppend.hAppend, Append.append]
        go_wp2
        go_ret
        exact ⟨by rw [HD.out]; simp [h1], HB.out⟩
      · go_enter Try.func56, Try.ntmps56
        dsimp only [List.append, List.append_eq, HAppend.hAppend, Append.append]
        go_wp2
        go_ret
        exact ⟨by rw [HD.out]; simp [h1, b3, b6, b7], HB.out⟩
    · rcases kindsB kb with rfl | rfl | rfl | ⟨b3, b6, b7⟩
      · cases h3 : (tb == oa)
        · go_enter Try.func56, Try.ntmps56
          dsimp only [List.append, List.append_eq, HAppend.hAppend, Append.append]
          go_wp2
          go_ret
          exact ⟨by rw [HD.out]; simp [h1, h3], HB.out⟩
        · go_enter Try.func56, Try.ntmps56
          dsimp only [List.append, List.append_eq, HAppend.hAppend, Append.append]
          go_wp2
          go_ret
          exact ⟨by rw [HD.out]; simp [h1, h3], HB.out⟩
      · cases h3 : (tb == oa)
        · cases h4 : (ta == ob)
          · cases h2 : (oa == ob)
            · go_enter Try.func56, Try.ntmps56
              dsimp only [List.append, List.append_eq, HAppend.hAppend, Append.append]
              go_wp2
              go_ret
              exact ⟨by rw [HD.out]; simp [h1, h3, h4, h2], HB.out⟩
            · go_enter Try.func56, Try.ntmps56
              dsimp only [List.append, List.append_eq, HAppend.hAppend, Append.append]
              go_wp2
              go_ret
              exact ⟨by rw [HD.out]; simp [h1, h3, h4, h2], HB.out⟩
          · go_enter Try.func56, Try.ntmps56
            dsimp only [List.append, List.append_eq, HAppend.hAppend, Append.append]
            go_wp2
            go_ret
            exact ⟨by rw [HD.out]; simp [h1, h3, h4], HB.out⟩
        · go_enter Try.func56, Try.ntmps56
          dsimp only [List.append, List.append_eq, HAppend.hAppend, Append.append]
          go_wp2
          go_ret
          exact ⟨by rw [HD.out]; simp [h1, h3], HB.out⟩
      · cases h3 : (tb == oa)
        · go_enter Try.func56, Try.ntmps56
          dsimp only [List.append, List.append_eq, HAppend.hAppend, Append.append]
          go_wp2
          go_ret
          exact ⟨by rw [HD.out]; simp [h1, h3], HB.out⟩
        · go_enter Try.func56, Try.ntmps56
          dsimp only [List.append, List.append_eq, HAppend.hAppend, Append.append]
          go_wp2
          go_ret
          exact ⟨by rw [HD.out]; simp [h1, h3], HB.out⟩
      · cases h3 : (tb == oa)
        · go_enter Try.func56, Try.ntmps56
          dsimp only [List.append, List.append_eq, HAppend.hAppend, Append.append]
          go_wp2
          go_ret
          exact ⟨by rw [HD.out]; simp [h1, b3, b6, b7, h3], HB.out⟩
        · go_enter Try.func56, Try.ntmps56
          dsimp only [List.append, List.append_eq, HAppend.hAppend, Append.append]
          go_wp2
          go_ret
          exact ⟨by rw [HD.out]; simp [h1, b3, b6, b7, h3], HB.out⟩
    · rcases kindsB kb with rfl | rfl | rfl | ⟨b3, b6, b7⟩
      · go_enter Try.func56, Try.ntmps56
        dsimp only [List.append, List.append_eq, HAppend.hAppend, Append.append]
        go_wp2
        go_ret
        exact ⟨by rw [HD.out]; simp [h1], HB.out⟩
      · cases h4 : (ta == ob)
        · go_enter Try.func56, Try.ntmps56
          dsimp only [List.append, List.append_eq, HAppend.hAppend, Append.append]
          go_wp2
          go_ret
          exact ⟨by rw [HD.out]; simp [h1, h4], HB.out⟩
        · go_enter Try.func56, Try.ntmps56
          dsimp only [List.append, List.append_eq, HAppend.hAppend, Append.append]
          go_wp2
          go_ret
          exact ⟨by rw [HD.out]; simp [h1, h4], HB.out⟩
      · cases h2 : (oa == ob)
        · go_enter Try.func56, Try.ntmps56
          dsimp only [List.append, List.append_eq, HAppend.hAppend, Append.append]
          go_wp2
          go_ret
          exact ⟨by rw [HD.out]; simp [h1, h2], HB.out⟩
        · go_enter Try.func56, Try.ntmps56
          dsimp only [List.append, List.append_eq, HAppend.hAppend, Append.append]
          go_wp2
          go_ret
          exact ⟨by rw [HD.out]; simp [h1, h2], HB.out⟩
      · go_enter Try.func56, Try.ntmps56
        dsimp only [List.append, List.append_eq, HAppend.hAppend, Append.append]
        go_wp2
        go_ret
        exact ⟨by rw [HD.out]; simp [h1, b3, b6, b7], HB.out⟩
    · rcases kindsB kb with rfl | rfl | rfl | ⟨b3, b6, b7⟩
      · go_enter Try.func56, Try.ntmps56
        dsimp only [List.append, List.append_eq, HAppend.hAppend, Append.append]
        go_wp2
        go_ret
        exact ⟨by rw [HD.out]; simp [h1, a4, a5, a8], HB.out⟩
      · cases h4 : (ta == ob)
        · go_enter Try.func56, Try.ntmps56
          dsimp only [List.append, List.append_eq, HAppend.hAppend, Append.append]
          go_wp2
          go_ret
          exact ⟨by rw [HD.out]; simp [h1, a4, a5, a8, h4], HB.out⟩
        · go_enter Try.func56, Try.ntmps56
          dsimp only [List.append, List.append_eq, HAppend.hAppend, Append.append]
          go_wp2
          go_ret
          exact ⟨by rw [HD.out]; simp [h1, a4, a5, a8, h4], HB.out⟩
      · go_enter Try.func56, Try.ntmps56
        dsimp only [List.append, List.append_eq, HAppend.hAppend, Append.append]
        go_wp2
        go_ret
        exact ⟨by rw [HD.out]; simp [h1, a4, a5, a8], HB.out⟩
      · go_enter Try.func56, Try.ntmps56
        dsimp only [List.append, List.append_eq, HAppend.hAppend, Append.append]
        go_wp2
        go_ret
        exact ⟨by rw [HD.out]; simp [h1, a4, a5, a8, b3, b6, b7], HB.out⟩
  · go_enter Try.func56, Try.ntmps56
    dsimp only [List.append, List.append_eq, HAppend.hAppend, Append.append]
    go_wp2
    go_ret
    exact ⟨by rw [HD.out]; simp [h1], HB.out⟩
end Go.Proofs.Yteihildhlcggoaa

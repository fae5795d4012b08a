/- Plain facts: flags of a beginning of a trace. -/
import Derived.Test.YtipjgcklnceohaaRfP
set_option linter.all false
set_option maxRecDepth 100000
namespace Go.Proofs.Ytipjgcklnceohaa
open Go Go.RowKit

theorem eZ_take {l : List Ev} {k i : Nat} (h : i < k) : eZ (l.take k) i = eZ l i := by unfold eZ; rw [List.getElem?_take, if_pos h]
theorem kZ_take {l : List Ev} {k i : Nat} (h : i < k) : kZ (l.take k) i = kZ l i := by unfold kZ; rw [eZ_take h]
theorem tZ_take {l : List Ev} {k i : Nat} (h : i < k) : tZ (l.take k) i = tZ l i := by unfold tZ; rw [eZ_take h]
theorem oZ_take {l : List Ev} {k i : Nat} (h : i < k) : oZ (l.take k) i = oZ l i := by unfold oZ; rw [eZ_take h]
theorem djTo_take {l : List Ev} {k : Nat} : ∀ j, j ≤ k → djTo (l.take k) j = djTo l j
  | 0, _ => rfl
  | j + 1, h => by rw [djTo, djTo, djTo_take j (by omega), kZ_take (by omega), tZ_take (by omega), oZ_take (by omega)]
theorem rwTo_take {l : List Ev} {k : Nat} (q : Int) (x u : Nat) : ∀ j, j ≤ k → rwTo (l.take k) q x u j = rwTo l q x u j
  | 0, _ => rfl
  | j + 1, h => by
    rw [rwTo, rwTo, rwTo_take q x u j (by omega), kZ_take (by omega), tZ_take (by omega), oZ_take (by omega)]
    unfold onr
    rw [djTo_take j (by omega)]
theorem djK_take {l : List Ev} {k j : Nat} (h : j < k) : djK (l.take k) j = djK l j := by
  have e : ∀ q, seenB (l.take k) q j = seenB l q j := fun q => by
    unfold seenB
    simp only [oZ_take h, tZ_take h, djTo_take j (Nat.le_of_lt h), fun u => rwTo_take (l := l) (k := k) q (oZ l j) u j (Nat.le_of_lt h)]
  unfold djK
  rw [e, e, kZ_take h]
theorem flT_take {l : List Ev} {k : Nat} : ∀ j, j ≤ k → flT (l.take k) j = flT l j
  | 0, _ => rfl
  | j + 1, h => by rw [flT, flT, flT_take j (by omega), djK_take (by omega), eZ_take (by omega)]
theorem flT_low {l : List Ev} {e : Ev} : ∀ {k : Nat}, e ∈ flT l k → 0 ≤ e.k ∧ e.k < k
  | 0, h => by simp [flT] at h
  | k + 1, h => by
    rw [flT] at h
    split at h
    · have := flT_low h; omega
    · rcases List.mem_append.1 h with h | h
      · have := flT_low h; omega
      · simp at h; subst h; dsimp only; omega
theorem flT_split (l : List Ev) (k : Nat) : ∀ d, ∃ r, flT l (k + d) = flT l k ++ r ∧ ∀ e ∈ r, (k : Int) ≤ e.k
  | 0 => ⟨[], by simp, by simp⟩
  | d + 1 => by
    obtain ⟨r, h1, h2⟩ := flT_split l k d
    rw [← Nat.add_assoc, flT]
    split
    · exact ⟨r, h1, h2⟩
    · refine ⟨r ++ [_], by rw [h1, List.append_assoc], fun e he => ?_⟩
      rcases List.mem_append.1 he with he | he
      · exact h2 e he
      · simp at he; subst he; dsimp only; omega
theorem fl_split {l : List Ev} {k n : Nat} (h : k ≤ n) : ∃ r, flT l n = flT l k ++ r ∧ ∀ e ∈ r, (k : Int) ≤ e.k := by
  obtain ⟨d, rfl⟩ := Nat.exists_eq_add_of_le h
  exact flT_split l k d
theorem may_takeF {l : List Ev} (h : may l = 0) (k : Nat) : may (l.take k) = 0 := by
  rw [may_iff] at h ⊢
  refine ⟨by rw [List.length_take]; omega, fun i e he => ?_⟩
  have hi : i < k := by
    have := (List.getElem?_eq_some_iff.1 he).1
    rw [List.length_take] at this; omega
  rw [List.getElem?_take, if_pos hi] at he
  rw [List.take_take, Nat.min_eq_left (Nat.le_of_lt hi)]
  exact h.2 i e he
end Go.Proofs.Ytipjgcklnceohaa

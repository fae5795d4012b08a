/- Ticks in whatever order: plain facts. -/
import Derived.Test.YtioejkjbokcppaaBase
set_option linter.all false
namespace Go.Proofs.Ytioejkjbokcppaa
open Go Go.RowKit

/-- One tick, if it is let. -/
def tk (c : Nat → Int) (t : Int) : Nat → Int := if isT t = true ∧ c t.toNat < 1000000 then upd c t.toNat (c t.toNat + 1) else c
def tks (c : Nat → Int) (l : List Int) : Nat → Int := l.foldl tk c
/-- How often thread j comes. -/
def cnt (j : Nat) (l : List Int) : Nat := (l.filter fun t => decide (t = (j : Int))).length
def fin1 (x : Int) (n : Nat) : Int := if 1000000 ≤ x then x else if x + n ≤ 1000000 then x + n else 1000000
theorem cnt_cons (j : Nat) (t : Int) (l : List Int) : cnt j (t :: l) = (if t = (j : Int) then 1 else 0) + cnt j l := by
  unfold cnt
  by_cases h : t = (j : Int) <;> simp [h] <;> omega
theorem tks_fin (l : List Int) : ∀ (c : Nat → Int) (j : Nat), j < 6 → tks c l j = fin1 (c j) (cnt j l) := by
  induction l with
  | nil => intro c j _; simp [tks, cnt, fin1]; intro h; omega
  | cons t l ih =>
    intro c j hj
    show tks (tk c t) l j = _
    rw [ih _ j hj, cnt_cons]
    unfold tk
    by_cases ht : isT t = true ∧ c t.toNat < 1000000
    · rw [if_pos ht]
      obtain ⟨h0, h6⟩ := isT_iff.1 ht.1
      by_cases he : t = (j : Int)
      · subst he
        have h2 : c j < 1000000 := by simpa using ht.2
        simp only [Int.toNat_natCast, upd, if_true, fin1]
        repeat' split
        all_goals omega
      · have : ¬ j = t.toNat := by omega
        simp [upd, this, he]
    · rw [if_neg ht]
      by_cases he : t = (j : Int)
      · subst he
        have h2 : ¬ c j < 1000000 := fun h => ht ⟨isT_yes (by omega) (by omega), by simpa using h⟩
        simp only [fin1, if_true]
        repeat' split
        all_goals omega
      · simp [he]
theorem cnt_reverse (j : Nat) (l : List Int) : cnt j l.reverse = cnt j l := by
  unfold cnt
  rw [List.filter_reverse, List.length_reverse]
theorem tks_reverse (l : List Int) (c : Nat → Int) (j : Nat) (hj : j < 6) : tks c l.reverse j = tks c l j := by rw [tks_fin _ _ _ hj, tks_fin _ _ _ hj, cnt_reverse]
/-- The sum of what was gained. -/
def gain (a c : Nat → Int) : Nat → Int
  | 0 => 0
  | k + 1 => gain a c k + (a k - c k)
theorem tk_ge (c : Nat → Int) (t : Int) (j : Nat) : c j ≤ tk c t j := by
  unfold tk
  split
  · simp only [upd]
    split
    · subst_vars; omega
    · omega
  · omega
theorem tks_ge (l : List Int) : ∀ (c : Nat → Int) (j : Nat), c j ≤ tks c l j := by
  induction l with
  | nil => intro c j; exact Int.le_refl _
  | cons t l ih => intro c j; exact Int.le_trans (tk_ge c t j) (ih _ j)
theorem tk_same (c : Nat → Int) (t : Int) (h : ¬ (isT t = true ∧ c t.toNat < 1000000)) : tk c t = c := if_neg h
theorem gain_upd (a c : Nat → Int) (k m : Nat) (v : Int) : gain (upd a m v) c k = gain a c k + (if m < k then v - a m else 0) := by
  induction k with
  | zero => simp [gain]
  | succ k ih =>
    simp only [gain, ih, upd]
    by_cases h1 : m < k
    · have : ¬ k = m := by omega
      simp [h1, this, show m < k + 1 by omega]; omega
    · by_cases h2 : k = m
      · subst h2; simp
        omega
      · have : ¬ m < k + 1 := by omega
        simp [h1, h2, this]
theorem gain_self (c : Nat → Int) (k : Nat) : gain c c k = 0 := by
  induction k with
  | zero => rfl
  | succ k ih => simp [gain, ih]
def ok1 (a : Nat → Int) (t : Int) : Prop := isT t = true ∧ a t.toNat < 1000000
theorem gain_tk_yes (a c : Nat → Int) (t : Int) (h : ok1 a t) : gain (tk a t) c 6 = gain a c 6 + 1 := by
  obtain ⟨h0, h6⟩ := isT_iff.1 h.1
  rw [show tk a t = upd a t.toNat (a t.toNat + 1) from if_pos h, gain_upd, if_pos (by omega)]
  omega
theorem gain_mono (a c : Nat → Int) (h : ∀ j, c j ≤ a j) : ∀ k, 0 ≤ gain a c k ∧ gain a c k ≤ gain a c (k + 1) := by
  intro k
  induction k with
  | zero => have := h 0; simp [gain]; omega
  | succ k ih => have h1 := h k; have h2 := h (k + 1); simp only [gain] at *; omega
end Go.Proofs.Ytioejkjbokcppaa

/- Plain facts: lists of flags of whatever detector; those by epochs; beginnings of a trace. -/
import Derived.Test.YtnjaeampnakbbaaFs2
set_option linter.all false
set_option maxRecDepth 100000
namespace Go.Proofs.Ytnjaeampnakbbaa
open Go Go.RowKit

/-- The flags of the first k events, told by their kinds K (0: none): place, variable, kind. -/
def gl (K : Nat → Int) (l : List Ev) : Nat → List Ev
  | 0 => []
  | k + 1 => if K k = 0 then gl K l k else gl K l k ++ [⟨(k : Nat), (eZ l k).o, K k⟩]
theorem flT_gl (l : List Ev) : ∀ k, flT l k = gl (djK l) l k
  | 0 => rfl
  | k + 1 => by rw [flT, gl, flT_gl l k]
section
variable {K : Nat → Int} {l : List Ev}
theorem gl_yes {k : Nat} (h : K k ≠ 0) : gl K l (k + 1) = gl K l k ++ [⟨(k : Nat), (eZ l k).o, K k⟩] := by rw [gl, if_neg h]
theorem gl_no {k : Nat} (h : K k = 0) : gl K l (k + 1) = gl K l k := by rw [gl, if_pos h]
theorem gl_len (K : Nat → Int) (l : List Ev) : ∀ k, (gl K l k).length ≤ k
  | 0 => Nat.le_refl _
  | k + 1 => by
    have := gl_len K l k
    rw [gl]
    split
    · omega
    · rw [List.length_append]; simp; omega
theorem gl_mem {e : Ev} : ∀ {k : Nat}, e ∈ gl K l k ↔ ∃ j, j < k ∧ K j ≠ 0 ∧ e = ⟨(j : Nat), (eZ l j).o, K j⟩
  | 0 => ⟨fun h => by simp [gl] at h, fun ⟨j, h, _⟩ => by omega⟩
  | k + 1 => by
    rw [gl]
    split
    · rename_i h0
      rw [gl_mem]
      constructor
      · rintro ⟨j, h1, h2⟩; exact ⟨j, by omega, h2⟩
      · rintro ⟨j, h1, h2, h3⟩
        rcases Nat.lt_succ_iff_lt_or_eq.1 h1 with h1 | rfl
        · exact ⟨j, h1, h2, h3⟩
        · exact absurd h0 h2
    · rename_i h0
      rw [List.mem_append, gl_mem, List.mem_singleton]
      constructor
      · rintro (⟨j, h1, h2⟩ | rfl)
        · exact ⟨j, by omega, h2⟩
        · exact ⟨k, by omega, h0, rfl⟩
      · rintro ⟨j, h1, h2, h3⟩
        rcases Nat.lt_succ_iff_lt_or_eq.1 h1 with h1 | rfl
        · exact .inl ⟨j, h1, h2, h3⟩
        · exact .inr h3
theorem gl_low {e : Ev} {k : Nat} (h : e ∈ gl K l k) : 0 ≤ e.k ∧ e.k < k := by
  obtain ⟨j, h1, _, rfl⟩ := gl_mem.1 h
  dsimp only; omega
theorem gl_up (K : Nat → Int) (l : List Ev) : ∀ k, ((gl K l k).map (·.k)).Pairwise (· < ·)
  | 0 => by simp [gl]
  | k + 1 => by
    rw [gl]
    split
    · exact gl_up K l k
    · rw [List.map_append, List.pairwise_append]
      refine ⟨gl_up K l k, by simp, fun a ha b hb => ?_⟩
      obtain ⟨e, he, rfl⟩ := List.mem_map.1 ha
      simp at hb
      subst hb
      exact (gl_low he).2
theorem gl_split (K : Nat → Int) (l : List Ev) (k : Nat) : ∀ d, ∃ r, gl K l (k + d) = gl K l k ++ r ∧ ∀ e ∈ r, (k : Int) ≤ e.k
  | 0 => ⟨[], by simp, by simp⟩
  | d + 1 => by
    obtain ⟨r, h1, h2⟩ := gl_split K l k d
    rw [← Nat.add_assoc, gl]
    split
    · exact ⟨r, h1, h2⟩
    · refine ⟨r ++ [_], by rw [h1, List.append_assoc], fun e he => ?_⟩
      rcases List.mem_append.1 he with he | he
      · exact h2 e he
      · simp at he; subst he; dsimp only; omega
theorem gl_congr {K' : Nat → Int} {l' : List Ev} : ∀ {k : Nat}, (∀ j, j < k → K j = K' j ∧ (K j ≠ 0 → (eZ l j).o = (eZ l' j).o)) → gl K l k = gl K' l' k
  | 0, _ => rfl
  | k + 1, h => by
    have h1 := gl_congr (k := k) fun j hj => h j (by omega)
    have h2 := h k (by omega)
    rw [gl, gl, h1, ← h2.1]
    split
    · rfl
    · rename_i h0; rw [h2.2 h0]
theorem gl_nil_iff {k : Nat} : gl K l k = [] ↔ ∀ j, j < k → K j = 0 := by
  constructor
  · intro h j hj
    refine Classical.byContradiction fun h0 => ?_
    have : (⟨(j : Nat), (eZ l j).o, K j⟩ : Ev) ∈ gl K l k := gl_mem.2 ⟨j, hj, h0, rfl⟩
    rw [h] at this; cases this
  · intro h
    cases hg : gl K l k with
    | nil => rfl
    | cons e r =>
      obtain ⟨j, h1, h2, _⟩ := gl_mem.1 (show e ∈ gl K l k by rw [hg]; simp)
      exact absurd (h j h1) h2
end
/-- What the detector by epochs returns. -/
def fflags (l : List Ev) : List Ev := if may l = 0 then gl (fkK l) l l.length else []
theorem fflags_ok {l : List Ev} (h : may l = 0) : fflags l = gl (fkK l) l l.length := by unfold fflags; rw [if_pos h]
theorem fflags_no {l : List Ev} (h : may l ≠ 0) : fflags l = [] := by unfold fflags; rw [if_neg h]
/-- Prefixes. -/
theorem cZ_take {l : List Ev} {k j : Nat} (h : j < k) : cZ (l.take k) j = cZ l j := by unfold cZ; rw [djTo_take j (Nat.le_of_lt h), tZ_take h]
theorem fsTo_take {l : List Ev} {k : Nat} (x : Nat) : ∀ j, j ≤ k → fsTo (l.take k) x j = fsTo l x j
  | 0, _ => rfl
  | j + 1, h => by rw [fsTo, fsTo, fsTo_take x j (by omega), oZ_take (by omega), kZ_take (by omega), tZ_take (by omega), cZ_take (by omega)]
theorem fkK_take {l : List Ev} {k j : Nat} (h : j < k) : fkK (l.take k) j = fkK l j := by
  unfold fkK; rw [oZ_take h, kZ_take h, tZ_take h, cZ_take h, fsTo_take _ j (Nat.le_of_lt h)]
theorem slT_take {l : List Ev} {k : Nat} : ∀ j, j ≤ k → slT (l.take k) j = slT l j
  | 0, _ => rfl
  | j + 1, h => by rw [slT, slT, slT_take j (by omega), oZ_take (by omega), kZ_take (by omega), tZ_take (by omega), cZ_take (by omega), fsTo_take _ j (by omega)]
theorem slT_mono (l : List Ev) {i : Nat} : ∀ {k : Nat}, i ≤ k → slT l i ≤ slT l k
  | 0, h => by obtain rfl : i = 0 := by omega
               exact Nat.le_refl _
  | k + 1, h => by
    by_cases e : i = k + 1
    · subst e; exact Nat.le_refl _
    · have := slT_mono l (show i ≤ k by omega)
      rw [slT]; omega
theorem fsSl_le (s : Fs) (k : Int) (t : Nat) (c : Nat → Nat) : fsSl s k t c ≤ 1 := by
  unfold fsSl
  repeat' split
  all_goals omega
theorem slT_le (l : List Ev) : ∀ k, slT l k ≤ k
  | 0 => Nat.le_refl _
  | k + 1 => by
    have h1 := slT_le l k
    have h2 := fsSl_le (fsTo l (oZ l k) k) (kZ l k) (tZ l k) (cZ l k)
    rw [slT]; omega
theorem glF_take {l : List Ev} {k : Nat} : gl (fkK (l.take k)) (l.take k) k = gl (fkK l) l k := gl_congr fun j hj => ⟨fkK_take hj, fun _ => by rw [eZ_take hj]⟩
end Go.Proofs.Ytnjaeampnakbbaa

/- Plain facts: a list of numbers sorted, each once. -/
import Derived.Test.YtnjaeampnakbbaaOr
import Derived.Lib.SlicesCompact
set_option linter.all false
set_option maxRecDepth 100000
namespace Go.Proofs.Ytnjaeampnakbbaa
open Go Go.RowKit

def srt (zs : List Int) : List Int := zs.mergeSort fun x y => decide (x ≤ y)
/-- Sorted, each once. -/
def dd (zs : List Int) : List Int := Lib.compact (srt zs)
theorem srt_len (zs : List Int) : (srt zs).length = zs.length := by simp [srt]
theorem srt_mem {zs : List Int} {x : Int} : x ∈ srt zs ↔ x ∈ zs := by simp [srt]
theorem srt_le (zs : List Int) : (srt zs).Pairwise (· ≤ ·) := by
  have h := List.pairwise_mergeSort (le := fun x y : Int => decide (x ≤ y)) (fun a b c h1 h2 => by simp only [decide_eq_true_eq] at *; omega) (fun a b => by simp only [Bool.or_eq_true, decide_eq_true_eq]; omega) zs
  exact h.imp fun h => of_decide_eq_true h
def Up (d : Array Int) : Prop := ∀ i j, i ≤ j → j < d.size → d[i]! ≤ d[j]!
theorem up_of {l : List Int} (h : l.Pairwise (· ≤ ·)) : Up l.toArray := fun i j hij hj => by
  have hj' : j < l.length := by simpa using hj
  rcases Nat.lt_or_ge i j with h1 | h1
  · have := List.pairwise_iff_getElem.1 h i j (by omega) hj' h1
    rw [getElem!_pos _ i (by simp; omega), getElem!_pos _ j (by simpa using hj')]
    simpa using this
  · obtain rfl : i = j := by omega
    exact Int.le_refl _
theorem cmp_mem {d : Array Int} : ∀ m, ∀ x, x ∈ Lib.compactUpTo d m ↔ ∃ j, j < m ∧ d[j]! = x
  | 0, x => by simp [Lib.compactUpTo]
  | m + 1, x => by
    rw [Lib.compactUpTo_succ, List.mem_append, cmp_mem m x]
    constructor
    · rintro (⟨j, hj, h⟩ | h)
      · exact ⟨j, by omega, h⟩
      · split at h
        · simp at h; exact ⟨m, by omega, h.symm⟩
        · cases h
    · rintro ⟨j, hj, h⟩
      rcases Nat.lt_succ_iff_lt_or_eq.1 hj with h1 | rfl
      · exact .inl ⟨j, h1, h⟩
      · cases hk : Lib.keeps d j
        · refine .inl ?_
          have h2 : ¬ (j = 0 ∨ d[j]! ≠ d[j - 1]!) := by simpa [Lib.keeps] using hk
          have h3 : d[j]! = d[j - 1]! := Decidable.not_not.1 fun e => h2 (.inr e)
          exact ⟨j - 1, by omega, by rw [← h3, h]⟩
        · exact .inr (by simp [h])
theorem cmp_up {d : Array Int} (hd : Up d) : ∀ m, m ≤ d.size → (Lib.compactUpTo d m).Pairwise (· < ·)
  | 0, _ => by simp [Lib.compactUpTo]
  | m + 1, hm => by
    rw [Lib.compactUpTo_succ]
    refine List.pairwise_append.2 ⟨cmp_up hd m (by omega), ?_, fun a ha b hb => ?_⟩
    · split <;> simp
    · split at hb
      · rename_i hk
        simp at hb; subst hb
        obtain ⟨j, hj, rfl⟩ := (cmp_mem m a).1 ha
        have h1 : m = 0 ∨ d[m]! ≠ d[m - 1]! := by simpa [Lib.keeps] using hk
        have h2 := hd j (m - 1) (by omega) (by omega)
        have h3 := hd (m - 1) m (by omega) (by omega)
        have h4 : d[m]! ≠ d[m - 1]! := h1.resolve_left (by omega)
        omega
      · cases hb
theorem dd_mem {zs : List Int} {x : Int} : x ∈ dd zs ↔ x ∈ zs := by
  unfold dd Lib.compact
  rw [cmp_mem, ← srt_mem]
  constructor
  · rintro ⟨j, hj, h⟩
    rw [getElem!_pos _ j (by simpa using hj)] at h
    subst h; simp
  · intro h
    obtain ⟨j, hj, he⟩ := List.mem_iff_getElem.1 h
    exact ⟨j, hj, by rw [getElem!_pos _ j (by simpa using hj)]; simpa using he⟩
theorem dd_up (zs : List Int) : (dd zs).Pairwise (· < ·) := by
  unfold dd Lib.compact
  exact cmp_up (up_of (srt_le zs)) _ (by simp)
theorem dd_len (zs : List Int) : (dd zs).length ≤ zs.length := by
  unfold dd Lib.compact Lib.compactUpTo
  rw [List.length_map]
  exact Nat.le_trans (List.length_filter_le _ _) (by simp [srt_len])
/-- Two ascending lists with the same members are one. -/
theorem up_eq : ∀ {a b : List Int}, a.Pairwise (· < ·) → b.Pairwise (· < ·) → (∀ x, x ∈ a ↔ x ∈ b) → a = b
  | [], [], _, _, _ => rfl
  | [], y :: b, _, _, h => by have := (h y).2 (by simp); cases this
  | x :: a, [], _, _, h => by have := (h x).1 (by simp); cases this
  | x :: a, y :: b, ha, hb, h => by
    have ha' := List.pairwise_cons.1 ha
    have hb' := List.pairwise_cons.1 hb
    have hxy : x = y := by
      rcases List.mem_cons.1 ((h x).1 (by simp)) with h1 | h1
      · exact h1
      · rcases List.mem_cons.1 ((h y).2 (by simp)) with h2 | h2
        · exact h2.symm
        · have := ha'.1 y h2; have := hb'.1 x h1; omega
    subst hxy
    rw [up_eq ha'.2 hb'.2 fun z => ?_]
    constructor
    · intro hz
      rcases List.mem_cons.1 ((h z).1 (by simp [hz])) with h1 | h1
      · have := ha'.1 z hz; omega
      · exact h1
    · intro hz
      rcases List.mem_cons.1 ((h z).2 (by simp [hz])) with h1 | h1
      · have := hb'.1 z hz; omega
      · exact h1
theorem up_nodup {a : List Int} (h : a.Pairwise (· < ·)) : a.Nodup := h.imp fun h => by omega
/-- Ascending by counting. -/
theorem range_up (p : Nat → Bool) (n : Nat) : (((List.range n).filter p).map fun (j : Nat) => (j : Int)).Pairwise (· < ·) := by
  refine List.Pairwise.map _ (fun a b (h : a < b) => by omega) ((List.pairwise_lt_range (n := n)).filter p)
end Go.Proofs.Ytnjaeampnakbbaa

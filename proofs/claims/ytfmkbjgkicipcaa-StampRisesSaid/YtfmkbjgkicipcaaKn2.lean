/- Plain facts: clocks and the order (FIDGE; MATTERN). -/
import Derived.Test.YtfmkbjgkicipcaaKn
set_option linter.all false
set_option maxRecDepth 100000
namespace Go.Proofs.Ytfmkbjgkicipcaa
open Go Go.RowKit

theorem countP_lt {p q : Nat → Bool} : ∀ (L : List Nat), (∀ a ∈ L, p a = true → q a = true) → (∃ a ∈ L, q a = true ∧ p a = false) → L.countP p < L.countP q
  | [], _, h => by obtain ⟨a, ha, _⟩ := h; cases ha
  | b :: L, h1, h2 => by
    rw [List.countP_cons, List.countP_cons]
    have hle : L.countP p ≤ L.countP q := List.countP_mono_left fun a ha => h1 a (by simp [ha])
    obtain ⟨a, ha, hq, hp⟩ := h2
    rcases List.mem_cons.1 ha with rfl | ha'
    · rw [hq, hp]; simp; omega
    · have := countP_lt L (fun a ha => h1 a (by simp [ha])) ⟨a, ha', hq, hp⟩
      have hb := h1 b (by simp)
      cases hpb : p b
      · cases hqb : q b <;> simp <;> omega
      · rw [hb hpb]; simp; omega
theorem countP_low {p : Nat → Bool} {m n : Nat} (hmn : m ≤ n) (h : ∀ a, m ≤ a → p a = false) : (List.range n).countP p = (List.range m).countP p := by
  obtain ⟨d, rfl⟩ := Nat.le.dest hmn
  clear hmn
  induction d with
  | zero => rfl
  | succ d ih => rw [show m + (d + 1) = m + d + 1 by omega, List.range_succ, List.countP_append, ih]; simp [h (m + d) (by omega)]
/-- How many events of thread t are among the first i. -/
def pm (l : List Ev) (i t : Nat) : Nat := (List.range i).countP fun a => tOf l a == t
theorem pm_succ (l : List Ev) (i t : Nat) : pm l (i + 1) t = pm l i t + if tOf l i = t then 1 else 0 := by
  unfold pm
  rw [List.range_succ, List.countP_append]
  simp [List.countP_cons]
theorem pm_le (l : List Ev) (i t : Nat) : pm l i t ≤ i := by
  unfold pm; exact Nat.le_trans List.countP_le_length (by simp)
theorem knB_low {l : List Ev} {j t a : Nat} (h : j + 1 ≤ a) : knB l j t a = false := by
  unfold knB
  have h1 : (a == j) = false := by simp; omega
  have h2 : bef l a j = false := by rw [← Bool.not_eq_true]; intro hh; have := bef_lt hh; omega
  rw [h1, h2]; rfl
theorem kn_low {l : List Ev} {j : Nat} (hj : j < l.length) (t : Nat) : kn l j t = (List.range (j + 1)).countP (knB l j t) := countP_low (by omega) fun a h => knB_low h
theorem kn_le_pm {l : List Ev} {j : Nat} (hj : j < l.length) (t : Nat) : kn l j t ≤ pm l (j + 1) t := by
  rw [kn_low hj]
  refine List.countP_mono_left fun a _ h => ?_
  unfold knB at h
  rw [Bool.and_eq_true] at h
  exact h.2
section
variable {l : List Ev} (hm : may l = 0)
include hm
theorem same_bef {i j : Nat} (hij : i < j) (hj : j < l.length) (ht : tOf l i = tOf l j) : bef l i j = true := by
  have hi := List.getElem?_eq_getElem (show i < l.length by omega)
  have hjj := List.getElem?_eq_getElem hj
  rw [tOf_at hi, tOf_at hjj] at ht
  have h1 := isEv_t (wrong_isEv (wrong_at hm hi))
  have h2 := isEv_t (wrong_isEv (wrong_at hm hjj))
  exact dir_bef (thread_dir hi hjj hij (by omega))
theorem kn_own {j : Nat} (hj : j < l.length) : kn l j (tOf l j) = pm l (j + 1) (tOf l j) := by
  rw [kn_low hj]
  refine List.countP_congr fun a ha => ?_
  have ha' : a < j + 1 := by simpa using ha
  unfold knB
  by_cases h : tOf l a = tOf l j
  · have h1 : (a == j || bef l a j) = true := by
      by_cases h2 : a = j
      · simp [h2]
      · rw [same_bef hm (by omega) hj h]; simp
    rw [h1, Bool.true_and]
  · have h1 : (tOf l a == tOf l j) = false := by simpa using h
    simp [h1]
theorem kn_mono {i j : Nat} (h : bef l i j = true) (t : Nat) : kn l i t ≤ kn l j t := by
  refine List.countP_mono_left fun a _ h1 => ?_
  unfold knB at *
  rw [Bool.and_eq_true, Bool.or_eq_true] at *
  refine ⟨.inr ?_, h1.2⟩
  rcases h1.1 with h2 | h2
  · rw [eq_of_beq h2]; exact h
  · exact bef_trans h2 h
theorem kn_lt {i j : Nat} (hi : i < l.length) (hij : i ≠ j) (h : bef l i j = false) : kn l j (tOf l i) < kn l i (tOf l i) := by
  refine countP_lt _ (fun a ha h1 => ?_) ⟨i, by simpa using hi, by simp [knB], ?_⟩
  · have ha' : a < l.length := by simpa using ha
    unfold knB at *
    rw [Bool.and_eq_true, Bool.or_eq_true] at *
    have ht : tOf l a = tOf l i := by simpa using h1.2
    refine ⟨?_, h1.2⟩
    rcases Nat.lt_trichotomy a i with h2 | h2 | h2
    · exact .inr (same_bef hm h2 hi ht)
    · exact .inl (by simpa using h2)
    · exfalso
      have h3 := same_bef hm h2 ha' ht.symm
      rcases h1.1 with h4 | h4
      · rw [eq_of_beq h4] at h3
        rw [h3] at h; cases h
      · have := bef_trans h3 h4
        rw [this] at h; cases h
  · unfold knB
    have h1 : (i == j) = false := by simpa using hij
    rw [h1, h]; rfl
/-- MATTERN: one is ahead of another one just if its clock is within that one's. -/
theorem mattern {i j : Nat} (hi : i < l.length) (hij : i ≠ j) : within (kc l i) (kc l j) = bef l i j := by
  cases h : bef l i j
  · refine within_no (may_tOf hm hi) ?_
    have := kn_lt hm hi hij h
    unfold kc; omega
  · rw [within_iff]
    intro k _
    have := kn_mono hm h k
    unfold kc; omega
theorem cmp_bef {i j : Nat} (h : bef l i j = true) : cmp (kc l i) (kc l j) = 1 := by
  have hlt := bef_lt h
  have h1 : within (kc l i) (kc l j) = true := by rw [mattern hm (by omega) (by omega)]; exact h
  have h2 : within (kc l j) (kc l i) = false := by
    rw [mattern hm (by omega) (by omega), ← Bool.not_eq_true]; intro hh; have := bef_lt hh; omega
  have h3 : eqc (kc l i) (kc l j) = false := by
    rw [← Bool.not_eq_true]
    intro hh
    have h4 := (eqc_iff _ _).1 hh
    have : within (kc l j) (kc l i) = true := (within_iff _ _).2 fun k hk => by rw [h4 k hk]; exact Int.le_refl _
    rw [this] at h2; cases h2
  unfold cmp
  rw [h3, h1]; simp
/-- The clock of how many events of each thread there were. -/
theorem join_pm {i : Nat} (hi : i < l.length) (t : Nat) : mx (pm l i t) (kn l i t) = pm l (i + 1) t := by
  have h1 := kn_le_pm hi t
  have h2 := pm_succ l i t
  by_cases h : tOf l i = t
  · have h3 := kn_own hm hi
    rw [h] at h3
    rw [if_pos h] at h2
    rw [mx_lt (by omega), h3]
  · rw [if_neg h] at h2
    by_cases h3 : (pm l i t : Int) < kn l i t
    · rw [mx_lt h3]; omega
    · rw [mx_ge h3]; omega
end
def pmc (l : List Ev) (i : Nat) : Nat → Int := fun t => (pm l i t : Nat)
theorem pm_zero (l : List Ev) (t : Nat) : pm l 0 t = 0 := rfl
theorem pm_sum {l : List Ev} (hT : ∀ i, i < l.length → tOf l i < 6) : ∀ i, i ≤ l.length → pm l i 0 + pm l i 1 + pm l i 2 + pm l i 3 + pm l i 4 + pm l i 5 = i
  | 0, _ => rfl
  | i + 1, hi => by
    have h := pm_sum hT i (by omega)
    have ht := hT i (by omega)
    simp only [pm_succ]
    have : tOf l i = 0 ∨ tOf l i = 1 ∨ tOf l i = 2 ∨ tOf l i = 3 ∨ tOf l i = 4 ∨ tOf l i = 5 := by omega
    rcases this with h0 | h0 | h0 | h0 | h0 | h0 <;> simp [h0] <;> omega
/-- The place behind the last event of thread t among the first i, or 0. -/
def lstI (l : List Ev) (t : Nat) : Nat → Nat
  | 0 => 0
  | k + 1 => if tOf l k = t then k + 1 else lstI l t k
theorem lstI_spec (l : List Ev) (t : Nat) : ∀ k, lstI l t k ≤ k ∧ (0 < lstI l t k → tOf l (lstI l t k - 1) = t)
  | 0 => ⟨Nat.le_refl _, fun h => absurd h (Nat.lt_irrefl _)⟩
  | k + 1 => by
    rw [lstI]
    by_cases h : tOf l k = t
    · rw [if_pos h]; exact ⟨Nat.le_refl _, fun _ => h⟩
    · rw [if_neg h]; have := lstI_spec l t k; exact ⟨by omega, this.2⟩
def lstC (l : List Ev) (i : Nat) : Nat → Int := fun t => (lstI l t i : Nat)
theorem pmc_up (l : List Ev) {i t : Nat} (ht : tOf l i = t) {u : Int} (hu : u = (pm l i t : Int) + 1) : clk (upd (pmc l i) t u) = clk (pmc l (i + 1)) := by
  refine clk_congr fun k _ => ?_
  unfold upd pmc
  rw [pm_succ]
  by_cases h : k = t
  · subst h; rw [if_pos rfl, if_pos ht, hu]; omega
  · rw [if_neg h, if_neg (fun h2 => h (by omega))]; rfl
theorem lstC_up (l : List Ev) {i t : Nat} (ht : tOf l i = t) {u : Int} (hu : u = (i : Int) + 1) : clk (upd (lstC l i) t u) = clk (lstC l (i + 1)) := by
  refine clk_congr fun k _ => ?_
  unfold upd lstC
  rw [lstI]
  by_cases h : k = t
  · subst h; rw [if_pos rfl, if_pos ht, hu]; rfl
  · rw [if_neg h, if_neg (fun h2 => h (by omega))]
end Go.Proofs.Ytfmkbjgkicipcaa

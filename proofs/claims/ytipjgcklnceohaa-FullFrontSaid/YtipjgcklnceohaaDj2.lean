/- Plain facts: the detector by full clocks: the invariant's step. -/
import Derived.Test.YtipjgcklnceohaaDj
set_option linter.all false
set_option maxRecDepth 100000
namespace Go.Proofs.Ytipjgcklnceohaa
open Go Go.RowKit

theorem le_mx {e : Nat} {a b : Nat → Nat} {u : Nat} : e ≤ mxN a b u ↔ e ≤ a u ∨ e ≤ b u := by unfold mxN; omega
theorem kc_succ {l : List Ev} {k t i : Nat} : KC l (k + 1) t i ↔ KC l k t i ∨ ((tZ l k = t ∨ (kZ l k = 5 ∧ oZ l k = t)) ∧ kb l i k) := by
  constructor
  · rintro ⟨m, h1, h2, h3⟩
    rcases Nat.lt_succ_iff_lt_or_eq.1 h1 with h | rfl
    · exact .inl ⟨m, h, h2, h3⟩
    · exact .inr ⟨h2, h3⟩
  · rintro (⟨m, h1, h2, h3⟩ | ⟨h2, h3⟩)
    · exact ⟨m, by omega, h2, h3⟩
    · exact ⟨k, by omega, h2, h3⟩
theorem kl_succ {l : List Ev} {k o i : Nat} : KL l (k + 1) o i ↔ KL l k o i ∨ ((kZ l k = 4 ∧ oZ l k = o) ∧ kb l i k) := by
  constructor
  · rintro ⟨m, h1, h2, h3⟩
    rcases Nat.lt_succ_iff_lt_or_eq.1 h1 with h | rfl
    · exact .inl ⟨m, h, h2, h3⟩
    · exact .inr ⟨h2, h3⟩
  · rintro (⟨m, h1, h2, h3⟩ | ⟨h2, h3⟩)
    · exact ⟨m, by omega, h2, h3⟩
    · exact ⟨k, by omega, h2, h3⟩
theorem kv_succ {l : List Ev} {k o i : Nat} : KV l (k + 1) o i ↔ KV l k o i ∨ ((kZ l k = 8 ∧ oZ l k = o) ∧ kb l i k) := by
  constructor
  · rintro ⟨m, h1, h2, h3⟩
    rcases Nat.lt_succ_iff_lt_or_eq.1 h1 with h | rfl
    · exact .inl ⟨m, h, h2, h3⟩
    · exact .inr ⟨h2, h3⟩
  · rintro (⟨m, h1, h2, h3⟩ | ⟨h2, h3⟩)
    · exact ⟨m, by omega, h2, h3⟩
    · exact ⟨k, by omega, h2, h3⟩
theorem ovr_succ {l : List Ev} {k u : Nat} (h : ¬ ovr l (k + 1) u) : ¬ ovr l k u ∧ ¬ (kZ l k = 6 ∧ oZ l k = u) :=
  ⟨fun ⟨m, h1, h2⟩ => h ⟨m, by omega, h2⟩, fun h2 => h ⟨k, by omega, h2⟩⟩
theorem kc_self {l : List Ev} {k t : Nat} : ¬ KC l k t k := fun ⟨_, h1, _, h3⟩ => by have := kb_le h3; omega
theorem kl_self {l : List Ev} {k o : Nat} : ¬ KL l k o k := fun ⟨_, h1, _, h3⟩ => by have := kb_le h3; omega
theorem kv_self {l : List Ev} {k o : Nat} : ¬ KV l k o k := fun ⟨_, h1, _, h3⟩ => by have := kb_le h3; omega
theorem kb_self {l : List Ev} {k : Nat} : kb l k k := .inl rfl
theorem kb_lt {l : List Ev} {i k : Nat} (h : i < k) : kb l i k ↔ bef l i k = true := ⟨fun h1 => h1.resolve_left (by omega), .inr⟩
theorem djI_start (l : List Ev) : DjI l 0 djStart where
  c0 := fun t u => by unfold djStart; dsimp only; split <;> simp
  l0 := fun _ _ => Nat.zero_le _
  v0 := fun _ _ => Nat.zero_le _
  c1 := fun t u h _ => by unfold djStart; dsimp only; rw [if_neg h, if_pos rfl]; omega
  l1 := fun _ u _ => by unfold djStart; dsimp only; rw [if_pos rfl]; omega
  v1 := fun _ u _ => by unfold djStart; dsimp only; rw [if_pos rfl]; omega
  kc := fun _ i h => by omega
  kl := fun _ i h => by omega
  kv := fun _ i h => by omega
section
variable {l : List Ev} {k : Nat} {s : Dj}
/-- A step that leaves all clocks but one thread's, which takes in another clock X that knows what Y knows. -/
theorem djI_take (h : DjI l k s) (hov : ¬ ovr l k (tZ l k)) (he : epo l k = s.C (tZ l k) (tZ l k)) (X : Nat → Nat) (Y : Nat → Prop)
    (x0 : ∀ u, X u ≤ s.C u u) (x1 : ∀ u, u ≠ tZ l k → ¬ ovr l (k + 1) u → X u < s.C u u) (hx : ∀ i, i < k → (epo l i ≤ X (tZ l i) ↔ Y i))
    (h4 : kZ l k ≠ 4) (h5 : kZ l k ≠ 5) (h8 : kZ l k ≠ 8) (hb : ∀ i, i < k → (bef l i k = true ↔ KC l k (tZ l k) i ∨ Y i)) :
    DjI l (k + 1) { s with C := put1 s.C (tZ l k) (mxN (s.C (tZ l k)) X) } := by
  have hself : ∀ u, put1 s.C (tZ l k) (mxN (s.C (tZ l k)) X) u u = s.C u u := fun u => by
    by_cases hu : u = tZ l k
    · subst hu; rw [put1_same]; unfold mxN; have := x0 (tZ l k); omega
    · rw [put1_ne _ _ hu]
  constructor
  · intro t u
    dsimp only; rw [hself]
    by_cases ht : t = tZ l k
    · subst ht; rw [put1_same]; unfold mxN; have := h.c0 (tZ l k) u; have := x0 u; omega
    · rw [put1_ne _ _ ht]; exact h.c0 t u
  · intro o u; dsimp only; rw [hself]; exact h.l0 o u
  · intro o u; dsimp only; rw [hself]; exact h.v0 o u
  · intro t u htu hu
    dsimp only; rw [hself]
    have hu' := ovr_succ hu
    by_cases ht : t = tZ l k
    · subst ht; rw [put1_same]; unfold mxN; have := h.c1 (tZ l k) u htu hu'.1; have := x1 u (Ne.symm htu) hu; omega
    · rw [put1_ne _ _ ht]; exact h.c1 t u htu hu'.1
  · intro o u hu; dsimp only; rw [hself]; exact h.l1 o u (ovr_succ hu).1
  · intro o u hu; dsimp only; rw [hself]; exact h.v1 o u (ovr_succ hu).1
  · intro t i hi
    dsimp only
    rw [kc_succ]
    rcases Nat.lt_succ_iff_lt_or_eq.1 hi with hi | rfl
    · by_cases ht : t = tZ l k
      · subst ht
        rw [put1_same, le_mx, h.kc _ i hi, hx i hi, kb_lt hi, hb i hi]
        constructor
        · intro hh; exact .inr ⟨.inl rfl, hh⟩
        · rintro (hh | ⟨_, hh⟩)
          · exact .inl hh
          · exact hh
      · rw [put1_ne _ _ ht, h.kc _ i hi]
        exact ⟨.inl, fun hh => hh.resolve_right fun hr => hr.1.elim (fun e => ht e.symm) (fun e => h5 e.1)⟩
    · rw [he]
      by_cases ht : t = tZ l i
      · subst ht
        rw [hself]
        exact ⟨fun _ => .inr ⟨.inl rfl, kb_self⟩, fun _ => Nat.le_refl _⟩
      · rw [put1_ne _ _ ht]
        have := h.c1 t _ ht hov
        constructor
        · intro hh; omega
        · rintro (hh | ⟨hh | hh, _⟩)
          · exact absurd hh kc_self
          · exact absurd hh.symm ht
          · exact absurd hh.1 h5
  · intro o i hi
    dsimp only
    rw [kl_succ]
    rcases Nat.lt_succ_iff_lt_or_eq.1 hi with hi | rfl
    · rw [h.kl _ i hi]
      exact ⟨.inl, fun hh => hh.resolve_right fun hr => h4 hr.1.1⟩
    · rw [he]
      have := h.l1 o _ hov
      exact ⟨fun hh => by omega, fun hh => by rcases hh with hh | hh; exact absurd hh kl_self; exact absurd hh.1.1 h4⟩
  · intro o i hi
    dsimp only
    rw [kv_succ]
    rcases Nat.lt_succ_iff_lt_or_eq.1 hi with hi | rfl
    · rw [h.kv _ i hi]
      exact ⟨.inl, fun hh => hh.resolve_right fun hr => h8 hr.1.1⟩
    · rw [he]
      have := h.v1 o _ hov
      exact ⟨fun hh => by omega, fun hh => by rcases hh with hh | hh; exact absurd hh kv_self; exact absurd hh.1.1 h8⟩
end
end Go.Proofs.Ytipjgcklnceohaa

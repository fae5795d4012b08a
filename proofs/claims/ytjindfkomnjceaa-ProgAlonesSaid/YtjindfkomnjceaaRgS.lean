/- Plain facts: how the program finds a ring: rows of n locks, the first that closes; and the ranks as it counts them. -/
import Derived.Test.YtjindfkomnjceaaRgC
set_option linter.all false
set_option maxRecDepth 100000
namespace Go.Proofs.Ytjindfkomnjceaa
open Go Go.RowKit

def lst (r : List Nat) : Nat := at0 r (r.length - 1)
theorem lst_snoc (r : List Nat) (a : Nat) : lst (r ++ [a]) = a := by
  unfold lst
  rw [List.length_append, List.length_singleton, Nat.add_sub_cancel]
  exact at0_end
/-- May k come next? -/
def goes (P : Nat → Nat → Bool) (s : List Nat) (k : Nat) : Bool := s.isEmpty || P (lst s) k
/-- The least row of s and f more that closes. -/
def comp (P : Nat → Nat → Bool) : Nat → List Nat → Option (List Nat)
  | 0, s => if P (lst s) (at0 s 0) then some s else none
  | f + 1, s => (List.range 5).findSome? fun k => if goes P s k then comp P f (s ++ [k]) else none
def cand (P : Nat → Nat → Bool) (f : Nat) (s : List Nat) (k : Nat) : Option (List Nat) := if goes P s k then comp P f (s ++ [k]) else none
theorem comp_succ (P : Nat → Nat → Bool) (f : Nat) (s : List Nat) : comp P (f + 1) s = (List.range 5).findSome? (cand P f s) := rfl
theorem first_hit {α : Type} {g : Nat → Option α} {n k : Nat} {r : α} (hk : k < n) (h : ∀ j, j < k → g j = none) (hr : g k = some r) : (List.range n).findSome? g = some r := by
  induction n with
  | zero => omega
  | succ n ih =>
    rw [List.range_succ, List.findSome?_append]
    by_cases h9 : k < n
    · rw [ih h9]; rfl
    · obtain rfl : k = n := by omega
      have : (List.range k).findSome? g = none := by
        rw [List.findSome?_eq_none_iff]
        intro j hj
        exact h j (List.mem_range.1 hj)
      rw [this]
      simp [hr]
theorem first_miss {α : Type} {g : Nat → Option α} {n : Nat} (h : ∀ j, j < n → g j = none) : (List.range n).findSome? g = none := by
  rw [List.findSome?_eq_none_iff]
  intro j hj
  exact h j (List.mem_range.1 hj)
theorem first_some {α : Type} {g : Nat → Option α} {n : Nat} {r : α} (h : (List.range n).findSome? g = some r) : ∃ k, k < n ∧ g k = some r ∧ ∀ j, j < k → g j = none := by
  induction n with
  | zero => simp at h
  | succ n ih =>
    rw [List.range_succ, List.findSome?_append] at h
    cases h9 : (List.range n).findSome? g with
    | some y =>
      rw [h9] at h
      obtain ⟨k, h1, h2, h3⟩ := ih (by rw [h9]; simpa using h)
      exact ⟨k, by omega, h2, h3⟩
    | none =>
      rw [h9] at h
      rw [List.findSome?_eq_none_iff] at h9
      exact ⟨n, by omega, by simpa using h, fun j hj => h9 j (List.mem_range.2 hj)⟩
theorem first_none {α : Type} {g : Nat → Option α} {n : Nat} (h : (List.range n).findSome? g = none) : ∀ j, j < n → g j = none := by
  rw [List.findSome?_eq_none_iff] at h
  intro j hj
  exact h j (List.mem_range.2 hj)
theorem comp_hit {P : Nat → Nat → Bool} {f k : Nat} {s r : List Nat} (hk : k < 5) (h : ∀ j, j < k → cand P f s j = none) (hr : cand P f s k = some r) : comp P (f + 1) s = some r := first_hit hk h hr
theorem comp_miss {P : Nat → Nat → Bool} {f : Nat} {s : List Nat} (h : ∀ j, j < 5 → cand P f s j = none) : comp P (f + 1) s = none := first_miss h

theorem chn_snoc {P : Nat → Nat → Bool} {s : List Nat} {k : Nat} (h : Chn P s) (hg : goes P s k = true) : Chn P (s ++ [k]) := by
  rcases List.eq_nil_or_concat s with rfl | ⟨t, a, rfl⟩
  · trivial
  · rw [List.concat_eq_append] at h hg ⊢
    have : P a k = true := by
      unfold goes at hg
      rw [lst_snoc] at hg
      simpa using hg
    rw [List.append_assoc]
    exact chn_join.2 ⟨h, ⟨this, trivial⟩⟩
theorem goes_chn {P : Nat → Nat → Bool} {s t : List Nat} {k : Nat} (h : Chn P (s ++ k :: t)) : goes P s k = true := by
  rcases List.eq_nil_or_concat s with rfl | ⟨u, a, rfl⟩
  · rfl
  · rw [List.concat_eq_append] at h ⊢
    unfold goes
    rw [lst_snoc]
    rw [List.append_assoc] at h
    have := (chn_join.1 h).2.1
    rw [this]; simp
theorem cyc_close {P : Nat → Nat → Bool} {s : List Nat} (hs : s ≠ []) : Cyc P s ↔ Chn P s ∧ P (lst s) (at0 s 0) = true := by
  cases s with
  | nil => exact absurd rfl hs
  | cons a t =>
    show Chn P (a :: (t ++ [a])) ↔ _
    rcases List.eq_nil_or_concat t with rfl | ⟨u, b, rfl⟩
    · exact ⟨fun h => ⟨trivial, h.1⟩, fun h => ⟨h.2, trivial⟩⟩
    · rw [List.concat_eq_append]
      have e1 : lst (a :: (u ++ [b])) = b := lst_snoc (a :: u) b
      have e2 : a :: (u ++ [b] ++ [a]) = (a :: u) ++ b :: [a] := by simp
      rw [e1, e2]
      constructor
      · intro h
        obtain ⟨h1, h2⟩ := chn_join.1 h
        exact ⟨by simpa using h1, h2.1⟩
      · intro h
        exact chn_join.2 ⟨by simpa using h.1, ⟨h.2, trivial⟩⟩
theorem cyc_chn {P : Nat → Nat → Bool} {s : List Nat} (h : Cyc P s) : Chn P s := ((cyc_close (fun e => by subst e; exact h)).1 h).1
theorem lx_app : ∀ {s a b : List Nat}, lx (s ++ a) (s ++ b) ↔ lx a b
  | [], a, b => Iff.rfl
  | x :: s, a, b => by
    have ih := lx_app (s := s) (a := a) (b := b)
    simp only [List.cons_append, lx, ih]
    constructor
    · rintro (h | h)
      · omega
      · exact h.2
    · intro h; exact .inr ⟨trivial, h⟩
theorem comp_none {P : Nat → Nat → Bool} (h5 : Five P) : ∀ {f : Nat} {s t : List Nat}, comp P f s = none → t.length = f → ¬ Cyc P (s ++ t)
  | 0, s, t, h, ht, hc => by
    obtain rfl := List.eq_nil_of_length_eq_zero ht
    rw [List.append_nil] at hc
    have := ((cyc_close (fun e => by subst e; exact hc)).1 hc).2
    rw [comp, if_pos this] at h
    cases h
  | f + 1, s, [], _, ht, _ => by simp at ht
  | f + 1, s, k :: t, h, ht, hc => by
    have hk : k < 5 := cyc_five h5 hc k (by simp)
    have h1 := first_none (comp_succ P f s ▸ h) k hk
    rw [cand, if_pos (goes_chn (cyc_chn hc))] at h1
    exact comp_none h5 (s := s ++ [k]) (t := t) h1 (by simpa using ht) (by rw [List.append_assoc]; exact hc)
theorem comp_some {P : Nat → Nat → Bool} (h5 : Five P) : ∀ {f : Nat} {s r : List Nat}, Chn P s → 0 < s.length + f → comp P f s = some r →
    Cyc P r ∧ r.length = s.length + f ∧ ∀ t, Cyc P (s ++ t) → t.length = f → ¬ lx (s ++ t) r
  | 0, s, r, hs, hp, h => by
    rw [comp] at h
    split at h
    · rename_i h1
      obtain rfl : s = r := by simpa using h
      refine ⟨(cyc_close (fun e => by subst e; simp at hp)).2 ⟨hs, h1⟩, rfl, fun t _ ht => ?_⟩
      obtain rfl := List.eq_nil_of_length_eq_zero ht
      rw [List.append_nil]
      exact rlx_irr
    · cases h
  | f + 1, s, r, hs, hp, h => by
    obtain ⟨k, hk, h1, h2⟩ := first_some (comp_succ P f s ▸ h)
    rw [cand] at h1
    split at h1
    · rename_i hg
      obtain ⟨a1, a2, a3⟩ := comp_some h5 (s := s ++ [k]) (chn_snoc hs hg) (by simp; omega) h1
      refine ⟨a1, by rw [a2]; simp; omega, fun t ht hl => ?_⟩
      cases t with
      | nil => simp at hl
      | cons j t =>
        have hj : j < 5 := cyc_five h5 ht j (by simp)
        rcases Nat.lt_trichotomy j k with h9 | rfl | h9
        · have h4 := h2 j h9
          rw [cand, if_pos (goes_chn (cyc_chn ht))] at h4
          exact absurd (by rw [List.append_assoc]; exact ht) (comp_none h5 (s := s ++ [j]) (t := t) h4 (by simpa using hl))
        · have := a3 t (by rw [List.append_assoc]; exact ht) (by simpa using hl)
          rwa [List.append_assoc] at this
        · intro hlx
          obtain ⟨u, hu⟩ := comp_pre h1
          rw [hu, List.append_assoc] at hlx
          have := lx_app.1 hlx
          rcases this with h8 | ⟨h8, _⟩ <;> omega
    · cases h1
where
  comp_pre {P : Nat → Nat → Bool} : ∀ {f : Nat} {s r : List Nat}, comp P f s = some r → ∃ t, r = s ++ t
    | 0, s, r, h => by
      rw [comp] at h
      split at h
      · exact ⟨[], by simpa using (by simpa using h : s = r).symm⟩
      · cases h
    | f + 1, s, r, h => by
      obtain ⟨k, _, h1, _⟩ := first_some (comp_succ P f s ▸ h)
      rw [cand] at h1
      split at h1
      · obtain ⟨t, rfl⟩ := comp_pre (s := s ++ [k]) h1
        exact ⟨k :: t, by simp⟩
      · cases h1
def ringP (P : Nat → Nat → Bool) : Option (List Nat) := (List.range 5).findSome? fun n => comp P (n + 1) []
theorem ring_none {P : Nat → Nat → Bool} (h5 : Five P) (h : ∀ j, j < 5 → comp P (j + 1) [] = none) : RingOk P [] := by
  refine .inl ⟨rfl, fun s hs => ?_⟩
  obtain ⟨t, h1, _, h3⟩ := cyc_least (Nat.le_refl _) hs
  have hp := cyc_pos h1
  have hl := nodup_five h3 (cyc_five h5 h1)
  exact comp_none h5 (s := []) (t := t) (h (t.length - 1) (by omega)) (by omega) h1
theorem ring_some {P : Nat → Nat → Bool} (h5 : Five P) {n : Nat} {r : List Nat} (h : ∀ j, j < n → comp P (j + 1) [] = none) (hr : comp P (n + 1) [] = some r) : RingOk P r ∧ r.length = n + 1 := by
  obtain ⟨h1, h2, h3⟩ := comp_some h5 (s := []) trivial (by simp) hr
  simp at h2
  refine ⟨.inr ⟨h1, fun s hs => ?_, fun s hs hl => h3 s hs (by omega)⟩, h2⟩
  have hp := cyc_pos hs
  rw [h2]
  by_cases h9 : s.length < n + 1
  · exact absurd hs (comp_none h5 (s := []) (t := s) (h (s.length - 1) (by omega)) (by omega))
  · omega

/-! Ranks, as they are counted. -/
/-- The most that the first n leave. -/
def most (P : Nat → Nat → Bool) (f : Nat → Nat) (k : Nat) : Nat → Nat
  | 0 => 0
  | n + 1 => if P n k then max (most P f k n) (f n + 1) else most P f k n
theorem most_ge {P : Nat → Nat → Bool} {f : Nat → Nat} {k a : Nat} (h : P a k = true) : ∀ {n : Nat}, a < n → f a + 1 ≤ most P f k n
  | 0, hn => by omega
  | n + 1, hn => by
    rw [most]
    by_cases h9 : a = n
    · subst h9; rw [if_pos h]; exact Nat.le_max_right _ _
    · have := most_ge (f := f) h (n := n) (by omega)
      split
      · exact Nat.le_trans this (Nat.le_max_left _ _)
      · exact this
theorem most_le {P : Nat → Nat → Bool} {f : Nat → Nat} {k m : Nat} (h : ∀ a, P a k = true → f a + 1 ≤ m) : ∀ {n : Nat}, most P f k n ≤ m
  | 0 => Nat.zero_le _
  | n + 1 => by
    rw [most]
    split
    · rename_i h1; exact Nat.max_le.2 ⟨most_le h, h _ h1⟩
    · exact most_le h
theorem most_all {P : Nat → Nat → Bool} (h5 : Five P) {f : Nat → Nat} (h : RankOk P f) (k : Nat) : most P f k 5 = f k := by
  apply Nat.le_antisymm
  · exact most_le fun a ha => h.up _ _ ha
  · rcases h.dn k with h0 | ⟨a, ha, he⟩
    · omega
    · rw [← he]; exact most_ge ha (h5 _ _ ha).1
theorem top_one {p : Nat → Prop} (h0 : p 0) : ∀ m : Nat, (∀ n, p n → n ≤ m) → ∃ n, p n ∧ ∀ j, p j → j ≤ n
  | 0, h => ⟨0, h0, h⟩
  | m + 1, h => by
    by_cases hm : p (m + 1)
    · exact ⟨m + 1, hm, h⟩
    · exact top_one h0 m fun n hn => by
        have := h n hn
        have : n ≠ m + 1 := fun e => hm (e ▸ hn)
        omega
theorem rank_ex {P : Nat → Nat → Bool} (h5 : Five P) (hn : ∀ s, ¬ Cyc P s) : ∃ f, RankOk P f := by
  have h : ∀ k, ∃ n, (∃ x, x.length = n ∧ Chn P (x ++ [k])) ∧ ∀ j, (∃ x, x.length = j ∧ Chn P (x ++ [k])) → j ≤ n := fun k => by
    refine top_one (p := fun n => ∃ x, x.length = n ∧ Chn P (x ++ [k])) ⟨[], rfl, trivial⟩ 5 ?_
    rintro n ⟨x, rfl, hx⟩
    have hd := chn_nodup hn hx
    rw [List.nodup_append] at hd
    exact nodup_five hd.1 (chn_five h5 hx)
  refine ⟨fun k => (h k).choose, rank_of_most (fun k => (h k).choose_spec.1) fun x k hx => (h k).choose_spec.2 _ ⟨x, rfl, hx⟩⟩
theorem rank_lt {P : Nat → Nat → Bool} (h5 : Five P) {f : Nat → Nat} (h : RankOk P f) (k : Nat) (hk : k < 5) : f k < 5 := by
  obtain ⟨x, h1, h2⟩ := rank_reach h _ k rfl
  have hn := chn_nodup (rank_cyc h.up) h2
  have hx : ∀ j ∈ x ++ [k], j < 5 := fun j hj => by
    rcases List.mem_append.1 hj with hj | hj
    · exact chn_five h5 h2 j hj
    · rw [List.mem_singleton.1 hj]; exact hk
  have := nodup_five hn hx
  simp at this
  omega
end Go.Proofs.Ytjindfkomnjceaa

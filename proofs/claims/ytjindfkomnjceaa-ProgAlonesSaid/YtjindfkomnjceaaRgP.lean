/- Plain facts: cycles and ranks of a relation between five locks. -/
import Derived.Test.YtjindfkomnjceaaTr
set_option linter.all false
set_option maxRecDepth 100000
namespace Go.Proofs.Ytjindfkomnjceaa
open Go Go.RowKit

/-- Each leads to the next one. -/
def Chn (P : Nat → Nat → Bool) : List Nat → Prop
  | [] => True
  | [_] => True
  | a :: b :: r => P a b = true ∧ Chn P (b :: r)
theorem Chn.cons {P : Nat → Nat → Bool} {a b : Nat} {r : List Nat} (h : P a b = true) (hr : Chn P (b :: r)) : Chn P (a :: b :: r) := ⟨h, hr⟩
theorem Chn.tail {P : Nat → Nat → Bool} {a : Nat} : ∀ {r : List Nat}, Chn P (a :: r) → Chn P r
  | [], _ => trivial
  | _ :: _, h => h.2
theorem chn_join {P : Nat → Nat → Bool} {b : Nat} {y : List Nat} : ∀ {x : List Nat}, Chn P (x ++ b :: y) ↔ Chn P (x ++ [b]) ∧ Chn P (b :: y)
  | [] => ⟨fun h => ⟨trivial, h⟩, fun h => h.2⟩
  | [a] => ⟨fun h => ⟨⟨h.1, trivial⟩, h.2⟩, fun h => ⟨h.1.1, h.2⟩⟩
  | a :: c :: x => by
    have ih := chn_join (P := P) (b := b) (y := y) (x := c :: x)
    constructor
    · intro h
      obtain ⟨h1, h2⟩ := ih.1 h.2
      exact ⟨⟨h.1, h1⟩, h2⟩
    · intro h
      exact ⟨h.1.1, ih.2 ⟨h.1.2, h.2⟩⟩
theorem chn_left {P : Nat → Nat → Bool} {y : List Nat} : ∀ {x : List Nat}, Chn P (x ++ y) → Chn P x
  | [], _ => trivial
  | [_], _ => trivial
  | _ :: c :: x, h => ⟨h.1, chn_left (x := c :: x) h.2⟩
theorem chn_right {P : Nat → Nat → Bool} {y : List Nat} : ∀ {x : List Nat}, Chn P (x ++ y) → Chn P y
  | [], h => h
  | a :: x, h => chn_right (x := x) (Chn.tail h)
theorem chn_mono {P Q : Nat → Nat → Bool} (h : ∀ a b, P a b = true → Q a b = true) : ∀ {r : List Nat}, Chn P r → Chn Q r
  | [], _ => trivial
  | [_], _ => trivial
  | _ :: _ :: _, hr => ⟨h _ _ hr.1, chn_mono h hr.2⟩
/-- A cycle: back to the first one. -/
def Cyc (P : Nat → Nat → Bool) : List Nat → Prop
  | [] => False
  | a :: s => Chn P (a :: (s ++ [a]))
theorem cyc_mono {P Q : Nat → Nat → Bool} (h : ∀ a b, P a b = true → Q a b = true) {r : List Nat} (hr : Cyc P r) : Cyc Q r := by
  cases r with
  | nil => exact hr
  | cons a s => exact chn_mono h hr
theorem cyc_turn {P : Nat → Nat → Bool} {x y : List Nat} {b : Nat} (h : Cyc P (x ++ b :: y)) : Cyc P (b :: (y ++ x)) := by
  cases x with
  | nil => simpa using h
  | cons a x =>
    have h1 : Chn P ((a :: x) ++ b :: (y ++ [a])) := by simpa [Cyc] using h
    obtain ⟨h2, h3⟩ := chn_join.1 h1
    show Chn P (b :: ((y ++ a :: x) ++ [b]))
    have : Chn P ((b :: y) ++ a :: (x ++ [b])) := chn_join.2 ⟨h3, h2⟩
    simpa using this
theorem cyc_short {P : Nat → Nat → Bool} {x y z : List Nat} {b : Nat} (h : Cyc P (x ++ b :: (y ++ b :: z))) : Cyc P (b :: y) := by
  have h1 := cyc_turn h
  have h2 : Chn P ((b :: y) ++ b :: (z ++ x ++ [b])) := by simpa [Cyc] using h1
  exact (chn_join.1 h2).1
theorem two_places {r : List Nat} (h : ¬ r.Nodup) : ∃ x b y z, r = x ++ b :: (y ++ b :: z) := by
  induction r with
  | nil => exact absurd List.nodup_nil h
  | cons a r ih =>
    rw [List.nodup_cons] at h
    by_cases ha : a ∈ r
    · obtain ⟨y, z, rfl⟩ := List.append_of_mem ha
      exact ⟨[], a, y, z, rfl⟩
    · obtain ⟨x, b, y, z, rfl⟩ := ih (fun h9 => h ⟨ha, h9⟩)
      exact ⟨a :: x, b, y, z, rfl⟩
/-- A relation between five. -/
def Five (P : Nat → Nat → Bool) : Prop := ∀ a b, P a b = true → a < 5 ∧ b < 5
theorem chn_five {P : Nat → Nat → Bool} (h5 : Five P) : ∀ {r : List Nat} {a : Nat}, Chn P (r ++ [a]) → ∀ k ∈ r, k < 5
  | [], _, _, _, hk => by cases hk
  | [b], a, h, k, hk => by
    obtain rfl := List.mem_singleton.1 hk
    exact (h5 _ _ h.1).1
  | b :: c :: r, a, h, k, hk => by
    rcases List.mem_cons.1 hk with rfl | hk
    · exact (h5 _ _ h.1).1
    · exact chn_five h5 (r := c :: r) (a := a) h.2 k hk
theorem cyc_five {P : Nat → Nat → Bool} (h5 : Five P) {r : List Nat} (h : Cyc P r) : ∀ k ∈ r, k < 5 := by
  cases r with
  | nil => intro k hk; cases hk
  | cons a s => exact chn_five h5 (r := a :: s) (a := a) h
theorem cyc_pos {P : Nat → Nat → Bool} {r : List Nat} (h : Cyc P r) : 0 < r.length := by
  cases r with
  | nil => exact h.elim
  | cons a s => simp
theorem nodup_five {r : List Nat} (h : r.Nodup) (h5 : ∀ k ∈ r, k < 5) : r.length ≤ 5 := by
  have := List.Nodup.length_le_of_subset h (l₂ := List.range 5) (fun k hk => List.mem_range.2 (h5 k hk))
  simpa using this
/-- A shortest cycle passes none twice. -/
theorem least_nodup {P : Nat → Nat → Bool} {r : List Nat} (h : Cyc P r) (hl : ∀ s, Cyc P s → r.length ≤ s.length) : r.Nodup := by
  apply Classical.byContradiction
  intro hn
  obtain ⟨x, b, y, z, rfl⟩ := two_places hn
  have := hl _ (cyc_short h)
  simp at this
  omega
theorem cyc_least {P : Nat → Nat → Bool} : ∀ {n : Nat} {r : List Nat}, r.length ≤ n → Cyc P r → ∃ s, Cyc P s ∧ s.length ≤ r.length ∧ s.Nodup
  | 0, r, hn, h => absurd (cyc_pos h) (by omega)
  | n + 1, r, hn, h => by
    by_cases hd : r.Nodup
    · exact ⟨r, h, Nat.le_refl _, hd⟩
    · obtain ⟨x, b, y, z, rfl⟩ := two_places hd
      have hs := cyc_short h
      obtain ⟨s, h1, h2, h3⟩ := cyc_least (n := n) (by simp at hn ⊢; omega) hs
      exact ⟨s, h1, by simp at h2 ⊢; omega, h3⟩
/-- One list is ahead of another of its length. -/
def lx : List Nat → List Nat → Prop
  | a :: r, b :: s => a < b ∨ (a = b ∧ lx r s)
  | _, _ => False
theorem lx_tri : ∀ {r s : List Nat}, r.length = s.length → ¬ lx r s → ¬ lx s r → r = s
  | [], [], _, _, _ => rfl
  | [], _ :: _, h, _, _ => by simp at h
  | _ :: _, [], h, _, _ => by simp at h
  | a :: r, b :: s, h, h1, h2 => by
    unfold lx at h1 h2
    have hab : a = b := by
      rcases Nat.lt_trichotomy a b with h9 | h9 | h9
      · exact absurd (.inl h9) h1
      · exact h9
      · exact absurd (.inl h9) h2
    subst hab
    rw [lx_tri (r := r) (s := s) (by simpa using h) (fun h9 => h1 (.inr ⟨rfl, h9⟩)) (fun h9 => h2 (.inr ⟨rfl, h9⟩))]
theorem rlx_irr : ∀ {r : List Nat}, ¬ lx r r
  | [], h => h
  | a :: r, h => by
    rcases h with h | h
    · omega
    · exact rlx_irr h.2
/-- What Ring is to answer. -/
def RingOk (P : Nat → Nat → Bool) (r : List Nat) : Prop :=
  (r = [] ∧ ∀ s, ¬ Cyc P s) ∨ (Cyc P r ∧ (∀ s, Cyc P s → r.length ≤ s.length) ∧ ∀ s, Cyc P s → s.length = r.length → ¬ lx s r)
theorem ring_uniq {P : Nat → Nat → Bool} {r s : List Nat} (hr : RingOk P r) (hs : RingOk P s) : r = s := by
  rcases hr with ⟨rfl, h1⟩ | ⟨h1, h2, h3⟩
  · rcases hs with ⟨rfl, _⟩ | ⟨h4, _⟩
    · rfl
    · exact absurd h4 (h1 _)
  · rcases hs with ⟨rfl, h4⟩ | ⟨h4, h5, h6⟩
    · exact absurd h1 (h4 _)
    · have hl : r.length = s.length := Nat.le_antisymm (h2 _ h4) (h5 _ h1)
      exact lx_tri hl (h6 _ h1 hl) (h3 _ h4 hl.symm)
/-- The first of a ring is its least. -/
theorem ring_first {P : Nat → Nat → Bool} {a : Nat} {s : List Nat} (h : RingOk P (a :: s)) : ∀ k ∈ a :: s, a ≤ k := by
  rcases h with ⟨h, _⟩ | ⟨h1, h2, h3⟩
  · cases h
  · intro k hk
    apply Classical.byContradiction
    intro hlt
    obtain ⟨x, y, he⟩ := List.append_of_mem hk
    have hc : Cyc P (k :: (y ++ x)) := cyc_turn (by rw [← he]; exact h1)
    refine h3 _ hc ?_ (.inl (by omega))
    have := congrArg List.length he
    simp at this ⊢
    omega
/-- With fewer pairs no shorter ring. -/
theorem ring_less {P Q : Nat → Nat → Bool} (h : ∀ a b, P a b = true → Q a b = true) {r s : List Nat} (hr : RingOk P r) (hs : RingOk Q s) (hne : r ≠ []) : s ≠ [] ∧ s.length ≤ r.length := by
  rcases hr with ⟨h1, _⟩ | ⟨h1, _, _⟩
  · exact absurd h1 hne
  · have hc := cyc_mono h h1
    rcases hs with ⟨rfl, h4⟩ | ⟨h4, h5, _⟩
    · exact absurd hc (h4 _)
    · exact ⟨fun e => by subst e; exact h4, h5 _ hc⟩
/-- The other way round. -/
theorem chn_rev {P : Nat → Nat → Bool} : ∀ {r : List Nat}, Chn P r → Chn (fun a b => P b a) r.reverse
  | [], _ => trivial
  | [_], _ => trivial
  | a :: b :: r, h => by
    have ih := chn_rev h.2
    simp only [List.reverse_cons, List.append_assoc, List.cons_append, List.nil_append] at ih ⊢
    exact chn_join.2 ⟨ih, ⟨h.1, trivial⟩⟩
theorem cyc_rev {P : Nat → Nat → Bool} {r : List Nat} (h : Cyc P r) : ∃ s, Cyc (fun a b => P b a) s ∧ s.length = r.length := by
  cases r with
  | nil => exact h.elim
  | cons a s =>
    have h1 := chn_rev h
    refine ⟨a :: s.reverse, ?_, by simp⟩
    show Chn _ (a :: (s.reverse ++ [a]))
    simpa using h1
theorem ring_rev {P : Nat → Nat → Bool} {r s : List Nat} (hr : RingOk P r) (hs : RingOk (fun a b => P b a) s) : s.length = r.length := by
  rcases hr with ⟨rfl, h1⟩ | ⟨h1, h2, _⟩
  · rcases hs with ⟨rfl, _⟩ | ⟨h4, _, _⟩
    · rfl
    · obtain ⟨t, ht, _⟩ := cyc_rev h4
      exact absurd ht (h1 _)
  · rcases hs with ⟨rfl, h4⟩ | ⟨h4, h5, _⟩
    · obtain ⟨t, ht, _⟩ := cyc_rev h1
      exact absurd ht (h4 _)
    · obtain ⟨t, ht, e1⟩ := cyc_rev h1
      obtain ⟨u, hu, e2⟩ := cyc_rev h4
      have := h5 _ ht
      have := h2 _ hu
      omega

/-! Ranks. -/
/-- Each leads to a higher one, and each comes from the next lower one. -/
structure RankOk (P : Nat → Nat → Bool) (f : Nat → Nat) : Prop where
  up : ∀ a b, P a b = true → f a < f b
  dn : ∀ k, f k = 0 ∨ ∃ a, P a k = true ∧ f a + 1 = f k
theorem rank_chn {P : Nat → Nat → Bool} {f : Nat → Nat} (hu : ∀ a b, P a b = true → f a < f b) : ∀ {r : List Nat} {a k : Nat}, Chn P (a :: (r ++ [k])) → f a + r.length + 1 ≤ f k
  | [], a, k, h => by have := hu _ _ h.1; simp; omega
  | b :: r, a, k, h => by
    have h1 := hu _ _ h.1
    have h2 := rank_chn hu (r := r) (a := b) (k := k) h.2
    simp only [List.length_cons]; omega
/-- A ring and ranks are not both. -/
theorem rank_cyc {P : Nat → Nat → Bool} {f : Nat → Nat} (hu : ∀ a b, P a b = true → f a < f b) (r : List Nat) : ¬ Cyc P r := by
  cases r with
  | nil => exact id
  | cons a s => intro h; have := rank_chn hu (r := s) (a := a) (k := a) h; omega
theorem rank_reach {P : Nat → Nat → Bool} {f : Nat → Nat} (h : RankOk P f) : ∀ (n k : Nat), f k = n → ∃ x, x.length = n ∧ Chn P (x ++ [k])
  | 0, k, _ => ⟨[], rfl, trivial⟩
  | n + 1, k, hk => by
    rcases h.dn k with h0 | ⟨a, ha, he⟩
    · omega
    · obtain ⟨x, h1, h2⟩ := rank_reach h n a (by omega)
      refine ⟨x ++ [a], by simp [h1], ?_⟩
      rw [List.append_assoc]
      exact chn_join.2 ⟨h2, ⟨ha, trivial⟩⟩
theorem rank_most {P : Nat → Nat → Bool} {f : Nat → Nat} (hu : ∀ a b, P a b = true → f a < f b) {x : List Nat} {k : Nat} (h : Chn P (x ++ [k])) : x.length ≤ f k := by
  cases x with
  | nil => exact Nat.zero_le _
  | cons a r => have := rank_chn hu (r := r) (a := a) (k := k) h; simp; omega
theorem rank_uniq {P : Nat → Nat → Bool} {f g : Nat → Nat} (hf : RankOk P f) (hg : RankOk P g) : f = g := by
  funext k
  obtain ⟨x, h1, h2⟩ := rank_reach hf _ k rfl
  obtain ⟨y, h3, h4⟩ := rank_reach hg _ k rfl
  have := rank_most hg.up h2
  have := rank_most hf.up h4
  omega
/-- Where there is no cycle, no chain passes one twice. -/
theorem chn_nodup {P : Nat → Nat → Bool} (hn : ∀ s, ¬ Cyc P s) {r : List Nat} (h : Chn P r) : r.Nodup := by
  apply Classical.byContradiction
  intro hd
  obtain ⟨x, b, y, z, rfl⟩ := two_places hd
  have h1 := chn_right h
  have h2 : Chn P ((b :: y) ++ b :: z) := by simpa using h1
  exact hn (b :: y) (chn_join.1 h2).1
/-- Longest chains are ranks. -/
theorem rank_of_most {P : Nat → Nat → Bool} {f : Nat → Nat} (h1 : ∀ k, ∃ x, x.length = f k ∧ Chn P (x ++ [k])) (h2 : ∀ x k, Chn P (x ++ [k]) → x.length ≤ f k) : RankOk P f := by
  constructor
  · intro a b hab
    obtain ⟨x, hx, hc⟩ := h1 a
    have := h2 (x ++ [a]) b (by rw [List.append_assoc]; exact chn_join.2 ⟨hc, ⟨hab, trivial⟩⟩)
    simp at this
    omega
  · intro k
    obtain ⟨x, hx, hc⟩ := h1 k
    by_cases h0 : f k = 0
    · exact .inl h0
    · right
      have hne : x ≠ [] := fun e => by subst e; simp at hx; omega
      obtain ⟨y, a, rfl⟩ : ∃ y a, x = y ++ [a] := ⟨x.dropLast, x.getLast hne, (List.dropLast_concat_getLast hne).symm⟩
      rw [List.append_assoc] at hc
      obtain ⟨c1, c2⟩ := chn_join.1 hc
      refine ⟨a, c2.1, ?_⟩
      have ha := h2 _ _ c1
      obtain ⟨z, hz, hcz⟩ := h1 a
      have hk := h2 (z ++ [a]) k (by rw [List.append_assoc]; exact chn_join.2 ⟨hcz, ⟨c2.1, trivial⟩⟩)
      simp at hx hk
      omega

/-! The rows of different locks, the least first, as the reference goes through them. -/
def rowsL : Nat → List (List Nat)
  | 0 => [[]]
  | m + 1 => (rowsL m).flatMap fun r => ((List.range 5).filter fun k => !r.contains k).map fun k => r ++ [k]
theorem rows_mem : ∀ {m : Nat} {r : List Nat}, r ∈ rowsL m ↔ r.length = m ∧ r.Nodup ∧ ∀ k ∈ r, k < 5
  | 0, r => by
    constructor
    · intro h
      obtain rfl : r = [] := by simpa [rowsL] using h
      exact ⟨rfl, List.nodup_nil, fun k hk => by cases hk⟩
    · intro h
      obtain rfl := List.eq_nil_of_length_eq_zero h.1
      simp [rowsL]
  | m + 1, r => by
    rw [rowsL, List.mem_flatMap]
    constructor
    · rintro ⟨s, hs, hr⟩
      obtain ⟨k, hk, rfl⟩ := List.mem_map.1 hr
      obtain ⟨hk1, hk2⟩ := List.mem_filter.1 hk
      obtain ⟨h1, h2, h3⟩ := rows_mem.1 hs
      have hns : k ∉ s := by simpa using hk2
      refine ⟨by simp [h1], ?_, ?_⟩
      · rw [List.nodup_append]
        refine ⟨h2, by simp, fun a ha b hb => ?_⟩
        obtain rfl := List.mem_singleton.1 hb
        exact fun e => hns (e ▸ ha)
      · intro j hj
        rcases List.mem_append.1 hj with hj | hj
        · exact h3 j hj
        · obtain rfl := List.mem_singleton.1 hj
          exact List.mem_range.1 hk1
    · rintro ⟨h1, h2, h3⟩
      have hne : r ≠ [] := fun e => by subst e; simp at h1
      obtain ⟨s, k, rfl⟩ : ∃ s k, r = s ++ [k] := ⟨r.dropLast, r.getLast hne, (List.dropLast_concat_getLast hne).symm⟩
      rw [List.nodup_append] at h2
      refine ⟨s, rows_mem.2 ⟨by simpa using h1, h2.1, fun j hj => h3 j (List.mem_append.2 (.inl hj))⟩, List.mem_map.2 ⟨k, List.mem_filter.2 ⟨List.mem_range.2 (h3 k (by simp)), ?_⟩, rfl⟩⟩
      have : k ∉ s := fun hk => h2.2.2 k hk k (by simp) rfl
      simpa using this
theorem lx_snoc : ∀ {r s : List Nat} {a b : Nat}, r.length = s.length → (lx (r ++ [a]) (s ++ [b]) ↔ lx r s ∨ (r = s ∧ a < b))
  | [], [], a, b, _ => by simp [lx]
  | [], _ :: _, _, _, h => by simp at h
  | _ :: _, [], _, _, h => by simp at h
  | c :: r, d :: s, a, b, h => by
    have ih := lx_snoc (r := r) (s := s) (a := a) (b := b) (by simpa using h)
    simp only [List.cons_append, lx, ih]
    constructor
    · rintro (h1 | ⟨rfl, h1 | ⟨rfl, h2⟩⟩)
      · exact .inl (.inl h1)
      · exact .inl (.inr ⟨rfl, h1⟩)
      · exact .inr ⟨rfl, h2⟩
    · rintro ((h1 | ⟨rfl, h1⟩) | ⟨h1, h2⟩)
      · exact .inl h1
      · exact .inr ⟨rfl, .inl h1⟩
      · obtain ⟨rfl, rfl⟩ := List.cons.inj h1
        exact .inr ⟨rfl, .inr ⟨rfl, h2⟩⟩
theorem rows_up : ∀ m, (rowsL m).Pairwise lx
  | 0 => List.pairwise_singleton _ _
  | m + 1 => by
    have ih := rows_up m
    have hlen : ∀ r ∈ rowsL m, r.length = m := fun r hr => (rows_mem.1 hr).1
    rw [rowsL]
    revert ih hlen
    generalize rowsL m = L
    intro ih hlen
    induction L with
    | nil => exact List.Pairwise.nil
    | cons r L ihL =>
      rw [List.flatMap_cons, List.pairwise_append]
      obtain ⟨h1, h2⟩ := List.pairwise_cons.1 ih
      refine ⟨?_, ihL h2 (fun s hs => hlen s (List.mem_cons_of_mem _ hs)), ?_⟩
      · rw [List.pairwise_map]
        refine List.Pairwise.imp (fun {a b} hab => ?_) (List.Pairwise.filter _ (List.pairwise_lt_range))
        exact (lx_snoc rfl).2 (.inr ⟨rfl, hab⟩)
      · intro x hx y hy
        obtain ⟨a, _, rfl⟩ := List.mem_map.1 hx
        obtain ⟨s, hs, hy2⟩ := List.mem_flatMap.1 hy
        obtain ⟨b, _, rfl⟩ := List.mem_map.1 hy2
        exact (lx_snoc (by rw [hlen r (List.mem_cons_self ..), hlen s (List.mem_cons_of_mem _ hs)])).2 (.inl (h1 s hs))
end Go.Proofs.Ytjindfkomnjceaa

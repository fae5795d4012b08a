/- Plain facts: the detector by full clocks: what it flags are the seconds of races (POZNIANSKY, SCHUSTER). -/
import Derived.Test.YtipjgcklnceohaaDj3
import Derived.Test.YtipjgcklnceohaaRc
set_option linter.all false
set_option maxRecDepth 100000
namespace Go.Proofs.Ytipjgcklnceohaa
open Go Go.RowKit

/-- Hands its clock on: the onr number rises. -/
def giveB (l : List Ev) (k u : Nat) : Bool := decide ((kZ l k = 4 ∨ kZ l k = 5 ∨ kZ l k = 8) ∧ tZ l k = u)
def onr (l : List Ev) (k u : Nat) : Nat := (djTo l k).C u u
theorem onr_zero (l : List Ev) (u : Nat) : onr l 0 u = 1 := by unfold onr djTo djStart; dsimp only; rw [if_pos rfl]
theorem onr_succ {l : List Ev} (hm : may l = 0) {k : Nat} (hk : k < l.length) (u : Nat) : onr l (k + 1) u = onr l k u + if giveB l k u = true then 1 else 0 := by
  have h := djI_all hm k (by omega)
  show (djStep (djTo l k) (kZ l k) (tZ l k) (oZ l k)).C u u = (djTo l k).C u u + _
  unfold giveB
  have hfn := fork_ne hm hk
  generalize djTo l k = s at *
  have c0 := h.c0; have l0 := h.l0; have v0 := h.v0
  unfold djStep
  generalize kZ l k = K at *
  generalize tZ l k = T at *
  generalize oZ l k = O at *
  have mx : ∀ X : Nat → Nat, (∀ u, X u ≤ s.C u u) → put1 s.C T (mxN (s.C T) X) u u = s.C u u := fun X hX => by
    by_cases hu : u = T
    · subst hu; rw [put1_same]; unfold mxN; have := hX u; omega
    · rw [put1_ne _ _ hu]
  have ic : put1 s.C T (incN (s.C T) T) u u = s.C u u + if T = u then 1 else 0 := by
    by_cases hu : u = T
    · subst hu; rw [put1_same, incN_same, if_pos rfl]
    · rw [put1_ne _ _ hu, if_neg (Ne.symm hu)]; rfl
  by_cases h3 : K = 3
  · rw [if_pos h3]; dsimp only; rw [mx _ (l0 O), if_neg (by simp; omega)]; rfl
  rw [if_neg h3]
  by_cases h4 : K = 4
  · rw [if_pos h4]; dsimp only; rw [ic]; subst h4; simp
  rw [if_neg h4]
  by_cases h5 : K = 5
  · rw [if_pos h5]; dsimp only
    subst h5
    have hne := hfn rfl
    by_cases hu : u = T
    · subst hu; rw [put1_same, incN_same]; simp
    · rw [put1_ne _ _ hu]
      have h0 : (if decide (((5 : Int) = 4 ∨ (5 : Int) = 5 ∨ (5 : Int) = 8) ∧ T = u) = true then 1 else 0) = 0 := by simp; exact Ne.symm hu
      rw [h0]
      by_cases ho : u = O
      · subst ho; rw [put1_same]; unfold mxN; have := c0 T u; omega
      · rw [put1_ne _ _ ho]; rfl
  rw [if_neg h5]
  by_cases h6 : K = 6
  · rw [if_pos h6]; dsimp only; rw [mx _ (c0 O), if_neg (by simp; omega)]; rfl
  rw [if_neg h6]
  by_cases h7 : K = 7
  · rw [if_pos h7]; dsimp only; rw [mx _ (v0 O), if_neg (by simp; omega)]; rfl
  rw [if_neg h7]
  by_cases h8 : K = 8
  · rw [if_pos h8]; dsimp only; rw [ic]; subst h8; simp
  rw [if_neg h8, if_neg (by simp; omega)]; rfl
theorem onr_pos {l : List Ev} (hm : may l = 0) (u : Nat) : ∀ k, k ≤ l.length → 1 ≤ onr l k u
  | 0, _ => by rw [onr_zero]; omega
  | k + 1, hk => by rw [onr_succ hm (by omega)]; have := onr_pos hm u k (by omega); omega
/-- The number of the last access of kind q of variable x by thread u. -/
def rwTo (l : List Ev) (q : Int) (x u : Nat) : Nat → Nat
  | 0 => 0
  | k + 1 => if kZ l k = q ∧ oZ l k = x ∧ tZ l k = u then onr l k u else rwTo l q x u k
theorem rwTo_own {l : List Ev} (hm : may l = 0) (q : Int) (x u : Nat) : ∀ k, k ≤ l.length → rwTo l q x u k ≤ onr l k u
  | 0, _ => Nat.zero_le _
  | k + 1, hk => by
    have h1 := onr_succ hm (show k < l.length by omega) u
    have h2 := rwTo_own hm q x u k (by omega)
    unfold rwTo
    split <;> omega
theorem rwTo_pos {l : List Ev} (hm : may l = 0) (q : Int) (x u : Nat) : ∀ k, k ≤ l.length → (0 < rwTo l q x u k ↔ ∃ i, i < k ∧ kZ l i = q ∧ oZ l i = x ∧ tZ l i = u)
  | 0, _ => ⟨fun h => by simp [rwTo] at h, fun ⟨i, h, _⟩ => by omega⟩
  | k + 1, hk => by
    have h1 := rwTo_pos hm q x u k (by omega)
    have h2 := onr_pos hm u k (by omega)
    unfold rwTo
    split
    · rename_i hc
      exact ⟨fun _ => ⟨k, by omega, hc⟩, fun _ => by omega⟩
    · rename_i hc
      rw [h1]
      constructor
      · rintro ⟨i, h3, h4⟩; exact ⟨i, by omega, h4⟩
      · rintro ⟨i, h3, h4⟩
        rcases Nat.lt_succ_iff_lt_or_eq.1 h3 with h3 | rfl
        · exact ⟨i, h3, h4⟩
        · exact absurd h4 hc
/-- At an access, what is known is what happens before. -/
theorem acc_iff {l : List Ev} (hm : may l = 0) {j i : Nat} (hj : j < l.length) (hk : kZ l j = 1 ∨ kZ l j = 2) (hij : i < j) : epo l i ≤ (djTo l j).C (tZ l j) (tZ l i) ↔ bef l i j = true := by
  rw [(djI_all hm j (by omega)).kc _ i hij, at_iff hm hj]
  constructor
  · exact .inl
  · rintro (h1 | ⟨h0, _⟩ | ⟨h0, _⟩ | ⟨h0, _⟩)
    · exact h1
    all_goals omega
theorem seen_iff {l : List Ev} (hm : may l = 0) {j : Nat} (hj : j < l.length) (hk : kZ l j = 1 ∨ kZ l j = 2) (q : Int) (x : Nat) : ∀ k, k ≤ j →
    ((∀ u, u < 6 → rwTo l q x u k ≤ (djTo l j).C (tZ l j) u) ↔ ∀ i, i < k → kZ l i = q → oZ l i = x → bef l i j = true)
  | 0, _ => ⟨fun _ i h => by omega, fun _ u _ => Nat.zero_le _⟩
  | k + 1, hkj => by
    have ih := seen_iff hm hj hk q x k (by omega)
    by_cases hc : kZ l k = q ∧ oZ l k = x
    · have hacc := acc_iff hm hj hk (show k < j by omega)
      have ht := tZ_lt hm (show k < l.length by omega)
      have hown := rwTo_own hm q x (tZ l k) k (by omega)
      have he : epo l k = onr l k (tZ l k) := rfl
      constructor
      · intro h
        have hu := h (tZ l k) ht
        unfold rwTo at hu
        rw [if_pos ⟨hc.1, hc.2, rfl⟩] at hu
        have hb := hacc.1 (by rw [he]; exact hu)
        have hall := ih.1 fun u hu6 => by
          by_cases hut : u = tZ l k
          · subst hut; omega
          · have h1 := h u hu6
            unfold rwTo at h1
            rw [if_neg (fun e => hut e.2.2.symm)] at h1
            exact h1
        intro i hi h1 h2
        rcases Nat.lt_succ_iff_lt_or_eq.1 hi with hi | rfl
        · exact hall i hi h1 h2
        · exact hb
      · intro h u hu6
        have hb := hacc.2 (h k (by omega) hc.1 hc.2)
        have hall := ih.2 (fun i hi h1 h2 => h i (by omega) h1 h2) u hu6
        unfold rwTo
        split
        · rename_i hcu
          rw [← hcu.2.2]; rw [he] at hb; exact hb
        · exact hall
    · have e : ∀ u, rwTo l q x u (k + 1) = rwTo l q x u k := fun u => by
        rw [rwTo, if_neg (fun h => hc ⟨h.1, h.2.1⟩)]
      simp only [e]
      rw [ih]
      constructor
      · intro h i hi h1 h2
        rcases Nat.lt_succ_iff_lt_or_eq.1 hi with hi | rfl
        · exact h i hi h1 h2
        · exact absurd ⟨h1, h2⟩ hc
      · intro h i hi h1 h2; exact h i (by omega) h1 h2
/-- Whether the detector finds all accesses of kind q known at an access. -/
def seenB (l : List Ev) (q : Int) (j : Nat) : Bool := (List.range 6).all fun u => decide (rwTo l q (oZ l j) u j ≤ (djTo l j).C (tZ l j) u)
theorem seenB_iff {l : List Ev} (hm : may l = 0) {j : Nat} (hj : j < l.length) (hk : kZ l j = 1 ∨ kZ l j = 2) (q : Int) : seenB l q j = true ↔ ∀ i, i < j → kZ l i = q → oZ l i = oZ l j → bef l i j = true := by
  rw [← seen_iff hm hj hk q (oZ l j) j (Nat.le_refl _)]
  unfold seenB
  simp only [List.all_eq_true, List.mem_range, decide_eq_true_eq]
/-- The kind of the detector's flag, 0 for none. -/
def djK (l : List Ev) (j : Nat) : Int := if kZ l j = 1 then (if seenB l 2 j = true then 0 else 2) else if kZ l j = 2 then (if seenB l 2 j = false then 1 else if seenB l 1 j = false then 3 else 0) else 0
/-- A race of kind q whose second is j. -/
def hasK (rs : List Rc) (j : Nat) (q : Int) : Bool := rs.any fun r => r.b == j && r.k == q
def minK (rs : List Rc) (j : Nat) : Int := if hasK rs j 1 = true then 1 else if hasK rs j 2 = true then 2 else if hasK rs j 3 = true then 3 else 0
theorem conf_k {a b : Ev} {q : Int} (hq : q ≠ 0) : conf a b = q ↔ a.o = b.o ∧ ((q = 1 ∧ a.k = 2 ∧ b.k = 2) ∨ (q = 2 ∧ a.k = 2 ∧ b.k = 1) ∨ (q = 3 ∧ a.k = 1 ∧ b.k = 2)) := by
  unfold conf
  by_cases ho : a.o = b.o
  · rw [if_neg (by simpa using ho)]
    simp only [ho, true_and]
    split
    · omega
    · split
      · omega
      · split <;> omega
  · rw [if_pos ho]
    constructor
    · intro h; exact absurd h.symm hq
    · intro h; exact absurd h.1 ho
theorem hasK_iff {l : List Ev} (hm : may l = 0) {j : Nat} (hj : j < l.length) {q : Int} (hq : q ≠ 0) : hasK (rcsA l) j q = true ↔ ∃ i, i < j ∧ oZ l i = oZ l j ∧ ((q = 1 ∧ kZ l i = 2 ∧ kZ l j = 2) ∨ (q = 2 ∧ kZ l i = 2 ∧ kZ l j = 1) ∨ (q = 3 ∧ kZ l i = 1 ∧ kZ l j = 2)) ∧ bef l i j = false := by
  unfold hasK
  simp only [List.any_eq_true, Bool.and_eq_true, beq_iff_eq]
  constructor
  · rintro ⟨r, hr, rfl, hk⟩
    obtain ⟨a, b, h1, h2, h3, _, h5, _, h7⟩ := mem_rcsA hr
    have hc := (conf_k hq).1 (h5.symm.trans hk)
    refine ⟨r.a, h3, ?_, ?_, h7⟩
    · unfold oZ; rw [eZ_at h1, eZ_at h2, hc.1]
    · unfold kZ; rw [eZ_at h1, eZ_at h2]; exact hc.2
  · rintro ⟨i, h1, h2, h3, h4⟩
    have hil : i < l.length := by omega
    have ha := eZ_get hil; have hb := eZ_get hj
    have oa := (isEv_o (eZ_ok hm hil)).1; have ob := (isEv_o (eZ_ok hm hj)).1
    have hc : conf (eZ l i) (eZ l j) = q := (conf_k hq).2 ⟨by unfold oZ at h2; omega, h3⟩
    exact ⟨_, rcsA_mem ha hb h1 (by rw [hc]; exact hq) h4, rfl, hc⟩
/-- POZNIANSKY, SCHUSTER: the flag of an event is the least kind of the races whose second it is. -/
theorem djK_min {l : List Ev} (hm : may l = 0) {j : Nat} (hj : j < l.length) : djK l j = minK (rcsA l) j := by
  have H1 := hasK_iff hm hj (q := 1) (by decide); have H2 := hasK_iff hm hj (q := 2) (by decide); have H3 := hasK_iff hm hj (q := 3) (by decide)
  unfold djK minK
  by_cases h1 : kZ l j = 1
  · have S := seenB_iff hm hj (.inl h1) 2
    have n1 : ¬ hasK (rcsA l) j 1 = true := fun h => by obtain ⟨i, _, _, h3, _⟩ := H1.1 h; omega
    have n3 : ¬ hasK (rcsA l) j 3 = true := fun h => by obtain ⟨i, _, _, h3, _⟩ := H3.1 h; omega
    rw [if_pos h1, if_neg n1, if_neg n3]
    by_cases hs : seenB l 2 j = true
    · rw [if_pos hs, if_neg fun h => ?_]
      obtain ⟨i, a1, a2, a3, a4⟩ := H2.1 h
      rw [S.1 hs i a1 (by omega) a2] at a4; cases a4
    · rw [if_neg hs, if_pos]
      refine H2.2 (Decidable.byContradiction fun hn => hs (S.2 fun i a1 a2 a3 => ?_))
      cases hb : bef l i j
      · exact absurd ⟨i, a1, a3, .inr (.inl ⟨rfl, a2, h1⟩), hb⟩ hn
      · rfl
  · rw [if_neg h1]
    by_cases h2 : kZ l j = 2
    · have S := seenB_iff hm hj (.inr h2) 2
      have T := seenB_iff hm hj (.inr h2) 1
      have n2 : ¬ hasK (rcsA l) j 2 = true := fun h => by obtain ⟨i, _, _, h3, _⟩ := H2.1 h; omega
      rw [if_pos h2, if_neg n2]
      by_cases hs : seenB l 2 j = true
      · have n1 : ¬ hasK (rcsA l) j 1 = true := fun h => by
          obtain ⟨i, a1, a2, a3, a4⟩ := H1.1 h
          rw [S.1 hs i a1 (by omega) a2] at a4; cases a4
        rw [if_neg n1, if_neg (show ¬ seenB l 2 j = false by rw [hs]; decide)]
        by_cases ht : seenB l 1 j = true
        · have n3 : ¬ hasK (rcsA l) j 3 = true := fun h => by
            obtain ⟨i, a1, a2, a3, a4⟩ := H3.1 h
            rw [T.1 ht i a1 (by omega) a2] at a4; cases a4
          rw [if_neg n3, if_neg (show ¬ seenB l 1 j = false by rw [ht]; decide)]
        · have y3 : hasK (rcsA l) j 3 = true := by
            refine H3.2 (Decidable.byContradiction fun hn => ht (T.2 fun i a1 a2 a3 => ?_))
            cases hb : bef l i j
            · exact absurd ⟨i, a1, a3, .inr (.inr ⟨rfl, a2, h2⟩), hb⟩ hn
            · rfl
          rw [if_pos y3, if_pos (show seenB l 1 j = false by simpa using ht)]
      · rw [if_pos (by simpa using hs), if_pos]
        refine H1.2 (Decidable.byContradiction fun hn => hs (S.2 fun i a1 a2 a3 => ?_))
        cases hb : bef l i j
        · exact absurd ⟨i, a1, a3, .inl ⟨rfl, a2, h2⟩, hb⟩ hn
        · rfl
    · rw [if_neg h2]
      have n1 : ¬ hasK (rcsA l) j 1 = true := fun h => by obtain ⟨i, _, _, h3, _⟩ := H1.1 h; omega
      have n2 : ¬ hasK (rcsA l) j 2 = true := fun h => by obtain ⟨i, _, _, h3, _⟩ := H2.1 h; omega
      have n3 : ¬ hasK (rcsA l) j 3 = true := fun h => by obtain ⟨i, _, _, h3, _⟩ := H3.1 h; omega
      rw [if_neg n1, if_neg n2, if_neg n3]
end Go.Proofs.Ytipjgcklnceohaa

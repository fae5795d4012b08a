/- Plain facts on Check: no program in sight. -/
import Derived.Test.YtipjgcklnceohaaTr
set_option linter.all false
set_option maxRecDepth 100000
namespace Go.Proofs.Ytipjgcklnceohaa
open Go Go.RowKit

theorem wrong_ne2 (l : List Ev) (e : Ev) : wrong l e ≠ 2 := by
  unfold wrong; repeat' split
  all_goals omega
theorem get_append_take {p r : List Ev} {i : Nat} : (p ++ r).take (p.length + i) = p ++ r.take i := by
  rw [List.take_append, List.take_of_length_le (by omega)]; simp
theorem chk_zero (p r : List Ev) : (chk p r).2 = 0 ↔ ∀ i e, r[i]? = some e → wrong (p ++ r.take i) e = 0 := by
  induction r generalizing p with
  | nil => simp [chk]
  | cons x r ih =>
    unfold chk
    by_cases h : wrong p x = 0
    · rw [if_neg (by simpa using h), ih]
      constructor
      · intro H i e he
        cases i with
        | zero => simp at he; subst he; simpa using h
        | succ i =>
          have := H i e (by simpa using he)
          simpa using this
      · intro H i e he
        have := H (i + 1) e (by simpa using he)
        simpa using this
    · rw [if_pos h]
      constructor
      · intro H; exact absurd H h
      · intro H
        have := H 0 x rfl
        simp at this
        exact absurd this h
theorem chk_fst_zero (p r : List Ev) (h : (chk p r).2 = 0) : chk p r = (0, 0) := by
  induction r generalizing p with
  | nil => rfl
  | cons x r ih =>
    unfold chk at h ⊢
    by_cases hw : wrong p x = 0
    · rw [if_neg (by simpa using hw)] at h ⊢; exact ih _ h
    · rw [if_pos hw] at h; exact absurd h hw
theorem chk_first (p r : List Ev) (h : (chk p r).2 ≠ 0) : ∃ i e, r[i]? = some e ∧ chk p r = (((p.length + i : Nat) : Int), wrong (p ++ r.take i) e) ∧ (chk p (r.take i)).2 = 0 := by
  induction r generalizing p with
  | nil => exact absurd rfl h
  | cons x r ih =>
    by_cases hw : wrong p x = 0
    · have hc : chk p (x :: r) = chk (p ++ [x]) r := by rw [chk, if_neg (by simpa using hw)]
      rw [hc] at h ⊢
      obtain ⟨i, e, h1, h2, h3⟩ := ih _ h
      refine ⟨i + 1, e, by simpa using h1, ?_, ?_⟩
      · rw [h2]; simp; omega
      · rw [List.take_succ_cons, chk, if_neg (by simpa using hw)]; exact h3
    · refine ⟨0, x, rfl, ?_, rfl⟩
      rw [chk, if_pos hw]; simp
theorem may_iff (l : List Ev) : may l = 0 ↔ l.length ≤ 80 ∧ ∀ i e, l[i]? = some e → wrong (l.take i) e = 0 := by
  unfold may check
  by_cases h : 80 < l.length
  · rw [if_pos h]; constructor
    · intro h'; cases h'
    · intro ⟨h', _⟩; omega
  · rw [if_neg h, chk_zero]; simp; omega
theorem check_ok {l : List Ev} (h : may l = 0) : check l = (0, 0) := by
  have h80 := ((may_iff l).1 h).1
  unfold may check at h
  unfold check
  rw [if_neg (by omega)] at h ⊢
  exact chk_fst_zero _ _ h
theorem may_take {l : List Ev} (h : may l = 0) (i : Nat) : may (l.take i) = 0 := by
  rw [may_iff] at h ⊢
  refine ⟨by rw [List.length_take]; omega, fun j e he => ?_⟩
  rw [List.getElem?_take] at he
  split at he
  · have := h.2 j e he
    rwa [List.take_take, Nat.min_eq_left (by omega)]
  · cases he
theorem check_large {l : List Ev} : (check l).2 = 2 ↔ 80 < l.length := by
  unfold check
  split
  · simp [*]
  · constructor
    · intro h
      exfalso
      have h0 : (chk [] l).2 ≠ 0 := by rw [h]; omega
      obtain ⟨i, e, _, h2, _⟩ := chk_first [] l h0
      rw [h2] at h
      exact wrong_ne2 _ _ h
    · intro h; omega
theorem check_bad {l : List Ev} (h : (check l).2 ≠ 0) (h2 : (check l).2 ≠ 2) : l.length ≤ 80 ∧ ∃ (i : Nat) (e : Ev), l[i]? = some e ∧ check l = ((i : Int), wrong (l.take i) e) ∧ wrong (l.take i) e ≠ 0 ∧ may (l.take i) = 0 ∧ may (l.take (i + 1)) ≠ 0 := by
  have h80 : ¬ 80 < l.length := fun hh => h2 (check_large.2 hh)
  refine ⟨by omega, ?_⟩
  have hc : check l = chk [] l := by unfold check; rw [if_neg h80]
  rw [hc] at h
  obtain ⟨i, e, h3, h4, h5⟩ := chk_first [] l h
  have hil : i < l.length := (List.getElem?_eq_some_iff.1 h3).1
  simp only [List.nil_append, List.length_nil, Nat.zero_add] at h4
  rw [h4] at h
  refine ⟨i, e, h3, by rw [hc, h4], h, ?_, ?_⟩
  · unfold may check; rw [if_neg (by rw [List.length_take]; omega)]; exact h5
  · rw [ne_eq, may_iff]
    intro ⟨_, hh⟩
    have := hh i e (by rw [List.getElem?_take, if_pos (by omega)]; exact h3)
    rw [List.take_take, Nat.min_eq_left (by omega)] at this
    exact h this
theorem check_snoc {l : List Ev} (x : Ev) (m : List Ev) (h : may l = 0) (hn : l.length + 1 + m.length ≤ 80) (hw : wrong l x ≠ 0) : check (l ++ x :: m) = ((l.length : Int), wrong l x) := by
  have hl : ¬ 80 < (l ++ x :: m).length := by simp; omega
  have hne : (check (l ++ x :: m)).2 ≠ 0 := fun h0 => by
    have := ((may_iff _).1 h0).2 l.length x (by simp)
    rw [List.take_left] at this
    exact hw this
  obtain ⟨_, i, e, h1, h2, h3, h4, h5⟩ := check_bad hne (fun h2 => hl (check_large.1 h2))
  rcases Nat.lt_trichotomy i l.length with hi | hi | hi
  · exfalso
    rw [List.getElem?_append_left hi] at h1
    have := ((may_iff l).1 h).2 i e h1
    rw [List.take_append_of_le_length (by omega)] at h3
    exact h3 this
  · subst hi
    simp at h1
    subst h1
    rw [h2, List.take_left]
  · exfalso
    have := ((may_iff _).1 h4).2 l.length x (by rw [List.getElem?_take, if_pos hi]; simp)
    rw [List.take_take, Nat.min_eq_left (by omega), List.take_left] at this
    exact hw this
theorem may_snoc {l : List Ev} (x : Ev) (h : may l = 0) (hn : l.length + 1 ≤ 80) (hw : wrong l x = 0) : may (l ++ [x]) = 0 := by
  rw [may_iff] at h ⊢
  refine ⟨by simp; omega, fun i e he => ?_⟩
  rcases Nat.lt_or_ge i l.length with hi | hi
  · rw [List.getElem?_append_left hi] at he
    rw [List.take_append_of_le_length (by omega)]
    exact h.2 i e he
  · rw [List.getElem?_append_right hi] at he
    have h0 : i - l.length = 0 := by
      have := (List.getElem?_eq_some_iff.1 he).1
      simp at this; omega
    rw [h0] at he
    simp at he
    subst he
    obtain rfl : i = l.length := by omega
    rw [List.take_left]
    exact hw
/-- An event of no lock and no thread: Read, Write, See, Show. -/
def Idle (e : Ev) : Prop := e.k ≠ 3 ∧ e.k ≠ 4 ∧ e.k ≠ 5 ∧ e.k ≠ 6
theorem owner_idle {p q : List Ev} {e : Ev} (h : Idle e) (k : Int) : owner (p ++ e :: q) k = owner (p ++ q) k := by
  unfold owner
  rw [List.foldl_append, List.foldl_append, List.foldl_cons]
  congr 1
  unfold ownB
  rw [if_neg (fun hh => h.2.1 hh.2), if_neg (fun hh => h.1 hh.2)]
theorem did_idle {p q : List Ev} {e : Ev} (k o : Int) (hk : e.k ≠ k) : did (p ++ e :: q) k o = did (p ++ q) k o := by
  simp [did, hk]
theorem wrong_idle {p q : List Ev} {e : Ev} (h : Idle e) (x : Ev) : wrong (p ++ e :: q) x = wrong (p ++ q) x := by
  unfold wrong begun
  simp only [owner_idle h, did_idle 5 _ h.2.2.1, did_idle 6 _ h.2.2.2]
theorem may_less {p q : List Ev} {e : Ev} (h : Idle e) (hm : may (p ++ e :: q) = 0) : may (p ++ q) = 0 := by
  rw [may_iff] at hm ⊢
  refine ⟨by have := hm.1; simp at this ⊢; omega, fun i x hx => ?_⟩
  rcases Nat.lt_or_ge i p.length with hi | hi
  · have := hm.2 i x (by rw [List.getElem?_append_left hi] at hx ⊢; exact hx)
    rw [List.take_append_of_le_length (by omega)] at this ⊢
    exact this
  · obtain ⟨j, rfl⟩ := Nat.exists_eq_add_of_le hi
    have h1 : (p ++ e :: q)[p.length + (j + 1)]? = some x := by
      rw [List.getElem?_append_right (by omega)] at hx ⊢
      rw [show p.length + j - p.length = j by omega] at hx
      rw [show p.length + (j + 1) - p.length = j + 1 by omega, List.getElem?_cons_succ]
      exact hx
    have := hm.2 _ x h1
    rw [get_append_take, List.take_succ_cons, wrong_idle h] at this
    rw [get_append_take]
    exact this
def forks (l : List Ev) : Nat := (l.filter fun e => e.k == 5).length
theorem forks_snoc (l : List Ev) (e : Ev) : forks (l ++ [e]) = forks l + if e.k == 5 then 1 else 0 := by
  unfold forks; rw [List.filter_append]
  cases h : e.k == 5 <;> simp [List.filter_cons, h]
def begunTo (l : List Ev) (k : Nat) : List Int := ((List.range k).filter fun (t : Nat) => begun l (t : Int)).map fun (t : Nat) => (t : Int)
theorem begunTo_len (l : List Ev) (k : Nat) : (begunTo l k).length ≤ k := by
  unfold begunTo; rw [List.length_map]; exact Nat.le_trans (List.length_filter_le _ _) (by simp)
theorem begunTo_yes (l : List Ev) (k : Nat) (h : begun l k = true) : begunTo l (k + 1) = begunTo l k ++ [(k : Int)] := by simp [begunTo, List.range_succ, List.filter_append, h]
theorem begunTo_no (l : List Ev) (k : Nat) (h : begun l k = false) : begunTo l (k + 1) = begunTo l k := by simp [begunTo, List.range_succ, List.filter_append, h]
theorem begunTo_one (l : List Ev) : begunTo l 1 = [0] := by
  rw [begunTo_yes l 0 (by simp [begun])]; rfl
theorem mem_begunTo {l : List Ev} {k : Nat} {t : Int} : t ∈ begunTo l k ↔ 0 ≤ t ∧ t < k ∧ begun l t = true := by
  simp only [begunTo, List.mem_map, List.mem_filter, List.mem_range]
  constructor
  · rintro ⟨n, ⟨h1, h2⟩, rfl⟩; exact ⟨by omega, by omega, h2⟩
  · rintro ⟨h0, h1, h2⟩
    obtain ⟨n, rfl⟩ := Int.eq_ofNat_of_zero_le h0
    exact ⟨n, ⟨by omega, h2⟩, rfl⟩
theorem begunTo_fork {l : List Ev} {e : Ev} (hk : e.k = 5) (hb : begun l e.o = false) (k : Nat) (h0 : 0 ≤ e.o) : (begunTo (l ++ [e]) k).length = (begunTo l k).length + if e.o < k then 1 else 0 := by
  obtain ⟨o, ho⟩ := Int.eq_ofNat_of_zero_le h0
  induction k with
  | zero => simp [begunTo]; omega
  | succ k ih =>
    have hs : begun (l ++ [e]) k = (begun l k || decide ((k : Nat) = o)) := by
      rw [begun_snoc, ho]
      congr 1
      simp [hk]; omega
    by_cases hko : k = o
    · subst hko
      have h1 : begun l k = false := by rw [← ho]; exact hb
      rw [begunTo_yes _ _ (by rw [hs]; simp), begunTo_no _ _ h1, List.length_append, ih]
      rw [if_neg (by omega), if_pos (by omega)]; simp
    · cases h1 : begun l k
      · rw [begunTo_no _ _ (by rw [hs, h1]; simp [hko]), begunTo_no _ _ h1, ih]
        congr 1
        split <;> split <;> omega
      · rw [begunTo_yes _ _ (by rw [hs, h1]; simp), begunTo_yes _ _ h1, List.length_append, List.length_append, ih]
        have : (if e.o < ((k : Nat) : Int) then 1 else 0) = (if e.o < ((k + 1 : Nat) : Int) then 1 else 0) := by
          split <;> split <;> omega
        rw [this]; simp; omega
theorem begunTo_other {l : List Ev} {e : Ev} (hk : e.k ≠ 5) (k : Nat) : begunTo (l ++ [e]) k = begunTo l k := by
  unfold begunTo
  congr 2
  funext t
  rw [begun_snoc]
  simp [hk]
theorem wrong_fork {p : List Ev} {e : Ev} (h : wrong p e = 0) (hk : e.k = 5) : begun p e.o = false := by
  have hev := wrong_isEv h
  unfold wrong at h
  simp only [hev, Bool.true_eq_false, if_false] at h
  split at h
  · cases h
  · simp [hk] at h; exact h
theorem wrong_thread {p : List Ev} {e : Ev} (h : wrong p e = 0) : begun p e.t = true := by
  have hev := wrong_isEv h
  unfold wrong at h
  simp only [hev, Bool.true_eq_false, if_false] at h
  split at h
  · cases h
  · rename_i hh
    cases hb : begun p e.t
    · exact absurd (.inl hb) hh
    · rfl
theorem forks_begun {l : List Ev} (h : may l = 0) : ∀ i, i ≤ l.length → (begunTo (l.take i) 6).length = forks (l.take i) + 1 := by
  intro i
  induction i with
  | zero => intro _; simp [forks]; decide
  | succ i ih =>
    intro hi
    have he := List.getElem?_eq_getElem (show i < l.length by omega)
    have hw := ((may_iff l).1 h).2 i _ he
    have hs : l.take (i + 1) = l.take i ++ [l[i]] := by rw [List.take_succ_eq_append_getElem (by omega)]
    rw [hs, forks_snoc]
    by_cases hk : (l[i]).k = 5
    · have hev := wrong_isEv hw
      have ho := isEv_o hev
      have : nobj (l[i]).k = 6 := by rw [hk]; rfl
      rw [begunTo_fork hk (wrong_fork hw hk) 6 ho.1, ih (by omega), if_pos (by omega), if_pos (by simp [hk])]
    · rw [begunTo_other hk, ih (by omega), if_neg (by simp [hk])]
theorem begun_mono {p q : List Ev} {t : Int} (h : begun p t = true) : begun (p ++ q) t = true := by
  unfold begun did at *
  rw [List.any_append]
  simp only [Bool.or_eq_true] at *
  rcases h with h | h
  · exact .inl h
  · exact .inr (.inl h)
end Go.Proofs.Ytipjgcklnceohaa

/- Plain facts: what is left when nothing can be left out is two accesses that race, and Forks. No program in sight. -/
import Derived.Test.YtmdpegljpdjfoaaEr
set_option linter.all false
set_option maxRecDepth 100000
namespace Go.Proofs.Ytmdpegljpdjfoaa
open Go Go.RowKit

theorem dn_len {l : List Ev} {i x : Nat} (hi : i < l.length) (hx : x < l.length) (h : x ≠ i) : dnI i x < (l.eraseIdx i).length := by
  have := er_len hi
  unfold dnI
  split <;> omega
theorem er_ok {l : List Ev} {i a b : Nat} (hi : i < l.length) (ha : a ≠ i) (hb : b ≠ i) (hbl : b < l.length) (hr : racB l a b = true) (hm : may (l.eraseIdx i) = 0) : Ok (l.eraseIdx i) := by
  have hab : a < b := by
    unfold racB at hr
    simp only [Bool.and_eq_true, decide_eq_true_iff] at hr
    exact hr.1
  exact ok_iff.2 ⟨hm, dnI i a, dnI i b, dn_len hi (by omega) ha, dn_len hi hbl hb, er_rac ha hb hr⟩
theorem rac_parts {l : List Ev} {a b : Nat} (hr : racB l a b = true) : a < b ∧ conf (evZ l a) (evZ l b) ≠ 0 := by
  unfold racB at hr
  simp only [Bool.and_eq_true, decide_eq_true_iff] at hr
  exact ⟨hr.1, hr.2.1⟩
theorem bare_lock {m : List Ev} {a b : Nat} (hm : may m = 0) (hB : Bare m) (hbl : b < m.length) (hr : racB m a b = true) (ka : (evZ m a).k ≤ 2) (kb : (evZ m b).k ≤ 2) : ∀ (n i : Nat) (e : Ev), m.length - i ≤ n → m[i]? = some e → (e.k = 3 ∨ e.k = 4) → False
  | 0, i, e, h, he, _ => by have := (List.getElem?_eq_some_iff.1 he).1; omega
  | n + 1, i, e, h, he, hk => by
    have hi := (List.getElem?_eq_some_iff.1 he).1
    by_cases hx : ∃ f ∈ m.drop (i + 1), (f.k = 3 ∨ f.k = 4) ∧ f.o = e.o
    · obtain ⟨f, hf, hfk, _⟩ := hx
      obtain ⟨j, hj⟩ := List.getElem?_of_mem hf
      rw [List.getElem?_drop] at hj
      exact bare_lock hm hB hbl hr ka kb n (i + 1 + j) f (by omega) hj hfk
    · have hne : ∀ x, (evZ m x).k ≤ 2 → x ≠ i := fun x hx e1 => by
        rw [e1, evZ_at he] at hx; omega
      exact hB i hi (er_ok hi (hne a ka) (hne b kb) hbl hr (may_er hm he (by omega) fun _ f hf hfk ho => hx ⟨f, hf, hfk, ho⟩))
structure BareF (m : List Ev) (a b : Nat) : Prop where
  lt : a < b
  le : b < m.length
  rac : racB m a b = true
  ka : (evZ m a).k ≤ 2
  kb : (evZ m b).k ≤ 2
  frk : ∀ i e, m[i]? = some e → i ≠ a → i ≠ b → e.k = 5
theorem kind_range {e : Ev} (h : isEv e = true) : 1 ≤ e.k ∧ e.k ≤ 8 := by
  unfold isEv at h
  simp only [Bool.and_eq_true, inB_iff] at h
  unfold nobj at h
  obtain ⟨_, h1, h2⟩ := h
  repeat' split at h2
  all_goals omega
theorem bare_form {m : List Ev} (ho : Ok m) (hB : Bare m) : ∃ a b, BareF m a b := by
  obtain ⟨hm, a, b, hal, hbl, hr⟩ := ok_iff.1 ho
  obtain ⟨hlt, hc⟩ := rac_parts hr
  obtain ⟨_, h1, h2, _⟩ := conf_bin (l := m) hc
  have ka : (evZ m a).k ≤ 2 := by omega
  have kb : (evZ m b).k ≤ 2 := by omega
  refine ⟨a, b, hlt, hbl, hr, ka, kb, fun i e he hia hib => ?_⟩
  have hi := (List.getElem?_eq_some_iff.1 he).1
  rcases Classical.em (e.k = 5) with h5 | h5
  · exact h5
  · exfalso
    by_cases h34 : e.k = 3 ∨ e.k = 4
    · exact bare_lock hm hB hbl hr ka kb _ i e (Nat.le_refl _) he h34
    · exact hB i hi (er_ok hi (fun h => hia h.symm) (fun h => hib h.symm) hbl hr (may_er hm he h5 fun h => absurd h h34))
/-- How many accesses. -/
def accN (l : List Ev) : Nat := (l.filter fun e => decide (e.k ≤ 2)).length
def frkN (l : List Ev) : Nat := (l.filter fun e => decide (e.k = 5)).length
theorem accN_app (l m : List Ev) : accN (l ++ m) = accN l + accN m := by unfold accN; rw [List.filter_append, List.length_append]
theorem accN_cons (e : Ev) (l : List Ev) : accN (e :: l) = (if e.k ≤ 2 then 1 else 0) + accN l := by
  unfold accN
  by_cases h : e.k ≤ 2 <;> simp [h]; omega
theorem accN_zero {l : List Ev} (h : ∀ e ∈ l, e.k = 5) : accN l = 0 := by
  unfold accN
  rw [List.length_eq_zero_iff, List.filter_eq_nil_iff]
  intro e he
  rw [h e he]; decide
theorem BareF.acc {m : List Ev} {a b : Nat} (h : BareF m a b) : accN m = 2 := by
  have hal : a < m.length := Nat.lt_trans h.lt h.le
  have ga : m[a]? = some (evZ m a) := by rw [List.getElem?_eq_getElem hal, evZ_at (List.getElem?_eq_getElem hal)]
  have gb : m[b]? = some (evZ m b) := by rw [List.getElem?_eq_getElem h.le, evZ_at (List.getElem?_eq_getElem h.le)]
  have s1 := (split_er ga).1
  have gb' : (m.drop (a + 1))[b - (a + 1)]? = some (evZ m b) := by rw [List.getElem?_drop, show a + 1 + (b - (a + 1)) = b by have := h.lt; omega]; exact gb
  have s2 := (split_er gb').1
  have z1 : accN (m.take a) = 0 := accN_zero fun e he => by
    obtain ⟨i, hi⟩ := List.getElem?_of_mem he
    rw [List.getElem?_take] at hi
    split at hi
    · exact h.frk i e hi (by omega) (by have := h.lt; omega)
    · cases hi
  have z2 : accN ((m.drop (a + 1)).take (b - (a + 1))) = 0 := accN_zero fun e he => by
    obtain ⟨i, hi⟩ := List.getElem?_of_mem he
    rw [List.getElem?_take] at hi
    split at hi
    · rw [List.getElem?_drop] at hi
      exact h.frk _ e hi (by omega) (by omega)
    · cases hi
  have z3 : accN ((m.drop (a + 1)).drop (b - (a + 1) + 1)) = 0 := accN_zero fun e he => by
    obtain ⟨i, hi⟩ := List.getElem?_of_mem he
    rw [List.getElem?_drop, List.getElem?_drop] at hi
    exact h.frk _ e hi (by omega) (by have := h.lt; omega)
  rw [s1, s2, accN_app, accN_cons, accN_app, accN_cons, z1, z2, z3, if_pos h.ka, if_pos h.kb]
theorem BareF.one {m : List Ev} {a b : Nat} (h : BareF m a b) (hm : may m = 0) : (rcs m).length = 1 := by
  have key : ∀ p ∈ prsA (racB m) m.length, p = (a, b) := fun p hp => by
    obtain ⟨h1, h2, h3⟩ := mem_prsA.1 hp
    obtain ⟨hlt, hc⟩ := rac_parts h3
    obtain ⟨_, g1, g2, _⟩ := conf_bin (l := m) hc
    have k1 : p.1 = a ∨ p.1 = b := by
      rcases Classical.em (p.1 = a ∨ p.1 = b) with h9 | h9
      · exact h9
      · have := h.frk p.1 (evZ m p.1) (by rw [List.getElem?_eq_getElem h1, evZ_at (List.getElem?_eq_getElem h1)]) (fun e => h9 (.inl e)) (fun e => h9 (.inr e)); omega
    have k2 : p.2 = a ∨ p.2 = b := by
      rcases Classical.em (p.2 = a ∨ p.2 = b) with h9 | h9
      · exact h9
      · have := h.frk p.2 (evZ m p.2) (by rw [List.getElem?_eq_getElem h2, evZ_at (List.getElem?_eq_getElem h2)]) (fun e => h9 (.inl e)) (fun e => h9 (.inr e)); omega
    have := h.lt
    exact Prod.ext (by show p.1 = a; omega) (by show p.2 = b; omega)
  have hin : (a, b) ∈ prsA (racB m) m.length := mem_prsA.2 ⟨Nat.lt_trans h.lt h.le, h.le, h.rac⟩
  have hnd := prsA_nodup (racB m) m.length
  rw [rcs_ok hm]
  unfold rcsA
  rw [List.length_map]
  generalize prsA (racB m) m.length = ps at *
  match ps, hin, hnd, key with
  | [p], _, _, _ => rfl
  | p :: q :: r, _, hnd, key =>
    have e1 := key p (by simp)
    have e2 := key q (by simp)
    rw [e1, e2] at hnd
    simp at hnd
def bit (b : Bool) : Nat := if b then 1 else 0
def frk5 (l : List Ev) : Nat := bit (did l 5 1) + bit (did l 5 2) + bit (did l 5 3) + bit (did l 5 4) + bit (did l 5 5)
theorem bit_le (b : Bool) : bit b ≤ 1 := by cases b <;> decide
theorem frk5_le (l : List Ev) : frk5 l ≤ 5 := by
  unfold frk5
  have h1 := bit_le (did l 5 1); have h2 := bit_le (did l 5 2); have h3 := bit_le (did l 5 3); have h4 := bit_le (did l 5 4); have h5 := bit_le (did l 5 5)
  omega
theorem frk5_snoc {l : List Ev} {e : Ev} (h : wrong l e = 0) (hk : e.k = 5) : frk5 (l ++ [e]) = frk5 l + 1 := by
  have h0 := wrong_isEv h
  have hb : begun l e.o = false := by
    unfold wrong at h
    rw [if_neg (by rw [h0]; simp)] at h
    by_cases c1 : begun l e.t = false ∨ did l 6 e.t = true
    · rw [if_pos c1] at h; cases h
    · rw [if_neg c1, if_neg (show ¬ e.k = 3 by omega), if_neg (show ¬ e.k = 4 by omega), if_pos hk] at h
      cases hq : begun l e.o
      · rfl
      · rw [if_pos hq] at h; cases h
  unfold begun at hb
  simp only [Bool.or_eq_false_iff, decide_eq_false_iff_not] at hb
  obtain ⟨n0, hd⟩ := hb
  unfold isEv at h0
  simp only [Bool.and_eq_true, inB_iff] at h0
  have h6 : e.o < 6 := by
    have := h0.2.2
    unfold nobj at this
    rw [if_neg (by omega), if_neg (by omega), if_pos (by omega)] at this
    exact this
  have h0' := h0.2.1
  unfold frk5
  simp only [did_snoc, hk, true_and]
  have hc : e.o = 1 ∨ e.o = 2 ∨ e.o = 3 ∨ e.o = 4 ∨ e.o = 5 := by omega
  rcases hc with h9 | h9 | h9 | h9 | h9 <;> rw [h9] at hd ⊢ <;> simp [hd, bit] <;> omega
theorem frkN_le {l : List Ev} (hm : may l = 0) : ∀ i, i ≤ l.length → frkN (l.take i) ≤ frk5 (l.take i)
  | 0, _ => by simp [frkN]
  | i + 1, hi => by
    have ih := frkN_le hm i (by omega)
    have he : l[i]? = some (l[i]'(by omega)) := List.getElem?_eq_getElem (by omega)
    generalize l[i]'(by omega) = e at he
    have hw := wrong_at hm he
    rw [take_snoc' he]
    have e1 : frkN (l.take i ++ [e]) = frkN (l.take i) + if e.k = 5 then 1 else 0 := by
      unfold frkN
      rw [List.filter_append, List.length_append]
      by_cases h : e.k = 5 <;> simp [h]
    rw [e1]
    by_cases h : e.k = 5
    · rw [if_pos h, frk5_snoc hw h]; omega
    · rw [if_neg h]
      have : frk5 (l.take i ++ [e]) = frk5 (l.take i) := by
        unfold frk5
        simp only [did_snoc, h, false_and, decide_false, Bool.or_false]
      omega
theorem two_kinds : ∀ {l : List Ev}, (∀ e ∈ l, e.k ≤ 2 ∨ e.k = 5) → l.length = accN l + frkN l
  | [], _ => rfl
  | e :: l, h => by
    have ih := two_kinds (l := l) fun x hx => h x (List.mem_cons_of_mem _ hx)
    have he := h e (List.mem_cons_self ..)
    unfold accN frkN at *
    rcases he with h1 | h1
    · simp [h1, show ¬ e.k = 5 by omega]; omega
    · simp [h1]; omega
theorem BareF.small {m : List Ev} {a b : Nat} (h : BareF m a b) (hm : may m = 0) : m.length ≤ 7 := by
  have h1 := two_kinds (l := m) fun e he => by
    obtain ⟨i, hi⟩ := List.getElem?_of_mem he
    by_cases h1 : i = a
    · subst h1; have := h.ka; rw [evZ_at hi] at this; exact .inl this
    · by_cases h2 : i = b
      · subst h2; have := h.kb; rw [evZ_at hi] at this; exact .inl this
      · exact .inr (h.frk i e hi h1 h2)
  have h2 := frkN_le hm m.length (Nat.le_refl _)
  rw [List.take_length] at h2
  have h3 := frk5_le m
  have := h.acc
  omega
end Go.Proofs.Ytmdpegljpdjfoaa

/- Plain facts: traces without some accesses; the detector by epochs over them (one variable alone; one reader alone; a Write once more). -/
import Derived.Test.YtnjaeampnakbbaaFs
set_option linter.all false
set_option maxRecDepth 100000
namespace Go.Proofs.Ytnjaeampnakbbaa
open Go Go.RowKit

theorem may_snoc_iff {l : List Ev} {e : Ev} : may (l ++ [e]) = 0 ↔ may l = 0 ∧ wrong l e = 0 ∧ l.length < 80 := by
  rw [may_iff, may_iff]
  constructor
  · rintro ⟨h1, h2⟩
    rw [List.length_append] at h1
    simp at h1
    refine ⟨⟨by omega, fun i a ha => ?_⟩, ?_, by omega⟩
    · have hi := (List.getElem?_eq_some_iff.1 ha).1
      have := h2 i a (by rw [List.getElem?_append_left hi]; exact ha)
      rwa [List.take_append_of_le_length (by omega)] at this
    · have := h2 l.length e (by simp)
      rwa [List.take_left] at this
  · rintro ⟨⟨h1, h2⟩, h3, h4⟩
    refine ⟨by rw [List.length_append]; simp; omega, fun i a ha => ?_⟩
    rcases Nat.lt_or_ge i l.length with hi | hi
    · rw [List.getElem?_append_left hi] at ha
      rw [List.take_append_of_le_length (by omega)]
      exact h2 i a ha
    · rw [List.getElem?_append_right hi] at ha
      have hi0 : i - l.length = 0 := by
        refine Classical.byContradiction fun h => ?_
        rw [List.getElem?_eq_none (by simp; omega)] at ha; cases ha
      rw [hi0] at ha
      simp at ha
      subst ha
      have : i = l.length := by omega
      subst this
      rw [List.take_left]; exact h3
/-- What Check looks back at. -/
def syn (e : Ev) : Bool := decide (3 ≤ e.k ∧ e.k ≤ 6)
theorem did_syn {q o : Int} (hq : q = 5 ∨ q = 6) : ∀ l : List Ev, did (l.filter syn) q o = did l q o
  | [] => rfl
  | e :: l => by
    have ih := did_syn hq (o := o) l
    unfold did at ih ⊢
    by_cases h : syn e = true
    · rw [List.filter_cons_of_pos h, List.any_cons, List.any_cons, ih]
    · rw [List.filter_cons_of_neg h, List.any_cons, ih]
      have : decide (e.k = q ∧ e.o = o) = false := by
        rw [decide_eq_false_iff_not]
        intro hh
        unfold syn at h
        simp only [decide_eq_true_eq] at h
        omega
      rw [this, Bool.false_or]
theorem owner_syn (k : Int) : ∀ (l : List Ev) (a : Int), (l.filter syn).foldl (fun who e => ownB who e k) a = l.foldl (fun who e => ownB who e k) a
  | [], _ => rfl
  | e :: l, a => by
    by_cases h : syn e = true
    · rw [List.filter_cons_of_pos h, List.foldl_cons, List.foldl_cons]; exact owner_syn k l _
    · rw [List.filter_cons_of_neg h, List.foldl_cons, owner_syn k l]
      have : ownB a e k = a := by
        unfold syn at h
        simp only [decide_eq_true_eq] at h
        unfold ownB
        rw [if_neg (by omega), if_neg (by omega)]
      rw [this]
theorem wrong_syn (l : List Ev) (e : Ev) : wrong (l.filter syn) e = wrong l e := by
  have h5 := fun o => did_syn (q := 5) (o := o) (.inl rfl) l
  have h6 := fun o => did_syn (q := 6) (o := o) (.inr rfl) l
  have ho : ∀ o, owner (l.filter syn) o = owner l o := fun o => owner_syn o l (-1)
  unfold wrong begun
  rw [h5, h5, h6, ho]
theorem wrong_eq {p q : List Ev} (h : p.filter syn = q.filter syn) (e : Ev) : wrong p e = wrong q e := by rw [← wrong_syn p, h, wrong_syn]
theorem may_filter {f : Ev → Bool} (hf : ∀ e, syn e = true → f e = true) : ∀ k (l : List Ev), l.length = k → may l = 0 → may (l.filter f) = 0
  | 0, l, hk, h => by
    have : l = [] := List.eq_nil_of_length_eq_zero hk
    subst this; exact h
  | k + 1, l, hk, h => by
    obtain ⟨p, e, rfl⟩ : ∃ p e, l = p ++ [e] := by
      have hne : l ≠ [] := by intro hh; rw [hh] at hk; cases hk
      exact ⟨l.dropLast, l.getLast hne, (List.dropLast_concat_getLast hne).symm⟩
    have h1 := may_snoc_iff.1 h
    have ih := may_filter hf k p (by rw [List.length_append] at hk; simp at hk; exact hk) h1.1
    rw [List.filter_append]
    by_cases hfe : f e = true
    · rw [show [e].filter f = [e] by simp [hfe]]
      refine may_snoc_iff.2 ⟨ih, ?_, Nat.lt_of_le_of_lt (List.length_filter_le _ _) h1.2.2⟩
      rw [← h1.2.1]
      refine wrong_eq ?_ e
      rw [List.filter_filter]
      refine List.filter_congr fun a _ => ?_
      cases hs : syn a
      · simp
      · simp [hf a hs]
    · rw [show [e].filter f = [] by simp [hfe], List.append_nil]; exact ih
/-- How many of the first k are kept. -/
def kept (f : Ev → Bool) (l : List Ev) (k : Nat) : Nat := ((l.take k).filter f).length
theorem kept_zero (f : Ev → Bool) (l : List Ev) : kept f l 0 = 0 := rfl
theorem kept_succ {f : Ev → Bool} {l : List Ev} {k : Nat} (hk : k < l.length) : kept f l (k + 1) = kept f l k + if f (eZ l k) = true then 1 else 0 := by
  unfold kept
  rw [take_snoc' (eZ_get hk), List.filter_append, List.length_append]
  by_cases h : f (eZ l k) = true <;> simp [h]
theorem kept_all (f : Ev → Bool) (l : List Ev) : kept f l l.length = (l.filter f).length := by unfold kept; rw [List.take_length]
theorem kept_at {f : Ev → Bool} {l : List Ev} {k : Nat} (hk : k < l.length) (h : f (eZ l k) = true) : eZ (l.filter f) (kept f l k) = eZ l k := by
  have e : l = l.take k ++ eZ l k :: l.drop (k + 1) := by
    have h1 := List.getElem?_eq_some_iff.1 (eZ_get hk)
    rw [← h1.2, ← List.drop_eq_getElem_cons h1.1, List.take_append_drop]
  have h2 : (l.filter f)[kept f l k]? = some (eZ l k) := by
    conv => lhs; arg 1; rw [e]
    unfold kept
    rw [List.filter_append, List.filter_cons_of_pos h, List.getElem?_append_right (Nat.le_refl _)]
    simp
  exact eZ_at h2
/-- All but the accesses of other variables. -/
def varF (x : Nat) (e : Ev) : Bool := decide (2 < e.k) || decide (e.o = (x : Int))
theorem varF_syn (x : Nat) (e : Ev) (h : syn e = true) : varF x e = true := by
  unfold syn at h; unfold varF
  simp only [decide_eq_true_eq] at h
  simp; omega
section
variable {l : List Ev} (hm : may l = 0) (x : Nat)
include hm
theorem varF_no {k : Nat} (hk : k < l.length) (h : varF x (eZ l k) = false) : (kZ l k = 1 ∨ kZ l k = 2) ∧ oZ l k ≠ x := by
  have he := eZ_ok hm hk
  have ho := isEv_o he
  unfold varF at h
  simp only [Bool.or_eq_false_iff, decide_eq_false_iff_not] at h
  have hk1 : 1 ≤ (eZ l k).k := by
    refine Classical.byContradiction fun hn => ?_
    have : nobj (eZ l k).k = 0 := by unfold nobj; rw [if_neg (by omega), if_neg (by omega), if_neg (by omega), if_neg (by omega)]
    omega
  unfold kZ oZ
  exact ⟨by omega, by omega⟩
theorem djTo_var : ∀ k, k ≤ l.length → djTo (l.filter (varF x)) (kept (varF x) l k) = djTo l k
  | 0, _ => rfl
  | k + 1, hk' => by
    have hk : k < l.length := by omega
    have ih := djTo_var k (by omega)
    rw [kept_succ hk]
    by_cases h : varF x (eZ l k) = true
    · have e := kept_at hk h
      rw [if_pos h, djTo, ih, djTo]
      unfold kZ tZ oZ
      rw [e]
    · rw [if_neg h, Nat.add_zero, ih, djTo_acc (varF_no hm x hk (by simpa using h)).1]
theorem cZ_var {k : Nat} (hk : k < l.length) (h : varF x (eZ l k) = true) : cZ (l.filter (varF x)) (kept (varF x) l k) = cZ l k := by
  unfold cZ tZ
  rw [djTo_var hm x k (by omega), kept_at hk h]
theorem fsTo_var : ∀ k, k ≤ l.length → fsTo (l.filter (varF x)) x (kept (varF x) l k) = fsTo l x k
  | 0, _ => rfl
  | k + 1, hk' => by
    have hk : k < l.length := by omega
    have ih := fsTo_var k (by omega)
    rw [kept_succ hk]
    by_cases h : varF x (eZ l k) = true
    · have e := kept_at hk h
      rw [if_pos h, fsTo, ih, fsTo, cZ_var hm x hk h]
      unfold kZ tZ oZ
      rw [e]
    · rw [if_neg h, Nat.add_zero, ih, fsTo, if_neg (varF_no hm x hk (by simpa using h)).2]
theorem fkK_var {k : Nat} (hk : k < l.length) (h : varF x (eZ l k) = true) (ho : oZ l k = x) : fkK (l.filter (varF x)) (kept (varF x) l k) = fkK l k := by
  have e := kept_at hk h
  unfold fkK
  rw [cZ_var hm x hk h]
  have eo : oZ (l.filter (varF x)) (kept (varF x) l k) = oZ l k := by unfold oZ; rw [e]
  have ek : kZ (l.filter (varF x)) (kept (varF x) l k) = kZ l k := by unfold kZ; rw [e]
  have et : tZ (l.filter (varF x)) (kept (varF x) l k) = tZ l k := by unfold tZ; rw [e]
  rw [eo, ek, et, ho, fsTo_var hm x k (by omega)]
/-- The places of those that are kept. -/
def atK (f : Ev → Bool) (l : List Ev) (k : Nat) : List Nat := (List.range k).filter fun i => f (eZ l i)
omit hm in
theorem atK_len {f : Ev → Bool} : ∀ k, k ≤ l.length → (atK f l k).length = kept f l k
  | 0, _ => rfl
  | k + 1, hk => by
    have ih := atK_len (f := f) k (by omega)
    rw [kept_succ (by omega), ← ih]
    unfold atK
    rw [List.range_succ, List.filter_append, List.length_append]
    by_cases h : f (eZ l k) = true <;> simp [h]
omit hm in
theorem atK_at {f : Ev → Bool} {k n : Nat} (hkn : k < n) (hn : n ≤ l.length) (h : f (eZ l k) = true) : (atK f l n)[kept f l k]? = some k := by
  rw [← atK_len k (by omega)]
  obtain ⟨d, rfl⟩ := Nat.exists_eq_add_of_le (show k + 1 ≤ n from hkn)
  have : atK f l (k + 1 + d) = atK f l k ++ k :: ((List.range d).map (k + 1 + ·)).filter (fun i => f (eZ l i)) := by
    unfold atK
    rw [List.range_add, List.range_succ, List.filter_append, List.filter_append, List.append_assoc]
    simp [h]
  rw [this, List.getElem?_append_right (Nat.le_refl _)]
  simp
/-- A flag, its place told by a row of places. -/
def reAt (at_ : List Nat) (e : Ev) : Ev := ⟨((at_[e.k.toNat]?).getD 0 : Nat), e.t, e.o⟩
theorem gl_var {n : Nat} (hn : n = l.length) : ∀ k, k ≤ l.length → (gl (fkK (l.filter (varF x))) (l.filter (varF x)) (kept (varF x) l k)).map (reAt (atK (varF x) l n)) = (gl (fkK l) l k).filter fun e => decide (e.t = (x : Int))
  | 0, _ => rfl
  | k + 1, hk' => by
    have hk : k < l.length := by omega
    have ih := gl_var hn k (by omega)
    rw [kept_succ hk]
    have hoz : (eZ l k).o = (oZ l k : Nat) := by have := (isEv_o (eZ_ok hm hk)).1; unfold oZ; omega
    by_cases h : varF x (eZ l k) = true
    · have e := kept_at hk h
      rw [if_pos h]
      by_cases ho : oZ l k = x
      · have hf := fkK_var hm x hk h ho
        by_cases h0 : fkK l k = 0
        · rw [gl_no (by rw [hf]; exact h0), gl_no h0, ih]
        · rw [gl_yes (by rw [hf]; exact h0), gl_yes h0, List.map_append, List.filter_append, ih, hf, e]
          congr 1
          rw [List.filter_cons_of_pos (by dsimp only; rw [hoz, ho]; simp)]
          simp only [List.map_cons, List.map_nil, List.filter_nil, reAt, Int.toNat_natCast, atK_at (show k < n by omega) (by omega) h, Option.getD_some]
      · have hk2 : 2 < kZ l k := by
          unfold varF at h
          simp only [Bool.or_eq_true, decide_eq_true_eq] at h
          unfold kZ
          rcases h with h | h
          · exact h
          · exact absurd (by unfold oZ; omega) ho
        have z : ∀ (l' : List Ev) (j : Nat), 2 < kZ l' j → fkK l' j = 0 := fun l' j h => by unfold fkK fsK; rw [if_neg (by omega), if_neg (by omega)]
        rw [gl_no (z _ _ (by unfold kZ; rw [e]; exact hk2)), gl_no (z _ _ hk2), ih]
    · have hno := varF_no hm x hk (by simpa using h)
      rw [if_neg h, Nat.add_zero, ih]
      by_cases h0 : fkK l k = 0
      · rw [gl_no h0]
      · rw [gl_yes h0, List.filter_append, List.filter_cons_of_neg (by dsimp only; rw [hoz]; simp; omega)]
        simp
end
end Go.Proofs.Ytnjaeampnakbbaa

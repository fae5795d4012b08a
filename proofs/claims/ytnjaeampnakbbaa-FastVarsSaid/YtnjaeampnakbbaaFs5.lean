/- Plain facts: the detector by epochs: one reader alone (FastOne), a Write once more (FastAgain). -/
import Derived.Test.YtnjaeampnakbbaaFs4
set_option linter.all false
set_option maxRecDepth 100000
namespace Go.Proofs.Ytnjaeampnakbbaa
open Go Go.RowKit

section
variable {l : List Ev} (hm : may l = 0) (h : ∀ i, i < l.length → kZ l i = 1 → tZ l i = oZ l i % 6)
include hm h
theorem one_kn {x k : Nat} (hk : k < l.length) (ho : oZ l k = x) (h1 : kZ l k = 1) : (fsTo l x k).rn ≤ cZ l k (fsTo l x k).rt := by
  have hI := fsI_all l x k
  rcases hI.r with ⟨_, e⟩ | ⟨i, g1, g2, g3, g4, _⟩
  · rw [e]; exact Nat.zero_le _
  · exact rn_own hm hk hI (by rw [g4, h i (by omega) g2, h k hk h1, g3, ho])
theorem one_many (x : Nat) : ∀ k, k ≤ l.length → (fsTo l x k).many = false
  | 0, _ => rfl
  | k + 1, hk' => by
    have hk : k < l.length := by omega
    have ih := one_many x k (by omega)
    rw [fsTo]
    split
    · rename_i ho
      unfold fsStep
      split
      · rename_i h1
        have hkn := one_kn hm h hk ho h1
        split
        · exact ih
        · unfold fsR
          rw [if_neg (by rw [ih]; simp), if_pos hkn]
          exact ih
      · split
        · split
          · exact ih
          · rfl
        · exact ih
    · exact ih
theorem slT_one : ∀ k, k ≤ l.length → slT l k = 0
  | 0, _ => rfl
  | k + 1, hk' => by
    have hk : k < l.length := by omega
    rw [slT, slT_one k (by omega)]
    unfold fsSl
    split
    · rename_i h1
      split
      · rfl
      · rw [if_neg (by rw [one_many hm h _ k (by omega)]; simp), if_pos (one_kn hm h hk rfl h1)]
    · rfl
end
/-- Event i once more, just behind itself. -/
def dup (l : List Ev) (i : Nat) : List Ev := l.take (i + 1) ++ l.drop i
section
variable {l : List Ev} {i : Nat} (hi : i < l.length)
include hi
theorem dup_len : (dup l i).length = l.length + 1 := by unfold dup; rw [List.length_append, List.length_take, List.length_drop]; omega
theorem dup_get (j : Nat) : (dup l i)[j]? = if j ≤ i then l[j]? else l[j - 1]? := by
  unfold dup
  split
  · rw [List.getElem?_append_left (by rw [List.length_take]; omega), List.getElem?_take, if_pos (by omega)]
  · rw [List.getElem?_append_right (by rw [List.length_take]; omega), List.length_take, List.getElem?_drop]
    congr 1
    omega
theorem eZ_dup (j : Nat) : eZ (dup l i) j = if j ≤ i then eZ l j else eZ l (j - 1) := by
  unfold eZ
  rw [dup_get hi]
  split <;> rfl
theorem eZ_low {j : Nat} (h : j ≤ i) : eZ (dup l i) j = eZ l j := by rw [eZ_dup hi, if_pos h]
theorem eZ_high {j : Nat} (h : i ≤ j) : eZ (dup l i) (j + 1) = eZ l j := by rw [eZ_dup hi, if_neg (by omega)]; rfl
theorem djTo_low : ∀ j, j ≤ i + 1 → djTo (dup l i) j = djTo l j
  | 0, _ => rfl
  | j + 1, h => by
    rw [djTo, djTo, djTo_low j (by omega)]
    unfold kZ tZ oZ
    rw [eZ_low hi (by omega)]
theorem cZ_lowD {j : Nat} (h : j ≤ i) : cZ (dup l i) j = cZ l j := by unfold cZ tZ; rw [djTo_low hi j (by omega), eZ_low hi h]
theorem fsTo_lowD (x : Nat) : ∀ j, j ≤ i + 1 → fsTo (dup l i) x j = fsTo l x j
  | 0, _ => rfl
  | j + 1, h => by
    rw [fsTo, fsTo, fsTo_lowD x j (by omega), cZ_lowD hi (by omega)]
    unfold kZ tZ oZ
    rw [eZ_low hi (by omega)]
theorem fkK_lowD {j : Nat} (h : j ≤ i) : fkK (dup l i) j = fkK l j := by
  unfold fkK
  rw [cZ_lowD hi h, fsTo_lowD hi _ j (by omega)]
  unfold kZ tZ oZ
  rw [eZ_low hi h]
variable (hw : kZ l i = 2)
include hw
theorem djTo_mid : djTo (dup l i) (i + 2) = djTo l (i + 1) := by
  have h2 : kZ (dup l i) (i + 1) = 2 := by unfold kZ; rw [eZ_high hi (Nat.le_refl _)]; exact hw
  rw [djTo_acc (.inr h2), djTo_low hi _ (Nat.le_refl _)]
theorem djTo_highD : ∀ d, djTo (dup l i) (i + 1 + d + 1) = djTo l (i + 1 + d)
  | 0 => djTo_mid hi hw
  | d + 1 => by
    show djTo (dup l i) ((i + 1 + d + 1) + 1) = djTo l ((i + 1 + d) + 1)
    rw [djTo, djTo_highD d, djTo]
    unfold kZ tZ oZ
    rw [eZ_high hi (by omega)]
theorem cZ_highD {j : Nat} (h : i < j) : cZ (dup l i) (j + 1) = cZ l j := by
  obtain ⟨d, rfl⟩ := Nat.exists_eq_add_of_le (show i + 1 ≤ j from h)
  unfold cZ tZ
  rw [djTo_highD hi hw d, eZ_high hi (by omega)]
theorem cZ_mid : cZ (dup l i) (i + 1) = cZ l i := by
  unfold cZ tZ
  rw [djTo_low hi _ (Nat.le_refl _), eZ_high hi (Nat.le_refl _), djTo_acc (.inr hw)]
theorem sk_mid : skW (fsTo l (oZ l i) (i + 1)) (tZ l i) (cZ l i) = true := by
  rw [fsTo, if_pos rfl]
  unfold fsStep
  rw [if_neg (by omega), if_pos hw]
  split
  · rename_i h; exact h
  · unfold skW fsW; simp
theorem mid_parts : kZ (dup l i) (i + 1) = 2 ∧ tZ (dup l i) (i + 1) = tZ l i ∧ oZ (dup l i) (i + 1) = oZ l i := by
  unfold kZ tZ oZ
  rw [eZ_high hi (Nat.le_refl _)]
  exact ⟨hw, rfl, rfl⟩
theorem fkK_mid : fkK (dup l i) (i + 1) = 0 := by
  obtain ⟨h1, h2, h3⟩ := mid_parts hi hw
  unfold fkK fsK
  rw [h1, h2, h3, cZ_mid hi hw, fsTo_lowD hi _ _ (Nat.le_refl _), sk_mid hi hw]
  simp
theorem fsTo_mid (x : Nat) : fsTo (dup l i) x (i + 2) = fsTo l x (i + 1) := by
  obtain ⟨h1, h2, h3⟩ := mid_parts hi hw
  rw [fsTo, h1, h2, h3, cZ_mid hi hw, fsTo_lowD hi _ _ (Nat.le_refl _)]
  split
  · rename_i ho
    unfold fsStep
    rw [if_neg (by omega), if_pos rfl, ← ho, if_pos (sk_mid hi hw)]
  · rfl
theorem fsTo_highD (x : Nat) : ∀ d, fsTo (dup l i) x (i + 1 + d + 1) = fsTo l x (i + 1 + d)
  | 0 => fsTo_mid hi hw x
  | d + 1 => by
    show fsTo (dup l i) x ((i + 1 + d + 1) + 1) = fsTo l x ((i + 1 + d) + 1)
    rw [fsTo, fsTo_highD x d, fsTo, cZ_highD hi hw (by omega)]
    unfold kZ tZ oZ
    rw [eZ_high hi (by omega)]
theorem fkK_highD {j : Nat} (h : i < j) : fkK (dup l i) (j + 1) = fkK l j := by
  obtain ⟨d, rfl⟩ := Nat.exists_eq_add_of_le (show i + 1 ≤ j from h)
  unfold fkK
  rw [cZ_highD hi hw (by omega), fsTo_highD hi hw]
  unfold kZ tZ oZ
  rw [eZ_high hi (by omega)]
/-- A flag behind event i comes one later. -/
def shE (i : Nat) (e : Ev) : Ev := if (i : Int) < e.k then ⟨e.k + 1, e.t, e.o⟩ else e
theorem gl_dup : ∀ d, gl (fkK (dup l i)) (dup l i) (i + 1 + d + 1) = (gl (fkK l) l (i + 1 + d)).map (shE i)
  | 0 => by
    rw [gl_no (fkK_mid hi hw)]
    have e : gl (fkK (dup l i)) (dup l i) (i + 1) = gl (fkK l) l (i + 1) := gl_congr fun j hj => ⟨fkK_lowD hi (by omega), fun _ => by rw [eZ_low hi (by omega)]⟩
    rw [e]
    have hid : (gl (fkK l) l (i + 1)).map (shE i) = (gl (fkK l) l (i + 1)).map id := List.map_congr_left fun a ha => by
      have := gl_low ha
      unfold shE
      rw [if_neg (by omega)]; rfl
    rw [Nat.add_zero, hid, List.map_id]
  | d + 1 => by
    show gl (fkK (dup l i)) (dup l i) ((i + 1 + d + 1) + 1) = (gl (fkK l) l ((i + 1 + d) + 1)).map (shE i)
    rw [gl, gl_dup d, gl, fkK_highD hi hw (by omega), eZ_high hi (by omega)]
    split
    · rfl
    · rw [List.map_append]
      congr 1
      simp only [List.map_cons, List.map_nil, shE]
      rw [if_pos (by omega)]
      rfl
end
theorem may_ins {p : List Ev} {w : Ev} (hs : syn w = false) (hpw : wrong p w = 0) : ∀ (k : Nat) (q : List Ev), q.length = k → may (p ++ q) = 0 → (p ++ q).length < 80 → may (p ++ [w] ++ q) = 0
  | 0, q, hk, h, hl => by
    have : q = [] := List.eq_nil_of_length_eq_zero hk
    subst this
    rw [List.append_nil] at h hl ⊢
    exact may_snoc_iff.2 ⟨h, hpw, hl⟩
  | k + 1, q, hk, h, hl => by
    obtain ⟨r, e, rfl⟩ : ∃ r e, q = r ++ [e] := by
      have hne : q ≠ [] := by intro hh; rw [hh] at hk; cases hk
      exact ⟨q.dropLast, q.getLast hne, (List.dropLast_concat_getLast hne).symm⟩
    rw [← List.append_assoc] at h hl ⊢
    rw [List.length_append] at hl hk
    simp only [List.length_cons, List.length_nil] at hl hk
    have h1 := may_snoc_iff.1 h
    have ih := may_ins hs hpw k r (by omega) h1.1 (by omega)
    refine may_snoc_iff.2 ⟨ih, ?_, ?_⟩
    · rw [← h1.2.1]
      refine wrong_eq ?_ e
      simp [List.filter_append, hs]
    · simp only [List.length_append, List.length_cons, List.length_nil] at hl ⊢
      omega
theorem may_dup {l : List Ev} {i : Nat} (hm : may l = 0) (hi : i < l.length) (hw : kZ l i = 2) (hl : l.length < 80) : may (dup l i) = 0 := by
  have he := eZ_get hi
  have hs : syn (eZ l i) = false := by unfold syn; rw [decide_eq_false_iff_not]; unfold kZ at hw; omega
  have hd : l.drop i = eZ l i :: l.drop (i + 1) := by
    have h1 := List.getElem?_eq_some_iff.1 he
    rw [List.drop_eq_getElem_cons h1.1, h1.2]
  have e : dup l i = l.take (i + 1) ++ [eZ l i] ++ l.drop (i + 1) := by unfold dup; rw [hd]; simp
  rw [e]
  refine may_ins hs ?_ _ _ rfl (by rw [List.take_append_drop]; exact hm) (by rw [List.take_append_drop]; exact hl)
  rw [← wrong_at hm he]
  refine wrong_eq ?_ _
  rw [take_snoc' he, List.filter_append]
  simp [hs]
end Go.Proofs.Ytnjaeampnakbbaa

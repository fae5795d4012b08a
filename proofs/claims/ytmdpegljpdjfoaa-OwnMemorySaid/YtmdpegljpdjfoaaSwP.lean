/- Plain facts: the lowest of the events that can come first; values stored into a block one after another. -/
import Derived.Test.YtmdpegljpdjfoaaSl
import Derived.Test.YtmdpegljpdjfoaaBase
import Derived.Laws.IdiomCopy
set_option linter.all false
set_option maxRecDepth 100000
namespace Go.Proofs.Ytmdpegljpdjfoaa
open Go Go.RowKit

/-- Event i can come first. -/
def Can (l : List Ev) (i : Nat) (e : Ev) : Prop := l[i]? = some e ∧ ((l.take i).any fun x => dep x e) = false
theorem Can.front {l : List Ev} {i : Nat} {e : Ev} (h : Can l i e) : ∀ x ∈ l.take i, dep x e = false := fun x hx => by
  have := h.2
  rw [List.any_eq_false] at this
  simpa using this x hx
theorem split_at {l : List Ev} {i : Nat} {e : Ev} (h : l[i]? = some e) : l = l.take i ++ e :: l.drop (i + 1) := by
  obtain ⟨h1, h2⟩ := List.getElem?_eq_some_iff.1 h
  rw [← h2, List.getElem_cons_drop, List.take_append_drop]
theorem Can.take1 {l : List Ev} {i : Nat} {e : Ev} (h : Can l i e) : take1 e.t l = some (e, l.eraseIdx i) := by
  have h1 : Proofs.Ytmdpegljpdjfoaa.take1 e.t (l.take i ++ e :: l.drop (i + 1)) = some (e, l.take i ++ l.drop (i + 1)) := take1_at rfl h.front
  rw [← split_at h.1] at h1
  rw [List.eraseIdx_eq_take_drop_succ]
  exact h1
theorem pick_low {l : List Ev} {f : Nat} {e : Ev} (h : Can l f e) (hf : Fit l) (hm : ∀ j e', Can l j e' → e.t ≤ e'.t) : pick l = some (e, l.eraseIdx f) := by
  have he := hf e (List.mem_of_getElem? h.1)
  refine pick_iff.2 ⟨e.t.toNat, by omega, ?_, fun j hj => ?_⟩
  · rw [Int.toNat_of_nonneg he.1]
    exact h.take1
  · cases hr : Proofs.Ytmdpegljpdjfoaa.take1 j l with
    | none => rfl
    | some er =>
      obtain ⟨e', r⟩ := er
      obtain ⟨h1, p, q, rfl, _, h4⟩ := take1_form hr
      have := hm p.length e' ⟨by simp, by
        rw [List.any_eq_false]
        intro x hx
        simp only [List.take_left'] at hx
        simpa using h4 x hx⟩
      omega
/-- Of the events before i, f is the lowest that can come first. -/
structure Low (l : List Ev) (i f : Nat) (e : Ev) : Prop where
  can : Can l f e
  min : ∀ j, j < i → ∀ e', Can l j e' → e.t ≤ e'.t
theorem Low.start {l : List Ev} {e : Ev} (h : l[0]? = some e) : Low l 0 0 e := ⟨⟨h, by simp⟩, fun j hj => absurd hj (Nat.not_lt_zero j)⟩
theorem Low.stay {l : List Ev} {i f : Nat} {e x : Ev} (h : Low l i f e) (hx : l[i]? = some x) (hn : ¬ x.t < e.t ∨ ((l.take i).any fun y => dep y x) = true) : Low l (i + 1) f e :=
  ⟨h.can, fun j hj e' hc => by
    rcases Nat.lt_succ_iff_lt_or_eq.1 hj with h1 | rfl
    · exact h.min j h1 e' hc
    · obtain ⟨c1, c2⟩ := hc
      rw [hx] at c1
      cases c1
      rcases hn with hn | hn
      · omega
      · rw [hn] at c2; cases c2⟩
theorem Low.turn {l : List Ev} {i f : Nat} {e x : Ev} (h : Low l i f e) (hx : l[i]? = some x) (hlt : x.t < e.t) (hn : ((l.take i).any fun y => dep y x) = false) : Low l (i + 1) i x :=
  ⟨⟨hx, hn⟩, fun j hj e' hc => by
    rcases Nat.lt_succ_iff_lt_or_eq.1 hj with h1 | rfl
    · have := h.min j h1 e' hc; omega
    · obtain ⟨c1, c2⟩ := hc
      rw [hx] at c1
      cases c1
      exact Int.le_refl _⟩
theorem Low.pick {l : List Ev} {f : Nat} {e : Ev} (h : Low l l.length f e) (hf : Fit l) : pick l = some (e, l.eraseIdx f) :=
  pick_low h.can hf fun j e' hc => h.min j (List.getElem?_eq_some_iff.1 hc.1).1 e' hc
/-- Values stored one after another. -/
def setL : Array Value → Nat → List Value → Array Value
  | c, _, [] => c
  | c, o, v :: r => setL (c.setIfInBounds o v) (o + 1) r
theorem setL_size : ∀ (vs : List Value) (c : Array Value) (o : Nat), (setL c o vs).size = c.size
  | [], _, _ => rfl
  | v :: r, c, o => by rw [setL, setL_size r]; simp
theorem setL_out : ∀ (vs : List Value) (c : Array Value) (o i : Nat), i < o ∨ o + vs.length ≤ i → (setL c o vs)[i]? = c[i]?
  | [], _, _, _, _ => rfl
  | v :: r, c, o, i, h => by
    simp only [List.length_cons] at h
    rw [setL, setL_out r _ (o + 1) i (by omega), Array.getElem?_setIfInBounds_ne (by omega)]
theorem setL_in : ∀ (vs : List Value) (c : Array Value) (o j : Nat) (v : Value), vs[j]? = some v → o + vs.length ≤ c.size → (setL c o vs)[o + j]? = some v
  | [], _, _, _, _, h, _ => by cases h
  | u :: r, c, o, 0, v, h, hs => by
    simp only [List.getElem?_cons_zero, Option.some.injEq] at h
    subst h
    simp only [List.length_cons] at hs
    rw [setL, setL_out r _ (o + 1) _ (by omega), Nat.add_zero, Array.getElem?_setIfInBounds_self, if_pos (by omega)]
  | u :: r, c, o, j + 1, v, h, hs => by
    simp only [List.length_cons] at hs
    rw [setL, show o + (j + 1) = o + 1 + j by omega]
    exact setL_in r _ (o + 1) j v (by simpa using h) (by simp; omega)
theorem Box.setL : ∀ (vs : List Value) {w : World} {B : Nat} {c : Array Value} {t : TypeId} (o : Nat), Box w B c t → Box (w.setCells B o vs) B (Proofs.Ytmdpegljpdjfoaa.setL c o vs) t
  | [], _, _, _, _, _, h => h
  | v :: r, _, _, _, _, o, h => Box.setL r (o + 1) (h.set o v)
theorem grown_setCells (X : Nat) : ∀ (vs : List Value) (o : Nat) (w : World), w.grownBy (w.setCells X o vs) (some X)
  | [], _, w => World.grownBy.refl w _
  | v :: r, o, w => by
    rw [World.setCells]
    have h := grown_setCells X r (o + 1) (w.setCell ⟨X, o, none⟩ v)
    have h1 : w.grownBy (w.setCell ⟨X, o, none⟩ v) (some X) := ⟨rfl, rfl, rfl, by simp [World.setCell], fun k _ hk => heap_setCell_other w ⟨X, o, none⟩ k v (fun e => hk (congrArg some e))⟩
    exact h1.trans h
/-- The cells behind a deletion: what stood behind i moves one event to the left, and behind it all are zero. -/
theorem del_cells {cur : Array Value} {l : List Ev} {n i cap m : Nat} (hl : l.length = n) (hi : i < n) (hm : m + 1 = n) (hn : n ≤ cap) (hs : cur.size = cap * 3) (hc : cur.toList.take (n * 3) = evc l) (z : List Value) :
    (setL (setL cur (i * 3) (evc (l.drop (i + 1)))) (m * 3) z).toList.take (m * 3) = evc (l.eraseIdx i) := by
  have hd : (evc (l.drop (i + 1))).length = (m - i) * 3 := by rw [evc_length, List.length_drop, hl]; omega
  apply List.ext_getElem?
  intro j
  rw [List.getElem?_take, List.eraseIdx_eq_take_drop_succ, evc_append]
  have ht : (evc (l.take i)).length = i * 3 := by rw [evc_length, List.length_take, hl]; omega
  by_cases hj : j < m * 3
  · rw [if_pos hj, Array.getElem?_toList, setL_out _ _ _ _ (.inl hj)]
    by_cases h1 : j < i * 3
    · rw [setL_out _ _ _ _ (.inl h1), List.getElem?_append_left (by omega), ← evc_take, List.getElem?_take, if_pos h1, ← hc, List.getElem?_take, if_pos (by omega), Array.getElem?_toList]
    · rw [List.getElem?_append_right (by omega), ht]
      obtain ⟨v, hv⟩ : ∃ v, (evc (l.drop (i + 1)))[j - i * 3]? = some v := ⟨_, List.getElem?_eq_getElem (by omega)⟩
      rw [hv]
      have := setL_in _ cur (i * 3) _ v hv (by omega)
      rwa [show i * 3 + (j - i * 3) = j by omega] at this
  · rw [if_neg hj, List.getElem?_eq_none]
    rw [List.length_append, ht, hd]
    omega
end Go.Proofs.Ytmdpegljpdjfoaa

/- Two rows of a block of events exchanged by two stores. -/
import Derived.Test.YtjddahidkodieaaSl
import Derived.Test.YtjddahidkodieaaOpen
import Derived.Test.YtjddahidkodieaaAppend
import Derived.Test.YtjddahidkodieaaKeepTw
import Derived.Deep.MidRow
set_option linter.all false
set_option maxRecDepth 100000
namespace Go.Proofs.Ytjddahidkodieaa
open Go Go.RowKit

theorem cells3 (w : World) (B o : Nat) (e : Ev) : w.setCells B o (evv e).toList = (((w.setCell ⟨B, o, none⟩ (.int .i64 e.k)).setCell ⟨B, o + 1, none⟩ (.int .i64 e.t)).setCell ⟨B, o + 2, none⟩ (.int .i64 e.o)) := rfl
def set3 (c : Array Value) (o : Nat) (e : Ev) : Array Value := ((c.setIfInBounds o (.int .i64 e.k)).setIfInBounds (o + 1) (.int .i64 e.t)).setIfInBounds (o + 2) (.int .i64 e.o)
theorem Box.set3 {w : World} {B : Nat} {c : Array Value} {t : TypeId} (h : Box w B c t) (o : Nat) (e : Ev) : Box (w.setCells B o (evv e).toList) B (Proofs.Ytjddahidkodieaa.set3 c o e) t := by
  rw [cells3]
  exact ((h.set o _).set (o + 1) _).set (o + 2) _
theorem set3_size (c : Array Value) (o : Nat) (e : Ev) : (set3 c o e).size = c.size := by simp [set3]
theorem set3_out (c : Array Value) (o : Nat) (e : Ev) {i : Nat} (h : i < o ∨ o + 2 < i) : (set3 c o e)[i]? = c[i]? := by
  unfold set3
  rw [Array.getElem?_setIfInBounds_ne (by omega), Array.getElem?_setIfInBounds_ne (by omega), Array.getElem?_setIfInBounds_ne (by omega)]
theorem set3_in (c : Array Value) (o : Nat) (e : Ev) (h : o + 2 < c.size) : (set3 c o e)[o]? = some (.int .i64 e.k) ∧ (set3 c o e)[o + 1]? = some (.int .i64 e.t) ∧ (set3 c o e)[o + 2]? = some (.int .i64 e.o) := by
  unfold set3
  refine ⟨?_, ?_, ?_⟩
  · rw [Array.getElem?_setIfInBounds_ne (by omega), Array.getElem?_setIfInBounds_ne (by omega), Array.getElem?_setIfInBounds_self, if_pos (by omega)]
  · rw [Array.getElem?_setIfInBounds_ne (by omega), Array.getElem?_setIfInBounds_self, if_pos (by simp; omega)]
  · rw [Array.getElem?_setIfInBounds_self, if_pos (by simp; omega)]
/-- A row of a block. -/
def R3 (c : Array Value) (i : Nat) (e : Ev) : Prop := c[i * 3]? = some (.int .i64 e.k) ∧ c[i * 3 + 1]? = some (.int .i64 e.t) ∧ c[i * 3 + 2]? = some (.int .i64 e.o)
theorem R3.set_ne {c : Array Value} {i j : Nat} {e f : Ev} (h : R3 c i e) (hne : i ≠ j) : R3 (set3 c (j * 3) f) i e := by
  unfold R3 at *
  rw [set3_out _ _ _ (by omega), set3_out _ _ _ (by omega), set3_out _ _ _ (by omega)]
  exact h
theorem R3.set_at {c : Array Value} {i : Nat} {e f : Ev} (h : R3 c i e) : R3 (set3 c (i * 3) f) i f :=
  set3_in c (i * 3) f (by have := (Array.getElem?_eq_some_iff.1 h.2.2).1; omega)
theorem own_rows {w : World} {base : Nat} {t : TypeId} {n : Nat} {v : Value} {l : List Ev} (h : w.ownsRow base t 3 v n (evc l)) (hn : 0 < n) : ∃ g cap cur, v = .slice (some ⟨g, 0, none⟩) n cap ∧ base ≤ g ∧ n ≤ cap ∧ cap ≤ maxLen ∧ Box w g cur t ∧ ∀ i e, l[i]? = some e → R3 cur i e := by
  rcases h.2 with ⟨_, h0⟩ | ⟨g, cap, cur, rfl, h2, h3, h4, h5, _, h7⟩
  · omega
  · refine ⟨g, cap, cur, rfl, h2, h4, h5, h3, fun i e he => ?_⟩
    have key : ∀ j v, (evc l)[j]? = some v → cur[j]? = some v := fun j v hv => by
      rw [← h7, List.getElem?_take] at hv
      split at hv
      · simpa using hv
      · cases hv
    obtain ⟨g0, g1, g2⟩ := evc_get l i e he
    exact ⟨key _ _ g0, key _ _ g1, key _ _ g2⟩
theorem swap_rows {w : World} {g n k : Nat} {cur : Array Value} {t : TypeId} {l r : List Ev} {a b : Ev} (hB : Box w g (set3 (set3 cur (k * 3) b) ((k + 1) * 3) a) t) (hr : ∀ i e, l[i]? = some e → R3 cur i e) (hat : SwAt k l r) (hn : l.length = n) (ha : l[k]? = some a) (hbb : l[k + 1]? = some b) :
    Sl w (some ⟨g, 0, none⟩) n r := by
  have hR : ∀ i e, r[i]? = some e → R3 (set3 (set3 cur (k * 3) b) ((k + 1) * 3) a) i e := fun i e he => by
    have h1 : l[tr k i]? = some e := by rw [← hat.get, tr_tr]; exact he
    unfold tr at h1
    by_cases h2 : i = k
    · rw [if_pos h2, hbb] at h1
      cases h1
      subst h2
      exact (R3.set_at (hr i a ha)).set_ne (by omega)
    · rw [if_neg h2] at h1
      by_cases h3 : i = k + 1
      · rw [if_pos h3, ha] at h1
        cases h1
        subst h3
        exact R3.set_at ((hr (k + 1) b hbb).set_ne (j := k) (f := b) (by omega))
      · rw [if_neg h3] at h1
        exact ((hr i e h1).set_ne (j := k) h2).set_ne h3
  refine ⟨by rw [← hat.sw.length]; exact hn, fun _ => ⟨g, 0, rfl, hB.lt, rangeAt_evc fun i e he => ?_⟩⟩
  obtain ⟨g0, g1, g2⟩ := hR i e he
  simp only [Nat.zero_add]
  exact ⟨hB.cell _ g0, hB.cell _ g1, hB.cell _ g2⟩
theorem below_set3 {N g : Nat} (h : N ≤ g) (w : World) (o : Nat) (e : Ev) : Below N w (w.setCells g o (evv e).toList) := by
  rw [cells3]
  exact (((Below.refl _ _).setCell h _).setCell h _).setCell h _
theorem set3_le (w : World) (g o : Nat) (e : Ev) : w.heap.size ≤ (w.setCells g o (evv e).toList).heap.size := (below_set3 (Nat.zero_le g) w o e).size
/-- A row is there to be stored over. -/
theorem there_row {w : World} {g k : Nat} {cur : Array Value} {t : TypeId} {e : Ev} (hb : Box w g cur t) (h : R3 cur k e) : w.there g (k * 3) 3 := fun j hj => by
  refine ⟨?_, hb.frozen _⟩
  match j, hj with
  | 0, _ => rw [Nat.add_zero, hb.cell _ h.1]; rfl
  | 1, _ => rw [hb.cell _ h.2.1]; rfl
  | 2, _ => rw [hb.cell _ h.2.2]; rfl
end Go.Proofs.Ytjddahidkodieaa

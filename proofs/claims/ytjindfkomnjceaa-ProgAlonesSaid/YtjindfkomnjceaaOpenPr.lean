/- Slices of pairs as arguments of the laws, read. -/
import Derived.Test.YtjindfkomnjceaaOpen
import Derived.Test.YtjindfkomnjceaaPi
set_option linter.all false
set_option maxRecDepth 100000
namespace Go.Proofs.Ytjindfkomnjceaa
open Go.ChangeShapes Go.WideShapes Go.ChangeAt Go.RowKit

section
variable {H : Type} {enc : TypeId × Value → H} {P : Program} {w : World} {base : Nat} {spare : Nat → Bool} {held : Bool}
def QrOk (e : Int × Int) : Prop := In64 e.1 ∧ In64 e.2
theorem rangeAt_qrc {w : World} {b off : Nat} {l : List (Int × Int)} (h : ∀ i e, l[i]? = some e → w.cell? ⟨b, off + i * 2, none⟩ = some (.int .i64 e.1) ∧ w.cell? ⟨b, off + (i * 2 + 1), none⟩ = some (.int .i64 e.2)) :
    w.rangeAt b off (qrc l) := fun j v hv => by
  have hj : j < (qrc l).length := (List.getElem?_eq_some_iff.1 hv).1
  rw [qrc_length] at hj
  have hi : j / 2 < l.length := by omega
  have he := List.getElem?_eq_getElem hi
  obtain ⟨g0, g1⟩ := qrc_get l _ _ he
  obtain ⟨h0, h1⟩ := h _ _ he
  have hd : j = j / 2 * 2 ∨ j = j / 2 * 2 + 1 := by omega
  rcases hd with hd | hd
  · rw [hd] at hv ⊢; rw [hv] at g0; rw [h0, g0]
  · rw [hd] at hv ⊢; rw [hv] at g1; rw [h1, g1]
theorem open_prs {r : Reach} {b0 : Nat} {t e q : TypeId} {v : Value} {d : DataW H} {ps : List MemPlace} {f0 f1 : Field} (ht : P.underlying t = some (.slice e)) (he : P.underlying e = some (.struct #[f0, f1])) (hf : f0.type = q ∧ f1.type = q)
    (hone : Go.Deep.oneCellFields P #[f0, f1] = true) (hC : P.cellsOf e = 2) (hq : P.underlying q = some (.int .i64)) (hval : Value.okWide P w r b0 t v) (hd : DataW.Trod enc P w base spare held t v d ps) :
    ∃ A n c l, v = .slice A n c ∧ SlQ w A n l ∧ n ≤ c ∧ c ≤ maxLen ∧ (∀ e ∈ l, QrOk e) ∧ ((d = .nil ∧ n = 0) ∨ ∃ es sp, d = .slice es sp ∧ es.length = n) := by
  obtain ⟨a, len, cap, rfl⟩ := okWide_slice ht hval
  obtain ⟨fuel, hfu⟩ := hd
  rcases open_sl_fields ht he hone hC hfu with ⟨hcs, hdn⟩ | ⟨a', len', cap', hcs, hl, hm, hds, hx⟩
  · simp [Value.cells] at hcs
    obtain ⟨rfl, rfl, rfl⟩ := hcs
    exact ⟨none, 0, 0, [], rfl, ⟨rfl, fun h => absurd h (by omega)⟩, by omega, by omega, fun _ h => (by cases h), .inl ⟨hdn, rfl⟩⟩
  · simp [Value.cells] at hcs
    obtain ⟨rfl, rfl, rfl⟩ := hcs
    refine ⟨some a', len, cap, ?_⟩
    have one : ∀ i, i < len → ∃ e : Int × Int, QrOk e ∧ w.cell? (a'.add (i * 2)) = some (.int .i64 e.1) ∧ w.cell? (a'.add (i * 2 + 1)) = some (.int .i64 e.2) := fun i hi => by
      obtain ⟨n, hn⟩ := hx i hi
      obtain ⟨v0, y0, c0, t0⟩ := hn 0 f0 rfl
      obtain ⟨v1, y1, c1, t1⟩ := hn 1 f1 rfl
      rw [hf.1] at t0
      rw [hf.2] at t1
      obtain ⟨k, e0, _, w0⟩ := DataW.trod_int hq t0
      obtain ⟨t, e1, _, w1⟩ := DataW.trod_int hq t1
      simp at e0 e1
      subst e0 e1
      exact ⟨⟨k, t⟩, ⟨in64_of w0, in64_of w1⟩, c0, c1⟩
    have all : ∀ m, m ≤ len → ∃ l : List (Int × Int), l.length = m ∧ (∀ e ∈ l, QrOk e) ∧ ∀ i e, l[i]? = some e → w.cell? (a'.add (i * 2)) = some (.int .i64 e.1) ∧ w.cell? (a'.add (i * 2 + 1)) = some (.int .i64 e.2) := by
      intro m
      induction m with
      | zero => intro _; exact ⟨[], rfl, fun _ h => (by cases h), fun i e h => by simp at h⟩
      | succ m ih =>
        intro hm
        obtain ⟨l, h1, h2, h3⟩ := ih (by omega)
        obtain ⟨e, he1, he2⟩ := one m (by omega)
        refine ⟨l ++ [e], by simp [h1], fun x hx => ?_, fun i x hx => ?_⟩
        · rcases List.mem_append.1 hx with hx | hx
          · exact h2 x hx
          · simp at hx; subst hx; exact he1
        · rcases Nat.lt_or_ge i l.length with hi | hi
          · rw [List.getElem?_append_left hi] at hx; exact h3 i x hx
          · rw [List.getElem?_append_right hi] at hx
            have h0 : i - l.length = 0 := by
              have := (List.getElem?_eq_some_iff.1 hx).1
              simp at this; omega
            rw [h0] at hx
            simp at hx
            subst hx
            obtain rfl : i = m := by omega
            exact he2
    obtain ⟨l, h1, h2, h3⟩ := all len (Nat.le_refl _)
    refine ⟨l, rfl, ⟨h1, fun h0 => ?_⟩, hl, hm, h2, .inr hds⟩
    obtain ⟨b, off, spot⟩ := a'
    have hs : spot = none := by
      obtain ⟨e, _, c0, _⟩ := one 0 h0
      have := World.cell?_spot c0
      simpa [Addr.add] using this
    subst hs
    refine ⟨b, off, rfl, ?_, rangeAt_qrc fun i e hi => ?_⟩
    · obtain ⟨e, _, c0, _⟩ := one 0 h0
      have := block_lt_of_cell c0
      simpa [add_mk] using this
    · have := h3 i e hi
      simpa only [add_mk] using this
end
end Go.Proofs.Ytjindfkomnjceaa

/- Arguments of the laws, read. | Traces and events as arguments of the laws, read. -/
import Derived.Test.YteihildhlcggoaaRows
import Derived.Test.YteihildhlcggoaaBase
import Derived.ProofKit
import Derived.OpenShut
import Derived.ShutString
import Derived.ChangeOld
import Derived.Below
import Derived.Lib.SmallJoins
import Derived.SizedLaws
import Derived.Test.YteihildhlcggoaaTrace
import Derived.Deep.Slices
import Derived.Deep.Fields
import Derived.ChangeSame
set_option linter.all false
set_option maxRecDepth 100000
namespace Go.Proofs.Yteihildhlcggoaa
open Go.ChangeShapes Go.WideShapes Go.ChangeAt Go.RowKit

theorem own : ownKnob Try.prog.godebug = none := by kernel_rfl
theorem laidOut : laidOutB Try.prog = true := by kernel_rfl

theorem six {α : Type} (l : List α) (h : l.length = 6) : ∃ a b c d e f, l = [a, b, c, d, e, f] := by
  match l, h with
  | [a, b, c, d, e, f], _ => exact ⟨a, b, c, d, e, f, rfl⟩
theorem in64_of {n : Int} (h : (Lit.int .i64 n).wf = true) : In64 n := bounds_i64 h

section
variable {H : Type} {enc : TypeId × Value → H} {P : Program} {w : World} {base : Nat} {spare : Nat → Bool} {held : Bool}
theorem cf_ok {n0 n1 n2 n3 n4 n5 : Int} (h0 : In64 n0) (h1 : In64 n1) (h2 : In64 n2) (h3 : In64 n3) (h4 : In64 n4) (h5 : In64 n5) : ClkOk (cf n0 n1 n2 n3 n4 n5) := fun k hk => by
  match k, hk with
  | 0, _ => exact h0
  | 1, _ => exact h1
  | 2, _ => exact h2
  | 3, _ => exact h3
  | 4, _ => exact h4
  | 5, _ => exact h5
theorem open_clk {r : Reach} {b0 : Nat} {t e : TypeId} {v : Value} {d : DataW H} {ps : List MemPlace} (hT : P.underlying t = some (.array 6 e)) (he : P.underlying e = some (.int .i64)) (hce : P.cellsOf e = 1) (hct : P.cellsOf t = 6)
    (hval : Value.okWide P w r b0 t v) (hd : DataW.Trod enc P w base spare held t v d ps) : ∃ c, v = .agg (clk c) ∧ ClkOk c := by
  simp only [Value.okWide, hT] at hval
  obtain ⟨cs, rfl, hs, _⟩ := hval
  rw [hct] at hs
  obtain ⟨fuel, hf⟩ := hd
  obtain ⟨xs, m, rfl, _, _, hl, hi⟩ := DataW.trod_array hT hf
  rw [hce] at hi
  obtain ⟨l⟩ := cs
  obtain ⟨c0, c1, c2, c3, c4, c5, rfl⟩ := six l (by simpa using hs)
  have g : ∀ i, i < 6 → ∃ n, (([c0, c1, c2, c3, c4, c5] : List Value).drop (i * 1)).take 1 = [.int .i64 n] ∧ In64 n := fun i h6 => by
    have h1 := hi i h6
    have hx : xs[i]? = some (xs[i]'(by omega)) := List.getElem?_eq_getElem (by omega)
    rw [hx] at h1
    simp only [Value.cells] at h1
    obtain ⟨n, hn, _, hw⟩ := DataW.trod_int he h1
    exact ⟨n, hn, in64_of hw⟩
  obtain ⟨n0, h0, w0⟩ := g 0 (by omega)
  obtain ⟨n1, h1, w1⟩ := g 1 (by omega)
  obtain ⟨n2, h2, w2⟩ := g 2 (by omega)
  obtain ⟨n3, h3, w3⟩ := g 3 (by omega)
  obtain ⟨n4, h4, w4⟩ := g 4 (by omega)
  obtain ⟨n5, h5, w5⟩ := g 5 (by omega)
  simp at h0 h1 h2 h3 h4 h5
  subst h0 h1 h2 h3 h4 h5
  exact ⟨cf n0 n1 n2 n3 n4 n5, rfl, cf_ok w0 w1 w2 w3 w4 w5⟩
theorem open_ep {r : Reach} {b0 : Nat} {t e : TypeId} {v : Value} {d : DataW H} {ps : List MemPlace} {f0 f1 : Field} (hs : P.underlying t = some (.struct #[f0, f1])) (hf : f0.type = e ∧ f1.type = e) (hone : Go.Deep.oneCellFields P #[f0, f1] = true) (hC : P.cellsOf t = 2)
    (he : P.underlying e = some (.int .i64)) (hval : Value.okWide P w r b0 t v) (hd : DataW.Trod enc P w base spare held t v d ps) : ∃ a b, v = .agg (ep a b) ∧ In64 a ∧ In64 b := by
  obtain ⟨c0, c1, y0, y1, m, rfl, _, _, hy0, hy1⟩ := Go.Joins.open_agg2 hs hone hC hval hd
  rw [hf.1] at hy0
  rw [hf.2] at hy1
  obtain ⟨a, e0, _, wa⟩ := DataW.trod_int he hy0
  obtain ⟨b, e1, _, wb⟩ := DataW.trod_int he hy1
  simp at e0 e1
  subst e0 e1
  exact ⟨a, b, rfl, in64_of wa, in64_of wb⟩
end
end Go.Proofs.Yteihildhlcggoaa
namespace Go.Proofs.Yteihildhlcggoaa
open Go.ChangeShapes Go.WideShapes Go.ChangeAt Go.RowKit Go.Deep

section
variable {H : Type} {enc : TypeId × Value → H} {P : Program} {w : World} {base : Nat} {spare : Nat → Bool} {held : Bool}
/-- A slice of structs of one-cell fields: for every element and field the cell, and its own reading. -/
theorem open_sl_fields {t e : TypeId} {fs : Array Field} {fuel : Nat} {cs : List Value} {x : DataW H × List MemPlace} (ht : P.underlying t = some (.slice e)) (he : P.underlying e = some (.struct fs))
    (hone : oneCellFields P fs = true) (hC : P.cellsOf e = fs.size) (h : DataW.trod enc P w base spare held fuel t cs = some x) :
    (cs = [.slice none 0 0] ∧ x.1 = .nil) ∨
    ∃ (a : Addr) (len cap : Nat), cs = [.slice (some a) len cap] ∧ len ≤ cap ∧ cap ≤ maxLen ∧ (∃ es sp, x.1 = .slice es sp ∧ es.length = len) ∧
      ∀ i, i < len → ∃ n : Nat, ∀ (j : Nat) (f : Field), fs[j]? = some f → ∃ (v : Value) (y : DataW H × List MemPlace), w.cell? (a.add (i * fs.size + j)) = some v ∧ DataW.trod enc P w base spare held n f.type [v] = some y := by
  rcases open_slice ht h with h0 | ⟨a, len, cap, m, n, D, Pl, hcs, hb, hl, hm, hmm, hx, hi⟩
  · exact .inl ⟨h0.1, by rw [h0.2]⟩
  · refine .inr ⟨a, len, cap, hcs, hl, hm, ⟨_, _, by rw [hx], by simp⟩, fun i hlen => ?_⟩
    have him : i < m := by rw [hmm]; split <;> omega
    obtain ⟨cs', hc, ht'⟩ := hi i him
    rw [hC] at hc
    obtain ⟨ys, n', hn', hy, hlen, hyl, hf⟩ := DataW.trod_struct he ht'
    obtain ⟨_, hcl, hat⟩ := World.cells?_some hc
    refine ⟨n', fun j f hj => ?_⟩
    obtain ⟨ho, hk⟩ := hone_of hone j f hj
    have hjl : j < fs.size := (Array.getElem?_eq_some_iff.1 hj).1
    have hcell := hat j hjl
    have h1 := hf j f hj
    rw [ho, hk] at h1
    have hone' : (cs'.drop j).take 1 = [cs'[j]'(by omega)] := by
      rw [List.drop_eq_getElem_cons (by omega)]
      rfl
    rw [hone'] at h1
    have hys : ys[j]? = some (ys[j]'(by omega)) := List.getElem?_eq_getElem (by omega)
    refine ⟨_, _, ?_, h1.trans hys⟩
    rw [← Go.Deep.add_add, hcell]
    exact List.getElem?_eq_getElem (by omega)
def EvOk (e : Ev) : Prop := In64 e.k ∧ In64 e.t ∧ In64 e.o
theorem rangeAt_evc {w : World} {b off : Nat} {l : List Ev} (h : ∀ i e, l[i]? = some e → w.cell? ⟨b, off + i * 3, none⟩ = some (.int .i64 e.k) ∧ w.cell? ⟨b, off + (i * 3 + 1), none⟩ = some (.int .i64 e.t) ∧ w.cell? ⟨b, off + (i * 3 + 2), none⟩ = some (.int .i64 e.o)) :
    w.rangeAt b off (evc l) := fun j v hv => by
  have hj : j < (evc l).length := (List.getElem?_eq_some_iff.1 hv).1
  rw [evc_length] at hj
  have hi : j / 3 < l.length := by omega
  have he := List.getElem?_eq_getElem hi
  obtain ⟨g0, g1, g2⟩ := evc_get l _ _ he
  obtain ⟨h0, h1, h2⟩ := h _ _ he
  have hd : j = j / 3 * 3 ∨ j = j / 3 * 3 + 1 ∨ j = j / 3 * 3 + 2 := by omega
  rcases hd with hd | hd | hd
  · rw [hd] at hv ⊢; rw [hv] at g0; rw [h0, g0]
  · rw [hd] at hv ⊢; rw [hv] at g1; rw [h1, g1]
  · rw [hd] at hv ⊢; rw [hv] at g2; rw [h2, g2]
theorem add_mk (b off n : Nat) : (⟨b, off, none⟩ : Addr).add n = ⟨b, off + n, none⟩ := by
  unfold Addr.add; split <;> simp_all
theorem open_evs {r : Reach} {b0 : Nat} {t e q : TypeId} {v : Value} {d : DataW H} {ps : List MemPlace} {f0 f1 f2 : Field} (ht : P.underlying t = some (.slice e)) (he : P.underlying e = some (.struct #[f0, f1, f2])) (hf : f0.type = q ∧ f1.type = q ∧ f2.type = q)
    (hone : oneCellFields P #[f0, f1, f2] = true) (hC : P.cellsOf e = 3) (hq : P.underlying q = some (.int .i64)) (hval : Value.okWide P w r b0 t v) (hd : DataW.Trod enc P w base spare held t v d ps) :
    ∃ A n c l, v = .slice A n c ∧ Sl w A n l ∧ n ≤ c ∧ c ≤ maxLen ∧ (∀ e ∈ l, EvOk e) ∧ ((d = .nil ∧ n = 0) ∨ ∃ es sp, d = .slice es sp ∧ es.length = n) := by
  obtain ⟨a, len, cap, rfl⟩ := okWide_slice ht hval
  obtain ⟨fuel, hfu⟩ := hd
  rcases open_sl_fields ht he hone hC hfu with ⟨hcs, hdn⟩ | ⟨a', len', cap', hcs, hl, hm, hds, hx⟩
  · simp [Value.cells] at hcs
    obtain ⟨rfl, rfl, rfl⟩ := hcs
    exact ⟨none, 0, 0, [], rfl, ⟨rfl, fun h => absurd h (by omega)⟩, by omega, by omega, fun _ h => (by cases h), .inl ⟨hdn, rfl⟩⟩
  · simp [Value.cells] at hcs
    obtain ⟨rfl, rfl, rfl⟩ := hcs
    refine ⟨some a', len, cap, ?_⟩
    have one : ∀ i, i < len → ∃ e : Ev, EvOk e ∧ w.cell? (a'.add (i * 3)) = some (.int .i64 e.k) ∧ w.cell? (a'.add (i * 3 + 1)) = some (.int .i64 e.t) ∧ w.cell? (a'.add (i * 3 + 2)) = some (.int .i64 e.o) := fun i hi => by
      obtain ⟨n, hn⟩ := hx i hi
      obtain ⟨v0, y0, c0, t0⟩ := hn 0 f0 rfl
      obtain ⟨v1, y1, c1, t1⟩ := hn 1 f1 rfl
      obtain ⟨v2, y2, c2, t2⟩ := hn 2 f2 rfl
      rw [hf.1] at t0
      rw [hf.2.1] at t1
      rw [hf.2.2] at t2
      obtain ⟨k, e0, _, w0⟩ := DataW.trod_int hq t0
      obtain ⟨t, e1, _, w1⟩ := DataW.trod_int hq t1
      obtain ⟨o, e2, _, w2⟩ := DataW.trod_int hq t2
      simp at e0 e1 e2
      subst e0 e1 e2
      exact ⟨⟨k, t, o⟩, ⟨in64_of w0, in64_of w1, in64_of w2⟩, c0, c1, c2⟩
    have all : ∀ m, m ≤ len → ∃ l : List Ev, l.length = m ∧ (∀ e ∈ l, EvOk e) ∧ ∀ i e, l[i]? = some e → w.cell? (a'.add (i * 3)) = some (.int .i64 e.k) ∧ w.cell? (a'.add (i * 3 + 1)) = some (.int .i64 e.t) ∧ w.cell? (a'.add (i * 3 + 2)) = some (.int .i64 e.o) := by
      intro m
      induction m with
      | zero => intro _; exact ⟨[], rfl, fun _ h => (by cases h), fun i e h => by simp at h⟩
      | succ m ih =>
        intro hm
        obtain ⟨l, h1, h2, h3⟩ := ih (by omega)
        obtain ⟨e, he1, he2⟩ := one m (by omega)
        refine ⟨l ++ [e], by simp [h1], fun x hx => ?_, fun i x hx => ?_⟩
        · rcases List.mem_append.1 hx with hx | hx
          · exact h2 x hx
          · simp at hx; subst hx; exact he1
        · rcases Nat.lt_or_ge i l.length with hi | hi
          · rw [List.getElem?_append_left hi] at hx; exact h3 i x hx
          · rw [List.getElem?_append_right hi] at hx
            have h0 : i - l.length = 0 := by
              have := (List.getElem?_eq_some_iff.1 hx).1
              simp at this; omega
            rw [h0] at hx
            simp at hx
            subst hx
            obtain rfl : i = m := by omega
            exact he2
    obtain ⟨l, h1, h2, h3⟩ := all len (Nat.le_refl _)
    refine ⟨l, rfl, ⟨h1, fun h0 => ?_⟩, hl, hm, h2, .inr hds⟩
    obtain ⟨b, off, spot⟩ := a'
    have hs : spot = none := by
      obtain ⟨e, _, c0, _⟩ := one 0 h0
      have := World.cell?_spot c0
      simpa [Addr.add] using this
    subst hs
    refine ⟨b, off, rfl, ?_, rangeAt_evc fun i e hi => ?_⟩
    · obtain ⟨e, _, c0, _⟩ := one 0 h0
      have := block_lt_of_cell c0
      simpa [add_mk] using this
    · have := h3 i e hi
      simpa only [add_mk] using this
theorem open_ev {r : Reach} {b0 : Nat} {t q : TypeId} {v : Value} {d : DataW H} {ps : List MemPlace} {f0 f1 f2 : Field} (hs : P.underlying t = some (.struct #[f0, f1, f2])) (hf : f0.type = q ∧ f1.type = q ∧ f2.type = q) (hone : oneCellFields P #[f0, f1, f2] = true) (hC : P.cellsOf t = 3)
    (hq : P.underlying q = some (.int .i64)) (hval : Value.okWide P w r b0 t v) (hd : DataW.Trod enc P w base spare held t v d ps) : ∃ e, v = .agg (evv e) ∧ EvOk e := by
  obtain ⟨c0, c1, c2, y0, y1, y2, m, rfl, _, _, hy0, hy1, hy2⟩ := Go.Joins.open_agg3 hs hone hC hval hd
  rw [hf.1] at hy0
  rw [hf.2.1] at hy1
  rw [hf.2.2] at hy2
  obtain ⟨k, e0, _, w0⟩ := DataW.trod_int hq hy0
  obtain ⟨t, e1, _, w1⟩ := DataW.trod_int hq hy1
  obtain ⟨o, e2, _, w2⟩ := DataW.trod_int hq hy2
  simp at e0 e1 e2
  subst e0 e1 e2
  exact ⟨⟨k, t, o⟩, rfl, in64_of w0, in64_of w1, in64_of w2⟩
theorem reach_sl {P : Program} {ts : List TypeId} {ds : List (DataW H)} (h : (DataW.weightsEach P ts ds).all (· ≤ reachBytes) = true) {j : Nat} {t e : TypeId} {d : DataW H} (ht : ts[j]? = some t) (hd : ds[j]? = some d) (hu : P.underlying t = some (.slice e)) {n b : Nat} (hb : P.bytesOf e = b)
    (hdi : (d = .nil ∧ n = 0) ∨ ∃ es sp, d = .slice es sp ∧ es.length = n) : n * b ≤ 140737488351232 := by
  rcases hdi with ⟨_, rfl⟩ | ⟨es, sp, rfl, rfl⟩
  · omega
  · have h1 := sized_slice h ht hd hu
    rw [hb] at h1
    have h2 : es.length * b ≤ (es.length + sp.length) * b := Nat.mul_le_mul_right _ (by omega)
    have h3 : reachBytes = 140737488351232 := rfl
    omega
end
end Go.Proofs.Yteihildhlcggoaa

import Derived.Test.YtlcldcbdobgdbaaRows
import Derived.ProofKit
import Derived.OpenShut
import Derived.ShutString
import Derived.ChangeOld
import Derived.Below
import Derived.Lib.SmallJoins
import Derived.SizedLaws
import Derived.Deep.Slices
import Derived.Deep.Fields
import Derived.ChangeSame
import Derived.Test.YtlcldcbdobgdbaaZBase
import Derived.Test.YtlcldcbdobgdbaaZTrace
import Derived.ChangeKeysEq
import Derived.DeepKeys
import Derived.Test.YtlcldcbdobgdbaaZPp
import Derived.Test.YtlcldcbdobgdbaaZMid
set_option linter.all false
set_option maxRecDepth 100000
namespace Go.Proofs.Ytlcldcbdobgdbaa
open Go.ChangeShapes Go.WideShapes Go.ChangeAt Go.RowKit

theorem own : ownKnob Try.prog.godebug = none := by kernel_rfl
theorem laidOut : laidOutB Try.prog = true := by kernel_rfl

theorem six {α : Type} (l : List α) (h : l.length = 6) : ∃ a b c d e f, l = [a, b, c, d, e, f] := by
  match l, h with
  | [a, b, c, d, e, f], _ => exact ⟨a, b, c, d, e, f, rfl⟩
theorem in64_of {n : Int} (h : (Lit.int .i64 n).wf = true) : In64 n := bounds_i64 h

section
variable {H : Type} {enc : TypeId × Value → H} {P : Program} {w : World} {base : Nat} {spare : Nat → Bool} {held : Bool}
end
end Go.Proofs.Ytlcldcbdobgdbaa
namespace Go.Proofs.Ytlcldcbdobgdbaa
open Go.ChangeShapes Go.WideShapes Go.ChangeAt Go.RowKit Go.Deep

section
variable {H : Type} {enc : TypeId × Value → H} {P : Program} {w : World} {base : Nat} {spare : Nat → Bool} {held : Bool}
theorem open_sl_fields {t e : TypeId} {fs : Array Field} {fuel : Nat} {cs : List Value} {x : DataW H × List MemPlace} (ht : P.underlying t = some (.slice e)) (he : P.underlying e = some (.struct fs))
    (hone : oneCellFields P fs = true) (hC : P.cellsOf e = fs.size) (h : DataW.trod enc P w base spare held fuel t cs = some x) :
    (cs = [.slice none 0 0] ∧ x.1 = .nil) ∨
    ∃ (a : Addr) (len cap : Nat), cs = [.slice (some a) len cap] ∧ len ≤ cap ∧ cap ≤ maxLen ∧ (∃ es sp, x.1 = .slice es sp ∧ es.length = len) ∧
      ∀ i, i < len → ∃ n : Nat, ∀ (j : Nat) (f : Field), fs[j]? = some f → ∃ (v : Value) (y : DataW H × List MemPlace), w.cell? (a.add (i * fs.size + j)) = some v ∧ DataW.trod enc P w base spare held n f.type [v] = some y := by
  rcases open_slice ht h with h0 | ⟨a, len, cap, m, n, D, Pl, hcs, hb, hl, hm, hmm, hx, hi⟩
  · exact .inl ⟨h0.1, by rw [h0.2]⟩
  · refine .inr ⟨a, len, cap, hcs, hl, hm, ⟨_, _, by rw [hx], by simp⟩, fun i hlen => ?_⟩
    have him : i < m := by rw [hmm]; split <;> omega
    obtain ⟨cs', hc, ht'⟩ := hi i him
    rw [hC] at hc
    obtain ⟨ys, n', hn', hy, hlen, hyl, hf⟩ := DataW.trod_struct he ht'
    obtain ⟨_, hcl, hat⟩ := World.cells?_some hc
    refine ⟨n', fun j f hj => ?_⟩
    obtain ⟨ho, hk⟩ := hone_of hone j f hj
    have hjl : j < fs.size := (Array.getElem?_eq_some_iff.1 hj).1
    have hcell := hat j hjl
    have h1 := hf j f hj
    rw [ho, hk] at h1
    have hone' : (cs'.drop j).take 1 = [cs'[j]'(by omega)] := by
      rw [List.drop_eq_getElem_cons (by omega)]
      rfl
    rw [hone'] at h1
    have hys : ys[j]? = some (ys[j]'(by omega)) := List.getElem?_eq_getElem (by omega)
    refine ⟨_, _, ?_, h1.trans hys⟩
    rw [← Go.Deep.add_add, hcell]
    exact List.getElem?_eq_getElem (by omega)
def EvOk (e : Ev) : Prop := In64 e.k ∧ In64 e.t ∧ In64 e.o
theorem rangeAt_evc {w : World} {b off : Nat} {l : List Ev} (h : ∀ i e, l[i]? = some e → w.cell? ⟨b, off + i * 3, none⟩ = some (.int .i64 e.k) ∧ w.cell? ⟨b, off + (i * 3 + 1), none⟩ = some (.int .i64 e.t) ∧ w.cell? ⟨b, off + (i * 3 + 2), none⟩ = some (.int .i64 e.o)) :
    w.rangeAt b off (evc l) := fun j v hv => by
  have hj : j < (evc l).length := (List.getElem?_eq_some_iff.1 hv).1
  rw [evc_length] at hj
  have hi : j / 3 < l.length := by omega
  have he := List.getElem?_eq_getElem hi
  obtain ⟨g0, g1, g2⟩ := evc_get l _ _ he
  obtain ⟨h0, h1, h2⟩ := h _ _ he
  have hd : j = j / 3 * 3 ∨ j = j / 3 * 3 + 1 ∨ j = j / 3 * 3 + 2 := by omega
  rcases hd with hd | hd | hd
  · rw [hd] at hv ⊢; rw [hv] at g0; rw [h0, g0]
  · rw [hd] at hv ⊢; rw [hv] at g1; rw [h1, g1]
  · rw [hd] at hv ⊢; rw [hv] at g2; rw [h2, g2]
theorem add_mk (b off n : Nat) : (⟨b, off, none⟩ : Addr).add n = ⟨b, off + n, none⟩ := by
  unfold Addr.add; split <;> simp_all
end
end Go.Proofs.Ytlcldcbdobgdbaa
set_option linter.all false
set_option maxRecDepth 100000
namespace Go.Proofs.Ytlcldcbdobgdbaa
open Go Go.RowKit

theorem cells_int : Try.prog.cellsOf 3 = 1 := by kernel_rfl
theorem enint_info : ∃ j, Try.prog.info? 3 = some j ∧ j.size = 1 := by
  have h : (Try.prog.info? 3).map (·.size) = some 1 := by kernel_rfl
  cases hq : Try.prog.info? 3 with
  | none => simp [hq] at h
  | some j => exact ⟨j, rfl, by simpa [hq] using h⟩
theorem part_arr (t : TypeId) (n : Nat) (hT : Try.prog.underlying t = some (.array n 3)) (hi : (Try.prog.info? t).map (·.size) = some n) (xs : Array Value) (off : Nat) (w : World) : (part t xs off).run Try.prog w = .ok (.agg (xs.extract off (off + n))) w := by
  cases hq : Try.prog.info? t with
  | none => simp [hq] at hi
  | some j =>
    have hs : j.size = n := by simpa [hq] using hi
    unfold part isAgg
    simp [Sem.run_bind, run_underlying hT, sizeOf, typeInfo, hq, hs]
theorem ends_fields : ((Try.prog.fieldsOf 33).toList.map fun f => (f.type, f.offset)) = [(29, 0), (30, 8), (31, 12), (4, 18), (4, 19)] := by kernel_rfl
theorem grd_end : Try.prog.eqGuardType Try.prog.depth 33 = false := by kernel_rfl
end Go.Proofs.Ytlcldcbdobgdbaa
namespace Go.Proofs.Ytlcldcbdobgdbaa
open Go.ChangeShapes Go.WideShapes Go.ChangeAt Go.RowKit Go.Deep

section
variable {H : Type} {enc : TypeId × Value → H} {P : Program} {w : World} {base : Nat} {spare : Nat → Bool} {held : Bool}
theorem ops_trod {t e q : TypeId} {fuel : Nat} {cs : List Value} {x : DataW H × List MemPlace} {f0 f1 f2 : Field} (ht : P.underlying t = some (.slice e)) (he : P.underlying e = some (.struct #[f0, f1, f2])) (hf : f0.type = q ∧ f1.type = q ∧ f2.type = q)
    (hone : oneCellFields P #[f0, f1, f2] = true) (hC : P.cellsOf e = 3) (hq : P.underlying q = some (.int .i64)) (hfu : DataW.trod enc P w base spare held fuel t cs = some x) :
    ∃ A n c l, cs = [.slice A n c] ∧ Sl w A n l ∧ n ≤ c ∧ c ≤ maxLen ∧ (∀ e ∈ l, EvOk e) := by
  rcases open_sl_fields ht he hone hC hfu with ⟨hcs, _⟩ | ⟨a', len, cap, hcs, hl, hm, _, hx⟩
  · exact ⟨none, 0, 0, [], hcs, ⟨rfl, fun h => absurd h (by omega)⟩, by omega, by omega, fun _ h => (by cases h)⟩
  · refine ⟨some a', len, cap, ?_⟩
    have one : ∀ i, i < len → ∃ e : Ev, EvOk e ∧ w.cell? (a'.add (i * 3)) = some (.int .i64 e.k) ∧ w.cell? (a'.add (i * 3 + 1)) = some (.int .i64 e.t) ∧ w.cell? (a'.add (i * 3 + 2)) = some (.int .i64 e.o) := fun i hi => by
      obtain ⟨n, hn⟩ := hx i hi
      obtain ⟨v0, y0, c0, t0⟩ := hn 0 f0 rfl
      obtain ⟨v1, y1, c1, t1⟩ := hn 1 f1 rfl
      obtain ⟨v2, y2, c2, t2⟩ := hn 2 f2 rfl
      rw [hf.1] at t0
      rw [hf.2.1] at t1
      rw [hf.2.2] at t2
      obtain ⟨k, e0, _, w0⟩ := DataW.trod_int hq t0
      obtain ⟨t, e1, _, w1⟩ := DataW.trod_int hq t1
      obtain ⟨o, e2, _, w2⟩ := DataW.trod_int hq t2
      simp at e0 e1 e2
      subst e0 e1 e2
      exact ⟨⟨k, t, o⟩, ⟨in64_of w0, in64_of w1, in64_of w2⟩, c0, c1, c2⟩
    have all : ∀ m, m ≤ len → ∃ l : List Ev, l.length = m ∧ (∀ e ∈ l, EvOk e) ∧ ∀ i e, l[i]? = some e → w.cell? (a'.add (i * 3)) = some (.int .i64 e.k) ∧ w.cell? (a'.add (i * 3 + 1)) = some (.int .i64 e.t) ∧ w.cell? (a'.add (i * 3 + 2)) = some (.int .i64 e.o) := by
      intro m
      induction m with
      | zero => intro _; exact ⟨[], rfl, fun _ h => (by cases h), fun i e h => by simp at h⟩
      | succ m ih =>
        intro hm
        obtain ⟨l, h1, h2, h3⟩ := ih (by omega)
        obtain ⟨e, he1, he2⟩ := one m (by omega)
        refine ⟨l ++ [e], by simp [h1], fun x hx => ?_, fun i x hx => ?_⟩
        · rcases List.mem_append.1 hx with hx | hx
          · exact h2 x hx
          · simp at hx; subst hx; exact he1
        · rcases Nat.lt_or_ge i l.length with hi | hi
          · rw [List.getElem?_append_left hi] at hx; exact h3 i x hx
          · rw [List.getElem?_append_right hi] at hx
            have h0 : i - l.length = 0 := by
              have := (List.getElem?_eq_some_iff.1 hx).1
              simp at this; omega
            rw [h0] at hx
            simp at hx
            subst hx
            obtain rfl : i = m := by omega
            exact he2
    obtain ⟨l, h1, h2, h3⟩ := all len (Nat.le_refl _)
    refine ⟨l, hcs, ⟨h1, fun h0 => ?_⟩, hl, hm, h2⟩
    obtain ⟨b, off, spot⟩ := a'
    have hs : spot = none := by
      obtain ⟨e, _, c0, _⟩ := one 0 h0
      have := World.cell?_spot c0
      simpa [Addr.add] using this
    subst hs
    refine ⟨b, off, rfl, ?_, rangeAt_evc fun i e hi => ?_⟩
    · obtain ⟨e, _, c0, _⟩ := one 0 h0
      have := block_lt_of_cell c0
      simpa [add_mk] using this
    · have := h3 i e hi
      simpa only [add_mk] using this
theorem open_ops {r : Reach} {b0 : Nat} {t e g q : TypeId} {v : Value} {d : DataW H} {ps : List MemPlace} {f0 f1 f2 : Field} (ht : P.underlying t = some (.slice e)) (hce : P.cellsOf e = 1) (hte : P.underlying e = some (.slice g)) (he : P.underlying g = some (.struct #[f0, f1, f2])) (hf : f0.type = q ∧ f1.type = q ∧ f2.type = q)
    (hone : oneCellFields P #[f0, f1, f2] = true) (hC : P.cellsOf g = 3) (hq : P.underlying q = some (.int .i64)) (hval : Value.okWide P w r b0 t v) (hd : DataW.Trod enc P w base spare held t v d ps) :
    ∃ A n c l, v = .slice A n c ∧ Prg w A n l ∧ n ≤ c ∧ c ≤ maxLen ∧ (∀ ops ∈ l, ∀ e ∈ ops, EvOk e) := by
  obtain ⟨a, len, cap, rfl⟩ := okWide_slice ht hval
  obtain ⟨fuel, hfu⟩ := hd
  rcases open_slice1 ht hce hfu with ⟨hcs, _⟩ | ⟨a', len', cap', m, n, V, D, Pl, hcs, _, hl, hm, hmm, _, hx⟩
  · simp [Value.cells] at hcs
    obtain ⟨rfl, rfl, rfl⟩ := hcs
    exact ⟨none, 0, 0, [], rfl, Prg.nil w, by omega, by omega, fun _ h => (by cases h)⟩
  · simp [Value.cells] at hcs
    obtain ⟨rfl, rfl, rfl⟩ := hcs
    have hlm : len ≤ m := by rw [hmm]; split <;> omega
    refine ⟨some a', len, cap, ?_⟩
    have one : ∀ i, i < len → ∃ ops : List Ev, (∀ e ∈ ops, EvOk e) ∧ ∃ B k c, w.cell? (a'.add i) = some (.slice B k c) ∧ Sl w B k ops ∧ k ≤ c ∧ c ≤ maxLen := fun i hi => by
      obtain ⟨hc, ht'⟩ := hx i (by omega)
      obtain ⟨B, k, c, ops, h1, h2, h3, h4, h5⟩ := ops_trod hte he hf hone hC hq ht'
      simp only [List.cons.injEq, and_true] at h1
      exact ⟨ops, h5, B, k, c, by rw [hc, h1], h2, h3, h4⟩
    have all : ∀ m, m ≤ len → ∃ l : List (List Ev), l.length = m ∧ (∀ ops ∈ l, ∀ e ∈ ops, EvOk e) ∧ ∀ i ops, l[i]? = some ops → ∃ B k c, w.cell? (a'.add i) = some (.slice B k c) ∧ Sl w B k ops ∧ k ≤ c ∧ c ≤ maxLen := by
      intro m
      induction m with
      | zero => intro _; exact ⟨[], rfl, fun _ h => (by cases h), fun i e h => by simp at h⟩
      | succ m ih =>
        intro hm
        obtain ⟨l, h1, h2, h3⟩ := ih (by omega)
        obtain ⟨ops, he1, he2⟩ := one m (by omega)
        refine ⟨l ++ [ops], by simp [h1], fun x hx => ?_, fun i x hx => ?_⟩
        · rcases List.mem_append.1 hx with hx | hx
          · exact h2 x hx
          · simp at hx; subst hx; exact he1
        · rcases Nat.lt_or_ge i l.length with hi | hi
          · rw [List.getElem?_append_left hi] at hx; exact h3 i x hx
          · rw [List.getElem?_append_right hi] at hx
            have h0 : i - l.length = 0 := by
              have := (List.getElem?_eq_some_iff.1 hx).1
              simp at this; omega
            rw [h0] at hx
            simp at hx
            subst hx
            obtain rfl : i = m := by omega
            exact he2
    obtain ⟨l, h1, h2, h3⟩ := all len (Nat.le_refl _)
    refine ⟨l, rfl, ⟨h1, fun h0 => ?_⟩, hl, hm, h2⟩
    obtain ⟨b, off, spot⟩ := a'
    have hs : spot = none := by
      obtain ⟨ops, _, B, k, c, c0, _⟩ := one 0 h0
      have := World.cell?_spot c0
      simpa [Addr.add] using this
    subst hs
    refine ⟨b, off, rfl, ?_, fun i ops hi => ?_⟩
    · obtain ⟨ops, _, B, k, c, c0, _⟩ := one 0 h0
      have := block_lt_of_cell c0
      simpa [add_mk] using this
    · have := h3 i ops hi
      simpa only [add_mk] using this
end
end Go.Proofs.Ytlcldcbdobgdbaa
namespace Go.Proofs.Ytlcldcbdobgdbaa
open Go Go.RowKit

end Go.Proofs.Ytlcldcbdobgdbaa

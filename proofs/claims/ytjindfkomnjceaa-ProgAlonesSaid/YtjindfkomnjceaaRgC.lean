/- What a contract of the package ring says: rings and ranks. -/
import Derived.Test.YtjindfkomnjceaaRgQ
import Derived.Test.YtjindfkomnjceaaOpenPr
set_option linter.all false
set_option maxRecDepth 100000
namespace Go.Proofs.Ytjindfkomnjceaa
open Go Go.RowKit

def RingB (l : List (Int × Int)) (r : List Nat) (c : Int) : Prop :=
  (l.any qbad = true ∧ r = [] ∧ c = 1) ∨ (l.any qbad = false ∧ c = 0 ∧ RingOk (Pq l) r)
def RingPost (w : World) (l : List (Int × Int)) (e : Ending) (w' : World) : Prop :=
  ∃ v r c, e = .returned (.tuple #[v, .int .i64 c]) ∧ RingB l r c ∧ SlI w' v (toI r) ∧ Below w.heap.size w w'
/-- The ranks of five locks, as a list. -/
def rankL (f : Nat → Nat) : List Nat := (List.range 5).map f
def RankB (l : List (Int × Int)) (q : List Nat) (c : Int) : Prop :=
  (l.any qbad = true ∧ q = [] ∧ c = 1) ∨ (l.any qbad = false ∧ (∃ s, Cyc (Pq l) s) ∧ q = [] ∧ c = 5) ∨
    (l.any qbad = false ∧ (∀ s, ¬ Cyc (Pq l) s) ∧ c = 0 ∧ ∃ f, RankOk (Pq l) f ∧ q = rankL f)
def RankPost (w : World) (l : List (Int × Int)) (e : Ending) (w' : World) : Prop :=
  ∃ v q c, e = .returned (.tuple #[v, .int .i64 c]) ∧ RankB l q c ∧ SlI w' v (toI q) ∧ Below w.heap.size w w'
theorem ringA_ok {l : List (Int × Int)} {r : List Nat} {c : Int} (h : RingA l r c) : RingB l r c := h.imp id fun ⟨h1, h2, h3⟩ => ⟨h1, h2, ringR_ok (pq_five h1) h3⟩
theorem ringB_uniq {l : List (Int × Int)} {r s : List Nat} {c d : Int} (h : RingB l r c) (k : RingB l s d) : r = s ∧ c = d := by
  rcases h with ⟨h1, h2, h3⟩ | ⟨h1, h2, h3⟩
  · rcases k with ⟨k1, k2, k3⟩ | ⟨k1, k2, k3⟩
    · exact ⟨h2.trans k2.symm, h3.trans k3.symm⟩
    · rw [h1] at k1; cases k1
  · rcases k with ⟨k1, k2, k3⟩ | ⟨k1, k2, k3⟩
    · rw [h1] at k1; cases k1
    · exact ⟨ring_uniq h3 k3, h2.trans k2.symm⟩
theorem ringOk_nil {P : Nat → Nat → Bool} (h : RingOk P []) : ∀ s, ¬ Cyc P s := by
  rcases h with ⟨_, h⟩ | ⟨h, _⟩
  · exact h
  · exact h.elim
theorem ringOk_cyc {P : Nat → Nat → Bool} {r : List Nat} (h : RingOk P r) (hr : r ≠ []) : Cyc P r := by
  rcases h with ⟨h1, _⟩ | ⟨h, _⟩
  · exact absurd h1 hr
  · exact h
theorem rankA_ok {l : List (Int × Int)} {q : List Nat} {c : Int} (h : RankA l q c) : RankB l q c := by
  rcases h with h | ⟨h1, ⟨r, h2, h3⟩, h4⟩ | ⟨h1, h2, h3, f, h4, h5⟩
  · exact .inl h
  · exact .inr (.inl ⟨h1, ⟨r, ringOk_cyc (ringR_ok (pq_five h1) h2) h3⟩, h4⟩)
  · have hn := ringOk_nil (ringR_ok (pq_five h1) h2)
    exact .inr (.inr ⟨h1, hn, h3, f, rkR_ok (pq_five h1) hn h4, h5⟩)
theorem rankB_uniq {l : List (Int × Int)} {q s : List Nat} {c d : Int} (h : RankB l q c) (k : RankB l s d) : q = s ∧ c = d := by
  rcases h with ⟨h1, h2, h3⟩ | ⟨h1, ⟨r, h2⟩, h3, h4⟩ | ⟨h1, h2, h3, f, h4, h5⟩
  · rcases k with ⟨k1, k2, k3⟩ | ⟨k1, k2, k3⟩ | ⟨k1, k2⟩
    · exact ⟨h2.trans k2.symm, h3.trans k3.symm⟩
    · rw [h1] at k1; cases k1
    · rw [h1] at k1; cases k1
  · rcases k with ⟨k1, k2, k3⟩ | ⟨k1, k2, k3, k4⟩ | ⟨k1, k2, k3⟩
    · rw [h1] at k1; cases k1
    · exact ⟨h3.trans k3.symm, h4.trans k4.symm⟩
    · exact absurd h2 (k2 r)
  · rcases k with ⟨k1, k2, k3⟩ | ⟨k1, ⟨r, k2⟩, k3⟩ | ⟨k1, k2, k3, g, k4, k5⟩
    · rw [h1] at k1; cases k1
    · exact absurd k2 (h2 r)
    · exact ⟨by rw [h5, k5, rank_uniq h4 k4], h3.trans k3.symm⟩
theorem ring_two {r : List Nat} {c : Int} (h : RingB [(2, 2)] r c) : r = [2] ∧ c = 0 := by
  have hb : ([(2, 2)] : List (Int × Int)).any qbad = false := by decide
  have key : ∀ a b, Pq [(2, 2)] a b = true → a = 2 ∧ b = 2 := fun a b h => by
    have := of_decide_eq_true h
    simp at this; omega
  refine ringB_uniq h (.inr ⟨hb, rfl, .inr ⟨⟨by decide, trivial⟩, fun s hs => cyc_pos hs, fun s hs hl hlx => ?_⟩⟩)
  match s, hs, hl, hlx with
  | [a], hs, _, hlx =>
    have := (key _ _ hs.1).1
    subst this
    exact rlx_irr hlx
theorem toI_inj {r s : List Nat} : (toI r == toI s) = decide (r = s) := by
  by_cases h : r = s
  · subst h; simp
  · rw [decide_eq_false h, beq_eq_false_iff_ne]
    intro hh
    apply h
    have := congrArg (List.map Int.toNat) hh
    rw [toI, toI, List.map_map, List.map_map, show (Int.toNat ∘ fun k : Nat => (k : Int)) = id from funext fun k => Int.toNat_natCast k, List.map_id, List.map_id] at this
    exact this
end Go.Proofs.Ytjindfkomnjceaa

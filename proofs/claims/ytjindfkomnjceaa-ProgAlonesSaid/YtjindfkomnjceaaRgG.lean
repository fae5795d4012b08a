/- A graph of five locks as 25 bools in one block. -/
import Derived.Test.YtjindfkomnjceaaRgS
import Derived.Test.YtjindfkomnjceaaBs
import Derived.Test.YtjindfkomnjceaaApB
set_option linter.all false
set_option maxRecDepth 100000
namespace Go.Proofs.Ytjindfkomnjceaa
open Go Go.RowKit

theorem TGr : RowTy Try.prog 74 25 := ⟨_, Try.underlying74, rfl, by kernel_rfl⟩
theorem TG5 : RowTy Try.prog 72 5 := ⟨_, Try.underlying72, rfl, by kernel_rfl⟩
def gcl (P : Nat → Nat → Bool) : Nat → Bool := fun i => P (i / 5) (i % 5)
theorem gcl_at (P : Nat → Nat → Bool) {a b : Nat} (hb : b < 5) : gcl P (a * 5 + b) = P a b := by
  unfold gcl
  rw [show (a * 5 + b) / 5 = a by omega, show (a * 5 + b) % 5 = b by omega]
def GBox (w : World) (G : Nat) (P : Nat → Nat → Bool) : Prop := Box w G (bs 25 (gcl P)) 74
theorem GBox.cell {w : World} {G : Nat} {P : Nat → Nat → Bool} (h : GBox w G P) {a b : Nat} (ha : a < 5) (hb : b < 5) : w.cell? ⟨G, a * 5 + b, none⟩ = some (.bool (P a b)) := by
  have := Box.cell h (a * 5 + b) (bs_get (gcl P) (show a * 5 + b < 25 by omega))
  rwa [gcl_at P hb] at this
theorem GBox.bel {w w' : World} {G : Nat} {P : Nat → Nat → Bool} (h : GBox w G P) (hb : Bel w w') : GBox w' G P := hb.box h
theorem GBox.grown {w w' : World} {G : Nat} {P : Nat → Nat → Bool} (h : GBox w G P) {row : Option Nat} (hg : w.grownBy w' row) (hne : some G ≠ row) : GBox w' G P := Box.grown h hg hne
/-- The graph itself may be set to b at (a, b). -/
def setP (P : Nat → Nat → Bool) (a b : Nat) (v : Bool) : Nat → Nat → Bool := fun x y => if x = a ∧ y = b then v else P x y
theorem gcl_set (P : Nat → Nat → Bool) {a b : Nat} (ha : a < 5) (hb : b < 5) (v : Bool) : bs 25 (updB (gcl P) (a * 5 + b) v) = bs 25 (gcl (setP P a b v)) := bs_congr fun j hj => by
  unfold updB gcl setP
  by_cases h : j = a * 5 + b
  · rw [if_pos h, if_pos ⟨by omega, by omega⟩]
  · rw [if_neg h, if_neg (by omega)]
theorem GBox.set {w : World} {G : Nat} {P : Nat → Nat → Bool} (h : GBox w G P) {a b : Nat} (ha : a < 5) (hb : b < 5) (v : Bool) : GBox (w.setCell ⟨G, a * 5 + b, none⟩ (.bool v)) G (setP P a b v) := by
  have := Box.set h (a * 5 + b) (.bool v)
  rwa [bs_set, gcl_set P ha hb] at this
/-- The cells of a row of ints. -/
theorem own_at {w : World} {base : Nat} {t : TypeId} {v : Value} {r : List Nat} {n : Nat} (h : w.ownsRow base t 1 v n (intq (toI r))) (hr : r ≠ []) :
    ∃ g c, v = .slice (some ⟨g, 0, none⟩) n c ∧ base ≤ g ∧ n ≤ c ∧ c ≤ maxLen ∧ ∀ i, i < r.length → w.cell? ⟨g, i, none⟩ = some (.int .i64 (at0 r i : Nat)) := by
  have hl : r.length = n := by have := h.1; simpa [intq, toI] using this
  rcases h.2 with ⟨_, h0⟩ | ⟨g, cap, cur, rfl, h2, h3, h4, h5, h6⟩
  · exact absurd (List.eq_nil_of_length_eq_zero (by omega)) hr
  · refine ⟨g, cap, rfl, h2, h4, h5, fun i hi => ?_⟩
    have h9 := h.cells (g := g) rfl i (.int .i64 (at0 r i : Nat)) (by simp [intq, toI, at0, List.getElem?_eq_getElem hi])
    have e : (⟨g, 0, none⟩ : Addr).add i = ⟨g, i, none⟩ := by unfold Addr.add; split <;> simp_all
    rwa [e] at h9
end Go.Proofs.Ytjindfkomnjceaa

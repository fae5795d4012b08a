/- A drawn region with one store last, in which makers of memory come up. -/
import Derived.Test.YtjddahidkodieaaGrow
set_option linter.all false
set_option maxRecDepth 100000
namespace Go.Proofs.Ytjddahidkodieaa
open Go Go.RowKit

section
variable {P : Program} {ops : Array Oper} {md : Region.Mode} {Q : Exit → Act → World → Prop} {N L : Nat}
theorem wpT_one (i : Nat) {f : Nat} {listed : Array Bool} {a : Act} {w : World} (hr : Region.ready md ops listed = [i])
    (h : ∀ w1, Bel w w1 → wpOp P ops Q i (fun a' w' => Below N w1 w' ∧ wpT P md ops Q N L f (listed.setIfInBounds i true) a' w') a w1) : wpT P md ops Q N L (f + 1) listed a w := fun w1 hb =>
  ⟨fun h0 => (by rw [hr] at h0; cases h0), fun j hj => by
    rw [hr] at hj
    simp only [List.mem_singleton] at hj
    subst hj
    exact wpOp_mono (fun a' w' h' => ⟨.inr h'.1, h'.2⟩) (h w1 hb)⟩
theorem wpT_two (i k : Nat) {f : Nat} {listed : Array Bool} {a : Act} {w : World} (hr : Region.ready md ops listed = [i, k])
    (h : ∀ w1, Bel w w1 → wpOp P ops Q i (fun a' w' => Below N w1 w' ∧ wpT P md ops Q N L f (listed.setIfInBounds i true) a' w') a w1)
    (h2 : ∀ w1, Bel w w1 → wpOp P ops Q k (fun a' w' => Below N w1 w' ∧ wpT P md ops Q N L f (listed.setIfInBounds k true) a' w') a w1) : wpT P md ops Q N L (f + 1) listed a w := fun w1 hb =>
  ⟨fun h0 => (by rw [hr] at h0; cases h0), fun j hj => by
    rw [hr] at hj
    simp only [List.mem_cons, List.not_mem_nil, or_false] at hj
    rcases hj with rfl | rfl
    · exact wpOp_mono (fun a' w' h' => ⟨.inr h'.1, h'.2⟩) (h w1 hb)
    · exact wpOp_mono (fun a' w' h' => ⟨.inr h'.1, h'.2⟩) (h2 w1 hb)⟩
/-- The store comes up, though others are left. -/
theorem wpT_now {f : Nat} {listed : Array Bool} {a : Act} {w : World} (hr : Region.ready md ops listed = [L])
    (h : ∀ w1, Bel w w1 → wpOp P ops Q L (fun a' w' => wpT P md ops Q N L f (listed.setIfInBounds L true) a' w') a w1) : wpT P md ops Q N L (f + 1) listed a w := fun w1 hb =>
  ⟨fun h0 => (by rw [hr] at h0; cases h0), fun j hj => by
    rw [hr] at hj
    simp only [List.mem_singleton] at hj
    subst hj
    exact wpOp_mono (fun a' w' h' => ⟨.inl rfl, h'⟩) (h w1 hb)⟩
/-- Another one, or the store. -/
theorem wpT_orL (i : Nat) {f : Nat} {listed : Array Bool} {a : Act} {w : World} (hr : Region.ready md ops listed = [i, L])
    (h : ∀ w1, Bel w w1 → wpOp P ops Q i (fun a' w' => Below N w1 w' ∧ wpT P md ops Q N L f (listed.setIfInBounds i true) a' w') a w1)
    (h2 : ∀ w1, Bel w w1 → wpOp P ops Q L (fun a' w' => wpT P md ops Q N L f (listed.setIfInBounds L true) a' w') a w1) : wpT P md ops Q N L (f + 1) listed a w := fun w1 hb =>
  ⟨fun h0 => (by rw [hr] at h0; cases h0), fun j hj => by
    rw [hr] at hj
    simp only [List.mem_cons, List.not_mem_nil, or_false] at hj
    rcases hj with rfl | rfl
    · exact wpOp_mono (fun a' w' h' => ⟨.inr h'.1, h'.2⟩) (h w1 hb)
    · exact wpOp_mono (fun a' w' h' => ⟨.inl rfl, h'⟩) (h2 w1 hb)⟩
theorem wpT_done {listed : Array Bool} {a : Act} {w : World} (hr : Region.ready md ops listed = []) (h : ∀ w1, Bel w w1 → Q .normal a w1) : ∀ f, wpT P md ops Q N L f listed a w
  | 0 => fun w1 hb => ⟨hr, h w1 hb⟩
  | _ + 1 => fun w1 hb => ⟨fun _ => h w1 hb, by rw [hr]; simp⟩
end
end Go.Proofs.Ytjddahidkodieaa

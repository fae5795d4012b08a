import Derived.Test.YtecdilijcjgjmaaZOr
set_option linter.all false
set_option maxRecDepth 100000
namespace Go.Proofs.Ytecdilijcjgjmaa
open Go Go.RowKit

def pr2 (k m : Int) (a b : Ev) : Bool := (a.k == k || a.k == m) && (b.k == k || b.k == m) && a.o == b.o
def tch (x y : Ev) : Bool := (x.k == 5 || x.k == 6) && x.o == y.t
def dep (a b : Ev) : Bool := a.t == b.t || (pr2 1 2 a b && decide (2 < a.k + b.k)) || pr2 3 4 a b || (pr2 7 8 a b && decide (14 < a.k + b.k)) || (pr2 5 6 a b && decide (a.k + b.k < 12)) || tch a b || tch b a
theorem pr2_symm (k m : Int) (a b : Ev) : pr2 k m a b = pr2 k m b a := by
  rw [Bool.eq_iff_iff]; simp only [pr2, Bool.and_eq_true, Bool.or_eq_true, beq_iff_eq]; omega
theorem dep_symm (a b : Ev) : dep a b = dep b a := by
  unfold dep
  rw [pr2_symm 1 2, pr2_symm 3 4, pr2_symm 7 8, pr2_symm 5 6, Int.add_comm a.k b.k, Bool.eq_iff_iff]
  simp only [Bool.or_eq_true, beq_iff_eq]
  constructor <;> (rintro ((((((h | h) | h) | h) | h) | h) | h) <;> simp [h])
theorem dep_thread {a b : Ev} (h : dep a b = false) : a.t ≠ b.t := fun e => by
  unfold dep at h; rw [e] at h; simp at h
theorem dep_parts {a b : Ev} (h : dep a b = false) : a.t ≠ b.t ∧ (pr2 1 2 a b && decide (2 < a.k + b.k)) = false ∧ pr2 3 4 a b = false ∧ (pr2 7 8 a b && decide (14 < a.k + b.k)) = false ∧ (pr2 5 6 a b && decide (a.k + b.k < 12)) = false ∧ tch a b = false ∧ tch b a = false := by
  have ht := dep_thread h
  unfold dep at h
  simp only [Bool.or_eq_false_iff] at h
  obtain ⟨⟨⟨⟨⟨⟨_, h2⟩, h3⟩, h4⟩, h5⟩, h6⟩, h7⟩ := h
  exact ⟨ht, h2, h3, h4, h5, h6, h7⟩
inductive Sw : List Ev → List Ev → Prop
  | here {a b : Ev} (q : List Ev) : dep a b = false → Sw (a :: b :: q) (b :: a :: q)
  | there {l m : List Ev} (x : Ev) : Sw l m → Sw (x :: l) (x :: m)
theorem Sw.symm {l m : List Ev} (h : Sw l m) : Sw m l := by
  induction h with
  | here q h => exact .here q (by rw [dep_symm]; exact h)
  | there x _ ih => exact .there x ih
theorem Sw.form {l m : List Ev} (h : Sw l m) : ∃ p a b q, l = p ++ a :: b :: q ∧ m = p ++ b :: a :: q ∧ dep a b = false := by
  induction h with
  | @here a b q h => exact ⟨[], a, b, q, rfl, rfl, h⟩
  | there x _ ih =>
    obtain ⟨p, a, b, q, rfl, rfl, h⟩ := ih
    exact ⟨x :: p, a, b, q, rfl, rfl, h⟩
theorem Sw.perm {l m : List Ev} (h : Sw l m) : l.Perm m := by
  induction h with
  | here q h => exact List.Perm.swap _ _ _
  | there x _ ih => exact ih.cons x
theorem Sw.fit {l m : List Ev} (h : Sw l m) (hf : Fit l) : Fit m := fun e he => hf e (h.perm.symm.subset he)
def good (p : List Ev) : List Ev → Prop
  | [] => True
  | e :: r => wrong p e = 0 ∧ good (p ++ [e]) r
theorem chk_good : ∀ {r p : List Ev}, (chk p r).2 = 0 ↔ good p r
  | [], p => ⟨fun _ => trivial, fun _ => rfl⟩
  | e :: r, p => by
    unfold chk good
    by_cases h : wrong p e = 0
    · rw [if_neg (fun g => g h)]
      exact ⟨fun g => ⟨h, chk_good.1 g⟩, fun g => chk_good.2 g.2⟩
    · rw [if_pos h]
      exact ⟨fun g => absurd g h, fun g => absurd g.1 h⟩
theorem may_good {l : List Ev} : may l = 0 ↔ l.length ≤ 80 ∧ good [] l := by
  unfold may check
  by_cases h : 80 < l.length
  · rw [if_pos h]; constructor
    · intro g; simp at g
    · intro g; omega
  · rw [if_neg h, chk_good]; constructor
    · intro g; exact ⟨by omega, g⟩
    · exact fun g => g.2
theorem good_app : ∀ {x p y : List Ev}, good p (x ++ y) ↔ good p x ∧ good (p ++ x) y
  | [], p, y => by rw [List.append_nil]; exact ⟨fun h => ⟨trivial, h⟩, fun h => h.2⟩
  | e :: x, p, y => by
    have ih := good_app (x := x) (p := p ++ [e]) (y := y)
    rw [List.append_assoc] at ih
    show wrong p e = 0 ∧ good (p ++ [e]) (x ++ y) ↔ (wrong p e = 0 ∧ good (p ++ [e]) x) ∧ good (p ++ e :: x) y
    rw [ih]
    exact ⟨fun h => ⟨⟨h.1, h.2.1⟩, h.2.2⟩, fun h => ⟨h.1.1, h.1.2, h.2⟩⟩
theorem may_fit {l : List Ev} (h : may l = 0) : Fit l := fun e he => by
  obtain ⟨i, hi⟩ := List.getElem?_of_mem he
  exact isEv_t (wrong_isEv (((may_iff l).1 h).2 i e hi))

inductive Eqv : List Ev → List Ev → Prop
  | refl (l : List Ev) : Eqv l l
  | step {l m n : List Ev} : Eqv l m → Sw m n → Eqv l n
theorem Eqv.one {l m : List Ev} (h : Sw l m) : Eqv l m := .step (.refl l) h
theorem Eqv.trans {l m n : List Ev} (h : Eqv l m) (k : Eqv m n) : Eqv l n := by
  induction k with
  | refl => exact h
  | step _ s ih => exact .step ih s
theorem Eqv.symm {l m : List Ev} (h : Eqv l m) : Eqv m l := by
  induction h with
  | refl => exact .refl _
  | step _ s ih => exact (Eqv.one s.symm).trans ih
theorem Eqv.cons {l m : List Ev} (x : Ev) (h : Eqv l m) : Eqv (x :: l) (x :: m) := by
  induction h with
  | refl => exact .refl _
  | step _ s ih => exact .step ih (.there x s)
theorem Eqv.fit {l m : List Ev} (h : Eqv l m) (hf : Fit l) : Fit m := by
  induction h with
  | refl => exact hf
  | step _ s ih => exact s.fit ih
theorem eqv_front {e : Ev} {q : List Ev} : ∀ {p : List Ev}, (∀ x ∈ p, dep x e = false) → Eqv (p ++ e :: q) (e :: (p ++ q))
  | [], _ => .refl _
  | x :: p, h => ((eqv_front (p := p) fun y hy => h y (List.mem_cons_of_mem _ hy)).cons x).trans (.one (.here _ (h x (List.mem_cons_self ..))))
end Go.Proofs.Ytecdilijcjgjmaa

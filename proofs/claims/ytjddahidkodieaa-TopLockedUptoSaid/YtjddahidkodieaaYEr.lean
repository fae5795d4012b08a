import Derived.Test.YtjddahidkodieaaYOr
set_option linter.all false
set_option maxRecDepth 100000
namespace Go.Proofs.Ytjddahidkodieaa
open Go Go.RowKit

def pr2 (k m : Int) (a b : Ev) : Bool := (a.k == k || a.k == m) && (b.k == k || b.k == m) && a.o == b.o
def tch (x y : Ev) : Bool := (x.k == 5 || x.k == 6) && x.o == y.t
def dep (a b : Ev) : Bool := a.t == b.t || (pr2 1 2 a b && decide (2 < a.k + b.k)) || pr2 3 4 a b || (pr2 7 8 a b && decide (14 < a.k + b.k)) || (pr2 5 6 a b && decide (a.k + b.k < 12)) || tch a b || tch b a
inductive Sw : List Ev → List Ev → Prop
  | here {a b : Ev} (q : List Ev) : dep a b = false → Sw (a :: b :: q) (b :: a :: q)
  | there {l m : List Ev} (x : Ev) : Sw l m → Sw (x :: l) (x :: m)
def good (p : List Ev) : List Ev → Prop
  | [] => True
  | e :: r => wrong p e = 0 ∧ good (p ++ [e]) r
theorem chk_good : ∀ {r p : List Ev}, (chk p r).2 = 0 ↔ good p r
  | [], p => ⟨fun _ => trivial, fun _ => rfl⟩
  | e :: r, p => by
    unfold chk good
    by_cases h : wrong p e = 0
    · rw [if_neg (fun g => g h)]
      exact ⟨fun g => ⟨h, chk_good.1 g⟩, fun g => chk_good.2 g.2⟩
    · rw [if_pos h]
      exact ⟨fun g => absurd g h, fun g => absurd g.1 h⟩
theorem may_good {l : List Ev} : may l = 0 ↔ l.length ≤ 80 ∧ good [] l := by
  unfold may check
  by_cases h : 80 < l.length
  · rw [if_pos h]; constructor
    · intro g; simp at g
    · intro g; omega
  · rw [if_neg h, chk_good]; constructor
    · intro g; exact ⟨by omega, g⟩
    · exact fun g => g.2
theorem good_app : ∀ {x p y : List Ev}, good p (x ++ y) ↔ good p x ∧ good (p ++ x) y
  | [], p, y => by rw [List.append_nil]; exact ⟨fun h => ⟨trivial, h⟩, fun h => h.2⟩
  | e :: x, p, y => by
    have ih := good_app (x := x) (p := p ++ [e]) (y := y)
    rw [List.append_assoc] at ih
    show wrong p e = 0 ∧ good (p ++ [e]) (x ++ y) ↔ (wrong p e = 0 ∧ good (p ++ [e]) x) ∧ good (p ++ e :: x) y
    rw [ih]
    exact ⟨fun h => ⟨⟨h.1, h.2.1⟩, h.2.2⟩, fun h => ⟨h.1.1, h.1.2, h.2⟩⟩
theorem may_fit {l : List Ev} (h : may l = 0) : Fit l := fun e he => by
  obtain ⟨i, hi⟩ := List.getElem?_of_mem he
  exact isEv_t (wrong_isEv (((may_iff l).1 h).2 i e hi))

end Go.Proofs.Ytjddahidkodieaa
set_option linter.all false
set_option maxRecDepth 100000
namespace Go.Proofs.Ytjddahidkodieaa
open Go Go.RowKit

end Go.Proofs.Ytjddahidkodieaa

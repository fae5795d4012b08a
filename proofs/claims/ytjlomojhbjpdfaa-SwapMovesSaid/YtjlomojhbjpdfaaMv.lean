/- Plain facts: an event moved ahead of those just ahead of it. No program in sight. -/
import Derived.Test.YtjlomojhbjpdfaaSl
import Derived.Test.YtjlomojhbjpdfaaSb
set_option linter.all false
set_option maxRecDepth 100000
namespace Go.Proofs.Ytjlomojhbjpdfaa
open Go Go.RowKit

/-- Event e, of place j, put to place k. -/
def mvL (l : List Ev) (e : Ev) (k j : Nat) : List Ev := l.take k ++ e :: ((l.take j).drop k ++ l.drop (j + 1))
theorem mv_self {l : List Ev} {e : Ev} {j : Nat} (he : l[j]? = some e) : mvL l e j j = l := by
  have hj := (List.getElem?_eq_some_iff.1 he).1
  have h1 : (l.take j).drop j = [] := List.drop_eq_nil_of_le (by rw [List.length_take]; omega)
  unfold mvL
  rw [h1, List.nil_append]
  have h2 := (List.take_append_drop j l).symm
  rw [List.drop_eq_getElem_cons hj, (List.getElem?_eq_some_iff.1 he).2] at h2
  exact h2.symm
theorem mv_step {l : List Ev} {e x : Ev} {k j : Nat} (hk : k + 1 ≤ j) (hj : j < l.length) (hx : l[k]? = some x) (hd : dep x e = false) : SwAt k (mvL l e (k + 1) j) (mvL l e k j) := by
  have hkl : k < l.length := by omega
  have e1 : l.take (k + 1) = l.take k ++ [x] := by rw [List.take_succ_eq_append_getElem hkl, (List.getElem?_eq_some_iff.1 hx).2]
  have e2 : (l.take j).drop k = x :: (l.take j).drop (k + 1) := by
    have h1 : k < (l.take j).length := by rw [List.length_take]; omega
    rw [List.drop_eq_getElem_cons h1]
    congr 1
    rw [List.getElem_take]
    exact (List.getElem?_eq_some_iff.1 hx).2
  refine ⟨l.take k, x, e, (l.take j).drop (k + 1) ++ l.drop (j + 1), by rw [List.length_take]; omega, ?_, ?_, hd⟩
  · unfold mvL
    rw [e1, List.append_assoc]; rfl
  · unfold mvL
    rw [e2]; rfl
end Go.Proofs.Ytjlomojhbjpdfaa

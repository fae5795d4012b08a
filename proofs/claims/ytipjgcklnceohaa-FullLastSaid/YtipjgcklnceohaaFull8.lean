/- Contracts of package full: pass, of whatever event. -/
import Derived.Test.YtipjgcklnceohaaFull5
import Derived.Test.YtipjgcklnceohaaFull6
import Derived.Test.YtipjgcklnceohaaFull7
set_option linter.all false
set_option maxRecDepth 100000
namespace Go.Proofs.Ytipjgcklnceohaa
open Go Go.RowKit

theorem pass_any (X : Nat) (s : Dj) (k : Int) (t o : Nat) (w : World) (ht : t < 6) (hk : 3 ≤ k ∧ k ≤ 8) (ho : (o : Int) < nobj k) (hc : s.C t t ≤ 1000) (hne : k = 5 → o ≠ t) (hb : Box w X (ns 90 (gD s)) 66) :
    Calls Try.prog 27 #[.pointer (some ⟨X, 0, none⟩), .agg (evv ⟨k, t, o⟩)] w (PassPost X (djStep s k t o) w) := by
  obtain h | h | h | h | h | h : k = 3 ∨ k = 4 ∨ k = 5 ∨ k = 6 ∨ k = 7 ∨ k = 8 := by omega
  · subst h; exact pass3 X s t o w ht (by have : (o : Int) < 5 := ho; omega) hb
  · subst h; exact pass4 X s t o w ht (by have : (o : Int) < 5 := ho; omega) hc hb
  · subst h; exact pass5 X s t o w ht (by have : (o : Int) < 6 := ho; omega) hc (hne rfl) hb
  · subst h; exact pass6 X s t o w ht (by have : (o : Int) < 6 := ho; omega) hb
  · subst h; exact pass7 X s t o w ht (by have : (o : Int) < 4 := ho; omega) hb
  · subst h; exact pass8 X s t o w ht (by have : (o : Int) < 4 := ho; omega) hc hb
end Go.Proofs.Ytipjgcklnceohaa

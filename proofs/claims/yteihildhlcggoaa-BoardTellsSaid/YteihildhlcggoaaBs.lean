/- Rows of bools in one block. -/
import Derived.Test.YteihildhlcggoaaKeepTw
import Derived.Test.YteihildhlcggoaaTrace
import Derived.IntWalk
set_option linter.all false
set_option maxRecDepth 100000
namespace Go.Proofs.Yteihildhlcggoaa
open Go Go.RowKit

def bsl (n : Nat) (g : Nat → Bool) : List Value := (List.range n).map fun j => .bool (g j)
def bs (n : Nat) (g : Nat → Bool) : Array Value := (bsl n g).toArray
theorem bsl_length (n : Nat) (g : Nat → Bool) : (bsl n g).length = n := by simp [bsl]
theorem bs_size (n : Nat) (g : Nat → Bool) : (bs n g).size = n := by simp [bs, bsl]
theorem bsl_get {n : Nat} (g : Nat → Bool) {j : Nat} (hj : j < n) : (bsl n g)[j]? = some (.bool (g j)) := by simp [bsl, hj]
theorem bs_get {n : Nat} (g : Nat → Bool) {j : Nat} (hj : j < n) : (bs n g)[j]? = some (.bool (g j)) := by simpa [bs] using bsl_get g hj
theorem bs_congr {n : Nat} {g g' : Nat → Bool} (h : ∀ j, j < n → g j = g' j) : bs n g = bs n g' := by
  unfold bs bsl
  congr 1
  refine List.map_congr_left fun j hj => ?_
  rw [h j (by simpa using hj)]
theorem bs_set (n : Nat) (g : Nat → Bool) (j : Nat) (v : Bool) : (bs n g).setIfInBounds j (.bool v) = bs n (updB g j v) := by
  apply Array.ext_getElem?
  intro i
  rw [Array.getElem?_setIfInBounds]
  by_cases hi : i < n
  · by_cases hij : j = i
    · subst hij; rw [if_pos rfl, if_pos (by rw [bs_size]; exact hi), bs_get _ hi]; simp [updB]
    · rw [if_neg hij, bs_get _ hi, bs_get _ hi]
      simp [updB, Ne.symm hij]
  · have h1 : (bs n g)[i]? = none := Array.getElem?_eq_none (by rw [bs_size]; omega)
    have h2 : (bs n (updB g j v))[i]? = none := Array.getElem?_eq_none (by rw [bs_size]; omega)
    rw [h1, h2]
    split
    · rename_i hij; subst hij; simp [bs_size, hi]
    · rfl
theorem bsl_one (n : Nat) (g : Nat → Bool) : ∀ v ∈ bsl n g, v.oneCell' = true := by
  intro v hv
  simp only [bsl, List.mem_map] at hv
  obtain ⟨j, _, rfl⟩ := hv
  rfl
theorem bs_all (n : Nat) (g : Nat → Bool) : (bs n g).all (·.oneCell') = true := all_oneCell_toArray (bsl_one n g)
/-- A stretch of a block of bools. -/
theorem Box.part {w : World} {B N : Nat} {g : Nat → Bool} {t : TypeId} (h : Box w B (bs N g) t) (o m : Nat) (hm : o + m ≤ N) : w.rangeAt B o (bsl m fun k => g (o + k)) := fun j v hv => by
  have hj : j < m := by have := (List.getElem?_eq_some_iff.1 hv).1; rwa [bsl_length] at this
  rw [bsl_get _ hj] at hv
  cases hv
  exact h.cell _ (bs_get g (by omega))
theorem part_bool {P : Program} {e : TypeId} (he : P.underlying e = some .bool) (cs : Array Value) (off : Nat) (v : Value) (h : cs[off]? = some v) (w : World) : (part e cs off).run P w = .ok v w := by
  unfold part isAgg
  simp [Sem.run_bind, run_underlying he, h]
theorem index_bs {P : Program} {t e : TypeId} {N : Nat} (hT : P.underlying t = some (.array N e)) (he : P.underlying e = some .bool) (hi : (P.info? e).map (·.size) = some 1) (g : Nat → Bool) (k : Nat) (hk : k < N) (w : World) :
    (Instr.index t (.agg (bs N g)) (.int .i64 k)).run P w = .ok (.bool (g k)) w := by
  cases hq : P.info? e with
  | none => simp [hq] at hi
  | some i =>
    have hs : i.size = 1 := by simpa [hq] using hi
    have := part_bool he (bs N g) k _ (bs_get g hk)
    simp [Instr.index, asIntOf, Sem.run_bind, run_underlying hT, sizeOf, typeInfo, hk, hq, hs, this]
end Go.Proofs.Yteihildhlcggoaa

/- Contracts of the package order: (*indices).add; rows of bools. -/
import Derived.Test.YtipjgcklnceohaaOrder
import Derived.Test.YtipjgcklnceohaaTrace2
import Derived.Test.YtipjgcklnceohaaKeepTw
set_option linter.all false
set_option maxRecDepth 100000
namespace Go.Proofs.Ytipjgcklnceohaa
open Go Go.RowKit

def bsl (n : Nat) (g : Nat → Bool) : List Value := (List.range n).map fun j => .bool (g j)
def bs (n : Nat) (g : Nat → Bool) : Array Value := (bsl n g).toArray
theorem bsl_length (n : Nat) (g : Nat → Bool) : (bsl n g).length = n := by simp [bsl]
theorem bs_size (n : Nat) (g : Nat → Bool) : (bs n g).size = n := by simp [bs, bsl]
theorem bsl_get {n : Nat} (g : Nat → Bool) {j : Nat} (hj : j < n) : (bsl n g)[j]? = some (.bool (g j)) := by simp [bsl, hj]
theorem bs_get {n : Nat} (g : Nat → Bool) {j : Nat} (hj : j < n) : (bs n g)[j]? = some (.bool (g j)) := by simpa [bs] using bsl_get g hj
theorem bs_congr {n : Nat} {g g' : Nat → Bool} (h : ∀ j, j < n → g j = g' j) : bs n g = bs n g' := by
  unfold bs bsl
  congr 1
  refine List.map_congr_left fun j hj => ?_
  rw [h j (by simpa using hj)]
theorem bs_set (n : Nat) (g : Nat → Bool) (j : Nat) (v : Bool) : (bs n g).setIfInBounds j (.bool v) = bs n (updB g j v) := by
  apply Array.ext_getElem?
  intro i
  rw [Array.getElem?_setIfInBounds]
  by_cases hi : i < n
  · by_cases hij : j = i
    · subst hij; rw [if_pos rfl, if_pos (by rw [bs_size]; exact hi), bs_get _ hi]; simp [updB]
    · rw [if_neg hij, bs_get _ hi, bs_get _ hi]
      simp [updB, Ne.symm hij]
  · have h1 : (bs n g)[i]? = none := Array.getElem?_eq_none (by rw [bs_size]; omega)
    have h2 : (bs n (updB g j v))[i]? = none := Array.getElem?_eq_none (by rw [bs_size]; omega)
    rw [h1, h2]
    split
    · rename_i hij; subst hij; simp [bs_size, hi]
    · rfl
theorem bsl_one (n : Nat) (g : Nat → Bool) : ∀ v ∈ bsl n g, v.oneCell' = true := by
  intro v hv
  simp only [bsl, List.mem_map] at hv
  obtain ⟨j, _, rfl⟩ := hv
  rfl
theorem bs_all (n : Nat) (g : Nat → Bool) : (bs n g).all (·.oneCell') = true := all_oneCell_toArray (bsl_one n g)
/-- A stretch of a block of bools. -/
theorem Box.part {w : World} {B N : Nat} {g : Nat → Bool} {t : TypeId} (h : Box w B (bs N g) t) (o m : Nat) (hm : o + m ≤ N) : w.rangeAt B o (bsl m fun k => g (o + k)) := fun j v hv => by
  have hj : j < m := by have := (List.getElem?_eq_some_iff.1 hv).1; rwa [bsl_length] at this
  rw [bsl_get _ hj] at hv
  cases hv
  exact h.cell _ (bs_get g (by omega))
theorem TIx : RowTy Try.prog 101 80 := ⟨_, Try.underlying101, rfl, by kernel_rfl⟩
theorem part_bool {P : Program} {e : TypeId} (he : P.underlying e = some .bool) (cs : Array Value) (off : Nat) (v : Value) (h : cs[off]? = some v) (w : World) : (part e cs off).run P w = .ok v w := by
  unfold part isAgg
  simp [Sem.run_bind, run_underlying he, h]
theorem index_bs {P : Program} {t e : TypeId} {N : Nat} (hT : P.underlying t = some (.array N e)) (he : P.underlying e = some .bool) (hi : (P.info? e).map (·.size) = some 1) (g : Nat → Bool) (k : Nat) (hk : k < N) (w : World) :
    (Instr.index t (.agg (bs N g)) (.int .i64 k)).run P w = .ok (.bool (g k)) w := by
  cases hq : P.info? e with
  | none => simp [hq] at hi
  | some i =>
    have hs : i.size = 1 := by simpa [hq] using hi
    have := part_bool he (bs N g) k _ (bs_get g hk)
    simp [Instr.index, asIntOf, Sem.run_bind, run_underlying hT, sizeOf, typeInfo, hk, hq, hs, this]
/-- The first i of h added to g from o on. -/
def orTo (g : Nat → Bool) (o : Nat) (h : Nat → Bool) (i : Nat) : Nat → Bool := fun x => if o ≤ x ∧ x < o + i then g x || h (x - o) else g x
theorem orTo_zero (g : Nat → Bool) (o : Nat) (h : Nat → Bool) : orTo g o h 0 = g := by
  funext x; unfold orTo; rw [if_neg (by omega)]
theorem orTo_at (g : Nat → Bool) (o : Nat) (h : Nat → Bool) (i : Nat) : orTo g o h i (o + i) = g (o + i) := by unfold orTo; rw [if_neg (by omega)]
theorem orTo_step (g : Nat → Bool) (o : Nat) (h : Nat → Bool) (i : Nat) (v : Bool) (hv : v = (g (o + i) || h i)) : updB (orTo g o h i) (o + i) v = orTo g o h (i + 1) := by
  funext x
  unfold updB orTo
  by_cases hx : x = o + i
  · subst hx
    rw [if_pos rfl, if_pos (by omega), hv, Nat.add_sub_cancel_left]
  · rw [if_neg hx]
    by_cases h2 : o ≤ x ∧ x < o + i
    · rw [if_pos h2, if_pos (by omega)]
    · rw [if_neg h2, if_neg (by omega)]
structure AddR (w : World) (B o N : Nat) (g h : Nat → Bool) (t : TypeId) (i : Nat) (wr : World) : Prop where
  box : Box wr B (bs N (orTo g o h i)) t
  grown : w.grownBy wr (some B)
theorem AddR.step {w : World} {B o N : Nat} {g h : Nat → Bool} {t : TypeId} {i : Nat} {wr : World} (r : AddR w B o N g h t i wr) (v : Bool) (hv : v = (g (o + i) || h i)) : AddR w B o N g h t (i + 1) (wr.drew.setCell ⟨B, o + i, none⟩ (.bool v)) := by
  have h1 := turned_set (W := wr.drew) (c := bs N (orTo g o h i)) (t := t) ⟨r.grown.os, r.grown.tape, r.grown.output, r.grown.size, r.grown.block⟩ r.box.drew (o + i) (.bool v) _ (bs_set _ _ _ _)
  rw [orTo_step g o h i v hv] at h1
  exact ⟨h1.1, h1.2⟩
set_option maxHeartbeats 4000000 in
theorem add_any (B o N : Nat) (g h : Nat → Bool) (t : TypeId) (w : World) (hb : Box w B (bs N g) t) (ho : o + 80 ≤ N) :
    Calls Try.prog 57 #[.pointer (some ⟨B, o, none⟩), .agg (bs 80 h)] w fun e w' => e = .returned (.tuple #[]) ∧ Turned w B (bs N (orTo g o h 80)) t w' := by
  have b0 := hb.old (.cells (bs 80 h) 101)
  obtain ⟨b1, hB, hs⟩ := boxes1 w (bs 80 h) 101
  have H0 := Lib.hid (AddR.mk (by rw [orTo_zero]; exact b0) ⟨hB.os, hB.tape, hB.output, hB.size, fun b hb _ => hB.block b hb⟩ : AddR w B o N g h t 0 (w.alloc (.cells (bs 80 h) 101)))
  generalize hW : w.alloc (.cells (bs 80 h) 101) = W at *
  clear hB hs hb b0
  have HI := Lib.hid (fun (k : Nat) (hk : k < 80) (w : World) => index_bs (P := Try.prog) Try.underlying101 Try.underlying4 (by kernel_rfl) h k hk w)
  go_enter Try.func57, Try.ntmps57
  go_wp2_with (refine loadT TIx _ rfl rfl rfl b1 (bs_size _ _) ?_)
  go_loopw [7] (fun t7 wr => ∃ i : Nat, i ≤ 80 ∧ t7 = .int .i64 i ∧ AddR w B o N g h t i wr) (fun t7 _ => 80 - (intOf t7).toNat)
  case atStart => exact ⟨0, by omega, rfl, H0.out⟩
  case round =>
    obtain ⟨i, hi, rfl, hr⟩ := hrel
    have HR := Lib.hid hr
    clear hr b1
    by_cases hlt : i < 80
    · have hlt' : (i : Int) < 80 := by omega
      have hI := HI.out i hlt
      have c1 : wr.cell? ⟨B, o + i, none⟩ = some (.bool (g (o + i))) := by rw [← orTo_at g o h i]; exact HR.out.box.cell _ (bs_get _ (by omega))
      have f1 := HR.out.box.frozen (o + i)
      cases hg : g (o + i)
      · rw [hg] at c1
        go_wp2
        go_still_tail 11, (by kernel_rfl)
        change wpList _ _ _ _ _ wr.drew
        go_wp2
        go_roundw
        case rel => exact ⟨i + 1, by omega, by go_num, HR.out.step (h i) (by rw [hg]; simp)⟩
        case measure => simp [intOf]; omega
      · rw [hg] at c1
        go_wp2
        go_still_tail 11, (by kernel_rfl)
        change wpList _ _ _ _ _ wr.drew
        go_wp2
        go_roundw
        case rel => exact ⟨i + 1, by omega, by go_num, HR.out.step true (by rw [hg]; simp)⟩
        case measure => simp [intOf]; omega
    · obtain rfl : i = 80 := by omega
      go_wp2
      go_end0
      exact ⟨rfl, HR.out.box, HR.out.grown⟩
end Go.Proofs.Ytipjgcklnceohaa

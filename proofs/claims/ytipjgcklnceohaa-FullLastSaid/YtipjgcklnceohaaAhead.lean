/- Contracts of the reference: Ahead, a matrix that is closed round after round. -/
import Derived.Test.YtipjgcklnceohaaRefOr
import Derived.Test.YtipjgcklnceohaaFollow
import Derived.Test.YtipjgcklnceohaaGrowT
set_option linter.all false
set_option maxRecDepth 100000
namespace Go.Proofs.Ytipjgcklnceohaa
open Go Go.RowKit

/-- The rows of a matrix, k of them made. -/
def rowV (n k : Nat) (r : Nat → Nat) (i : Nat) : Value := if i < k then .slice (some ⟨r i, 0, none⟩) n n else .slice none 0 0
def rowsV (n k : Nat) (r : Nat → Nat) : Array Value := ((List.range n).map (rowV n k r)).toArray
theorem rowsV_get {n k : Nat} (r : Nat → Nat) {i : Nat} (hi : i < n) : (rowsV n k r)[i]? = some (rowV n k r i) := by simp [rowsV, hi]
theorem rowsV_size (n k : Nat) (r : Nat → Nat) : (rowsV n k r).size = n := by simp [rowsV]
theorem rowsV_set {n k : Nat} (r : Nat → Nat) (x : Nat) : (rowsV n k r).setIfInBounds k (.slice (some ⟨x, 0, none⟩) n n) = rowsV n (k + 1) (fun i => if i = k then x else r i) := by
  apply Array.ext_getElem?
  intro i
  rw [Array.getElem?_setIfInBounds]
  by_cases hi : i < n
  · by_cases hik : k = i
    · subst hik
      rw [if_pos rfl, if_pos (by rw [rowsV_size]; exact hi), rowsV_get _ hi]
      simp [rowV]
    · rw [if_neg hik, rowsV_get _ hi, rowsV_get _ hi]
      unfold rowV
      by_cases h : i < k
      · rw [if_pos h, if_pos (by omega)]; simp [show i ≠ k by omega]
      · rw [if_neg h, if_neg (by omega)]
  · have h1 : (rowsV n k r)[i]? = none := Array.getElem?_eq_none (by rw [rowsV_size]; omega)
    have h2 : (rowsV n (k + 1) (fun i => if i = k then x else r i))[i]? = none := Array.getElem?_eq_none (by rw [rowsV_size]; omega)
    rw [h1, h2]
    split
    · rename_i hik; subst hik; simp [rowsV_size, hi]
    · rfl
structure Mat (w : World) (O n k : Nat) (r : Nat → Nat) (f : Nat → Nat → Bool) (wr : World) : Prop where
  outer : Box wr O (rowsV n k r) 73
  row : ∀ i, i < k → Box wr (r i) (bs n (f i)) 4
  inj : ∀ i j, i < k → j < k → i ≠ j → r i ≠ r j
  ne : ∀ i, i < k → r i ≠ O
  ge : w.heap.size ≤ O ∧ ∀ i, i < k → w.heap.size ≤ r i
  below : Below w.heap.size w wr
section
variable {w wr : World} {O n k : Nat} {r : Nat → Nat} {f f' : Nat → Nat → Bool}
theorem Mat.grow {w' : World} (h : Mat w O n k r f wr) (hb : Bel wr w') : Mat w O n k r f w' :=
  ⟨hb.box h.outer, fun i hi => hb.box (h.row i hi), h.inj, h.ne, h.ge, h.below.trans (hb.out.mono h.below.size)⟩
theorem Mat.congr (h : Mat w O n k r f wr) (e : ∀ a b, a < k → b < n → f a b = f' a b) : Mat w O n k r f' wr :=
  ⟨h.outer, fun i hi => by rw [← bs_congr (e i · hi)]; exact h.row i hi, h.inj, h.ne, h.ge, h.below⟩
theorem Mat.new (h : Mat w O n k r f wr) (hf : ∀ j, j < n → f k j = false) :
    Mat w O n (k + 1) (fun i => if i = k then wr.heap.size else r i) f ((wr.alloc (.cells (bs n (fun _ => false)) 4)).setCell ⟨O, k, none⟩ (.slice (some ⟨wr.heap.size, 0, none⟩) n n)) := by
  have hO := h.outer.lt
  refine ⟨?_, fun i hi => ?_, fun i j hi hj hij => ?_, fun i hi => ?_, ⟨h.ge.1, fun i hi => ?_⟩, ?_⟩
  · have := (h.outer.old (.cells (bs n (fun _ => false)) 4)).set k (.slice (some ⟨wr.heap.size, 0, none⟩) n n)
    rwa [rowsV_set] at this
  · by_cases hik : i = k
    · subst hik
      rw [if_pos rfl, bs_congr (n := n) (g' := fun _ => false) (hf ·)]
      exact (Box.new wr _ _).set_ne _ _ (by simp; omega)
    · rw [if_neg hik]
      exact ((h.row i (by omega)).old _).set_ne _ _ (h.ne i (by omega))
  · have hi' : i ≠ k → r i < wr.heap.size := fun h1 => (h.row i (by omega)).lt
    have hj' : j ≠ k → r j < wr.heap.size := fun h1 => (h.row j (by omega)).lt
    by_cases h1 : i = k
    · have := hj' (by omega)
      show (if i = k then _ else _) ≠ (if j = k then _ else _)
      rw [if_pos h1, if_neg (by omega)]; omega
    · have := hi' h1
      show (if i = k then _ else _) ≠ (if j = k then _ else _)
      rw [if_neg h1]
      split
      · omega
      · exact h.inj i j (by omega) (by omega) hij
  · show (if i = k then _ else _) ≠ O
    split
    · omega
    · exact h.ne i (by omega)
  · show w.heap.size ≤ (if i = k then _ else _)
    split
    · exact h.below.size
    · exact h.ge.2 i (by omega)
  · exact (h.below.alloc h.below.size _).setCell h.ge.1 _
theorem Mat.set (h : Mat w O n k r f wr) {i : Nat} (hi : i < k) (j : Nat) (v : Bool) : Mat w O n k r (updF f i j v) (wr.setCell ⟨r i, j, none⟩ (.bool v)) := by
  refine ⟨h.outer.set_ne _ _ (Ne.symm (h.ne i hi)), fun a ha => ?_, h.inj, h.ne, h.ge, h.below.setCell (h.ge.2 i hi) _⟩
  by_cases hai : a = i
  · subst hai
    have := (h.row a ha).set j (.bool v)
    rw [bs_set, bs_congr (n := n) (g' := updF f a j v a) (fun b _ => by simp [updB, updF])] at this
    exact this
  · rw [bs_congr (n := n) (g := updF f i j v a) (g' := f a) (fun b _ => by simp [updF, hai])]
    exact (h.row a ha).set_ne _ _ (h.inj a i ha hi hai)
theorem Mat.cell (h : Mat w O n k r f wr) {i j : Nat} (hi : i < k) (hj : j < n) : wr.cell? ⟨r i, j, none⟩ = some (.bool (f i j)) := (h.row i hi).cell _ (bs_get _ hj)
theorem Mat.rowc (h : Mat w O n k r f wr) {i : Nat} (hi : i < k) (hn : k ≤ n) : wr.cell? ⟨O, i, none⟩ = some (.slice (some ⟨r i, 0, none⟩) n n) := by
  have := h.outer.cell i (rowsV_get r (by omega))
  rw [this]; unfold rowV; rw [if_pos hi]
end
/-- Directly ahead, as far as it is filled in. -/
def fD (l : List Ev) (i j a b : Nat) : Bool := if a < i ∨ (a = i ∧ b < j) then dirB l a b else false
/-- One round of closing, as far as it is. -/
def fW (l : List Ev) (k i j a b : Nat) : Bool := if a < i ∨ (a = i ∧ b < j) then thr l (k + 1) a b else thr l k a b
theorem fD_set (l : List Ev) (i j : Nat) (v : Bool) (hv : v = dirB l i j) (a b : Nat) : updF (fD l i j) i j v a b = fD l i (j + 1) a b := by
  unfold updF fD
  by_cases h : a = i ∧ b = j
  · rw [if_pos h, if_pos (by omega), hv, h.1, h.2]
  · rw [if_neg h]
    by_cases h2 : a < i ∨ (a = i ∧ b < j)
    · rw [if_pos h2, if_pos (by omega)]
    · rw [if_neg h2, if_neg (by omega)]
theorem fD_next {l : List Ev} {i n a b : Nat} (hb : b < n) (ha : a < i + 1) : fD l i n a b = fD l (i + 1) 0 a b := by
  unfold fD
  rw [if_pos (by omega), if_pos (by omega)]
theorem fD_start {l : List Ev} {i a b : Nat} : fD l i 0 a b = fD l i (i + 1) a b := by
  unfold fD
  by_cases h : a < i
  · rw [if_pos (by omega), if_pos (by omega)]
  · rw [if_neg (by omega)]
    split
    · symm; rw [← Bool.not_eq_true]; intro hh; have := dirB_lt hh; omega
    · rfl
theorem fD_zero (l : List Ev) (i b : Nat) : fD l i 0 i b = false := by unfold fD; rw [if_neg (by omega)]
theorem fD_end {l : List Ev} {n a b : Nat} (ha : a < n) : fD l n 0 a b = fW l 0 0 0 a b := by
  unfold fD fW; rw [if_pos (by omega), if_neg (by omega)]; rfl
theorem fW_set (l : List Ev) (k i j : Nat) (v : Bool) (hv : v = thr l (k + 1) i j) (a b : Nat) : updF (fW l k i j) i j v a b = fW l k i (j + 1) a b := by
  unfold updF fW
  by_cases h : a = i ∧ b = j
  · rw [if_pos h, if_pos (by omega), hv, h.1, h.2]
  · rw [if_neg h]
    by_cases h2 : a < i ∨ (a = i ∧ b < j)
    · rw [if_pos h2, if_pos (by omega)]
    · rw [if_neg h2, if_neg (by omega)]
theorem fW_here (l : List Ev) (k i j : Nat) : fW l k i j i j = thr l k i j := by unfold fW; rw [if_neg (by omega)]
theorem fW_col (l : List Ev) (k i j : Nat) : fW l k i j i k = thr l k i k := by
  unfold fW; split
  · exact thr_col l k i
  · rfl
theorem fW_row (l : List Ev) (k i j : Nat) : fW l k i j k j = thr l k k j := by
  unfold fW; split
  · exact thr_row l k j
  · rfl
theorem fW_next {l : List Ev} {k i n a b : Nat} (hb : b < n) : fW l k i n a b = fW l k (i + 1) 0 a b := by
  unfold fW
  by_cases h : a < i + 1
  · rw [if_pos (by omega), if_pos (by omega)]
  · rw [if_neg (by omega), if_neg (by omega)]
theorem fW_round {l : List Ev} {k n a b : Nat} (ha : a < n) : fW l k n 0 a b = fW l (k + 1) 0 0 a b := by
  unfold fW; rw [if_pos (by omega), if_neg (by omega)]
theorem fW_all {l : List Ev} {n a b : Nat} (hn : l.length = n) : fW l n 0 0 a b = bef l a b := by
  unfold fW bef; rw [if_neg (by omega), hn]
theorem bool_info : (Try.prog.info? 4).map (fun i => (i.zero, i.size, i.bytes)) = some (some (.bool false), 1, 1) := by kernel_rfl
theorem rows_info : (Try.prog.info? 73).map (fun i => (i.zero, i.size, i.bytes)) = some (some (.slice none 0 0), 1, 24) := by kernel_rfl
theorem made_rows (n : Nat) (r : Nat → Nat) : madeCells #[Value.slice none 0 0] n = rowsV n 0 r := by
  apply Array.ext
  · simp [madeCells, rowsV_size]
  · intro i h1 h2
    have h3 : i < n := by simpa [madeCells] using h1
    have h4 := rowsV_get (n := n) (k := 0) r h3
    rw [Array.getElem?_eq_getElem h2] at h4
    rw [Option.some.inj h4]
    simp [madeCells, rowV, Nat.mod_one]
section
variable {ops : Array Oper} {rest : List Oper} {o : Oper} {a : Act} {w : World} {Q : Exit → Act → World → Prop}
/-- 'make([]bool, n)'. -/
theorem makeBl (l c : Operand) (ho : o.op = .makeSlice 73 l c) (hg : o.guard = none) (n : Nat) (hn : n ≤ 1000000) (hl : a.eval l = .int .i64 n) (hc : a.eval c = .int .i64 n)
    (h : wpList Try.prog ops Q rest (a.put o.dst (.slice (some ⟨w.heap.size, 0, none⟩) n n)) (w.alloc (.cells (bs n (fun _ => false)) 4))) : wpList Try.prog ops Q (o :: rest) a w := by
  obtain ⟨i, hi, hz, hs, hb⟩ := info_parts bool_info
  have hr := run_make (P := Try.prog) w 73 4 i _ Try.underlying73 hi hz .i64 .i64 n n (by omega) (by omega) (by rw [hb]; omega) (by omega)
  rw [hs, Int.toNat_natCast, Nat.mul_one, show (Value.bool false).cells = Array.replicate 1 (Value.bool false) from rfl, made_bs _ _ (by omega)] at hr
  refine wpList_plain hg fun _ hK => ?_
  unfold Oper.wp execOp
  simp only [ho, hl, hc, Sem.run_bind, hr, Result.andThen_ok, Sem.run_pure]
  exact hK _ _ h
/-- 'make([][]bool, n)'. -/
theorem makeRw (l c : Operand) (ho : o.op = .makeSlice 71 l c) (hg : o.guard = none) (n : Nat) (hn : n ≤ 1000000) (hl : a.eval l = .int .i64 n) (hc : a.eval c = .int .i64 n) (r : Nat → Nat)
    (h : wpList Try.prog ops Q rest (a.put o.dst (.slice (some ⟨w.heap.size, 0, none⟩) n n)) (w.alloc (.cells (rowsV n 0 r) 73))) : wpList Try.prog ops Q (o :: rest) a w := by
  obtain ⟨i, hi, hz, hs, hb⟩ := info_parts rows_info
  have hr := run_make (P := Try.prog) w 71 73 i _ Try.underlying71 hi hz .i64 .i64 n n (by omega) (by omega) (by rw [hb]; omega) (by omega)
  rw [hs, Int.toNat_natCast, Nat.mul_one, show (Value.slice none 0 0).cells = #[Value.slice none 0 0] from rfl, made_rows _ r] at hr
  refine wpList_plain hg fun _ hK => ?_
  unfold Oper.wp execOp
  simp only [ho, hl, hc, Sem.run_bind, hr, Result.andThen_ok, Sem.run_pure]
  exact hK _ _ h
end
def MatPost (w : World) (l : List Ev) (n : Nat) (e : Ending) (w' : World) : Prop := ∃ O r, e = .returned (.slice (some ⟨O, 0, none⟩) n n) ∧ Mat w O n n r (bef l) w'
end Go.Proofs.Ytipjgcklnceohaa

/- Contracts of the reference: Ahead, a matrix that is closed round after round. | Contracts of the reference: Ahead. -/
import Derived.Test.YteihildhlcggoaaRefOr
import Derived.Test.YteihildhlcggoaaFollow
import Derived.Test.YteihildhlcggoaaGrow
import Derived.Test.YteihildhlcggoaaOrder2
set_option linter.all false
set_option maxRecDepth 100000
namespace Go.Proofs.Yteihildhlcggoaa
open Go Go.RowKit

/-- The rows of a matrix, k of them made. -/
def rowV (n k : Nat) (r : Nat → Nat) (i : Nat) : Value := if i < k then .slice (some ⟨r i, 0, none⟩) n n else .slice none 0 0
def rowsV (n k : Nat) (r : Nat → Nat) : Array Value := ((List.range n).map (rowV n k r)).toArray
theorem rowsV_get {n k : Nat} (r : Nat → Nat) {i : Nat} (hi : i < n) : (rowsV n k r)[i]? = some (rowV n k r i) := by simp [rowsV, hi]
theorem rowsV_size (n k : Nat) (r : Nat → Nat) : (rowsV n k r).size = n := by simp [rowsV]
theorem rowsV_set {n k : Nat} (r : Nat → Nat) (x : Nat) : (rowsV n k r).setIfInBounds k (.slice (some ⟨x, 0, none⟩) n n) = rowsV n (k + 1) (fun i => if i = k then x else r i) := by
  apply Array.ext_getElem?
  intro i
  rw [Array.getElem?_setIfInBounds]
  by_cases hi : i < n
  · by_cases hik : k = i
    · subst hik
      rw [if_pos rfl, if_pos (by rw [rowsV_size]; exact hi), rowsV_get _ hi]
      simp [rowV]
    · rw [if_neg hik, rowsV_get _ hi, rowsV_get _ hi]
      unfold rowV
      by_cases h : i < k
      · rw [if_pos h, if_pos (by omega)]; simp [show i ≠ k by omega]
      · rw [if_neg h, if_neg (by omega)]
  · have h1 : (rowsV n k r)[i]? = none := Array.getElem?_eq_none (by rw [rowsV_size]; omega)
    have h2 : (rowsV n (k + 1) (fun i => if i = k then x else r i))[i]? = none := Array.getElem?_eq_none (by rw [rowsV_size]; omega)
    rw [h1, h2]
    split
    · rename_i hik; subst hik; simp [rowsV_size, hi]
    · rfl
structure Mat (w : World) (O n k : Nat) (r : Nat → Nat) (f : Nat → Nat → Bool) (wr : World) : Prop where
  outer : Box wr O (rowsV n k r) 63
  row : ∀ i, i < k → Box wr (r i) (bs n (f i)) 4
  inj : ∀ i j, i < k → j < k → i ≠ j → r i ≠ r j
  ne : ∀ i, i < k → r i ≠ O
  ge : w.heap.size ≤ O ∧ ∀ i, i < k → w.heap.size ≤ r i
  below : Below w.heap.size w wr
section
variable {w wr : World} {O n k : Nat} {r : Nat → Nat} {f f' : Nat → Nat → Bool}
theorem Mat.grow {w' : World} (h : Mat w O n k r f wr) (hb : Bel wr w') : Mat w O n k r f w' :=
  ⟨hb.box h.outer, fun i hi => hb.box (h.row i hi), h.inj, h.ne, h.ge, h.below.trans (hb.out.mono h.below.size)⟩
theorem Mat.congr (h : Mat w O n k r f wr) (e : ∀ a b, a < k → b < n → f a b = f' a b) : Mat w O n k r f' wr :=
  ⟨h.outer, fun i hi => by rw [← bs_congr (e i · hi)]; exact h.row i hi, h.inj, h.ne, h.ge, h.below⟩
theorem Mat.new (h : Mat w O n k r f wr) (hf : ∀ j, j < n → f k j = false) :
    Mat w O n (k + 1) (fun i => if i = k then wr.heap.size else r i) f ((wr.alloc (.cells (bs n (fun _ => false)) 4)).setCell ⟨O, k, none⟩ (.slice (some ⟨wr.heap.size, 0, none⟩) n n)) := by
  have hO := h.outer.lt
  refine ⟨?_, fun i hi => ?_, fun i j hi hj hij => ?_, fun i hi => ?_, ⟨h.ge.1, fun i hi => ?_⟩, ?_⟩
  · have := (h.outer.old (.cells (bs n (fun _ => false)) 4)).set k (.slice (some ⟨wr.heap.size, 0, none⟩) n n)
    rwa [rowsV_set] at this
  · by_cases hik : i = k
    · subst hik
      rw [if_pos rfl, bs_congr (n := n) (g' := fun _ => false) (hf ·)]
      exact (Box.new wr _ _).set_ne _ _ (by simp; omega)
    · rw [if_neg hik]
      exact ((h.row i (by omega)).old _).set_ne _ _ (h.ne i (by omega))
  · have hi' : i ≠ k → r i < wr.heap.size := fun h1 => (h.row i (by omega)).lt
    have hj' : j ≠ k → r j < wr.heap.size := fun h1 => (h.row j (by omega)).lt
    by_cases h1 : i = k
    · have := hj' (by omega)
      show (if i = k then _ else _) ≠ (if j = k then _ else _)
      rw [if_pos h1, if_neg (by omega)]; omega
    · have := hi' h1
      show (if i = k then _ else _) ≠ (if j = k then _ else _)
      rw [if_neg h1]
      split
      · omega
      · exact h.inj i j (by omega) (by omega) hij
  · show (if i = k then _ else _) ≠ O
    split
    · omega
    · exact h.ne i (by omega)
  · show w.heap.size ≤ (if i = k then _ else _)
    split
    · exact h.below.size
    · exact h.ge.2 i (by omega)
  · exact (h.below.alloc h.below.size _).setCell h.ge.1 _
theorem Mat.set (h : Mat w O n k r f wr) {i : Nat} (hi : i < k) (j : Nat) (v : Bool) : Mat w O n k r (updF f i j v) (wr.setCell ⟨r i, j, none⟩ (.bool v)) := by
  refine ⟨h.outer.set_ne _ _ (Ne.symm (h.ne i hi)), fun a ha => ?_, h.inj, h.ne, h.ge, h.below.setCell (h.ge.2 i hi) _⟩
  by_cases hai : a = i
  · subst hai
    have := (h.row a ha).set j (.bool v)
    rw [bs_set, bs_congr (n := n) (g' := updF f a j v a) (fun b _ => by simp [updB, updF])] at this
    exact this
  · rw [bs_congr (n := n) (g := updF f i j v a) (g' := f a) (fun b _ => by simp [updF, hai])]
    exact (h.row a ha).set_ne _ _ (h.inj a i ha hi hai)
theorem Mat.cell (h : Mat w O n k r f wr) {i j : Nat} (hi : i < k) (hj : j < n) : wr.cell? ⟨r i, j, none⟩ = some (.bool (f i j)) := (h.row i hi).cell _ (bs_get _ hj)
theorem Mat.rowc (h : Mat w O n k r f wr) {i : Nat} (hi : i < k) (hn : k ≤ n) : wr.cell? ⟨O, i, none⟩ = some (.slice (some ⟨r i, 0, none⟩) n n) := by
  have := h.outer.cell i (rowsV_get r (by omega))
  rw [this]; unfold rowV; rw [if_pos hi]
end
/-- Directly ahead, as far as it is filled in. -/
def fD (l : List Ev) (i j a b : Nat) : Bool := if a < i ∨ (a = i ∧ b < j) then dirB l a b else false
/-- One round of closing, as far as it is. -/
def fW (l : List Ev) (k i j a b : Nat) : Bool := if a < i ∨ (a = i ∧ b < j) then thr l (k + 1) a b else thr l k a b
theorem fD_set (l : List Ev) (i j : Nat) (v : Bool) (hv : v = dirB l i j) (a b : Nat) : updF (fD l i j) i j v a b = fD l i (j + 1) a b := by
  unfold updF fD
  by_cases h : a = i ∧ b = j
  · rw [if_pos h, if_pos (by omega), hv, h.1, h.2]
  · rw [if_neg h]
    by_cases h2 : a < i ∨ (a = i ∧ b < j)
    · rw [if_pos h2, if_pos (by omega)]
    · rw [if_neg h2, if_neg (by omega)]
theorem fD_next {l : List Ev} {i n a b : Nat} (hb : b < n) (ha : a < i + 1) : fD l i n a b = fD l (i + 1) 0 a b := by
  unfold fD
  rw [if_pos (by omega), if_pos (by omega)]
theorem fD_start {l : List Ev} {i a b : Nat} : fD l i 0 a b = fD l i (i + 1) a b := by
  unfold fD
  by_cases h : a < i
  · rw [if_pos (by omega), if_pos (by omega)]
  · rw [if_neg (by omega)]
    split
    · symm; rw [← Bool.not_eq_true]; intro hh; have := dirB_lt hh; omega
    · rfl
theorem fD_zero (l : List Ev) (i b : Nat) : fD l i 0 i b = false := by unfold fD; rw [if_neg (by omega)]
theorem fD_end {l : List Ev} {n a b : Nat} (ha : a < n) : fD l n 0 a b = fW l 0 0 0 a b := by
  unfold fD fW; rw [if_pos (by omega), if_neg (by omega)]; rfl
theorem fW_set (l : List Ev) (k i j : Nat) (v : Bool) (hv : v = thr l (k + 1) i j) (a b : Nat) : updF (fW l k i j) i j v a b = fW l k i (j + 1) a b := by
  unfold updF fW
  by_cases h : a = i ∧ b = j
  · rw [if_pos h, if_pos (by omega), hv, h.1, h.2]
  · rw [if_neg h]
    by_cases h2 : a < i ∨ (a = i ∧ b < j)
    · rw [if_pos h2, if_pos (by omega)]
    · rw [if_neg h2, if_neg (by omega)]
theorem fW_here (l : List Ev) (k i j : Nat) : fW l k i j i j = thr l k i j := by unfold fW; rw [if_neg (by omega)]
theorem fW_col (l : List Ev) (k i j : Nat) : fW l k i j i k = thr l k i k := by
  unfold fW; split
  · exact thr_col l k i
  · rfl
theorem fW_row (l : List Ev) (k i j : Nat) : fW l k i j k j = thr l k k j := by
  unfold fW; split
  · exact thr_row l k j
  · rfl
theorem fW_next {l : List Ev} {k i n a b : Nat} (hb : b < n) : fW l k i n a b = fW l k (i + 1) 0 a b := by
  unfold fW
  by_cases h : a < i + 1
  · rw [if_pos (by omega), if_pos (by omega)]
  · rw [if_neg (by omega), if_neg (by omega)]
theorem fW_round {l : List Ev} {k n a b : Nat} (ha : a < n) : fW l k n 0 a b = fW l (k + 1) 0 0 a b := by
  unfold fW; rw [if_pos (by omega), if_neg (by omega)]
theorem fW_all {l : List Ev} {n a b : Nat} (hn : l.length = n) : fW l n 0 0 a b = bef l a b := by
  unfold fW bef; rw [if_neg (by omega), hn]
theorem bool_info : (Try.prog.info? 4).map (fun i => (i.zero, i.size, i.bytes)) = some (some (.bool false), 1, 1) := by kernel_rfl
theorem rows_info : (Try.prog.info? 63).map (fun i => (i.zero, i.size, i.bytes)) = some (some (.slice none 0 0), 1, 24) := by kernel_rfl
theorem made_rows (n : Nat) (r : Nat → Nat) : madeCells #[Value.slice none 0 0] n = rowsV n 0 r := by
  apply Array.ext
  · simp [madeCells, rowsV_size]
  · intro i h1 h2
    have h3 : i < n := by simpa [madeCells] using h1
    have h4 := rowsV_get (n := n) (k := 0) r h3
    rw [Array.getElem?_eq_getElem h2] at h4
    rw [Option.some.inj h4]
    simp [madeCells, rowV, Nat.mod_one]
section
variable {ops : Array Oper} {rest : List Oper} {o : Oper} {a : Act} {w : World} {Q : Exit → Act → World → Prop}
/-- 'make([]bool, n)'. -/
theorem makeBl (l c : Operand) (ho : o.op = .makeSlice 63 l c) (hg : o.guard = none) (n : Nat) (hn : n ≤ 1000000) (hl : a.eval l = .int .i64 n) (hc : a.eval c = .int .i64 n)
    (h : wpList Try.prog ops Q rest (a.put o.dst (.slice (some ⟨w.heap.size, 0, none⟩) n n)) (w.alloc (.cells (bs n (fun _ => false)) 4))) : wpList Try.prog ops Q (o :: rest) a w := by
  obtain ⟨i, hi, hz, hs, hb⟩ := info_parts bool_info
  have hr := run_make (P := Try.prog) w 63 4 i _ Try.underlying63 hi hz .i64 .i64 n n (by omega) (by omega) (by rw [hb]; omega) (by omega)
  rw [hs, Int.toNat_natCast, Nat.mul_one, show (Value.bool false).cells = Array.replicate 1 (Value.bool false) from rfl, made_bs _ _ (by omega)] at hr
  refine wpList_plain hg fun _ hK => ?_
  unfold Oper.wp execOp
  simp only [ho, hl, hc, Sem.run_bind, hr, Result.andThen_ok, Sem.run_pure]
  exact hK _ _ h
/-- 'make([][]bool, n)'. -/
theorem makeRw (l c : Operand) (ho : o.op = .makeSlice 60 l c) (hg : o.guard = none) (n : Nat) (hn : n ≤ 1000000) (hl : a.eval l = .int .i64 n) (hc : a.eval c = .int .i64 n) (r : Nat → Nat)
    (h : wpList Try.prog ops Q rest (a.put o.dst (.slice (some ⟨w.heap.size, 0, none⟩) n n)) (w.alloc (.cells (rowsV n 0 r) 63))) : wpList Try.prog ops Q (o :: rest) a w := by
  obtain ⟨i, hi, hz, hs, hb⟩ := info_parts rows_info
  have hr := run_make (P := Try.prog) w 60 63 i _ Try.underlying60 hi hz .i64 .i64 n n (by omega) (by omega) (by rw [hb]; omega) (by omega)
  rw [hs, Int.toNat_natCast, Nat.mul_one, show (Value.slice none 0 0).cells = #[Value.slice none 0 0] from rfl, made_rows _ r] at hr
  refine wpList_plain hg fun _ hK => ?_
  unfold Oper.wp execOp
  simp only [ho, hl, hc, Sem.run_bind, hr, Result.andThen_ok, Sem.run_pure]
  exact hK _ _ h
end
def MatPost (w : World) (l : List Ev) (n : Nat) (e : Ending) (w' : World) : Prop := ∃ O r, e = .returned (.slice (some ⟨O, 0, none⟩) n n) ∧ Mat w O n n r (bef l) w'
end Go.Proofs.Yteihildhlcggoaa
namespace Go.Proofs.Yteihildhlcggoaa
open Go Go.RowKit

set_option maxHeartbeats 8000000 in
theorem ahead_any (A : Option Addr) (n c : Nat) (l : List Ev) (w : World) (hl : Sl w A n l) (hn : n ≤ 80) : Calls Try.prog 35 #[.slice A n c] w (MatPost w l n) := by
  have HL := Lib.hid hl
  have H0 := Lib.hid (show ∃ r, Mat w w.heap.size n 0 r (fD l 0 0) (w.alloc (.cells (rowsV n 0 (fun _ => 0)) 63)) from
    ⟨_, Box.new w _ _, fun i hi => absurd hi (Nat.not_lt_zero _), fun i j hi => absurd hi (Nat.not_lt_zero _), fun i hi => absurd hi (Nat.not_lt_zero _), ⟨Nat.le_refl _, fun i hi => absurd hi (Nat.not_lt_zero _)⟩, (Bel.refl w).alloc _⟩)
  clear hl
  generalize hW : w.alloc (.cells (rowsV n 0 (fun _ => 0)) 63) = w0 at *
  go_enter Try.func35, Try.ntmps35
  go_wp2_with (refine makeRw _ _ rfl rfl n (by omega) rfl rfl (fun _ => 0) ?_)
  generalize hO : w.heap.size = O at *
  clear hW
  go_loopw [14] (fun t14 wr => ∃ (i : Nat) (r : Nat → Nat), i ≤ n ∧ t14 = .int .i64 i ∧ Mat w O n i r (fD l i 0) wr) (fun t14 _ => n - (intOf t14).toNat)
  case atStart => obtain ⟨r, hr⟩ := H0.out; exact ⟨0, r, by omega, rfl, hr⟩
  case round =>
    obtain ⟨i, r, hi, rfl, hm⟩ := hrel
    have HM := Lib.hid hm
    clear hm H0
    by_cases hlt : i < n
    · have hlt' : (i : Int) < n := by omega
      obtain ⟨bb, off, ea, rfl, hbb, hea, hra⟩ := HL.out.at_ hlt
      have HEA := Lib.hid hea
      have HRA := Lib.hid (fun (w' : World) (h : Bel w w') => rangeAt_below h.out hbb hra)
      have HN := Lib.hid (show ∃ r', Mat w O n (i + 1) r' (fD l i (i + 1)) ((wr.alloc (.cells (bs n (fun _ => false)) 4)).setCell ⟨O, i, none⟩ (.slice (some ⟨wr.heap.size, 0, none⟩) n n)) from
        ⟨_, (HM.out.new (fun j _ => fD_zero l i j)).congr (fun a b _ _ => fD_start)⟩)
      have n1 := (HM.out.outer.old (.cells (bs n (fun _ => false)) 4)).cell i (rowsV_get r hlt)
      have g1 := (HM.out.outer.old (.cells (bs n (fun _ => false)) 4)).frozen i
      clear hea hra
      go_wp2_with (refine makeBl _ _ rfl rfl n (by omega) rfl rfl ?_)
      obtain ⟨r', hr'⟩ := HN.out
      have HN' := Lib.hid hr'
      clear hr' HN n1 g1
      generalize (wr.alloc (.cells (bs n (fun _ => false)) 4)).setCell ⟨O, i, none⟩ (.slice (some ⟨wr.heap.size, 0, none⟩) n n) = wr1 at *
      go_loopw [5] (fun t5 wr => ∃ j : Nat, i < j ∧ j ≤ n ∧ t5 = .int .i64 j ∧ Mat w O n (i + 1) r' (fD l i j) wr) (fun t5 _ => n - (intOf t5).toNat)
      case atStart => exact ⟨i + 1, by omega, by omega, by go_num, HN'.out⟩
      case round =>
        obtain ⟨j, hij, hj, rfl, hm⟩ := hrel
        have HM2 := Lib.hid hm
        clear hm HN'
        by_cases hlj : j < n
        · have hlj' : (j : Int) < n := by omega
          obtain ⟨eb, heb⟩ := HL.out.get hlj
          have hdir := dirB_at HEA.out heb
          rw [decide_eq_true hij, Bool.true_and] at hdir
          have HD := Lib.hid hdir
          have hbw := Bel.of HM2.out.below
          have HRA2 := Lib.hid (fun (w' : World) (h : Bel wr w') => HRA.out w' (hbw.trans h))
          have HRB2 := Lib.hid (fun (w' : World) (h : Bel wr w') => rangeAt_below (hbw.trans h).out hbb (HL.out.rng hlj heb).2)
          have c1 := HM2.out.rowc (i := i) (by omega) (by omega)
          have F := fun (w' : World) (h : Bel wr w') => h.cell c1
          have hi0 : (0 : Int) ≤ (i : Int) := by omega
          have hj0 : (0 : Int) ≤ (j : Int) := by omega
          clear heb hbw c1 hdir
          go_wp2
          refine region_growT 15 (by kernel_rfl) ?_
          (repeat (first | ((first | refine wpT_goN 0 (by simp only [List.getElem?_toArray, List.getElem?_cons_zero, List.getElem?_cons_succ] <;> rfl) (by decide +kernel) (by decide +kernel) (by kernel_rfl) (by rfl) (by exact fun _ _ _ _ h => h) (Nat.le_refl _) ?_ | refine wpT_goN 1 (by simp only [List.getElem?_toArray, List.getElem?_cons_zero, List.getElem?_cons_succ] <;> rfl) (by decide +kernel) (by decide +kernel) (by kernel_rfl) (by rfl) (by exact fun _ _ _ _ h => h) (Nat.le_refl _) ?_ | refine wpT_goN 2 (by simp only [List.getElem?_toArray, List.getElem?_cons_zero, List.getElem?_cons_succ] <;> rfl) (by decide +kernel) (by decide +kernel) (by kernel_rfl) (by rfl) (by exact fun _ _ _ _ h => h) (Nat.le_refl _) ?_ | refine wpT_goN 3 (by simp only [List.getElem?_toArray, List.getElem?_cons_zero, List.getElem?_cons_succ] <;> rfl) (by decide +kernel) (by decide +kernel) (by kernel_rfl) (by rfl) (by exact fun _ _ _ _ h => h) (Nat.le_refl _) ?_ | refine wpT_goN 4 (by simp only [List.getElem?_toArray, List.getElem?_cons_zero, List.getElem?_cons_succ] <;> rfl) (by decide +kernel) (by decide +kernel) (by kernel_rfl) (by rfl) (by exact fun _ _ _ _ h => h) (Nat.le_refl _) ?_ | refine wpT_goN 5 (by simp only [List.getElem?_toArray, List.getElem?_cons_zero, List.getElem?_cons_succ] <;> rfl) (by decide +kernel) (by decide +kernel) (by kernel_rfl) (by rfl) (by exact fun _ _ _ _ h => h) (Nat.le_refl _) ?_ | refine wpT_goN 6 (by simp only [List.getElem?_toArray, List.getElem?_cons_zero, List.getElem?_cons_succ] <;> rfl) (by decide +kernel) (by decide +kernel) (by kernel_rfl) (by rfl) (by exact fun _ _ _ _ h => h) (Nat.le_refl _) ?_ | refine wpT_goN 7 (by simp only [List.getElem?_toArray, List.getElem?_cons_zero, List.getElem?_cons_succ] <;> rfl) (by decide +kernel) (by decide +kernel) (by kernel_rfl) (by rfl) (by exact fun _ _ _ _ h => h) (Nat.le_refl _) ?_ | refine wpT_goN 8 (by simp only [List.getElem?_toArray, List.getElem?_cons_zero, List.getElem?_cons_succ] <;> rfl) (by decide +kernel) (by decide +kernel) (by kernel_rfl) (by rfl) (by exact fun _ _ _ _ h => h) (Nat.le_refl _) ?_ | refine wpT_goN 9 (by simp only [List.getElem?_toArray, List.getElem?_cons_zero, List.getElem?_cons_succ] <;> rfl) (by decide +kernel) (by decide +kernel) (by kernel_rfl) (by rfl) (by exact fun _ _ _ _ h => h) (Nat.le_refl _) ?_ | refine wpT_goN 10 (by simp only [List.getElem?_toArray, List.getElem?_cons_zero, List.getElem?_cons_succ] <;> rfl) (by decide +kernel) (by decide +kernel) (by kernel_rfl) (by rfl) (by exact fun _ _ _ _ h => h) (Nat.le_refl _) ?_ | refine wpT_goN 11 (by simp only [List.getElem?_toArray, List.getElem?_cons_zero, List.getElem?_cons_succ] <;> rfl) (by decide +kernel) (by decide +kernel) (by kernel_rfl) (by rfl) (by exact fun _ _ _ _ h => h) (Nat.le_refl _) ?_ | refine wpT_goN 12 (by simp only [List.getElem?_toArray, List.getElem?_cons_zero, List.getElem?_cons_succ] <;> rfl) (by decide +kernel) (by decide +kernel) (by kernel_rfl) (by rfl) (by exact fun _ _ _ _ h => h) (Nat.le_refl _) ?_ | refine wpT_goN 13 (by simp only [List.getElem?_toArray, List.getElem?_cons_zero, List.getElem?_cons_succ] <;> rfl) (by decide +kernel) (by decide +kernel) (by kernel_rfl) (by rfl) (by exact fun _ _ _ _ h => h) (Nat.le_refl _) ?_ | refine wpT_goN 14 (by simp only [List.getElem?_toArray, List.getElem?_cons_zero, List.getElem?_cons_succ] <;> rfl) (by decide +kernel) (by decide +kernel) (by kernel_rfl) (by rfl) (by exact fun _ _ _ _ h => h) (Nat.le_refl _) ?_); apply Exists.intro; refine ⟨fun w1 h1 => ?_, ?_⟩; (first | exact g_move _ rfl | exact g_assign _ rfl | exact g_load_mid _ _ rfl rfl (HRA2.out w1 h1) T36 (evv ea) rfl | exact g_load_mid _ _ rfl rfl (HRB2.out w1 h1) T36 (evv eb) rfl | (have fct0 := F w1 h1; go_simp; first | exact ⟨rfl, rfl⟩ | rfl | (go_at_call 56; (with_reducible refine (directly_any ea eb _).mono ?_); rintro e w' ⟨rfl, hb⟩; first | exact ⟨rfl, hb⟩ | exact ⟨rfl, hb ▸ Bel.refl _⟩))); simp only [Act.put, Act.eval, List.setIfInBounds_toArray, List.set_cons_zero, List.set_cons_succ, Array.getD_eq_getD_getElem?, List.getElem?_toArray, List.getElem?_cons_zero, List.getElem?_cons_succ, Option.getD_some]) | ((first | refine wpT_skip 0 (by simp only [List.getElem?_toArray, List.getElem?_cons_zero, List.getElem?_cons_succ] <;> rfl) (by decide +kernel) (by decide +kernel) (by kernel_rfl) (by rfl) (by exact fun _ _ _ _ h => h) (Nat.le_refl _) ?_ | refine wpT_skip 1 (by simp only [List.getElem?_toArray, List.getElem?_cons_zero, List.getElem?_cons_succ] <;> rfl) (by decide +kernel) (by decide +kernel) (by kernel_rfl) (by rfl) (by exact fun _ _ _ _ h => h) (Nat.le_refl _) ?_ | refine wpT_skip 2 (by simp only [List.getElem?_toArray, List.getElem?_cons_zero, List.getElem?_cons_succ] <;> rfl) (by decide +kernel) (by decide +kernel) (by kernel_rfl) (by rfl) (by exact fun _ _ _ _ h => h) (Nat.le_refl _) ?_ | refine wpT_skip 3 (by simp only [List.getElem?_toArray, List.getElem?_cons_zero, List.getElem?_cons_succ] <;> rfl) (by decide +kernel) (by decide +kernel) (by kernel_rfl) (by rfl) (by exact fun _ _ _ _ h => h) (Nat.le_refl _) ?_ | refine wpT_skip 4 (by simp only [List.getElem?_toArray, List.getElem?_cons_zero, List.getElem?_cons_succ] <;> rfl) (by decide +kernel) (by decide +kernel) (by kernel_rfl) (by rfl) (by exact fun _ _ _ _ h => h) (Nat.le_refl _) ?_ | refine wpT_skip 5 (by simp only [List.getElem?_toArray, List.getElem?_cons_zero, List.getElem?_cons_succ] <;> rfl) (by decide +kernel) (by decide +kernel) (by kernel_rfl) (by rfl) (by exact fun _ _ _ _ h => h) (Nat.le_refl _) ?_ | refine wpT_skip 6 (by simp only [List.getElem?_toArray, List.getElem?_cons_zero, List.getElem?_cons_succ] <;> rfl) (by decide +kernel) (by decide +kernel) (by kernel_rfl) (by rfl) (by exact fun _ _ _ _ h => h) (Nat.le_refl _) ?_ | refine wpT_skip 7 (by simp only [List.getElem?_toArray, List.getElem?_cons_zero, List.getElem?_cons_succ] <;> rfl) (by decide +kernel) (by decide +kernel) (by kernel_rfl) (by rfl) (by exact fun _ _ _ _ h => h) (Nat.le_refl _) ?_ | refine wpT_skip 8 (by simp only [List.getElem?_toArray, List.getElem?_cons_zero, List.getElem?_cons_succ] <;> rfl) (by decide +kernel) (by decide +kernel) (by kernel_rfl) (by rfl) (by exact fun _ _ _ _ h => h) (Nat.le_refl _) ?_ | refine wpT_skip 9 (by simp only [List.getElem?_toArray, List.getElem?_cons_zero, List.getElem?_cons_succ] <;> rfl) (by decide +kernel) (by decide +kernel) (by kernel_rfl) (by rfl) (by exact fun _ _ _ _ h => h) (Nat.le_refl _) ?_ | refine wpT_skip 10 (by simp only [List.getElem?_toArray, List.getElem?_cons_zero, List.getElem?_cons_succ] <;> rfl) (by decide +kernel) (by decide +kernel) (by kernel_rfl) (by rfl) (by exact fun _ _ _ _ h => h) (Nat.le_refl _) ?_ | refine wpT_skip 11 (by simp only [List.getElem?_toArray, List.getElem?_cons_zero, List.getElem?_cons_succ] <;> rfl) (by decide +kernel) (by decide +kernel) (by kernel_rfl) (by rfl) (by exact fun _ _ _ _ h => h) (Nat.le_refl _) ?_ | refine wpT_skip 12 (by simp only [List.getElem?_toArray, List.getElem?_cons_zero, List.getElem?_cons_succ] <;> rfl) (by decide +kernel) (by decide +kernel) (by kernel_rfl) (by rfl) (by exact fun _ _ _ _ h => h) (Nat.le_refl _) ?_ | refine wpT_skip 13 (by simp only [List.getElem?_toArray, List.getElem?_cons_zero, List.getElem?_cons_succ] <;> rfl) (by decide +kernel) (by decide +kernel) (by kernel_rfl) (by rfl) (by exact fun _ _ _ _ h => h) (Nat.le_refl _) ?_ | refine wpT_skip 14 (by simp only [List.getElem?_toArray, List.getElem?_cons_zero, List.getElem?_cons_succ] <;> rfl) (by decide +kernel) (by decide +kernel) (by kernel_rfl) (by rfl) (by exact fun _ _ _ _ h => h) (Nat.le_refl _) ?_); simp only [Act.put, Act.eval, List.setIfInBounds_toArray, List.set_cons_zero, List.set_cons_succ, Array.getD_eq_getD_getElem?, List.getElem?_toArray, List.getElem?_cons_zero, List.getElem?_cons_succ, Option.getD_some]) | ((first | refine wpT_goA 0 (by simp only [List.getElem?_toArray, List.getElem?_cons_zero, List.getElem?_cons_succ] <;> rfl) (by decide +kernel) (by decide +kernel) (by kernel_rfl) (by rfl) (by exact fun _ _ _ _ h => h) ?_ | refine wpT_goA 1 (by simp only [List.getElem?_toArray, List.getElem?_cons_zero, List.getElem?_cons_succ] <;> rfl) (by decide +kernel) (by decide +kernel) (by kernel_rfl) (by rfl) (by exact fun _ _ _ _ h => h) ?_ | refine wpT_goA 2 (by simp only [List.getElem?_toArray, List.getElem?_cons_zero, List.getElem?_cons_succ] <;> rfl) (by decide +kernel) (by decide +kernel) (by kernel_rfl) (by rfl) (by exact fun _ _ _ _ h => h) ?_ | refine wpT_goA 3 (by simp only [List.getElem?_toArray, List.getElem?_cons_zero, List.getElem?_cons_succ] <;> rfl) (by decide +kernel) (by decide +kernel) (by kernel_rfl) (by rfl) (by exact fun _ _ _ _ h => h) ?_ | refine wpT_goA 4 (by simp only [List.getElem?_toArray, List.getElem?_cons_zero, List.getElem?_cons_succ] <;> rfl) (by decide +kernel) (by decide +kernel) (by kernel_rfl) (by rfl) (by exact fun _ _ _ _ h => h) ?_ | refine wpT_goA 5 (by simp only [List.getElem?_toArray, List.getElem?_cons_zero, List.getElem?_cons_succ] <;> rfl) (by decide +kernel) (by decide +kernel) (by kernel_rfl) (by rfl) (by exact fun _ _ _ _ h => h) ?_ | refine wpT_goA 6 (by simp only [List.getElem?_toArray, List.getElem?_cons_zero, List.getElem?_cons_succ] <;> rfl) (by decide +kernel) (by decide +kernel) (by kernel_rfl) (by rfl) (by exact fun _ _ _ _ h => h) ?_ | refine wpT_goA 7 (by simp only [List.getElem?_toArray, List.getElem?_cons_zero, List.getElem?_cons_succ] <;> rfl) (by decide +kernel) (by decide +kernel) (by kernel_rfl) (by rfl) (by exact fun _ _ _ _ h => h) ?_ | refine wpT_goA 8 (by simp only [List.getElem?_toArray, List.getElem?_cons_zero, List.getElem?_cons_succ] <;> rfl) (by decide +kernel) (by decide +kernel) (by kernel_rfl) (by rfl) (by exact fun _ _ _ _ h => h) ?_ | refine wpT_goA 9 (by simp only [List.getElem?_toArray, List.getElem?_cons_zero, List.getElem?_cons_succ] <;> rfl) (by decide +kernel) (by decide +kernel) (by kernel_rfl) (by rfl) (by exact fun _ _ _ _ h => h) ?_ | refine wpT_goA 10 (by simp only [List.getElem?_toArray, List.getElem?_cons_zero, List.getElem?_cons_succ] <;> rfl) (by decide +kernel) (by decide +kernel) (by kernel_rfl) (by rfl) (by exact fun _ _ _ _ h => h) ?_ | refine wpT_goA 11 (by simp only [List.getElem?_toArray, List.getElem?_cons_zero, List.getElem?_cons_succ] <;> rfl) (by decide +kernel) (by decide +kernel) (by kernel_rfl) (by rfl) (by exact fun _ _ _ _ h => h) ?_ | refine wpT_goA 12 (by simp only [List.getElem?_toArray, List.getElem?_cons_zero, List.getElem?_cons_succ] <;> rfl) (by decide +kernel) (by decide +kernel) (by kernel_rfl) (by rfl) (by exact fun _ _ _ _ h => h) ?_ | refine wpT_goA 13 (by simp only [List.getElem?_toArray, List.getElem?_cons_zero, List.getElem?_cons_succ] <;> rfl) (by decide +kernel) (by decide +kernel) (by kernel_rfl) (by rfl) (by exact fun _ _ _ _ h => h) ?_ | refine wpT_goA 14 (by simp only [List.getElem?_toArray, List.getElem?_cons_zero, List.getElem?_cons_succ] <;> rfl) (by decide +kernel) (by decide +kernel) (by kernel_rfl) (by rfl) (by exact fun _ _ _ _ h => h) ?_); apply Exists.intro; refine ⟨fun w1 => ?_, ?_⟩; (first | exact a_move _ rfl | exact a_assign _ rfl | (go_simp; first | exact ⟨rfl, rfl⟩ | rfl)); simp only [Act.put, Act.eval, List.setIfInBounds_toArray, List.set_cons_zero, List.set_cons_succ, Array.getD_eq_getD_getElem?, List.getElem?_toArray, List.getElem?_cons_zero, List.getElem?_cons_succ, Option.getD_some])))
          refine wpT_last (by decide +kernel) (by decide +kernel) (by simp only [List.getElem?_toArray, List.getElem?_cons_zero, List.getElem?_cons_succ] <;> rfl) rfl ?_
          intro w1 hw1
          have HG := Lib.hid (HM2.out.grow hw1)
          have n1 := HG.out.cell (i := i) (by omega) hlj
          have g1 := (HG.out.row i (by omega)).frozen j
          have HS := Lib.hid ((HG.out.set (i := i) (by omega) j (directly ea eb)).congr (f' := fD l i (j + 1)) (fun a b _ _ => fD_set l i j _ HD.out.symm a b))
          clear hw1
          go_simp
          intro w2 hw2
          have HS2 := Lib.hid (HS.out.grow hw2)
          clear hw2 n1 g1 F
          go_wp2
          go_roundw
          case rel => exact ⟨j + 1, by omega, by omega, by go_num, HS2.out⟩
          case measure => simp [intOf]; omega
        · obtain rfl : j = n := by omega
          have HS := Lib.hid (HM2.out.congr (f' := fD l (i + 1) 0) (fun a b ha hb => fD_next hb ha))
          go_wp2
          go_roundw
          case rel => exact ⟨i + 1, r', by omega, by go_num, HS.out⟩
          case measure => simp [intOf]; omega
    · obtain rfl : i = n := by omega
      have HS := Lib.hid (HM.out.congr (f' := fW l 0 0 0) (fun a b ha hb => fD_end ha))
      go_wp2
      go_loopw [49] (fun t49 wr => ∃ k : Nat, k ≤ i ∧ t49 = .int .i64 k ∧ Mat w O i i r (fW l k 0 0) wr) (fun t49 _ => i - (intOf t49).toNat)
      case atStart => exact ⟨0, by omega, rfl, HS.out⟩
      case round =>
        obtain ⟨k, hk, rfl, hm⟩ := hrel
        have HM1 := Lib.hid hm
        clear hm HS HM
        by_cases hlk : k < i
        · have hlk' : (k : Int) < i := by omega
          go_wp2
          go_loopw [54] (fun t54 wr => ∃ p : Nat, p ≤ i ∧ t54 = .int .i64 p ∧ Mat w O i i r (fW l k p 0) wr) (fun t54 _ => i - (intOf t54).toNat)
          case atStart => exact ⟨0, by omega, rfl, HM1.out⟩
          case round =>
            obtain ⟨p, hp, rfl, hm⟩ := hrel
            have HM2 := Lib.hid hm
            clear hm HM1
            by_cases hlp : p < i
            · have hlp' : (p : Int) < i := by omega
              go_wp2
              go_loopw [59] (fun t59 wr => ∃ q : Nat, q ≤ i ∧ t59 = .int .i64 q ∧ Mat w O i i r (fW l k p q) wr) (fun t59 _ => i - (intOf t59).toNat)
              case atStart => exact ⟨0, by omega, rfl, HM2.out⟩
              case round =>
                obtain ⟨q, hq, rfl, hm⟩ := hrel
                have HM3 := Lib.hid hm
                clear hm HM2
                by_cases hlq : q < i
                · have hlq' : (q : Int) < i := by omega
                  have hp0 : (0 : Int) ≤ (p : Int) := by omega
                  have hq0 : (0 : Int) ≤ (q : Int) := by omega
                  have hk0 : (0 : Int) ≤ (k : Int) := by omega
                  have c0 := HM3.out.rowc hlp (Nat.le_refl _)
                  have c1 := HM3.out.rowc hlk (Nat.le_refl _)
                  have d0 := HM3.out.cell hlp hlq
                  have d1 := HM3.out.cell hlp hlk
                  have d2 := HM3.out.cell hlk hlq
                  have g0 := (HM3.out.row p hlp).frozen q
                  rw [fW_here] at d0
                  rw [fW_col] at d1
                  rw [fW_row] at d2
                  have HS := Lib.hid (fun (v : Bool) (hv : v = thr l (k + 1) p q) => ((HM3.out.grow (Bel.refl _).drew).set hlp q v).congr (f' := fW l k p (q + 1)) (fun a b _ _ => fW_set l k p q v hv a b))
                  have HV := Lib.hid (show thr l (k + 1) p q = (thr l k p q || (thr l k p k && thr l k k q)) from rfl)
                  cases h0 : thr l k p q
                  · rw [h0] at d0 HV
                    cases h1 : thr l k p k
                    · rw [h1] at d1 HV
                      go_wp2
                      (refine wp_region_still_tail 30 (by kernel_rfl) (by kernel_rfl) ?_; simp only [List.take_succ_cons, List.take_zero, List.drop_succ_cons, List.drop_zero]; (repeat (first | ((with_reducible refine s_skip ?_ ?_); exact rfl; simp only [Act.put, Act.eval, List.setIfInBounds_toArray, List.set_cons_zero, List.set_cons_succ, Array.getD_eq_getD_getElem?, List.getElem?_toArray, List.getElem?_cons_zero, List.getElem?_cons_succ, Option.getD_some]) | ((with_reducible refine wpStill_step ?_); intro K hK; go_simp; (with_reducible refine hK _ ?_); clear hK K))); (with_reducible refine wpStill_nil ?_))
                      change wpList _ _ _ _ _ wr.drew
                      go_wp2
                      have HX := Lib.hid (HS.out false (by rw [HV.out]; rfl))
                      go_roundw
                      case rel => exact ⟨q + 1, by omega, by go_num, HX.out⟩
                      case measure => simp [intOf]; omega
                    · rw [h1] at d1 HV
                      go_wp2
                      (refine wp_region_still_tail 30 (by kernel_rfl) (by kernel_rfl) ?_; simp only [List.take_succ_cons, List.take_zero, List.drop_succ_cons, List.drop_zero]; (repeat (first | ((with_reducible refine s_skip ?_ ?_); exact rfl; simp only [Act.put, Act.eval, List.setIfInBounds_toArray, List.set_cons_zero, List.set_cons_succ, Array.getD_eq_getD_getElem?, List.getElem?_toArray, List.getElem?_cons_zero, List.getElem?_cons_succ, Option.getD_some]) | ((with_reducible refine wpStill_step ?_); intro K hK; go_simp; (with_reducible refine hK _ ?_); clear hK K))); (with_reducible refine wpStill_nil ?_))
                      change wpList _ _ _ _ _ wr.drew
                      go_wp2
                      have HX := Lib.hid (HS.out (thr l k k q) (by rw [HV.out]; rfl))
                      go_roundw
                      case rel => exact ⟨q + 1, by omega, by go_num, HX.out⟩
                      case measure => simp [intOf]; omega
                  · rw [h0] at d0 HV
                    go_wp2
                    (refine wp_region_still_tail 30 (by kernel_rfl) (by kernel_rfl) ?_; simp only [List.take_succ_cons, List.take_zero, List.drop_succ_cons, List.drop_zero]; (repeat (first | ((with_reducible refine s_skip ?_ ?_); exact rfl; simp only [Act.put, Act.eval, List.setIfInBounds_toArray, List.set_cons_zero, List.set_cons_succ, Array.getD_eq_getD_getElem?, List.getElem?_toArray, List.getElem?_cons_zero, List.getElem?_cons_succ, Option.getD_some]) | ((with_reducible refine wpStill_step ?_); intro K hK; go_simp; (with_reducible refine hK _ ?_); clear hK K))); (with_reducible refine wpStill_nil ?_))
                    change wpList _ _ _ _ _ wr.drew
                    go_wp2
                    have HX := Lib.hid (HS.out true (by rw [HV.out]; rfl))
                    go_roundw
                    case rel => exact ⟨q + 1, by omega, by go_num, HX.out⟩
                    case measure => simp [intOf]; omega
                · obtain rfl : q = i := by omega
                  have HE := Lib.hid (HM3.out.congr (f' := fW l k (p + 1) 0) (fun a b _ hb => fW_next hb))
                  go_wp2
                  go_roundw
                  case rel => exact ⟨p + 1, by omega, by go_num, HE.out⟩
                  case measure => simp [intOf]; omega
            · obtain rfl : p = i := by omega
              have HE := Lib.hid (HM2.out.congr (f' := fW l (k + 1) 0 0) (fun a b ha _ => fW_round ha))
              go_wp2
              go_roundw
              case rel => exact ⟨k + 1, by omega, by go_num, HE.out⟩
              case measure => simp [intOf]; omega
        · obtain rfl : k = i := by omega
          have HE := Lib.hid (HM1.out.congr (f' := bef l) (fun a b _ _ => fW_all HL.out.1))
          go_wp2
          go_ret
          exact ⟨_, _, rfl, HE.out⟩
end Go.Proofs.Yteihildhlcggoaa

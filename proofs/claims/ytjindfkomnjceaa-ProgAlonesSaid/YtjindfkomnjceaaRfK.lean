/- Contract of the reference's Rank. -/
import Derived.Test.YtjindfkomnjceaaRfR
import Derived.Test.YtjindfkomnjceaaGrow
set_option linter.all false
set_option maxRecDepth 100000
namespace Go.Proofs.Ytjindfkomnjceaa
open Go Go.RowKit

def five (f : Nat → Nat) : Array Value := #[.int .i64 (f 0), .int .i64 (f 1), .int .i64 (f 2), .int .i64 (f 3), .int .i64 (f 4)]
theorem five_zero : #[Value.int .i64 0, .int .i64 0, .int .i64 0, .int .i64 0, .int .i64 0] = five fun _ => 0 := rfl
theorem five_get (f : Nat → Nat) (k : Nat) (h : k < 5) : (five f)[k]? = some (.int .i64 (f k)) := by
  match k, h with
  | 0, _ => rfl
  | 1, _ => rfl
  | 2, _ => rfl
  | 3, _ => rfl
  | 4, _ => rfl
def upd5 (f : Nat → Nat) (k x : Nat) : Nat → Nat := fun j => if j = k then x else f j
theorem five_set (f : Nat → Nat) (k x : Nat) (h : k < 5) : (five f).setIfInBounds k (.int .i64 x) = five (upd5 f k x) := by
  match k, h with
  | 0, _ => rfl
  | 1, _ => rfl
  | 2, _ => rfl
  | 3, _ => rfl
  | 4, _ => rfl
theorem five_list (f : Nat → Nat) : (five f).toList = intq (toI ((List.range 5).map f)) := rfl
def isC (P : Nat → Nat → Bool) (r : List Nat) (k : Nat) : Bool := (List.range k).all fun i => P (at0 r i) (at0 r (i + 1))
theorem isC_succ (P : Nat → Nat → Bool) (r : List Nat) (k : Nat) : isC P r (k + 1) = (isC P r k && P (at0 r k) (at0 r (k + 1))) := by
  unfold isC; rw [List.range_succ, List.all_append]; simp
def isCh (P : Nat → Nat → Bool) (r : List Nat) : Bool := isC P r (r.length - 1)
def lastL (r : List Nat) : Nat := at0 r (r.length - 1)
structure RkR (P : Nat → Nat → Bool) (D : List (List Nat)) (f : Nat → Nat) : Prop where
  some : ∀ k, f k = 0 ∨ ∃ s ∈ D, isCh P s = true ∧ lastL s = k ∧ s.length = f k + 1
  all : ∀ s ∈ D, isCh P s = true → s.length ≤ f (lastL s) + 1
theorem RkR.zero (P : Nat → Nat → Bool) : RkR P [] fun _ => 0 := ⟨fun _ => .inl rfl, fun s h => by cases h⟩
theorem RkR.no {P : Nat → Nat → Bool} {D : List (List Nat)} {f : Nat → Nat} {r : List Nat} (h : RkR P D f) (hr : isCh P r = false) : RkR P (D ++ [r]) f := by
  refine ⟨fun k => (h.some k).imp id fun ⟨s, h1, h2⟩ => ⟨s, List.mem_append.2 (.inl h1), h2⟩, fun s hs hc => ?_⟩
  rcases List.mem_append.1 hs with hs | hs
  · exact h.all s hs hc
  · obtain rfl := List.mem_singleton.1 hs
    rw [hr] at hc; cases hc
theorem RkR.yes {P : Nat → Nat → Bool} {D : List (List Nat)} {f : Nat → Nat} {r : List Nat} {m x : Nat} (h : RkR P D f) (hr : isCh P r = true) (hl : r.length = m + 1) (hx : x = max (f (lastL r)) m) : RkR P (D ++ [r]) (upd5 f (lastL r) x) := by
  refine ⟨fun k => ?_, fun s hs hc => ?_⟩
  · unfold upd5
    split
    · rename_i hk
      subst hk
      rcases Nat.le_total m (f (lastL r)) with hm | hm
      · rw [hx, Nat.max_eq_left hm]
        exact (h.some _).imp id fun ⟨s, h1, h2⟩ => ⟨s, List.mem_append.2 (.inl h1), h2⟩
      · rw [hx, Nat.max_eq_right hm]
        exact .inr ⟨r, List.mem_append.2 (.inr (List.mem_singleton.2 rfl)), hr, rfl, hl⟩
    · exact (h.some _).imp id fun ⟨s, h1, h2⟩ => ⟨s, List.mem_append.2 (.inl h1), h2⟩
  · unfold upd5
    rcases List.mem_append.1 hs with hs | hs
    · have h1 := h.all s hs hc
      split
      · rename_i hk
        rw [hk] at h1; rw [hx]
        have := Nat.le_max_left (f (lastL r)) m
        omega
      · exact h1
    · obtain rfl := List.mem_singleton.1 hs
      rw [if_pos rfl, hl, hx]
      have := Nat.le_max_right (f (lastL s)) m
      omega
/-- The rows that have been looked at: all of up to m locks, and i of the next. -/
def allL (m i : Nat) : List (List Nat) := ((List.range m).flatMap fun j => rowsL (j + 1)) ++ (rowsL (m + 1)).take i
theorem allL_succ {m i : Nat} {r : List Nat} (h : (rowsL (m + 1))[i]? = some r) : allL m (i + 1) = allL m i ++ [r] := by
  obtain ⟨hi, h⟩ := List.getElem?_eq_some_iff.1 h
  unfold allL; rw [List.take_succ_eq_append_getElem hi, h, List.append_assoc]
theorem allL_next {m n : Nat} (h : (rowsL (m + 1)).length = n) : allL m n = allL (m + 1) 0 := by
  unfold allL; rw [← h, List.take_length, List.range_succ, List.flatMap_append]; simp
theorem Rws.at_ {w : World} {base N c : Nat} {A : Option Addr} {L : List (List Nat)} {xs : List Value} (h : Rws w base (.slice A N c) L xs) {i : Nat} {x : Value} (hx : xs[i]? = some x) : ∃ b o, A = some ⟨b, o, none⟩ ∧ w.cell? ⟨b, o + i, none⟩ = some x := by
  obtain ⟨A', c', e, h'⟩ := h.sl
  obtain ⟨rfl, _, _⟩ : A = A' ∧ N = L.length ∧ c = c' := by simpa using e
  exact h' i x hx
theorem own_set {w : World} {base : Nat} {t : TypeId} {size n : Nat} {v : Value} {xs : List Value} (h : w.ownsRow base t size v n xs) {B : Nat} (hB : B < base) (k : Nat) (u : Value) : (w.setCell ⟨B, k, none⟩ u).ownsRow base t size v n xs :=
  own_keep h fun g hg hlt => by
    have := own_block_ge h g hg
    exact heap_setCell_other w ⟨B, k, none⟩ g u (by show g ≠ B; omega)
theorem Rws.set {w : World} {base : Nat} {v : Value} {L : List (List Nat)} {xs : List Value} (h : Rws w base v L xs) {B : Nat} (hB : B < base) (k : Nat) (u : Value) : Rws (w.setCell ⟨B, k, none⟩ u) base v L xs :=
  ⟨h.len, own_set h.own hB k u, h.one, fun i r x h1 h2 => own_set (h.row i r x h1 h2) hB k u⟩
def RankA (l : List (Int × Int)) (q : List Nat) (c : Int) : Prop :=
  (l.any qbad = true ∧ q = [] ∧ c = 1) ∨ (l.any qbad = false ∧ (∃ r, RingR (Pq l) r ∧ r ≠ []) ∧ q = [] ∧ c = 5) ∨
    (l.any qbad = false ∧ RingR (Pq l) [] ∧ c = 0 ∧ ∃ f, RkR (Pq l) (allL 5 0) f ∧ q = (List.range 5).map f)
def RfKPost (w : World) (l : List (Int × Int)) (e : Ending) (w' : World) : Prop :=
  ∃ v q c, e = .returned (.tuple #[v, .int .i64 c]) ∧ RankA l q c ∧ w'.ownsRow w.heap.size 3 1 v q.length (intq (toI q)) ∧ Below w.heap.size w w'
theorem made_five : madeCells #[Value.int .i64 0] 5 = five fun _ => 0 := by
  apply Array.ext
  · simp [madeCells, five]
  · intro i h1 h2
    have h3 : i < 5 := by simpa [five] using h2
    match i, h3 with
    | 0, _ => simp [madeCells, five]
    | 1, _ => simp [madeCells, five]
    | 2, _ => simp [madeCells, five]
    | 3, _ => simp [madeCells, five]
    | 4, _ => simp [madeCells, five]
theorem makeFive {ops : Array Oper} {rest : List Oper} {o : Oper} {a : Act} {w : World} {Q : Exit → Act → World → Prop} (l c : Operand) (ho : o.op = .makeSlice 23 l c) (hg : o.guard = none) (hl : a.eval l = .int .i64 5) (hc : a.eval c = .int .i64 5)
    (h : wpList Try.prog ops Q rest (a.put o.dst (.slice (some ⟨w.heap.size, 0, none⟩) 5 5)) (w.alloc (.cells (five fun _ => 0) 3))) : wpList Try.prog ops Q (o :: rest) a w := by
  obtain ⟨i, hi, hz, hs, hb⟩ := info_parts qint_info
  have hr := run_make (P := Try.prog) w 23 3 i _ Try.underlying23 hi hz .i64 .i64 5 5 (by omega) (by omega) (by rw [hb]; omega) (by omega)
  rw [hs, show Int.toNat 5 * 1 = 5 from rfl, show (Value.int .i64 0).cells = #[Value.int .i64 0] from rfl, made_five] at hr
  refine wpList_plain hg fun _ hK => ?_
  unfold Oper.wp execOp
  simp only [ho, hl, hc, Sem.run_bind, hr, Result.andThen_ok, Sem.run_pure]
  exact hK _ _ h
theorem hasp_two (A : Option Addr) (n c : Nat) (l : List (Int × Int)) (a b : Int) (w : World) (h : SlQ w A n l) (hm : n ≤ 9223372036854775807) :
    Calls Try.prog 16 #[.slice A n c, .agg #[.int .i64 a, .int .i64 b]] w fun e w' => e = .returned (.bool (decide ((a, b) ∈ l))) ∧ Below w.heap.size w w' := hasp_any A n c l (a, b) w h hm
end Go.Proofs.Ytjindfkomnjceaa

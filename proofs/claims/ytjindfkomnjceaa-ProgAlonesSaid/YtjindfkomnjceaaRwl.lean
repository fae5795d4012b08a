/- Contracts of the reference: Copy of ints; rows: all rows of different locks. -/
import Derived.Test.YtjindfkomnjceaaRgP
import Derived.Test.YtjindfkomnjceaaEqInt
import Derived.Test.YtjindfkomnjceaaAppend
import Derived.Test.YtjindfkomnjceaaKeepTw
import Derived.Test.YtjindfkomnjceaaCi
import Derived.RangeFuncBox
set_option linter.all false
set_option maxRecDepth 100000
namespace Go.Proofs.Ytjindfkomnjceaa
open Go Go.RowKit

/-- A slice of rows, all of the call's own; xs: the rows as values. -/
structure Rws (w : World) (base : Nat) (v : Value) (L : List (List Nat)) (xs : List Value) : Prop where
  len : xs.length = L.length
  own : w.ownsRow base 23 1 v L.length xs
  one : ∀ u ∈ xs, u.oneCell' = true
  row : ∀ (i : Nat) (r : List Nat) (x : Value), L[i]? = some r → xs[i]? = some x → w.ownsRow base 3 1 x r.length (intq (toI r))
theorem Rws.bel {w w' : World} {base : Nat} {v : Value} {L : List (List Nat)} {xs : List Value} (h : Rws w base v L xs) (hb : Bel w w') : Rws w' base v L xs :=
  ⟨h.len, own_bel h.own hb, h.one, fun i r x h1 h2 => own_bel (h.row i r x h1 h2) hb⟩
theorem Rws.nil (w : World) (base : Nat) : Rws w base (.slice none 0 0) [] [] := ⟨rfl, World.ownsRow_nil _ _ _ _, fun u hu => by (cases hu), fun i r x h => by simp at h⟩
theorem own_apart {w : World} {b b' : Nat} {t t' : TypeId} {s s' n n' : Nat} {v v' : Value} {xs xs' : List Value} (h : w.ownsRow b t s v n xs) (h' : w.ownsRow b' t' s' v' n' xs') (hne : t ≠ t') : v.ownBlock = none ∨ v.ownBlock ≠ v'.ownBlock := by
  rcases h.2 with ⟨rfl, _⟩ | ⟨g, cap, cur, rfl, _, hg, _⟩
  · exact .inl rfl
  · right
    intro e
    rcases h'.2 with ⟨rfl, _⟩ | ⟨g', cap', cur', rfl, _, hg', _⟩
    · simp [Value.ownBlock] at e
    · simp [Value.ownBlock] at e
      subst e
      rw [hg] at hg'
      simp at hg'
      exact hne hg'.2
theorem Rws.add {w w' : World} {base : Nat} {v v' : Value} {L : List (List Nat)} {xs : List Value} {r : List Nat} {x : Value} {o : Obj} (h : Rws w base v L xs) (hx : w.ownsRow base 3 1 x r.length (intq (toI r))) (h1 : x.oneCell' = true)
    (hown : w'.ownsRow base 23 1 v' (L.length + 1) (xs ++ [x])) (hg : (w.alloc o).grownBy w' v.ownBlock) : Rws w' base v' (L ++ [r]) (xs ++ [x]) := by
  have hne : (3 : TypeId) ≠ 23 := by decide
  have keep : ∀ {n : Nat} {y : Value} {zs : List Value}, w.ownsRow base 3 1 y n zs → w'.ownsRow base 3 1 y n zs := fun hy =>
    (own_alloc hy o).kept hg (own_apart hy h.own hne)
  refine ⟨by simp [h.len], by simpa using hown, fun u hu => ?_, fun i r' x' h2 h3 => ?_⟩
  · rcases List.mem_append.1 hu with hu | hu
    · exact h.one u hu
    · obtain rfl := List.mem_singleton.1 hu; exact h1
  · rcases Nat.lt_or_ge i L.length with hi | hi
    · rw [List.getElem?_append_left hi] at h2
      rw [List.getElem?_append_left (by rw [h.len]; exact hi)] at h3
      exact keep (h.row i r' x' h2 h3)
    · rw [List.getElem?_append_right hi] at h2
      rw [List.getElem?_append_right (by rw [h.len]; exact hi), h.len] at h3
      obtain ⟨hi0, rfl⟩ : i - L.length = 0 ∧ r = r' := by
        cases hq : i - L.length with
        | zero => rw [hq] at h2; exact ⟨rfl, by simpa using h2⟩
        | succ q => rw [hq] at h2; simp at h2
      rw [hi0] at h3
      obtain rfl : x = x' := by simpa using h3
      exact keep hx
theorem Rws.sl {w : World} {base : Nat} {v : Value} {L : List (List Nat)} {xs : List Value} (h : Rws w base v L xs) : ∃ A c, v = .slice A L.length c ∧ ∀ i x, xs[i]? = some x → ∃ b o, A = some ⟨b, o, none⟩ ∧ w.cell? ⟨b, o + i, none⟩ = some x := by
  rcases h.own.2 with ⟨rfl, h0⟩ | ⟨g, cap, cur, rfl, hg, hh, hn, hc, hs, ht⟩
  · refine ⟨none, 0, by rw [h0], fun i x hx => ?_⟩
    have : xs = [] := List.eq_nil_of_length_eq_zero (by rw [h.len, h0])
    subst this; simp at hx
  · have hb : Box w g cur 23 := hh
    refine ⟨_, cap, rfl, fun i x hx => ⟨g, 0, rfl, ?_⟩⟩
    rw [Nat.zero_add]
    refine hb.cell i ?_
    rw [← ht, List.getElem?_take] at hx
    split at hx
    · simpa using hx
    · cases hx
def RowsPost (m : Nat) (w : World) (e : Ending) (w' : World) : Prop := ∃ v xs, e = .returned v ∧ Rws w' w.heap.size v (rowsL m) xs ∧ Below w.heap.size w w'
/-- The rows that one row goes on to, by a number below k. -/
def nxt (r : List Nat) (k : Nat) : List (List Nat) := ((List.range k).filter fun j => !r.contains j).map fun j => r ++ [j]
theorem nxt_yes {r : List Nat} {k : Nat} (h : k ∉ r) : nxt r (k + 1) = nxt r k ++ [r ++ [k]] := by
  unfold nxt; rw [List.range_succ, List.filter_append, List.filter_cons_of_pos (by simpa using h), List.map_append]; rfl
theorem nxt_no {r : List Nat} {k : Nat} (h : k ∈ r) : nxt r (k + 1) = nxt r k := by
  unfold nxt; rw [List.range_succ, List.filter_append, List.filter_cons_of_neg (by simpa using h), List.map_append]; simp
def outTo (L : List (List Nat)) (i : Nat) : List (List Nat) := (L.take i).flatMap fun r => nxt r 5
theorem outTo_succ {L : List (List Nat)} {i : Nat} {r : List Nat} (h : L[i]? = some r) : outTo L (i + 1) = outTo L i ++ nxt r 5 := by
  unfold outTo
  obtain ⟨hi, h⟩ := List.getElem?_eq_some_iff.1 h
  rw [List.take_succ_eq_append_getElem hi, List.flatMap_append, h]; simp
theorem toI_mem {r : List Nat} {k : Nat} : ((k : Nat) : Int) ∈ toI r ↔ k ∈ r := by
  unfold toI; rw [List.mem_map]
  exact ⟨fun ⟨j, h1, h2⟩ => by have : j = k := by omega
                               exact this ▸ h1, fun h => ⟨k, h, rfl⟩⟩
theorem nxt_len (r : List Nat) (k : Nat) : (nxt r k).length ≤ k := by
  unfold nxt; rw [List.length_map]; exact Nat.le_trans (List.length_filter_le _ _) (by simp)
theorem outTo_len (L : List (List Nat)) : ∀ i, (outTo L i).length ≤ 5 * i
  | 0 => by simp [outTo]
  | i + 1 => by
    have ih := outTo_len L i
    cases h : L[i]? with
    | none =>
      have h9 : L.length ≤ i := by simpa using h
      unfold outTo at ih ⊢
      rw [List.take_of_length_le (by omega)]
      rw [List.take_of_length_le h9] at ih
      omega
    | some r =>
      rw [outTo_succ h, List.length_append]
      have := nxt_len r 5
      omega
theorem outTo_all {m n : Nat} (h : (rowsL m).length = n) : outTo (rowsL m) n = rowsL (m + 1) := by
  unfold outTo; rw [← h, List.take_length]; rfl
theorem rowsL_len : ∀ m, m ≤ 5 → (rowsL m).length ≤ 120 := by
  intro m hm
  have h9 : ∀ k : Fin 6, (rowsL k.1).length ≤ 120 := by decide +kernel
  exact h9 ⟨m, by omega⟩
theorem own_int {w : World} {base : Nat} {t : TypeId} {v : Value} {l : List Int} {n : Nat} (h : w.ownsRow base t 1 v n (intq l)) : SlI w v l := by
  have hl : l.length = n := by have := h.1; simp [intq] at this; omega
  rcases h.2 with ⟨rfl, rfl⟩ | ⟨g, cap, cur, rfl, hg, hh, hn, hc, hs, ht⟩
  · exact .inl ⟨rfl, List.eq_nil_of_length_eq_zero hl⟩
  · have hb : Box w g cur t := hh
    refine .inr ⟨g, 0, n, cap, rfl, hl, by omega, fun i hi => ?_⟩
    rw [Nat.zero_add]
    refine hb.cell i ?_
    have h9 : (intq l)[i]? = some (.int .i64 (l[i]?.getD 0)) := by
      unfold intq
      rw [List.getElem?_map, List.getElem?_eq_getElem (by omega)]; rfl
    rw [← ht, List.getElem?_take] at h9
    split at h9
    · simpa using h9
    · cases h9
theorem own_formI {w : World} {base : Nat} {t : TypeId} {v : Value} {xs : List Value} {n size : Nat} (h : w.ownsRow base t size v n xs) : ∃ A c, v = .slice A n c := by
  rcases h.2 with ⟨rfl, rfl⟩ | ⟨g, cap, cur, rfl, _⟩
  · exact ⟨_, _, rfl⟩
  · exact ⟨_, _, rfl⟩
theorem fill1r {n : Nat} (hn : n = 1) (f : Fin n → Value) (a : Value) : (Array.ofFn f).setIfInBounds 0 a = #[a] := by
  subst hn
  apply Array.ext
  · simp
  · intro i h1 h2
    have hi : i < 1 := by simpa using h2
    match i, hi with
    | 0, _ => simp [Array.getElem_setIfInBounds]
theorem run_buildI {P : Program} (t e : TypeId) (i : TypeInfo) (ht : P.underlying t = some (.slice e)) (hi : P.info? e = some i) (hz : i.zero = some (.int .i64 0)) (hs : i.size = 1) (x : Int) (w : World) :
    (Instr.buildSlice t 1 #[(0, .int .i64 x)]).run P w = .ok (.slice (some ⟨w.heap.size, 0, none⟩) 1 1) (w.alloc (.cells #[.int .i64 x] e)) := by
  simp [Instr.buildSlice, Sem.run_bind, run_underlying ht, sizeOf, typeInfo, hi, hs, zeroValue, hz, Instr.fill, Value.cells, newRow, newObj, List.zipIdx, Array.range, Result.andThen, go_sem]
  rw [fill1r (by rw [hs])]
  rfl
theorem run_buildS {P : Program} (t e : TypeId) (i : TypeInfo) (ht : P.underlying t = some (.slice e)) (hi : P.info? e = some i) (hz : i.zero = some (.slice none 0 0)) (hs : i.size = 1) (A : Option Addr) (n c : Nat) (w : World) :
    (Instr.buildSlice t 1 #[(0, .slice A n c)]).run P w = .ok (.slice (some ⟨w.heap.size, 0, none⟩) 1 1) (w.alloc (.cells #[.slice A n c] e)) := by
  simp [Instr.buildSlice, Sem.run_bind, run_underlying ht, sizeOf, typeInfo, hi, hs, zeroValue, hz, Instr.fill, Value.cells, newRow, newObj, List.zipIdx, Array.range, Result.andThen, go_sem]
  rw [fill1r (by rw [hs])]
  rfl
theorem buildI {P : Program} {ops : Array Oper} {rest : List Oper} {o : Oper} {a : Act} {w : World} {Q : Exit → Act → World → Prop} (t : TypeId) (x : Operand) (ho : o.op = .buildSlice t 1 #[(0, x)]) (hgd : o.guard = none) (e : TypeId) (i : TypeInfo) (ht : P.underlying t = some (.slice e)) (hi : P.info? e = some i)
    (hz : i.zero = some (.int .i64 0)) (hs : i.size = 1) (n : Int) (hx : a.eval x = .int .i64 n)
    (h : wpList P ops Q rest (a.put o.dst (.slice (some ⟨w.heap.size, 0, none⟩) 1 1)) (w.alloc (.cells #[.int .i64 n] e))) : wpList P ops Q (o :: rest) a w :=
  wpList_plain hgd fun _ hK' => by
    have h9 := hK' _ _ h
    unfold Oper.wp execOp
    simp only [ho, Sem.run_bind, Sem.run_pure, Result.andThen_ok, List.map_toArray, List.map_cons, List.map_nil, hx, run_buildI t e i ht hi hz hs n w]
    exact h9
theorem buildS {P : Program} {ops : Array Oper} {rest : List Oper} {o : Oper} {a : Act} {w : World} {Q : Exit → Act → World → Prop} (t : TypeId) (x : Operand) (ho : o.op = .buildSlice t 1 #[(0, x)]) (hgd : o.guard = none) (e : TypeId) (i : TypeInfo) (ht : P.underlying t = some (.slice e)) (hi : P.info? e = some i)
    (hz : i.zero = some (.slice none 0 0)) (hs : i.size = 1) (A : Option Addr) (n c : Nat) (hx : a.eval x = .slice A n c)
    (h : wpList P ops Q rest (a.put o.dst (.slice (some ⟨w.heap.size, 0, none⟩) 1 1)) (w.alloc (.cells #[.slice A n c] e))) : wpList P ops Q (o :: rest) a w :=
  wpList_plain hgd fun _ hK' => by
    have h9 := hK' _ _ h
    unfold Oper.wp execOp
    simp only [ho, Sem.run_bind, Sem.run_pure, Result.andThen_ok, List.map_toArray, List.map_cons, List.map_nil, hx, run_buildS t e i ht hi hz hs A n c w]
    exact h9
theorem Rws.drop {w : World} {base b : Nat} {v : Value} {L : List (List Nat)} {xs : List Value} (h : Rws w base v L xs) (hb : b ≤ base) : Rws w b v L xs := ⟨h.len, own_drop_alloc h.own hb, h.one, fun i r x h1 h2 => own_drop_alloc (h.row i r x h1 h2) hb⟩
def RwR (w : World) (L : List (List Nat)) (v : Value) (wr : World) : Prop := ∃ xs, Rws wr w.heap.size v L xs ∧ Bel w wr
theorem toI_app (r : List Nat) (k : Nat) : intq (toI (r ++ [k])) = intq (toI r) ++ [.int .i64 k] := by simp [intq, toI]
end Go.Proofs.Ytjindfkomnjceaa

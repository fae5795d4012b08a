/- Contracts of the reference: Copy of ints; rows: all rows of different locks. -/
import Derived.Test.YtoaehoildnanpaaRgP
import Derived.Test.YtoaehoildnanpaaEqInt
import Derived.Test.YtoaehoildnanpaaAppend
import Derived.Test.YtoaehoildnanpaaKeepTw
import Derived.RangeFuncBox
set_option linter.all false
set_option maxRecDepth 100000
namespace Go.Proofs.Ytoaehoildnanpaa
open Go Go.RowKit

def intq (l : List Int) : List Value := l.map (Value.int .i64)
theorem intq_app (l m : List Int) : intq (l ++ m) = intq l ++ intq m := by simp [intq]
theorem intq_one (l : List Int) : ∀ u ∈ intq l, u.oneCell' = true := by
  intro u hu
  obtain ⟨x, _, rfl⟩ := List.mem_map.1 hu
  rfl
def toI (r : List Nat) : List Int := r.map fun k => ((k : Nat) : Int)
theorem qint_info : (Try.prog.info? 3).map (fun i => (i.zero, i.size, i.bytes)) = some (some (.int .i64 0), 1, 8) := by kernel_rfl
theorem qrow_info : (Try.prog.info? 34).map (fun i => (i.zero, i.size, i.bytes)) = some (some (.slice none 0 0), 1, 24) := by kernel_rfl
theorem wpList_append_src {P : Program} {ops : Array Oper} {rest : List Oper} {o : Oper} {a : Act} {w : World} {Q : Exit → Act → World → Prop} (hgd : o.guard = none) (s x : Operand) (t : TypeId)
    (ho : o.op = .call { callee := .builtin .append, args := #[s, x], argTypes := #[t, t] })
    (base : Nat) (e : TypeId) (i : TypeInfo) (z : Value) (size bytes : Nat) (ht : P.underlying t = some (.slice e)) (hi : P.info? e = some i) (hz : i.zero = some z)
    (hsize : i.size = size) (hby : i.bytes = bytes) (hzs : z.cells.size = size) (hsz : 0 < size)
    (v : Value) (n : Nat) (xs : List Value) (hv : a.eval s = v) (hown : w.ownsRow base e size v n xs)
    (A : Option Addr) (m c : Nat) (news : List Value) (hx : a.eval x = .slice A m c) (hl : news.length = m * size) (hs : Src w A m news) (h1 : ∀ u ∈ news, u.oneCell' = true)
    (h63 : n + m ≤ maxLen) (hbytes : (n + m) * bytes ≤ 140737488355328) (hbase : base ≤ w.heap.size)
    (h : ∀ v' w', w'.ownsRow base e size v' (n + m) (xs ++ news) → w.grownBy w' v.ownBlock → (v'.ownBlock = v.ownBlock ∨ v'.ownBlock = some w.heap.size) → wpList P ops Q rest (a.put o.dst v') w') : wpList P ops Q (o :: rest) a w :=
  wpList_plain hgd fun _ hK => wp_append_src s x t ho base e i z size bytes ht hi hz hsize hby hzs hsz v n xs hv hown A m c news hx hl hs h1 h63 hbytes hbase (fun v' w' a b c => hK _ _ (h v' w' a b c))
theorem SlI.src {w : World} {v : Value} {l : List Int} (h : SlI w v l) : ∃ A n c, v = .slice A n c ∧ l.length = n ∧ Src w A n (intq l) := by
  rcases h with ⟨rfl, rfl⟩ | ⟨b, o, n, c, rfl, hl, hm, hc⟩
  · exact ⟨none, 0, 0, rfl, rfl, .inl ⟨rfl, rfl, rfl⟩⟩
  · refine ⟨_, n, c, rfl, hl, .inr ⟨_, rfl, fun j u hu => ?_⟩⟩
    have hj : j < n := by have := (List.getElem?_eq_some_iff.1 hu).1; simp [intq] at this; omega
    have e : (⟨b, o, none⟩ : Addr).add j = ⟨b, o + j, none⟩ := by unfold Addr.add; split <;> simp_all
    rw [e, hc j hj]
    have h9 : l[j]? = some (l[j]?.getD 0) := by rw [List.getElem?_eq_getElem (by omega)]; rfl
    unfold intq at hu
    rw [List.getElem?_map, h9] at hu
    simpa using hu
theorem SlI.bel {w w' : World} {v : Value} {l : List Int} (h : SlI w v l) (hb : Bel w w') : SlI w' v l :=
  h.imp id fun ⟨b, o, n, c, h1, h2, h3, h4⟩ => ⟨b, o, n, c, h1, h2, h3, fun i hi => hb.cell (h4 i hi)⟩
def CopyPost (w : World) (l : List Int) (e : Ending) (w' : World) : Prop := ∃ v, e = .returned v ∧ w'.ownsRow w.heap.size 3 1 v l.length (intq l) ∧ Below w.heap.size w w'
set_option maxHeartbeats 2000000 in
theorem copyint_any (v : Value) (l : List Int) (w : World) (h : SlI w v l) (hn : l.length ≤ 1000) : Calls Try.prog 45 #[v] w (CopyPost w l) := by
  obtain ⟨A, n, c, rfl, hl, hs⟩ := h.src
  obtain ⟨i0, hi0, hz0, hz1, hz2⟩ := info_parts qint_info
  have HO := Lib.hid (World.ownsRow_nil w w.heap.size 3 1)
  have HS := Lib.hid hs
  have HLN := Lib.hid hl
  have HN := Lib.hid hn
  clear hs h hl hn
  go_enter Try.func45, Try.ntmps45
  go_wp2_with (at_builtin; refine wpList_append_src rfl (.const (.slice none 0 0)) (.tmp 3) _ rfl w.heap.size 3 i0 _ 1 8 Try.underlying34 hi0 hz0 hz1 hz2 rfl (by omega) (.slice none 0 0) 0 [] rfl HO.out A n c (intq l) rfl (by rw [← HLN.out]; simp [intq]) HS.out (intq_one l) (by have := HN.out; have := HLN.out; unfold maxLen; omega) (by have := HN.out; have := HLN.out; omega) (Nat.le_refl _) ?_; intro v2 w2 hown2 hg2 hat2)
  go_ret
  refine ⟨_, rfl, ?_, (Below.refl _ w).grown hg2 (Nat.le_refl _) (fun k hk => by cases hk)⟩
  rw [HLN.out]
  simpa using hown2
/-- A slice of rows, all of the call's own; xs: the rows as values. -/
structure Rws (w : World) (base : Nat) (v : Value) (L : List (List Nat)) (xs : List Value) : Prop where
  len : xs.length = L.length
  own : w.ownsRow base 34 1 v L.length xs
  one : ∀ u ∈ xs, u.oneCell' = true
  row : ∀ (i : Nat) (r : List Nat) (x : Value), L[i]? = some r → xs[i]? = some x → w.ownsRow base 3 1 x r.length (intq (toI r))
theorem Rws.bel {w w' : World} {base : Nat} {v : Value} {L : List (List Nat)} {xs : List Value} (h : Rws w base v L xs) (hb : Bel w w') : Rws w' base v L xs :=
  ⟨h.len, own_bel h.own hb, h.one, fun i r x h1 h2 => own_bel (h.row i r x h1 h2) hb⟩
theorem Rws.nil (w : World) (base : Nat) : Rws w base (.slice none 0 0) [] [] := ⟨rfl, World.ownsRow_nil _ _ _ _, fun u hu => by (cases hu), fun i r x h => by simp at h⟩
theorem own_apart {w : World} {b b' : Nat} {t t' : TypeId} {s s' n n' : Nat} {v v' : Value} {xs xs' : List Value} (h : w.ownsRow b t s v n xs) (h' : w.ownsRow b' t' s' v' n' xs') (hne : t ≠ t') : v.ownBlock = none ∨ v.ownBlock ≠ v'.ownBlock := by
  rcases h.2 with ⟨rfl, _⟩ | ⟨g, cap, cur, rfl, _, hg, _⟩
  · exact .inl rfl
  · right
    intro e
    rcases h'.2 with ⟨rfl, _⟩ | ⟨g', cap', cur', rfl, _, hg', _⟩
    · simp [Value.ownBlock] at e
    · simp [Value.ownBlock] at e
      subst e
      rw [hg] at hg'
      simp at hg'
      exact hne hg'.2
theorem Rws.add {w w' : World} {base : Nat} {v v' : Value} {L : List (List Nat)} {xs : List Value} {r : List Nat} {x : Value} {o : Obj} (h : Rws w base v L xs) (hx : w.ownsRow base 3 1 x r.length (intq (toI r))) (h1 : x.oneCell' = true)
    (hown : w'.ownsRow base 34 1 v' (L.length + 1) (xs ++ [x])) (hg : (w.alloc o).grownBy w' v.ownBlock) : Rws w' base v' (L ++ [r]) (xs ++ [x]) := by
  have hne : (3 : TypeId) ≠ 34 := by decide
  have keep : ∀ {n : Nat} {y : Value} {zs : List Value}, w.ownsRow base 3 1 y n zs → w'.ownsRow base 3 1 y n zs := fun hy =>
    (own_alloc hy o).kept hg (own_apart hy h.own hne)
  refine ⟨by simp [h.len], by simpa using hown, fun u hu => ?_, fun i r' x' h2 h3 => ?_⟩
  · rcases List.mem_append.1 hu with hu | hu
    · exact h.one u hu
    · obtain rfl := List.mem_singleton.1 hu; exact h1
  · rcases Nat.lt_or_ge i L.length with hi | hi
    · rw [List.getElem?_append_left hi] at h2
      rw [List.getElem?_append_left (by rw [h.len]; exact hi)] at h3
      exact keep (h.row i r' x' h2 h3)
    · rw [List.getElem?_append_right hi] at h2
      rw [List.getElem?_append_right (by rw [h.len]; exact hi), h.len] at h3
      obtain ⟨hi0, rfl⟩ : i - L.length = 0 ∧ r = r' := by
        cases hq : i - L.length with
        | zero => rw [hq] at h2; exact ⟨rfl, by simpa using h2⟩
        | succ q => rw [hq] at h2; simp at h2
      rw [hi0] at h3
      obtain rfl : x = x' := by simpa using h3
      exact keep hx
theorem Rws.sl {w : World} {base : Nat} {v : Value} {L : List (List Nat)} {xs : List Value} (h : Rws w base v L xs) : ∃ A c, v = .slice A L.length c ∧ ∀ i x, xs[i]? = some x → ∃ b o, A = some ⟨b, o, none⟩ ∧ w.cell? ⟨b, o + i, none⟩ = some x := by
  rcases h.own.2 with ⟨rfl, h0⟩ | ⟨g, cap, cur, rfl, hg, hh, hn, hc, hs, ht⟩
  · refine ⟨none, 0, by rw [h0], fun i x hx => ?_⟩
    have : xs = [] := List.eq_nil_of_length_eq_zero (by rw [h.len, h0])
    subst this; simp at hx
  · have hb : Box w g cur 34 := hh
    refine ⟨_, cap, rfl, fun i x hx => ⟨g, 0, rfl, ?_⟩⟩
    rw [Nat.zero_add]
    refine hb.cell i ?_
    rw [← ht, List.getElem?_take] at hx
    split at hx
    · simpa using hx
    · cases hx
def RowsPost (m : Nat) (w : World) (e : Ending) (w' : World) : Prop := ∃ v xs, e = .returned v ∧ Rws w' w.heap.size v (rowsL m) xs ∧ Below w.heap.size w w'
/-- The rows that one row goes on to, by a number below k. -/
def nxt (r : List Nat) (k : Nat) : List (List Nat) := ((List.range k).filter fun j => !r.contains j).map fun j => r ++ [j]
theorem nxt_yes {r : List Nat} {k : Nat} (h : k ∉ r) : nxt r (k + 1) = nxt r k ++ [r ++ [k]] := by
  unfold nxt; rw [List.range_succ, List.filter_append, List.filter_cons_of_pos (by simpa using h), List.map_append]; rfl
theorem nxt_no {r : List Nat} {k : Nat} (h : k ∈ r) : nxt r (k + 1) = nxt r k := by
  unfold nxt; rw [List.range_succ, List.filter_append, List.filter_cons_of_neg (by simpa using h), List.map_append]; simp
def outTo (L : List (List Nat)) (i : Nat) : List (List Nat) := (L.take i).flatMap fun r => nxt r 5
theorem outTo_succ {L : List (List Nat)} {i : Nat} {r : List Nat} (h : L[i]? = some r) : outTo L (i + 1) = outTo L i ++ nxt r 5 := by
  unfold outTo
  obtain ⟨hi, h⟩ := List.getElem?_eq_some_iff.1 h
  rw [List.take_succ_eq_append_getElem hi, List.flatMap_append, h]; simp
theorem toI_mem {r : List Nat} {k : Nat} : ((k : Nat) : Int) ∈ toI r ↔ k ∈ r := by
  unfold toI; rw [List.mem_map]
  exact ⟨fun ⟨j, h1, h2⟩ => by have : j = k := by omega
                               exact this ▸ h1, fun h => ⟨k, h, rfl⟩⟩
theorem nxt_len (r : List Nat) (k : Nat) : (nxt r k).length ≤ k := by
  unfold nxt; rw [List.length_map]; exact Nat.le_trans (List.length_filter_le _ _) (by simp)
theorem outTo_len (L : List (List Nat)) : ∀ i, (outTo L i).length ≤ 5 * i
  | 0 => by simp [outTo]
  | i + 1 => by
    have ih := outTo_len L i
    cases h : L[i]? with
    | none =>
      have h9 : L.length ≤ i := by simpa using h
      unfold outTo at ih ⊢
      rw [List.take_of_length_le (by omega)]
      rw [List.take_of_length_le h9] at ih
      omega
    | some r =>
      rw [outTo_succ h, List.length_append]
      have := nxt_len r 5
      omega
theorem outTo_all {m n : Nat} (h : (rowsL m).length = n) : outTo (rowsL m) n = rowsL (m + 1) := by
  unfold outTo; rw [← h, List.take_length]; rfl
theorem rowsL_len : ∀ m, m ≤ 5 → (rowsL m).length ≤ 120 := by
  intro m hm
  have h9 : ∀ k : Fin 6, (rowsL k.1).length ≤ 120 := by decide +kernel
  exact h9 ⟨m, by omega⟩
theorem own_int {w : World} {base : Nat} {t : TypeId} {v : Value} {l : List Int} {n : Nat} (h : w.ownsRow base t 1 v n (intq l)) : SlI w v l := by
  have hl : l.length = n := by have := h.1; simp [intq] at this; omega
  rcases h.2 with ⟨rfl, rfl⟩ | ⟨g, cap, cur, rfl, hg, hh, hn, hc, hs, ht⟩
  · exact .inl ⟨rfl, List.eq_nil_of_length_eq_zero hl⟩
  · have hb : Box w g cur t := hh
    refine .inr ⟨g, 0, n, cap, rfl, hl, by omega, fun i hi => ?_⟩
    rw [Nat.zero_add]
    refine hb.cell i ?_
    have h9 : (intq l)[i]? = some (.int .i64 (l[i]?.getD 0)) := by
      unfold intq
      rw [List.getElem?_map, List.getElem?_eq_getElem (by omega)]; rfl
    rw [← ht, List.getElem?_take] at h9
    split at h9
    · simpa using h9
    · cases h9
theorem own_form {w : World} {base : Nat} {t : TypeId} {v : Value} {xs : List Value} {n size : Nat} (h : w.ownsRow base t size v n xs) : ∃ A c, v = .slice A n c := by
  rcases h.2 with ⟨rfl, rfl⟩ | ⟨g, cap, cur, rfl, _⟩
  · exact ⟨_, _, rfl⟩
  · exact ⟨_, _, rfl⟩
theorem fill1r {n : Nat} (hn : n = 1) (f : Fin n → Value) (a : Value) : (Array.ofFn f).setIfInBounds 0 a = #[a] := by
  subst hn
  apply Array.ext
  · simp
  · intro i h1 h2
    have hi : i < 1 := by simpa using h2
    match i, hi with
    | 0, _ => simp [Array.getElem_setIfInBounds]
theorem run_buildI {P : Program} (t e : TypeId) (i : TypeInfo) (ht : P.underlying t = some (.slice e)) (hi : P.info? e = some i) (hz : i.zero = some (.int .i64 0)) (hs : i.size = 1) (x : Int) (w : World) :
    (Instr.buildSlice t 1 #[(0, .int .i64 x)]).run P w = .ok (.slice (some ⟨w.heap.size, 0, none⟩) 1 1) (w.alloc (.cells #[.int .i64 x] e)) := by
  simp [Instr.buildSlice, Sem.run_bind, run_underlying ht, sizeOf, typeInfo, hi, hs, zeroValue, hz, Instr.fill, Value.cells, newRow, newObj, List.zipIdx, Array.range, Result.andThen, go_sem]
  rw [fill1r (by rw [hs])]
  rfl
theorem run_buildS {P : Program} (t e : TypeId) (i : TypeInfo) (ht : P.underlying t = some (.slice e)) (hi : P.info? e = some i) (hz : i.zero = some (.slice none 0 0)) (hs : i.size = 1) (A : Option Addr) (n c : Nat) (w : World) :
    (Instr.buildSlice t 1 #[(0, .slice A n c)]).run P w = .ok (.slice (some ⟨w.heap.size, 0, none⟩) 1 1) (w.alloc (.cells #[.slice A n c] e)) := by
  simp [Instr.buildSlice, Sem.run_bind, run_underlying ht, sizeOf, typeInfo, hi, hs, zeroValue, hz, Instr.fill, Value.cells, newRow, newObj, List.zipIdx, Array.range, Result.andThen, go_sem]
  rw [fill1r (by rw [hs])]
  rfl
theorem buildI {P : Program} {ops : Array Oper} {rest : List Oper} {o : Oper} {a : Act} {w : World} {Q : Exit → Act → World → Prop} (t : TypeId) (x : Operand) (ho : o.op = .buildSlice t 1 #[(0, x)]) (hgd : o.guard = none) (e : TypeId) (i : TypeInfo) (ht : P.underlying t = some (.slice e)) (hi : P.info? e = some i)
    (hz : i.zero = some (.int .i64 0)) (hs : i.size = 1) (n : Int) (hx : a.eval x = .int .i64 n)
    (h : wpList P ops Q rest (a.put o.dst (.slice (some ⟨w.heap.size, 0, none⟩) 1 1)) (w.alloc (.cells #[.int .i64 n] e))) : wpList P ops Q (o :: rest) a w :=
  wpList_plain hgd fun _ hK' => by
    have h9 := hK' _ _ h
    unfold Oper.wp execOp
    simp only [ho, Sem.run_bind, Sem.run_pure, Result.andThen_ok, List.map_toArray, List.map_cons, List.map_nil, hx, run_buildI t e i ht hi hz hs n w]
    exact h9
theorem buildS {P : Program} {ops : Array Oper} {rest : List Oper} {o : Oper} {a : Act} {w : World} {Q : Exit → Act → World → Prop} (t : TypeId) (x : Operand) (ho : o.op = .buildSlice t 1 #[(0, x)]) (hgd : o.guard = none) (e : TypeId) (i : TypeInfo) (ht : P.underlying t = some (.slice e)) (hi : P.info? e = some i)
    (hz : i.zero = some (.slice none 0 0)) (hs : i.size = 1) (A : Option Addr) (n c : Nat) (hx : a.eval x = .slice A n c)
    (h : wpList P ops Q rest (a.put o.dst (.slice (some ⟨w.heap.size, 0, none⟩) 1 1)) (w.alloc (.cells #[.slice A n c] e))) : wpList P ops Q (o :: rest) a w :=
  wpList_plain hgd fun _ hK' => by
    have h9 := hK' _ _ h
    unfold Oper.wp execOp
    simp only [ho, Sem.run_bind, Sem.run_pure, Result.andThen_ok, List.map_toArray, List.map_cons, List.map_nil, hx, run_buildS t e i ht hi hz hs A n c w]
    exact h9
theorem Rws.drop {w : World} {base b : Nat} {v : Value} {L : List (List Nat)} {xs : List Value} (h : Rws w base v L xs) (hb : b ≤ base) : Rws w b v L xs := ⟨h.len, own_drop_alloc h.own hb, h.one, fun i r x h1 h2 => own_drop_alloc (h.row i r x h1 h2) hb⟩
def RwR (w : World) (L : List (List Nat)) (v : Value) (wr : World) : Prop := ∃ xs, Rws wr w.heap.size v L xs ∧ Bel w wr
theorem rows_zero (w : World) : Calls Try.prog 38 #[.int .i64 0] w (RowsPost 0 w) := by
  go_enter Try.func38, Try.ntmps38
  go_wp2
  go_ret
  have hb := Box.new w #[Value.slice none 0 0] 34
  refine ⟨_, [.slice none 0 0], rfl, ⟨rfl, own_lit hb (Nat.le_refl _) 1 1 (by simp [maxLen]) rfl, fun u hu => ?_, fun i r x h1 h2 => ?_⟩, (Below.refl _ _).alloc (Nat.le_refl _) _⟩
  · obtain rfl := List.mem_singleton.1 hu; rfl
  · match i, h1, h2 with
    | 0, h1, h2 =>
      obtain rfl : [] = r := by simpa [rowsL] using h1
      obtain rfl : (.slice none 0 0) = x := by simpa using h2
      exact World.ownsRow_nil _ _ _ _
    | i + 1, h1, _ => simp [rowsL] at h1
theorem toI_app (r : List Nat) (k : Nat) : intq (toI (r ++ [k])) = intq (toI r) ++ [.int .i64 k] := by simp [intq, toI]
set_option maxHeartbeats 8000000 in
theorem rows_any : ∀ (m : Nat) (y : Int) (w : World), m ≤ 5 → y = m → Calls Try.prog 38 #[.int .i64 y] w (RowsPost m w)
  | 0, y, w, _, hy => by
    obtain rfl : y = 0 := by simpa using hy
    exact rows_zero w
  | m + 1, y, w, hm, hy => by
    have ih := rows_any m (y - 1) w (by omega) (by omega)
    obtain ⟨i0, hi0, hz0, hz1, hz2⟩ := info_parts qint_info
    obtain ⟨j0, hj0, gz0, gz1, gz2⟩ := info_parts qrow_info
    have J := Lib.hid (And.intro hi0 (And.intro hz0 (And.intro hz1 hz2)))
    have G := Lib.hid (And.intro hj0 (And.intro gz0 (And.intro gz1 gz2)))
    clear hi0 hz0 hz1 hz2 hj0 gz0 gz1 gz2
    have hy1 : ¬ y = 0 := by omega
    have hy2 : (y == 0) = false := by simpa using hy1
    have hy3 : IntKind.i64.wrap (y - 1) = y - 1 := IntWalk.i64_in _ (by omega)
    have IH := Lib.hid ih
    have HM := Lib.hid (rowsL_len m (by omega))
    clear ih hy
    go_enter Try.func38, Try.ntmps38
    go_wp2_with fail
    refine IH.out.mono ?_
    rintro e w1 ⟨v1, xs1, rfl, hr1, hb1⟩
    have HR1 := Lib.hid hr1
    have HB1 := Lib.hid hb1
    obtain ⟨A1, c1, rfl, hc1⟩ := hr1.sl
    have HC1 := Lib.hid hc1
    have H0 := Lib.hid (⟨[], Rws.nil w1 w1.heap.size, Bel.refl w1⟩ : RwR w1 (outTo (rowsL m) 0) (.slice none 0 0) w1)
    clear hr1 hb1 hc1
    generalize hn : (rowsL m).length = n at *
    have HN := Lib.hid hn
    have hn120 := HM.out
    clear hn
    go_wp2
    go_loopw [3, 14] (fun v t14 wr => ∃ i : Nat, i ≤ n ∧ t14 = .int .i64 i ∧ RwR w1 (outTo (rowsL m) i) v wr) (fun _ t14 _ => n - (intOf t14).toNat)
    case atStart => exact ⟨0, by omega, rfl, H0.out⟩
    case round =>
      obtain ⟨i, hi, rfl, hr⟩ := hrel
      have HP := Lib.hid hr
      clear hr H0
      by_cases hlt : i < n
      · have hlt' : (i : Int) < n := by omega
        have hiL : i < (rowsL m).length := by rw [HN.out]; exact hlt
        have hix : i < xs1.length := by rw [HR1.out.len]; exact hiL
        have hq : (rowsL m)[i]? = some ((rowsL m)[i]) := List.getElem?_eq_getElem hiL
        have hqx : xs1[i]? = some (xs1[i]) := List.getElem?_eq_getElem hix
        generalize (rowsL m)[i] = r at *
        generalize xs1[i] = x at *
        have hrx := HR1.out.row i r x hq hqx
        obtain ⟨b1, o1, rfl, hcell⟩ := HC1.out i x hqx
        obtain ⟨xs, _, hbw⟩ := HP.out
        have hcell' := hbw.cell hcell
        have hrl : r.length ≤ 5 := by
          have := (rows_mem.1 (List.mem_of_getElem? hq)).1
          omega
        obtain ⟨Ax, nx, cx, rfl, hsx, hmx⟩ := (own_int hrx).form
        have HX := Lib.hid (own_int hrx)
        have HSX := Lib.hid hsx
        have HMX := Lib.hid hmx
        have HQ := Lib.hid hq
        have HRL := Lib.hid hrl
        have HZ := Lib.hid (show RwR w1 (outTo (rowsL m) i ++ nxt r 0) _ _ from (by rw [show nxt r 0 = [] from rfl, List.append_nil]; exact HP.out))
        clear hcell hbw hq hqx hrx hsx hmx hrl
        go_wp2
        go_loopw [3, 18] (fun v t18 wr => ∃ k : Nat, k ≤ 5 ∧ t18 = .int .i64 k ∧ RwR w1 (outTo (rowsL m) i ++ nxt r k) v wr) (fun _ t18 _ => 5 - (intOf t18).toNat)
        case atStart => exact ⟨0, by omega, rfl, HZ.out⟩
        case round =>
          obtain ⟨k, hk, rfl, hr⟩ := hrel
          have HY := Lib.hid hr
          clear hr HZ HP
          by_cases hk5 : k < 5
          · have hk5' : (k : Int) < 5 := by omega
            obtain ⟨xs2, hrw, hbw2⟩ := HY.out
            have HRW := Lib.hid hrw
            have HBW := Lib.hid hbw2
            have hlen : (outTo (rowsL m) i ++ nxt r k).length ≤ 605 := by
              rw [List.length_append]
              have h1 := outTo_len (rowsL m) i
              have h2 := nxt_len r k
              omega
            have HLN := Lib.hid hlen
            have HSK := Lib.hid (HSX.out.keep hbw2)
            have HXK := Lib.hid (HX.out.bel hbw2)
            clear hrw hbw2 hlen hcell'
            generalize hL : outTo (rowsL m) i ++ nxt r k = L at *
            have HLE := Lib.hid hL
            clear hL
            go_wp2_with fail
            refine (hasint_any Ax nx cx (toI r) k _ HSK.out (by have := HMX.out; unfold maxLen at this; omega)).mono ?_
            rintro e w9 ⟨rfl, rfl⟩
            cases hd : decide (((k : Nat) : Int) ∈ toI r)
            · have hk9 : k ∉ r := fun h => by rw [decide_eq_false_iff_not, toI_mem] at hd; exact hd h
              have HK9 := Lib.hid hk9
              clear hd hk9
              go_wp2_with fail
              refine (copyint_any _ (toI r) _ HXK.out (by have := HRL.out; simp [toI]; omega)).mono ?_
              rintro e w2 ⟨v2, rfl, hown2, hb2⟩
              rw [show (toI r).length = r.length by simp [toI]] at hown2
              have HB2 := Lib.hid (Bel.of hb2)
              have HV2 := Lib.hid (own_alloc hown2 (.cells #[.int .i64 k] 3))
              have HN2 := Lib.hid (Box.news (l := [.int .i64 k]) (Box.new w2 #[.int .i64 k] 3))
              have HSZ2 := Lib.hid (HB2.out.alloc (.cells #[.int .i64 k] 3)).size
              clear hown2 hb2
              go_wp2_with (first | (refine buildI 34 _ rfl rfl 3 i0 Try.underlying34 J.out.1 J.out.2.1 J.out.2.2.1 k rfl ?_) | (at_builtin; refine wpList_append_own_at _ rfl (.tmp 27) (.tmp 29) _ rfl _ 3 i0 _ 1 8 Try.underlying34 J.out.1 J.out.2.1 J.out.2.2.1 J.out.2.2.2 rfl (by omega) _ r.length _ rfl HV2.out ⟨w2.heap.size, 0, none⟩ 1 1 [.int .i64 k] rfl rfl HN2.out (by simp [Value.oneCell']) (by have := HRL.out; unfold maxLen; omega) (by have := HRL.out; omega) HSZ2.out ?_; intro v4 w4 hown4 hg4 _ hat4; obtain ⟨A4, c4, rfl⟩ := own_form hown4; have HB4 := Lib.hid (Bel.of ((HB2.out.alloc _).out.grown hg4 HSZ2.out (own_block_ge HV2.out))); have HR4 := Lib.hid (HRW.out.bel HB4.out); have HO4 := Lib.hid (own_alloc HR4.out.own (.cells #[.slice A4 (r.length + 1) c4] 34)); have HN4 := Lib.hid (Box.news (l := [.slice A4 (r.length + 1) c4]) (Box.new w4 #[.slice A4 (r.length + 1) c4] 34)); have HSZ4 := Lib.hid ((HBW.out.trans HB4.out).alloc (.cells #[.slice A4 (r.length + 1) c4] 34)).size; have HX4 := Lib.hid (own_drop_alloc hown4 (Bel.size HBW.out)); clear hown4 hg4 hat4) | (refine buildS 62 _ rfl rfl 34 j0 Try.underlying62 G.out.1 G.out.2.1 G.out.2.2.1 A4 (r.length + 1) c4 rfl ?_) | (at_builtin; refine wpList_append_own_at _ rfl (.tmp 25) (.tmp 31) _ rfl w1.heap.size 34 j0 _ 1 24 Try.underlying62 G.out.1 G.out.2.1 G.out.2.2.1 G.out.2.2.2 rfl (by omega) _ L.length _ rfl HO4.out ⟨w4.heap.size, 0, none⟩ 1 1 [.slice A4 (r.length + 1) c4] rfl rfl HN4.out (by simp [Value.oneCell']) (by have := HLN.out; unfold maxLen; omega) (by have := HLN.out; omega) HSZ4.out ?_; intro v6 w6 hown6 hg6 _ _))
              refine ⟨⟨k + 1, by omega, by go_num, ?_⟩, by simp [intOf]; omega⟩
              rw [nxt_yes HK9.out, ← List.append_assoc, HLE.out]
              refine ⟨_, HR4.out.add ?_ rfl hown6 hg6, ((HBW.out.trans HB4.out).alloc _).out.grown hg6 HSZ4.out (own_block_ge HO4.out)⟩
              rw [toI_app, List.length_append]
              exact HX4.out
            · have hk9 : k ∈ r := by rw [decide_eq_true_iff, toI_mem] at hd; exact hd
              have HS := Lib.hid (show RwR w1 (outTo (rowsL m) i ++ nxt r (k + 1)) _ _ from (by rw [nxt_no hk9, HLE.out]; exact HY.out))
              clear hd hk9
              go_wp2
              go_roundw
              case rel => exact ⟨k + 1, by omega, by go_num, HS.out⟩
              case measure => simp [intOf]; omega
          · obtain rfl : k = 5 := by omega
            have HS := Lib.hid (show RwR w1 (outTo (rowsL m) (i + 1)) _ _ from (by rw [outTo_succ HQ.out]; exact HY.out))
            go_wp2
            go_roundw
            case rel => exact ⟨i + 1, by omega, by go_num, HS.out⟩
            case measure => simp [intOf]; omega
      · obtain rfl : i = n := by omega
        have HE := HP.out
        rw [outTo_all HN.out] at HE
        have HE' := Lib.hid HE
        clear HE
        go_wp2
        go_ret
        obtain ⟨xs, hx, hb⟩ := HE'.out
        exact ⟨_, xs, rfl, hx.drop (Bel.size (Bel.of HB1.out)), (Bel.of HB1.out).trans hb⟩
end Go.Proofs.Ytoaehoildnanpaa

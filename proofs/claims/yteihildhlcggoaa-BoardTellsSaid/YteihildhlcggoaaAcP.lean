/- Rows of ten cells: the accesses of a trace, with their places and clocks; plain facts on the list of their places. -/
import Derived.Test.YteihildhlcggoaaFs
import Derived.Test.YteihildhlcggoaaAppend
import Derived.Test.YteihildhlcggoaaGrow
import Derived.Test.YteihildhlcggoaaMid
import Derived.Test.YteihildhlcggoaaRr
set_option linter.all false
set_option maxRecDepth 100000
namespace Go.Proofs.Yteihildhlcggoaa
open Go Go.RowKit

theorem TAc : RowTy Try.prog 112 10 := ⟨_, Try.underlying112, rfl, by kernel_rfl⟩
theorem ac_info : (Try.prog.info? 112).map (fun i => (i.zero, i.size, i.bytes)) = some (some (.agg #[.int .i64 0, .int .i64 0, .int .i64 0, .int .i64 0, .int .i64 0, .int .i64 0, .int .i64 0, .int .i64 0, .int .i64 0, .int .i64 0]), 10, 80) := by kernel_rfl
/-- One access: its event, its place, its thread's clock. -/
def acl (e : Ev) (k : Nat) (c : Nat → Nat) : List Value := [.int .i64 e.k, .int .i64 e.t, .int .i64 e.o, .int .i64 (k : Nat), .int .i64 (c 0 : Nat), .int .i64 (c 1 : Nat), .int .i64 (c 2 : Nat), .int .i64 (c 3 : Nat), .int .i64 (c 4 : Nat), .int .i64 (c 5 : Nat)]
def acv (e : Ev) (k : Nat) (c : Nat → Nat) : Array Value := #[.int .i64 e.k, .int .i64 e.t, .int .i64 e.o, .int .i64 (k : Nat), .int .i64 (c 0 : Nat), .int .i64 (c 1 : Nat), .int .i64 (c 2 : Nat), .int .i64 (c 3 : Nat), .int .i64 (c 4 : Nat), .int .i64 (c 5 : Nat)]
theorem acl_arr (e : Ev) (k : Nat) (c : Nat → Nat) : (acl e k c).toArray = acv e k c := rfl
theorem acv_all (e : Ev) (k : Nat) (c : Nat → Nat) : (acv e k c).all (·.oneCell') = true := by simp [acv, Value.oneCell']
theorem acl_one (e : Ev) (k : Nat) (c : Nat → Nat) : ∀ v ∈ acl e k c, v.oneCell' = true := by simp [acl, Value.oneCell']
theorem acl_length (e : Ev) (k : Nat) (c : Nat → Nat) : (acl e k c).length = 10 := rfl
theorem acv_own (e : Ev) (k : Nat) (c : Nat → Nat) {u : Nat} (hu : u < 6) : (acv e k c)[4 + u]? = some (.int .i64 (c u : Nat)) := by
  match u, hu with
  | 0, _ => rfl
  | 1, _ => rfl
  | 2, _ => rfl
  | 3, _ => rfl
  | 4, _ => rfl
  | 5, _ => rfl
theorem ac_row {w : World} {B : Nat} {t : TypeId} {e : Ev} {k : Nat} {c : Nat → Nat} (h : Box w B (acv e k c) t) : w.rangeAt B 4 (clkl (ck c)) := fun j v hv => by
  have hj : j < 6 := by have := (List.getElem?_eq_some_iff.1 hv).1; simpa [clkl_length] using this
  rw [clkl_get _ j hj] at hv
  cases hv
  exact h.cell (4 + j) (acv_own e k c hj)
/-- The world behind 'for .. := range l' over accesses, that has taken its next. -/
def acZ : Array Value := #[.int .i64 0, .int .i64 0, .int .i64 0, .int .i64 0, .int .i64 0, .int .i64 0, .int .i64 0, .int .i64 0, .int .i64 0, .int .i64 0]
def acld (w : World) (e : Ev) (k : Nat) (c : Nat → Nat) (t : TypeId) : World := (w.alloc (.cells acZ t)).setRow w.heap.size (acv e k c)
theorem acld_box (w : World) (e : Ev) (k : Nat) (c : Nat → Nat) (t : TypeId) : Box (acld w e k c t) w.heap.size (acv e k c) t := (Box.new w _ t).setRow _
theorem acld_below (w : World) (e : Ev) (k : Nat) (c : Nat → Nat) (t : TypeId) : Bel w (acld w e k c t) := below_setRow' ((Below.refl _ _).alloc (Nat.le_refl _) _) _ _ (Nat.le_refl _)
section
variable {P : Program} {ops : Array Oper} {rest : List Oper} {o : Oper} {a : Act} {w' w : World} {Q : Exit → Act → World → Prop} {ty : TypeId}
theorem acld_store (hT : RowTy P ty 10) (x y : Operand) (ho : o.op = .store ty x y) (hgd : o.guard = none) {e : Ev} {k : Nat} {c : Nat → Nat} (t : TypeId)
    (hy : a.eval y = .agg (acv e k c)) (hw : w' = w.alloc (.cells acZ t)) (hx : a.eval x = .pointer (some ⟨w.heap.size, 0, none⟩))
    (h : wpList P ops Q rest (a.put o.dst undef) (acld w e k c t)) : wpList P ops Q (o :: rest) a w' := by
  subst hw
  exact storeB ty x y ho hgd hx hy (Box.new w _ t) rfl hT (acv_all e k c) h
theorem load_ac (hT : RowTy P ty 10) (x : Operand) (ho : o.op = .load ty x) (hgd : o.guard = none) {b off : Nat} {e : Ev} {k : Nat} {c : Nat → Nat}
    (hx : a.eval x = .pointer (some ⟨b, off, none⟩)) (hr : w.rangeAt b off (acl e k c))
    (h : wpList P ops Q rest (a.put o.dst (.agg (acv e k c))) w) : wpList P ops Q (o :: rest) a w := by
  obtain ⟨d, hu, hd, hi⟩ := hT
  exact wpList_load_mid hgd ty x ho b off hx (acl e k c) d hr hu hd hi h
/-- A clock that lies in the middle of a block. -/
theorem load_cm (hT : RowTy P ty 6) (x : Operand) (ho : o.op = .load ty x) (hgd : o.guard = none) {b off : Nat} {c : Nat → Int}
    (hx : a.eval x = .pointer (some ⟨b, off, none⟩)) (hr : w.rangeAt b off (clkl c))
    (h : wpList P ops Q rest (a.put o.dst (.agg (clk c))) w) : wpList P ops Q (o :: rest) a w := by
  obtain ⟨d, hu, hd, hi⟩ := hT
  exact wpList_load_mid hgd ty x ho b off hx (clkl c) d hr hu hd hi h
/-- In a drawn region whose head leaves the world: a row. -/
theorem s_load {R : Act → Prop} (ty : TypeId) (x : Operand) (ho : o.op = .load ty x) (hw : Region.wanted o (yielded ops a.tmps) = true) {B : Nat} {c : Array Value} {t : TypeId} (hx : a.eval x = .pointer (some ⟨B, 0, none⟩)) (hb : Box w B c t) (hT : RowTy P ty c.size)
    (h : wpStill P ops w R rest (a.put o.dst (.agg c))) : wpStill P ops w R (o :: rest) a := by
  obtain ⟨d, hu, hd, hi⟩ := hT
  unfold wpStill
  rw [hw]
  simp only [if_true]
  unfold Oper.still execOp
  simp only [ho, hx, Instr.loadAt, Instr.sureAddr, Sem.run_bind, Sem.run_pure, Result.andThen_ok, run_loadVar_row w B t ty c (0, 0) d hb hu (by cases d <;> simp_all [TypeDesc.isRow]) hi, Oper.stillUpon_value]
  exact h
end
theorem fill10 (D : Array Value) (h : D.size = 10) (a b c d e g i j k m : Value) : (((((((((D.setIfInBounds 0 a).setIfInBounds 1 b).setIfInBounds 2 c).setIfInBounds 3 d).setIfInBounds 4 e).setIfInBounds 5 g).setIfInBounds 6 i).setIfInBounds 7 j).setIfInBounds 8 k).setIfInBounds 9 m = #[a, b, c, d, e, g, i, j, k, m] := by
  obtain ⟨L⟩ := D
  match L, h with
  | [_, _, _, _, _, _, _, _, _, _], _ => simp only [List.setIfInBounds_toArray, List.set_cons_succ, List.set_cons_zero]
theorem run_builda (t e : TypeId) {P : Program} (i : TypeInfo) (ht : P.underlying t = some (.slice e)) (hi : P.info? e = some i) (hz : i.zero = some (.agg acZ)) (hs : i.size = 10) (v : Ev) (k : Nat) (c : Nat → Nat) (w : World) :
    (Instr.buildSlice t 1 #[(0, .agg (acv v k c))]).run P w = .ok (.slice (some ⟨w.heap.size, 0, none⟩) 1 1) (w.alloc (.cells (acv v k c) e)) := by
  simp [Instr.buildSlice, Sem.run_bind, run_underlying ht, sizeOf, typeInfo, hi, hs, zeroValue, hz, Instr.fill, Value.cells, acv, acZ, newRow, newObj, List.zipIdx, Array.range, Result.andThen, go_sem]
  rw [fill10 _ (by simp [hs])]
  rfl
/-- A slice of one access. -/
theorem builda {P : Program} {ops : Array Oper} {rest : List Oper} {o : Oper} {a : Act} {w : World} {Q : Exit → Act → World → Prop} (t : TypeId) (x : Operand) (ho : o.op = .buildSlice t 1 #[(0, x)]) (hgd : o.guard = none) (e : TypeId) (i : TypeInfo) (ht : P.underlying t = some (.slice e)) (hi : P.info? e = some i)
    (hz : i.zero = some (.agg acZ)) (hs : i.size = 10) (v : Ev) (k : Nat) (c : Nat → Nat) (hx : a.eval x = .agg (acv v k c))
    (h : wpList P ops Q rest (a.put o.dst (.slice (some ⟨w.heap.size, 0, none⟩) 1 1)) (w.alloc (.cells (acv v k c) e))) : wpList P ops Q (o :: rest) a w := by
  refine wpList_plain hgd fun _ hK' => ?_
  unfold Oper.wp execOp
  simp only [ho, Sem.run_bind, Sem.run_pure, Result.andThen_ok, List.map_toArray, List.map_cons, List.map_nil, hx, run_builda t e i ht hi hz hs v k c w]
  exact hK' _ _ h
/-- The places of the accesses ahead of event k. -/
def isAc (l : List Ev) (k : Nat) : Bool := decide (kZ l k = 1 ∨ kZ l k = 2)
def acT (l : List Ev) : Nat → List Nat
  | 0 => []
  | k + 1 => if isAc l k = true then acT l k ++ [k] else acT l k
theorem acT_yes {l : List Ev} {k : Nat} (h : isAc l k = true) : acT l (k + 1) = acT l k ++ [k] := by rw [acT, if_pos h]
theorem acT_no {l : List Ev} {k : Nat} (h : ¬ isAc l k = true) : acT l (k + 1) = acT l k := by rw [acT, if_neg h]
theorem acT_len (l : List Ev) : ∀ k, (acT l k).length ≤ k
  | 0 => Nat.le_refl _
  | k + 1 => by
    have := acT_len l k
    rw [acT]
    split
    · simp; omega
    · omega
theorem acT_mono (l : List Ev) {i : Nat} : ∀ {k : Nat}, i ≤ k → (acT l i).length ≤ (acT l k).length
  | 0, h => by obtain rfl : i = 0 := by omega
               exact Nat.le_refl _
  | k + 1, h => by
    by_cases e : i = k + 1
    · subst e; exact Nat.le_refl _
    · have := acT_mono l (show i ≤ k by omega)
      rw [acT]
      split
      · simp; omega
      · omega
/-- What changes at accesses alone is the same between two places with as many of them ahead. -/
theorem acT_same {α : Type} (l : List Ev) (f : Nat → α) (hf : ∀ k, ¬ isAc l k = true → f (k + 1) = f k) {i : Nat} : ∀ {k : Nat}, i ≤ k → (acT l i).length = (acT l k).length → f k = f i
  | 0, h, _ => by obtain rfl : i = 0 := by omega
                  rfl
  | k + 1, h, he => by
    by_cases e : i = k + 1
    · subst e; rfl
    · have h1 := acT_mono l (show i ≤ k by omega)
      by_cases hk : isAc l k = true
      · rw [acT_yes hk, List.length_append] at he; simp at he; omega
      · rw [acT_no hk] at he
        rw [hf k hk]
        exact acT_same l f hf (by omega) he
theorem acT_at (l : List Ev) {j : Nat} : ∀ {n : Nat}, j < (acT l n).length → ∃ k, k < n ∧ isAc l k = true ∧ (acT l k).length = j ∧ (acT l n)[j]? = some k
  | 0, h => by simp [acT] at h
  | n + 1, h => by
    by_cases hk : isAc l n = true
    · rw [acT_yes hk] at h ⊢
      by_cases hj : j < (acT l n).length
      · obtain ⟨k, h1, h2, h3, h4⟩ := acT_at l hj
        exact ⟨k, by omega, h2, h3, by rw [List.getElem?_append_left hj]; exact h4⟩
      · have : j = (acT l n).length := by simp at h; omega
        subst this
        exact ⟨n, by omega, hk, rfl, by simp⟩
    · rw [acT_no hk] at h ⊢
      obtain ⟨k, h1, h2, h3, h4⟩ := acT_at l h
      exact ⟨k, by omega, h2, h3, h4⟩
def accs (l : List Ev) : List Nat := if may l = 0 then acT l l.length else []
theorem accs_ok {l : List Ev} (h : may l = 0) : accs l = acT l l.length := by unfold accs; rw [if_pos h]
theorem accs_no {l : List Ev} (h : may l ≠ 0) : accs l = [] := by unfold accs; rw [if_neg h]
/-- The cells of the accesses at these places. -/
def accl (l : List Ev) (ks : List Nat) : List Value := ks.flatMap fun k => acl (eZ l k) k (cZ l k)
theorem accl_append (l : List Ev) (a b : List Nat) : accl l (a ++ b) = accl l a ++ accl l b := by simp [accl]
theorem accl_one (l : List Ev) (k : Nat) : accl l [k] = acl (eZ l k) k (cZ l k) := by simp [accl]
theorem accl_length (l : List Ev) : ∀ ks : List Nat, (accl l ks).length = ks.length * 10
  | [] => rfl
  | k :: ks => by
    have := accl_length l ks
    unfold accl at *
    rw [List.flatMap_cons, List.length_append, acl_length, this, List.length_cons]; omega
theorem accl_at (l : List Ev) {j k : Nat} : ∀ {ks : List Nat}, ks[j]? = some k → ∀ i v, (acl (eZ l k) k (cZ l k))[i]? = some v → (accl l ks)[j * 10 + i]? = some v
  | [], h, _, _, _ => by simp at h
  | q :: ks, h, i, v, hv => by
    have hi : i < 10 := by have := (List.getElem?_eq_some_iff.1 hv).1; rwa [acl_length] at this
    have e : accl l (q :: ks) = acl (eZ l q) q (cZ l q) ++ accl l ks := by simp [accl]
    rw [e]
    match j, h with
    | 0, h =>
      have : q = k := by simpa using h
      subst this
      rw [List.getElem?_append_left (by rw [acl_length]; omega)]
      simpa using hv
    | j + 1, h =>
      rw [List.getElem?_append_right (by rw [acl_length]; omega), acl_length, show (j + 1) * 10 + i - 10 = j * 10 + i by omega]
      exact accl_at l (by simpa using h) i v hv
end Go.Proofs.Yteihildhlcggoaa

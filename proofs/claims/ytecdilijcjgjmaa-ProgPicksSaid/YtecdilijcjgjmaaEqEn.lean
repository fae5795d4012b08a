/- Equal ends. -/
import Derived.Test.YtecdilijcjgjmaaPp
import Derived.Test.YtecdilijcjgjmaaMid
import Derived.ChangeKeysEq
import Derived.DeepKeys
set_option linter.all false
set_option maxRecDepth 100000
namespace Go.Proofs.Ytecdilijcjgjmaa
open Go Go.RowKit

theorem cells_int : Try.prog.cellsOf 3 = 1 := by kernel_rfl
theorem enint_info : ∃ j, Try.prog.info? 3 = some j ∧ j.size = 1 := by
  have h : (Try.prog.info? 3).map (·.size) = some 1 := by kernel_rfl
  cases hq : Try.prog.info? 3 with
  | none => simp [hq] at h
  | some j => exact ⟨j, rfl, by simpa [hq] using h⟩
/-- An array of ints, equal to itself. -/
theorem items_int (xs : Array Value) (w : World) : ∀ is : List Nat, (∀ i ∈ is, ∃ n, xs[i]? = some (.int .i64 n)) → (Op.eqItems 9998 3 1 xs xs is).run Try.prog w = .ok true w
  | [], _ => rfl
  | i :: is, h => by
    obtain ⟨n, hn⟩ := h i (List.mem_cons_self ..)
    have hp : (part 3 xs (i * 1)).run Try.prog w = .ok (.int .i64 n) w := run_part_int Try.underlying3 xs _ _ (by rw [Nat.mul_one]; exact hn) w
    have he : (Op.equalIn 9998 3 (.int .i64 n) (.int .i64 n)).run Try.prog w = .ok true w := by
      rw [run_equalIn_int w 9997 3 .i64 .i64 n n Try.underlying3]; simp
    simp only [Op.eqItems, Sem.run_bind, hp, Result.andThen_ok, he, Bool.not_true, Bool.false_eq_true, if_false]
    exact items_int xs w is fun j hj => h j (List.mem_cons_of_mem _ hj)
theorem eq_ints (t : TypeId) (n : Nat) (hT : Try.prog.underlying t = some (.array n 3)) (xs : Array Value) (hx : ∀ i, i < n → ∃ m, xs[i]? = some (.int .i64 m)) (w : World) : (Op.equalIn 9999 t (.agg xs) (.agg xs)).run Try.prog w = .ok true w := by
  obtain ⟨j, hj, _⟩ := enint_info
  rw [run_equalIn_array w 9998 xs xs hT hj, cells_int]
  exact items_int xs w _ fun i hi => hx i (by simpa using hi)
theorem eqf_all (xs : Array Value) (w : World) : ∀ fs : List Field, (∀ f ∈ fs, ∃ v, (part f.type xs f.offset).run Try.prog w = .ok v w ∧ (Op.equalIn 9999 f.type v v).run Try.prog w = .ok true w) → (Op.eqFields 9999 xs xs fs).run Try.prog w = .ok true w
  | [], _ => rfl
  | f :: fs, h => by
    obtain ⟨v, h1, h2⟩ := h f (List.mem_cons_self ..)
    have ih := eqf_all xs w fs fun g hg => h g (List.mem_cons_of_mem _ hg)
    unfold Op.eqFields
    split
    · simp only [Sem.run_bind, h1, Result.andThen_ok, h2, Bool.not_true, Bool.false_eq_true, if_false]
      exact ih
    · exact ih
theorem part_arr (t : TypeId) (n : Nat) (hT : Try.prog.underlying t = some (.array n 3)) (hi : (Try.prog.info? t).map (·.size) = some n) (xs : Array Value) (off : Nat) (w : World) : (part t xs off).run Try.prog w = .ok (.agg (xs.extract off (off + n))) w := by
  cases hq : Try.prog.info? t with
  | none => simp [hq] at hi
  | some j =>
    have hs : j.size = n := by simpa [hq] using hi
    unfold part isAgg
    simp [Sem.run_bind, run_underlying hT, sizeOf, typeInfo, hq, hs]
theorem ends_fields : ((Try.prog.fieldsOf 31).toList.map fun f => (f.type, f.offset)) = [(27, 0), (28, 8), (29, 12), (4, 18), (4, 19)] := by kernel_rfl
theorem eql_end (m v h : Nat → Int) (d k : Bool) (w : World) : (binOp .eql 31 (.agg (endc m v h d k).toArray) (.agg (endc m v h d k).toArray)).run Try.prog w = .ok (.bool true) w := by
  have e8 := eq_ints 27 8 Try.underlying27 #[.int .i64 (m 0), .int .i64 (m 1), .int .i64 (m 2), .int .i64 (m 3), .int .i64 (m 4), .int .i64 (m 5), .int .i64 (m 6), .int .i64 (m 7)] (fun i hi => by
    match i, hi with
    | 0, _ => exact ⟨_, rfl⟩ | 1, _ => exact ⟨_, rfl⟩ | 2, _ => exact ⟨_, rfl⟩ | 3, _ => exact ⟨_, rfl⟩ | 4, _ => exact ⟨_, rfl⟩ | 5, _ => exact ⟨_, rfl⟩ | 6, _ => exact ⟨_, rfl⟩ | 7, _ => exact ⟨_, rfl⟩) w
  have e4 := eq_ints 28 4 Try.underlying28 #[.int .i64 (v 0), .int .i64 (v 1), .int .i64 (v 2), .int .i64 (v 3)] (fun i hi => by
    match i, hi with
    | 0, _ => exact ⟨_, rfl⟩ | 1, _ => exact ⟨_, rfl⟩ | 2, _ => exact ⟨_, rfl⟩ | 3, _ => exact ⟨_, rfl⟩) w
  have e6 := eq_ints 29 6 Try.underlying29 #[.int .i64 (h 0), .int .i64 (h 1), .int .i64 (h 2), .int .i64 (h 3), .int .i64 (h 4), .int .i64 (h 5)] (fun i hi => by
    match i, hi with
    | 0, _ => exact ⟨_, rfl⟩ | 1, _ => exact ⟨_, rfl⟩ | 2, _ => exact ⟨_, rfl⟩ | 3, _ => exact ⟨_, rfl⟩ | 4, _ => exact ⟨_, rfl⟩ | 5, _ => exact ⟨_, rfl⟩) w
  rw [run_eql_struct]
  unfold endc
  rw [run_equalIn_struct w 9999 31 _ _ Try.underlying31 (by kernel_rfl), eqf_all]
  · rfl
  · intro f hf
    have hm : (f.type, f.offset) ∈ ((Try.prog.fieldsOf 31).toList.map fun f => (f.type, f.offset)) := List.mem_map.2 ⟨f, hf, rfl⟩
    rw [ends_fields] at hm
    simp only [List.mem_cons, List.not_mem_nil, or_false, Prod.mk.injEq] at hm
    rcases hm with ⟨h1, h2⟩ | ⟨h1, h2⟩ | ⟨h1, h2⟩ | ⟨h1, h2⟩ | ⟨h1, h2⟩ <;> rw [h1, h2]
    · exact ⟨_, part_arr _ 8 Try.underlying27 (by kernel_rfl) _ _ w, e8⟩
    · exact ⟨_, part_arr _ 4 Try.underlying28 (by kernel_rfl) _ _ w, e4⟩
    · exact ⟨_, part_arr _ 6 Try.underlying29 (by kernel_rfl) _ _ w, e6⟩
    · exact ⟨.bool d, run_part_plain w (by kernel_rfl) rfl, by rw [run_equalIn_bool w 9998 4 d d Try.underlying4]; simp⟩
    · exact ⟨.bool k, run_part_plain w (by kernel_rfl) rfl, by rw [run_equalIn_bool w 9998 4 k k Try.underlying4]; simp⟩
theorem eql_endP (P : List (List Ev)) (s : Ps) (w : World) : (binOp .eql 31 (.agg (endP P s)) (.agg (endP P s))).run Try.prog w = .ok (.bool true) w := eql_end _ _ _ _ _ w
theorem eql_end0 (w : World) : (binOp .eql 31 (.agg end0) (.agg end0)).run Try.prog w = .ok (.bool true) w := eql_end _ _ _ _ _ w
theorem runB_form {P : List (List Ev)} {ts : List Int} {x : Array Value} {l : List Ev} {c : Int} (h : RunB P ts x l c) : ∃ m v hs d k, x = (endc m v hs d k).toArray := by
  rcases h with ⟨_, h, _⟩ | ⟨_, _, h, _⟩ | ⟨_, _, h, _⟩
  · exact ⟨_, _, _, _, _, h⟩
  · exact ⟨_, _, _, _, _, h⟩
  · exact ⟨_, _, _, _, _, h⟩
/-- Whatever Run returns is equal to itself. -/
theorem eql_run {P : List (List Ev)} {ts : List Int} {x : Array Value} {l : List Ev} {c : Int} (h : RunB P ts x l c) (w : World) : (binOp .eql 31 (.agg x) (.agg x)).run Try.prog w = .ok (.bool true) w := by
  obtain ⟨m, v, hs, d, k, rfl⟩ := runB_form h
  exact eql_end m v hs d k w
/-- An end as a value. -/
structure EnV (x : Array Value) : Prop where
  size : x.size = 20
  one : x.all (·.oneCell') = true
  eq : ∀ w, (binOp .eql 31 (.agg x) (.agg x)).run Try.prog w = .ok (.bool true) w
theorem EnV.of (m v h : Nat → Int) (d k : Bool) : EnV (endc m v h d k).toArray := ⟨rfl, by simp [endc, Value.oneCell'], eql_end m v h d k⟩
theorem EnV.run {P : List (List Ev)} {ts : List Int} {x : Array Value} {l : List Ev} {c : Int} (h : RunB P ts x l c) : EnV x := by
  obtain ⟨m, v, hs, d, k, rfl⟩ := runB_form h
  exact .of m v hs d k
def zEn : Array Value := #[.int .i64 0, .int .i64 0, .int .i64 0, .int .i64 0, .int .i64 0, .int .i64 0, .int .i64 0, .int .i64 0, .int .i64 0, .int .i64 0, .int .i64 0, .int .i64 0, .int .i64 0, .int .i64 0, .int .i64 0, .int .i64 0, .int .i64 0, .int .i64 0, .bool false, .bool false]
/-- The world behind a new variable that holds an end. -/
def enw (w : World) (x : Array Value) : World := (w.alloc (.cells zEn 31)).setRow w.heap.size x
theorem enw_box (w : World) (x : Array Value) : Box (enw w x) w.heap.size x 31 := (Box.new w _ _).setRow _
theorem enw_bel (w : World) (x : Array Value) : Bel w (enw w x) := below_setRow' ((Bel.refl w).alloc _).out _ _ (Nat.le_refl _)
theorem TEn : RowTy Try.prog 31 20 := ⟨_, Try.underlying31, rfl, by kernel_rfl⟩
theorem EnV.ty {x : Array Value} (h : EnV x) : RowTy Try.prog 31 x.size := by rw [h.size]; exact TEn
theorem enw_store {P : Program} {ops : Array Oper} {rest : List Oper} {o : Oper} {a : Act} {w' w : World} {Q : Exit → Act → World → Prop} {ty : TypeId} {v : Array Value} (hT : RowTy P ty v.size) (x y : Operand) (ho : o.op = .store ty x y) (hgd : o.guard = none) (hs : v.size = 20) (h1 : v.all (·.oneCell') = true)
    (hy : a.eval y = .agg v) (hw : w' = w.alloc (.cells zEn 31)) (hx : a.eval x = .pointer (some ⟨w.heap.size, 0, none⟩)) (h : wpList P ops Q rest (a.put o.dst undef) (enw w v)) : wpList P ops Q (o :: rest) a w' := by
  subst hw
  exact storeB ty x y ho hgd hx hy (Box.new w _ _) (by rw [hs]; rfl) hT h1 h
theorem eql_step {P : Program} {ops : Array Oper} {rest : List Oper} {o : Oper} {a : Act} {w : World} {Q : Exit → Act → World → Prop} (t t2 : TypeId) (x y : Operand) (ho : o.op = .binOp .eql t x y t2) (hgd : o.guard = none) {u v : Array Value} {b : Value} (hx : a.eval x = .agg u) (hy : a.eval y = .agg v)
    (hq : P.eqGuardType P.depth t = false) (hr : (binOp .eql t (.agg u) (.agg v)).run P w = .ok b w) (h : wpList P ops Q rest (a.put o.dst b) w) : wpList P ops Q (o :: rest) a w := by
  refine wpList_plain hgd fun _ hK => ?_
  unfold Oper.wp execOp
  have he : (eqGuard .eql t x y (.agg u) (.agg v)).run P w = .ok () w := by simp [eqGuard, Sem.run_bind, hq]
  simp [ho, hx, hy, Sem.run_bind, he, hr]
  exact hK _ _ h
theorem eqlG_step {P : Program} {ops : Array Oper} {rest : List Oper} {o : Oper} {a : Act} {w : World} {Q : Exit → Act → World → Prop} (t t2 : TypeId) (x y : Operand) (ho : o.op = .binOp .eql t x y t2) (hw : Region.wanted o (yielded ops a.tmps) = true) {u v : Array Value} {b : Value} (hx : a.eval x = .agg u) (hy : a.eval y = .agg v)
    (hq : P.eqGuardType P.depth t = false) (hr : (binOp .eql t (.agg u) (.agg v)).run P w = .ok b w) (h : wpList P ops Q rest (a.put o.dst b) w) : wpList P ops Q (o :: rest) a w := by
  refine BigFrame.wpList_want hw fun _ hK => ?_
  unfold Oper.wp execOp
  have he : (eqGuard .eql t x y (.agg u) (.agg v)).run P w = .ok () w := by simp [eqGuard, Sem.run_bind, hq]
  simp [ho, hx, hy, Sem.run_bind, he, hr]
  exact hK _ _ h
theorem grd_end : Try.prog.eqGuardType Try.prog.depth 31 = false := by kernel_rfl
end Go.Proofs.Ytecdilijcjgjmaa

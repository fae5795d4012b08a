import Derived.ChangeKeysEq
import Derived.DeepKeys
import Derived.Test.YticnponenkfneaaZOpen
import Derived.Test.YticnponenkfneaaZAppend
import Derived.WalkKit
import Derived.WalkSpells
import Derived.Maps.RangeRun
import Derived.Maps.Range
import Derived.Maps.RangeWalk
import Derived.Test.YticnponenkfneaaZBase
set_option linter.all false
set_option maxRecDepth 100000
namespace Go.Proofs.Yticnponenkfneaa
open Go Go.RowKit

theorem cells_int : Try.prog.cellsOf 3 = 1 := by kernel_rfl
theorem enint_info : ∃ j, Try.prog.info? 3 = some j ∧ j.size = 1 := by
  have h : (Try.prog.info? 3).map (·.size) = some 1 := by kernel_rfl
  cases hq : Try.prog.info? 3 with
  | none => simp [hq] at h
  | some j => exact ⟨j, rfl, by simpa [hq] using h⟩
theorem items_int (xs : Array Value) (w : World) : ∀ is : List Nat, (∀ i ∈ is, ∃ n, xs[i]? = some (.int .i64 n)) → (Op.eqItems 9998 3 1 xs xs is).run Try.prog w = .ok true w
  | [], _ => rfl
  | i :: is, h => by
    obtain ⟨n, hn⟩ := h i (List.mem_cons_self ..)
    have hp : (part 3 xs (i * 1)).run Try.prog w = .ok (.int .i64 n) w := run_part_int Try.underlying3 xs _ _ (by rw [Nat.mul_one]; exact hn) w
    have he : (Op.equalIn 9998 3 (.int .i64 n) (.int .i64 n)).run Try.prog w = .ok true w := by
      rw [run_equalIn_int w 9997 3 .i64 .i64 n n Try.underlying3]; simp
    simp only [Op.eqItems, Sem.run_bind, hp, Result.andThen_ok, he, Bool.not_true, Bool.false_eq_true, if_false]
    exact items_int xs w is fun j hj => h j (List.mem_cons_of_mem _ hj)
theorem eq_ints (t : TypeId) (n : Nat) (hT : Try.prog.underlying t = some (.array n 3)) (xs : Array Value) (hx : ∀ i, i < n → ∃ m, xs[i]? = some (.int .i64 m)) (w : World) : (Op.equalIn 9999 t (.agg xs) (.agg xs)).run Try.prog w = .ok true w := by
  obtain ⟨j, hj, _⟩ := enint_info
  rw [run_equalIn_array w 9998 xs xs hT hj, cells_int]
  exact items_int xs w _ fun i hi => hx i (by simpa using hi)
theorem eqf_all (xs : Array Value) (w : World) : ∀ fs : List Field, (∀ f ∈ fs, ∃ v, (part f.type xs f.offset).run Try.prog w = .ok v w ∧ (Op.equalIn 9999 f.type v v).run Try.prog w = .ok true w) → (Op.eqFields 9999 xs xs fs).run Try.prog w = .ok true w
  | [], _ => rfl
  | f :: fs, h => by
    obtain ⟨v, h1, h2⟩ := h f (List.mem_cons_self ..)
    have ih := eqf_all xs w fs fun g hg => h g (List.mem_cons_of_mem _ hg)
    unfold Op.eqFields
    split
    · simp only [Sem.run_bind, h1, Result.andThen_ok, h2, Bool.not_true, Bool.false_eq_true, if_false]
      exact ih
    · exact ih
theorem part_arr (t : TypeId) (n : Nat) (hT : Try.prog.underlying t = some (.array n 3)) (hi : (Try.prog.info? t).map (·.size) = some n) (xs : Array Value) (off : Nat) (w : World) : (part t xs off).run Try.prog w = .ok (.agg (xs.extract off (off + n))) w := by
  cases hq : Try.prog.info? t with
  | none => simp [hq] at hi
  | some j =>
    have hs : j.size = n := by simpa [hq] using hi
    unfold part isAgg
    simp [Sem.run_bind, run_underlying hT, sizeOf, typeInfo, hq, hs]
theorem ends_fields : ((Try.prog.fieldsOf 33).toList.map fun f => (f.type, f.offset)) = [(29, 0), (30, 8), (31, 12), (4, 18), (4, 19)] := by kernel_rfl
theorem eql_end (m v h : Nat → Int) (d k : Bool) (w : World) : (binOp .eql 33 (.agg (endc m v h d k).toArray) (.agg (endc m v h d k).toArray)).run Try.prog w = .ok (.bool true) w := by
  have e8 := eq_ints 29 8 Try.underlying29 #[.int .i64 (m 0), .int .i64 (m 1), .int .i64 (m 2), .int .i64 (m 3), .int .i64 (m 4), .int .i64 (m 5), .int .i64 (m 6), .int .i64 (m 7)] (fun i hi => by
    match i, hi with
    | 0, _ => exact ⟨_, rfl⟩ | 1, _ => exact ⟨_, rfl⟩ | 2, _ => exact ⟨_, rfl⟩ | 3, _ => exact ⟨_, rfl⟩ | 4, _ => exact ⟨_, rfl⟩ | 5, _ => exact ⟨_, rfl⟩ | 6, _ => exact ⟨_, rfl⟩ | 7, _ => exact ⟨_, rfl⟩) w
  have e4 := eq_ints 30 4 Try.underlying30 #[.int .i64 (v 0), .int .i64 (v 1), .int .i64 (v 2), .int .i64 (v 3)] (fun i hi => by
    match i, hi with
    | 0, _ => exact ⟨_, rfl⟩ | 1, _ => exact ⟨_, rfl⟩ | 2, _ => exact ⟨_, rfl⟩ | 3, _ => exact ⟨_, rfl⟩) w
  have e6 := eq_ints 31 6 Try.underlying31 #[.int .i64 (h 0), .int .i64 (h 1), .int .i64 (h 2), .int .i64 (h 3), .int .i64 (h 4), .int .i64 (h 5)] (fun i hi => by
    match i, hi with
    | 0, _ => exact ⟨_, rfl⟩ | 1, _ => exact ⟨_, rfl⟩ | 2, _ => exact ⟨_, rfl⟩ | 3, _ => exact ⟨_, rfl⟩ | 4, _ => exact ⟨_, rfl⟩ | 5, _ => exact ⟨_, rfl⟩) w
  rw [run_eql_struct]
  unfold endc
  rw [run_equalIn_struct w 9999 33 _ _ Try.underlying33 (by kernel_rfl), eqf_all]
  · rfl
  · intro f hf
    have hm : (f.type, f.offset) ∈ ((Try.prog.fieldsOf 33).toList.map fun f => (f.type, f.offset)) := List.mem_map.2 ⟨f, hf, rfl⟩
    rw [ends_fields] at hm
    simp only [List.mem_cons, List.not_mem_nil, or_false, Prod.mk.injEq] at hm
    rcases hm with ⟨h1, h2⟩ | ⟨h1, h2⟩ | ⟨h1, h2⟩ | ⟨h1, h2⟩ | ⟨h1, h2⟩ <;> rw [h1, h2]
    · exact ⟨_, part_arr _ 8 Try.underlying29 (by kernel_rfl) _ _ w, e8⟩
    · exact ⟨_, part_arr _ 4 Try.underlying30 (by kernel_rfl) _ _ w, e4⟩
    · exact ⟨_, part_arr _ 6 Try.underlying31 (by kernel_rfl) _ _ w, e6⟩
    · exact ⟨.bool d, run_part_plain w (by kernel_rfl) rfl, by rw [run_equalIn_bool w 9998 4 d d Try.underlying4]; simp⟩
    · exact ⟨.bool k, run_part_plain w (by kernel_rfl) rfl, by rw [run_equalIn_bool w 9998 4 k k Try.underlying4]; simp⟩
theorem runB_form {P : List (List Ev)} {ts : List Int} {x : Array Value} {l : List Ev} {c : Int} (h : RunB P ts x l c) : ∃ m v hs d k, x = (endc m v hs d k).toArray := by
  rcases h with ⟨_, h, _⟩ | ⟨_, _, h, _⟩ | ⟨_, _, h, _⟩
  · exact ⟨_, _, _, _, _, h⟩
  · exact ⟨_, _, _, _, _, h⟩
  · exact ⟨_, _, _, _, _, h⟩
structure EnV (x : Array Value) : Prop where
  size : x.size = 20
  one : x.all (·.oneCell') = true
  eq : ∀ w, (binOp .eql 33 (.agg x) (.agg x)).run Try.prog w = .ok (.bool true) w
theorem EnV.of (m v h : Nat → Int) (d k : Bool) : EnV (endc m v h d k).toArray := ⟨rfl, by simp [endc, Value.oneCell'], eql_end m v h d k⟩
theorem EnV.run {P : List (List Ev)} {ts : List Int} {x : Array Value} {l : List Ev} {c : Int} (h : RunB P ts x l c) : EnV x := by
  obtain ⟨m, v, hs, d, k, rfl⟩ := runB_form h
  exact .of m v hs d k
def zEn : Array Value := #[.int .i64 0, .int .i64 0, .int .i64 0, .int .i64 0, .int .i64 0, .int .i64 0, .int .i64 0, .int .i64 0, .int .i64 0, .int .i64 0, .int .i64 0, .int .i64 0, .int .i64 0, .int .i64 0, .int .i64 0, .int .i64 0, .int .i64 0, .int .i64 0, .bool false, .bool false]
def enw (w : World) (x : Array Value) : World := (w.alloc (.cells zEn 33)).setRow w.heap.size x
theorem enw_bel (w : World) (x : Array Value) : Bel w (enw w x) := below_setRow' ((Bel.refl w).alloc _).out _ _ (Nat.le_refl _)
theorem TEn : RowTy Try.prog 33 20 := ⟨_, Try.underlying33, rfl, by kernel_rfl⟩
theorem EnV.ty {x : Array Value} (h : EnV x) : RowTy Try.prog 33 x.size := by rw [h.size]; exact TEn
theorem enw_store {P : Program} {ops : Array Oper} {rest : List Oper} {o : Oper} {a : Act} {w' w : World} {Q : Exit → Act → World → Prop} {ty : TypeId} {v : Array Value} (hT : RowTy P ty v.size) (x y : Operand) (ho : o.op = .store ty x y) (hgd : o.guard = none) (hs : v.size = 20) (h1 : v.all (·.oneCell') = true)
    (hy : a.eval y = .agg v) (hw : w' = w.alloc (.cells zEn 33)) (hx : a.eval x = .pointer (some ⟨w.heap.size, 0, none⟩)) (h : wpList P ops Q rest (a.put o.dst undef) (enw w v)) : wpList P ops Q (o :: rest) a w' := by
  subst hw
  exact storeB ty x y ho hgd hx hy (Box.new w _ _) (by rw [hs]; rfl) hT h1 h
end Go.Proofs.Yticnponenkfneaa
namespace Go.Proofs.Yticnponenkfneaa
open Go.ChangeShapes Go.WideShapes Go.ChangeAt Go.RowKit Go.Deep

section
variable {H : Type} {enc : TypeId × Value → H} {P : Program} {w : World} {base : Nat} {spare : Nat → Bool} {held : Bool}
theorem ops_trod {t e q : TypeId} {fuel : Nat} {cs : List Value} {x : DataW H × List MemPlace} {f0 f1 f2 : Field} (ht : P.underlying t = some (.slice e)) (he : P.underlying e = some (.struct #[f0, f1, f2])) (hf : f0.type = q ∧ f1.type = q ∧ f2.type = q)
    (hone : oneCellFields P #[f0, f1, f2] = true) (hC : P.cellsOf e = 3) (hq : P.underlying q = some (.int .i64)) (hfu : DataW.trod enc P w base spare held fuel t cs = some x) :
    ∃ A n c l, cs = [.slice A n c] ∧ Sl w A n l ∧ n ≤ c ∧ c ≤ maxLen ∧ (∀ e ∈ l, EvOk e) := by
  rcases open_sl_fields ht he hone hC hfu with ⟨hcs, _⟩ | ⟨a', len, cap, hcs, hl, hm, _, hx⟩
  · exact ⟨none, 0, 0, [], hcs, ⟨rfl, fun h => absurd h (by omega)⟩, by omega, by omega, fun _ h => (by cases h)⟩
  · refine ⟨some a', len, cap, ?_⟩
    have one : ∀ i, i < len → ∃ e : Ev, EvOk e ∧ w.cell? (a'.add (i * 3)) = some (.int .i64 e.k) ∧ w.cell? (a'.add (i * 3 + 1)) = some (.int .i64 e.t) ∧ w.cell? (a'.add (i * 3 + 2)) = some (.int .i64 e.o) := fun i hi => by
      obtain ⟨n, hn⟩ := hx i hi
      obtain ⟨v0, y0, c0, t0⟩ := hn 0 f0 rfl
      obtain ⟨v1, y1, c1, t1⟩ := hn 1 f1 rfl
      obtain ⟨v2, y2, c2, t2⟩ := hn 2 f2 rfl
      rw [hf.1] at t0
      rw [hf.2.1] at t1
      rw [hf.2.2] at t2
      obtain ⟨k, e0, _, w0⟩ := DataW.trod_int hq t0
      obtain ⟨t, e1, _, w1⟩ := DataW.trod_int hq t1
      obtain ⟨o, e2, _, w2⟩ := DataW.trod_int hq t2
      simp at e0 e1 e2
      subst e0 e1 e2
      exact ⟨⟨k, t, o⟩, ⟨in64_of w0, in64_of w1, in64_of w2⟩, c0, c1, c2⟩
    have all : ∀ m, m ≤ len → ∃ l : List Ev, l.length = m ∧ (∀ e ∈ l, EvOk e) ∧ ∀ i e, l[i]? = some e → w.cell? (a'.add (i * 3)) = some (.int .i64 e.k) ∧ w.cell? (a'.add (i * 3 + 1)) = some (.int .i64 e.t) ∧ w.cell? (a'.add (i * 3 + 2)) = some (.int .i64 e.o) := by
      intro m
      induction m with
      | zero => intro _; exact ⟨[], rfl, fun _ h => (by cases h), fun i e h => by simp at h⟩
      | succ m ih =>
        intro hm
        obtain ⟨l, h1, h2, h3⟩ := ih (by omega)
        obtain ⟨e, he1, he2⟩ := one m (by omega)
        refine ⟨l ++ [e], by simp [h1], fun x hx => ?_, fun i x hx => ?_⟩
        · rcases List.mem_append.1 hx with hx | hx
          · exact h2 x hx
          · simp at hx; subst hx; exact he1
        · rcases Nat.lt_or_ge i l.length with hi | hi
          · rw [List.getElem?_append_left hi] at hx; exact h3 i x hx
          · rw [List.getElem?_append_right hi] at hx
            have h0 : i - l.length = 0 := by
              have := (List.getElem?_eq_some_iff.1 hx).1
              simp at this; omega
            rw [h0] at hx
            simp at hx
            subst hx
            obtain rfl : i = m := by omega
            exact he2
    obtain ⟨l, h1, h2, h3⟩ := all len (Nat.le_refl _)
    refine ⟨l, hcs, ⟨h1, fun h0 => ?_⟩, hl, hm, h2⟩
    obtain ⟨b, off, spot⟩ := a'
    have hs : spot = none := by
      obtain ⟨e, _, c0, _⟩ := one 0 h0
      have := World.cell?_spot c0
      simpa [Addr.add] using this
    subst hs
    refine ⟨b, off, rfl, ?_, rangeAt_evc fun i e hi => ?_⟩
    · obtain ⟨e, _, c0, _⟩ := one 0 h0
      have := block_lt_of_cell c0
      simpa [add_mk] using this
    · have := h3 i e hi
      simpa only [add_mk] using this
theorem open_ops {r : Reach} {b0 : Nat} {t e g q : TypeId} {v : Value} {d : DataW H} {ps : List MemPlace} {f0 f1 f2 : Field} (ht : P.underlying t = some (.slice e)) (hce : P.cellsOf e = 1) (hte : P.underlying e = some (.slice g)) (he : P.underlying g = some (.struct #[f0, f1, f2])) (hf : f0.type = q ∧ f1.type = q ∧ f2.type = q)
    (hone : oneCellFields P #[f0, f1, f2] = true) (hC : P.cellsOf g = 3) (hq : P.underlying q = some (.int .i64)) (hval : Value.okWide P w r b0 t v) (hd : DataW.Trod enc P w base spare held t v d ps) :
    ∃ A n c l, v = .slice A n c ∧ Prg w A n l ∧ n ≤ c ∧ c ≤ maxLen ∧ (∀ ops ∈ l, ∀ e ∈ ops, EvOk e) := by
  obtain ⟨a, len, cap, rfl⟩ := okWide_slice ht hval
  obtain ⟨fuel, hfu⟩ := hd
  rcases open_slice1 ht hce hfu with ⟨hcs, _⟩ | ⟨a', len', cap', m, n, V, D, Pl, hcs, _, hl, hm, hmm, _, hx⟩
  · simp [Value.cells] at hcs
    obtain ⟨rfl, rfl, rfl⟩ := hcs
    exact ⟨none, 0, 0, [], rfl, Prg.nil w, by omega, by omega, fun _ h => (by cases h)⟩
  · simp [Value.cells] at hcs
    obtain ⟨rfl, rfl, rfl⟩ := hcs
    have hlm : len ≤ m := by rw [hmm]; split <;> omega
    refine ⟨some a', len, cap, ?_⟩
    have one : ∀ i, i < len → ∃ ops : List Ev, (∀ e ∈ ops, EvOk e) ∧ ∃ B k c, w.cell? (a'.add i) = some (.slice B k c) ∧ Sl w B k ops ∧ k ≤ c ∧ c ≤ maxLen := fun i hi => by
      obtain ⟨hc, ht'⟩ := hx i (by omega)
      obtain ⟨B, k, c, ops, h1, h2, h3, h4, h5⟩ := ops_trod hte he hf hone hC hq ht'
      simp only [List.cons.injEq, and_true] at h1
      exact ⟨ops, h5, B, k, c, by rw [hc, h1], h2, h3, h4⟩
    have all : ∀ m, m ≤ len → ∃ l : List (List Ev), l.length = m ∧ (∀ ops ∈ l, ∀ e ∈ ops, EvOk e) ∧ ∀ i ops, l[i]? = some ops → ∃ B k c, w.cell? (a'.add i) = some (.slice B k c) ∧ Sl w B k ops ∧ k ≤ c ∧ c ≤ maxLen := by
      intro m
      induction m with
      | zero => intro _; exact ⟨[], rfl, fun _ h => (by cases h), fun i e h => by simp at h⟩
      | succ m ih =>
        intro hm
        obtain ⟨l, h1, h2, h3⟩ := ih (by omega)
        obtain ⟨ops, he1, he2⟩ := one m (by omega)
        refine ⟨l ++ [ops], by simp [h1], fun x hx => ?_, fun i x hx => ?_⟩
        · rcases List.mem_append.1 hx with hx | hx
          · exact h2 x hx
          · simp at hx; subst hx; exact he1
        · rcases Nat.lt_or_ge i l.length with hi | hi
          · rw [List.getElem?_append_left hi] at hx; exact h3 i x hx
          · rw [List.getElem?_append_right hi] at hx
            have h0 : i - l.length = 0 := by
              have := (List.getElem?_eq_some_iff.1 hx).1
              simp at this; omega
            rw [h0] at hx
            simp at hx
            subst hx
            obtain rfl : i = m := by omega
            exact he2
    obtain ⟨l, h1, h2, h3⟩ := all len (Nat.le_refl _)
    refine ⟨l, rfl, ⟨h1, fun h0 => ?_⟩, hl, hm, h2⟩
    obtain ⟨b, off, spot⟩ := a'
    have hs : spot = none := by
      obtain ⟨ops, _, B, k, c, c0, _⟩ := one 0 h0
      have := World.cell?_spot c0
      simpa [Addr.add] using this
    subst hs
    refine ⟨b, off, rfl, ?_, fun i ops hi => ?_⟩
    · obtain ⟨ops, _, B, k, c, c0, _⟩ := one 0 h0
      have := block_lt_of_cell c0
      simpa [add_mk] using this
    · have := h3 i ops hi
      simpa only [add_mk] using this
end
end Go.Proofs.Yticnponenkfneaa
namespace Go.Proofs.Yticnponenkfneaa
open Go Go.RowKit

theorem runB_cases {P : List (List Ev)} {q : List Int} {x : Array Value} {l : List Ev} {c : Int} (h : RunB P q x l c) : (c ≠ 0 ∧ x = end0 ∧ l = []) ∨ (c = 0 ∧ OkP P ∧ q.length ≤ 100 ∧ x = endP P (runP P q) ∧ l = (runP P q).L) := by
  rcases h with ⟨h1, h2, h3, h4⟩ | ⟨_, _, h2, h3, h4⟩ | ⟨h1, h2, h3, h4, h5⟩
  · exact .inl ⟨by rw [h4]; exact h1, h2, h3⟩
  · exact .inl ⟨by rw [h4]; decide, h2, h3⟩
  · exact .inr ⟨h5, chk_ok.1 h1, h2, h3, h4⟩
end Go.Proofs.Yticnponenkfneaa
set_option linter.all false
set_option maxRecDepth 100000
namespace Go.Proofs.Yticnponenkfneaa
open Go Go.RowKit
section
variable {P : Program} {T K E : TypeId}
theorem run_checkKey_int (hK : P.underlying K = some (.int .i64)) (b : Bool) (k : Int) (w : World) : (Instr.checkKey b 10000 K (.int .i64 k)).run P w = .ok () w := by
  show (Instr.checkKey b (9999 + 1) K (.int .i64 k)).run P w = .ok () w
  unfold Instr.checkKey
  simp [Sem.run_bind, run_underlying hK]
end
end Go.Proofs.Yticnponenkfneaa
namespace Go.Proofs.Yticnponenkfneaa
open Go Go.RowKit

section
variable {P : Program} {ops : Array Oper} {rest : List Oper} {o : Oper} {a : Act} {w : World} {Q : Exit → Act → World → Prop}
end
end Go.Proofs.Yticnponenkfneaa

/- Maps whose keys are two pairs of numbers and whose values are all true: made, filled, looked into, gone through. -/
import Derived.Test.YtjddahidkodieaaMapInt
import Derived.Test.YtjddahidkodieaaBase
import Derived.Test.YtjddahidkodieaaKeepTw
import Derived.ChangeKeysEq
import Derived.DeepKeys
set_option linter.all false
set_option maxRecDepth 100000
namespace Go.Proofs.Ytjddahidkodieaa
open Go Go.RowKit

abbrev Q4 : Type := (Nat × Nat) × (Nat × Nat)
def qv (p : Q4) : Array Value := #[.int .i64 p.1.1, .int .i64 p.1.2, .int .i64 p.2.1, .int .i64 p.2.2]
theorem q_dec (a b : Q4) : decide (a = b) = ((a.1.1 : Int) == b.1.1 && ((a.1.2 : Int) == b.1.2 && ((a.2.1 : Int) == b.2.1 && (a.2.2 : Int) == b.2.2))) := by
  obtain ⟨⟨a1, a2⟩, a3, a4⟩ := a; obtain ⟨⟨b1, b2⟩, b3, b4⟩ := b
  rw [Bool.eq_iff_iff]; simp; omega
def qp (p : Nat × Nat) : Array Value := #[.int .i64 p.1, .int .i64 p.2]
theorem q_info : (Try.prog.info? 40).map (·.size) = some 2 := by kernel_rfl
theorem q_size (w : World) : (sizeOf 40).run Try.prog w = .ok 2 w := by
  have h := q_info
  cases hq : Try.prog.info? 40 with
  | none => simp [hq] at h
  | some j =>
    have hs : j.size = 2 := by simpa [hq] using h
    simp [sizeOf, typeInfo, Sem.run_bind, hq, hs]
theorem part_q0 (p : Q4) (w : World) : (part 40 (qv p) 0).run Try.prog w = .ok (.agg (qp p.1)) w := by
  unfold part isAgg
  simp only [Sem.run_bind, run_underlying Try.underlying40, Result.andThen_ok, Sem.run_pure, q_size, if_true]
  rfl
theorem part_q2 (p : Q4) (w : World) : (part 40 (qv p) 2).run Try.prog w = .ok (.agg (qp p.2)) w := by
  unfold part isAgg
  simp only [Sem.run_bind, run_underlying Try.underlying40, Result.andThen_ok, Sem.run_pure, q_size, if_true]
  rfl
theorem eq_qp (a b : Nat × Nat) (w : World) : (Op.equalIn 9999 40 (.agg (qp a)) (.agg (qp b))).run Try.prog w = .ok (decide (a = b)) w := by
  obtain ⟨a1, a2⟩ := a; obtain ⟨b1, b2⟩ := b
  rw [show decide ((a1, a2) = (b1, b2)) = ((a1 : Int) == b1 && (a2 : Int) == b2) by rw [Bool.eq_iff_iff]; simp; omega]
  unfold qp
  generalize (a1 : Int) = x1; generalize (a2 : Int) = x2; generalize (b1 : Int) = y1; generalize (b2 : Int) = y2
  by_cases h1 : x1 = y1 <;> by_cases h2 : x2 = y2 <;> simp [go_sem, h1, h2]
theorem cells_q : Try.prog.cellsOf 40 = 2 := by kernel_rfl
theorem run_equal_q (a b : Q4) (w : World) : (Op.equal 41 (.agg (qv a)) (.agg (qv b))).run Try.prog w = .ok (decide (a = b)) w := by
  have h := q_info
  cases hq : Try.prog.info? 40 with
  | none => simp [hq] at h
  | some j =>
    show (Op.equalIn (9999 + 1) _ _ _).run _ _ = _
    rw [run_equalIn_array w 9999 _ _ Try.underlying41 hq, cells_q]
    show (Op.eqItems 9999 40 2 (qv a) (qv b) [0, 1]).run _ _ = _
    simp only [Op.eqItems, Sem.run_bind, Nat.zero_mul, Nat.one_mul, part_q0, part_q2, Result.andThen_ok, eq_qp]
    by_cases h1 : a.1 = b.1
    · by_cases h2 : a.2 = b.2
      · obtain rfl : a = b := Prod.ext h1 h2
        simp [part_q2, eq_qp]
      · simp [h1, h2, part_q2, eq_qp, show a ≠ b from fun e => h2 (congrArg Prod.snd e)]
    · simp [h1, show a ≠ b from fun e => h1 (congrArg Prod.fst e)]
def qrE (p : Q4) (b : Nat) : MapEntry := ⟨.agg (qv p), .bool true, b⟩
def entsQ : Nat → List Q4 → List MapEntry
  | _, [] => []
  | k, p :: ps => qrE p k :: entsQ (k + 1) ps
def qM (ps : List Q4) : Array MapEntry := (entsQ 0 ps).toArray
theorem entsQ_snoc (ps : List Q4) (p : Q4) : ∀ k, entsQ k (ps ++ [p]) = entsQ k ps ++ [qrE p (k + ps.length)] := by
  induction ps with
  | nil => intro k; rfl
  | cons q ps ih => intro k; simp only [List.cons_append, entsQ, ih, List.length_cons]; rw [show k + 1 + ps.length = k + (ps.length + 1) by omega]
theorem qM_snoc (ps : List Q4) (p : Q4) : (qM ps).push (qrE p ps.length) = qM (ps ++ [p]) := by
  unfold qM; rw [entsQ_snoc]; simp
theorem entsQ_mem {e : MapEntry} : ∀ {ps : List Q4} {k : Nat}, e ∈ entsQ k ps → ∃ p b, e = qrE p b ∧ p ∈ ps ∧ k ≤ b ∧ b < k + ps.length
  | [], _, h => by cases h
  | q :: ps, k, h => by
    simp only [entsQ, List.mem_cons] at h
    rcases h with rfl | h
    · exact ⟨q, k, rfl, by simp, by omega, by simp⟩
    · obtain ⟨p, b, h1, h2, h3, h4⟩ := entsQ_mem h
      exact ⟨p, b, h1, by simp [h2], by omega, by simp only [List.length_cons]; omega⟩
theorem entsQ_born : ∀ (ps : List Q4) (k : Nat), ((entsQ k ps).map (·.born)).Nodup
  | [], _ => by simp [entsQ]
  | q :: ps, k => by
    simp only [entsQ, List.map_cons, List.nodup_cons]
    refine ⟨fun h => ?_, entsQ_born ps (k + 1)⟩
    obtain ⟨e, he, hb⟩ := List.mem_map.1 h
    obtain ⟨p, b, rfl, _, h3, _⟩ := entsQ_mem he
    simp only [qrE] at hb; omega
theorem qv_inj {a b : Q4} (h : qv a = qv b) : a = b := by
  obtain ⟨⟨a1, a2⟩, a3, a4⟩ := a; obtain ⟨⟨b1, b2⟩, b3, b4⟩ := b
  simp only [qv, Array.mk.injEq, List.cons.injEq, Value.int.injEq, true_and, and_true] at h
  obtain ⟨h1, h2, h3, h4⟩ := h
  simp only [Prod.mk.injEq]
  omega
theorem run_find_q (p : Q4) (w : World) : ∀ (ps : List Q4) (k i : Nat), ∃ r, (Instr.findAsking 41 (.agg (qv p)) (entsQ k ps) i).run Try.prog w = .ok r w ∧ r.map Prod.snd = if p ∈ ps then some (.bool true) else none
  | [], k, i => ⟨none, by simp [entsQ, Instr.findAsking], by simp⟩
  | q :: ps, k, i => by
    have hq := run_equal_q p q w
    by_cases h : p = q
    · subst h
      rw [decide_eq_true rfl] at hq
      exact ⟨some (i, .bool true), by simp [entsQ, Instr.findAsking, qrE, hq], by simp⟩
    · rw [decide_eq_false h] at hq
      obtain ⟨r, h1, h2⟩ := run_find_q p w ps (k + 1) (i + 1)
      exact ⟨r, by simp [entsQ, Instr.findAsking, qrE, hq, h1], by rw [h2]; simp [h]⟩
theorem run_key_q (p : Q4) (w : World) (ps : List Q4) : ∃ r, (Instr.findKey 41 (.agg (qv p)) (qM ps).toList).run Try.prog w = .ok r w ∧ r.map Prod.snd = if p ∈ ps then some (.bool true) else none := by
  obtain ⟨r, h1, h2⟩ := run_find_q p w ps 0 0
  refine ⟨r, ?_, h2⟩
  cases ps with
  | nil =>
    simp [entsQ, Instr.findAsking] at h1
    subst h1
    simp [Instr.findKey, run_underlying Try.underlying41, qM, entsQ, Instr.findNow, Result.andThen]
  | cons q ps =>
    simp only [Instr.findKey, run_underlying Try.underlying41, qM, Sem.run_bind, Result.andThen_ok]
    have : Instr.findNow (.struct (Try.prog.fieldsOf 41)) (.agg (qv p)) (entsQ 0 (q :: ps)) 0 = none := rfl
    exact h1
theorem ck_qp (b : Bool) (p : Nat × Nat) (w : World) : (Instr.checkKey b 9999 40 (.agg (qp p))).run Try.prog w = .ok () w := by
  show (Instr.checkKey b (9997 + 1 + 1) _ _).run _ _ = _
  unfold Instr.checkKey
  simp [Sem.run_bind, run_underlying Try.underlying40, qp]
  unfold Instr.checkKey
  simp [go_sem, part]
theorem run_ck_q (b : Bool) (p : Q4) (w : World) : (Instr.checkKey b 10000 41 (.agg (qv p))).run Try.prog w = .ok () w := by
  show (Instr.checkKey b (9999 + 1) _ _).run _ _ = _
  unfold Instr.checkKey
  simp only [Sem.run_bind, run_underlying Try.underlying41, Result.andThen_ok]
  simp [List.range', Sem.run_bind, q_size, part_q0, part_q2, ck_qp]
/-- Block B holds the map that has the keys ps. -/
def MapQ (w : World) (B : Nat) (ps : List Q4) : Prop := w.heap[B]? = some (.map (qM ps) ps.length)
theorem MapQ.lt {w : World} {B : Nat} {ps : List Q4} (h : MapQ w B ps) : B < w.heap.size := (Array.getElem?_eq_some_iff.1 h).1
theorem MapQ.bel {w w' : World} {B : Nat} {ps : List Q4} (h : MapQ w B ps) (hb : Bel w w') : MapQ w' B ps := (hb.out.block B h.lt).trans h
theorem MapQ.old {w : World} {B : Nat} {ps : List Q4} (h : MapQ w B ps) {q : Q4} {b : Nat} (hq : qrE q b ∈ (qM ps).toList) : q ∈ ps := by
  obtain ⟨p, c, h1, h2, _⟩ := entsQ_mem (k := 0) (by simpa [qM] using hq)
  have : Value.agg (qv q) = Value.agg (qv p) := by
    have := congrArg MapEntry.key h1; exact this
  have := qv_inj (by simpa using this)
  subst this; exact h2
theorem bool_zeroq (w : World) : (zeroValue 4).run Try.prog w = .ok (.bool false) w := by kernel_rfl
theorem run_look_q {w : World} {B : Nat} {ps : List Q4} (h : MapQ w B ps) (p : Q4) :
    (Instr.lookup 31 (.map (some B)) (.agg (qv p)) false).run Try.prog w = .ok (.bool (decide (p ∈ ps))) w := by
  obtain ⟨r, h1, h2⟩ := run_key_q p w ps
  unfold Instr.lookup
  simp only [Sem.run_bind, run_underlying Try.underlying31, Result.andThen_ok, MapKept.run_getObj_map h, run_ck_q, h1, Sem.run_pure]
  cases r with
  | none =>
    have hn : p ∉ ps := fun hp => by rw [if_pos hp] at h2; cases h2
    simp [bool_zeroq, hn]
  | some x =>
    obtain ⟨j, v⟩ := x
    have hp : p ∈ ps := by
      by_cases hp : p ∈ ps
      · exact hp
      · rw [if_neg hp] at h2; cases h2
    rw [if_pos hp] at h2
    simp only [Option.map_some, Option.some.injEq] at h2
    subst h2
    simp [hp]
def qset (w : World) (B : Nat) (ps : List Q4) : World := { w with heap := w.heap.setIfInBounds B (.map (qM ps) ps.length) }
theorem qset_map {w : World} {B : Nat} (ps : List Q4) (h : B < w.heap.size) : MapQ (qset w B ps) B ps := by simp [MapQ, qset, h]
theorem qset_other (w : World) (B : Nat) (ps : List Q4) {k : Nat} (h : k ≠ B) : (qset w B ps).heap[k]? = w.heap[k]? := by simp [qset, Ne.symm h]
theorem below_qset {N : Nat} {w w' : World} (h : Below N w w') {B : Nat} (hB : N ≤ B) (ps : List Q4) : Below N w (qset w' B ps) :=
  h.trans ⟨rfl, rfl, rfl, by simp [qset], fun k hk => qset_other w' B ps (by omega)⟩
theorem run_upd_q {w : World} {B : Nat} {ps : List Q4} (h : MapQ w B ps) {p : Q4} (hp : p ∉ ps) :
    (Instr.mapUpdate 31 (.map (some B)) (.agg (qv p)) (.bool true)).run Try.prog w = .ok () (qset w B (ps ++ [p])) := by
  obtain ⟨r, h1, h2⟩ := run_key_q p w ps
  rw [if_neg hp] at h2
  have hr : r = none := by cases r with
    | none => rfl
    | some x => cases h2
  subst hr
  unfold Instr.mapUpdate
  simp only [Sem.run_bind, run_underlying Try.underlying31, MapKept.run_getObj_map h, Result.andThen_ok, run_ck_q, h1, MapKept.run_setObj_map _ h]
  have e : (qM ps).push ⟨.agg (qv p), .bool true, ps.length⟩ = qM (ps ++ [p]) := qM_snoc ps p
  rw [e]
  unfold qset
  rw [List.length_append, List.length_singleton]
section
variable {ops : Array Oper} {rest : List Oper} {o : Oper} {a : Act} {w : World} {Q : Exit → Act → World → Prop}
theorem updQ (m k v : Operand) (ho : o.op = .mapUpdate 31 m k v) (hgd : o.guard = none) {B : Nat} {ps : List Q4} {p : Q4} (hm : a.eval m = .map (some B)) (hk : a.eval k = .agg (qv p)) (hv : a.eval v = .bool true) (hb : MapQ w B ps) (hp : p ∉ ps)
    (h : wpList Try.prog ops Q rest (a.put o.dst undef) (qset w B (ps ++ [p]))) : wpList Try.prog ops Q (o :: rest) a w := by
  refine wpList_plain hgd fun _ hK' => ?_
  unfold Oper.wp execOp
  simp only [ho, hm, hk, hv, Sem.run_bind, run_upd_q hb hp, Result.andThen_ok, Sem.run_pure]
  exact hK' _ _ h
end
theorem qM_old (ps : List Q4) : ∀ x ∈ (qM ps).toList, x.born < ps.length := fun x hx => by
  obtain ⟨p, b, rfl, _, _, h⟩ := entsQ_mem (k := 0) (by simpa [qM] using hx)
  simpa [qrE] using h
theorem qM_nodup (ps : List Q4) : ((qM ps).toList.map (·.born)).Nodup := by simpa [qM] using entsQ_born ps 0
theorem qM_in {ps : List Q4} {e : MapEntry} (h : InM (qM ps) e) : ∃ p b, e = qrE p b ∧ p ∈ ps := by
  obtain ⟨p, b, h1, h2, _⟩ := entsQ_mem (k := 0) (by simpa [qM, InM] using h)
  exact ⟨p, b, h1, h2⟩
end Go.Proofs.Ytjddahidkodieaa

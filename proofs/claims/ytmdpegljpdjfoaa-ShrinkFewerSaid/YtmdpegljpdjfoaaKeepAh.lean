/- Maps whose keys are pairs of numbers and whose values are all true: made, filled, looked into, gone through. | The map of all pairs of which one is ahead: ahead, look-ups. -/
import Derived.Test.YtmdpegljpdjfoaaPr
import Derived.Test.YtmdpegljpdjfoaaMapInt
import Derived.Test.YtmdpegljpdjfoaaOrder2
import Derived.Test.YtmdpegljpdjfoaaBase
set_option linter.all false
set_option maxRecDepth 100000
namespace Go.Proofs.Ytmdpegljpdjfoaa
open Go Go.RowKit

def prE (p : Nat × Nat) (b : Nat) : MapEntry := ⟨.agg (prv p), .bool true, b⟩
def entsF : Nat → List (Nat × Nat) → List MapEntry
  | _, [] => []
  | k, p :: ps => prE p k :: entsF (k + 1) ps
def prM (ps : List (Nat × Nat)) : Array MapEntry := (entsF 0 ps).toArray
theorem entsF_snoc (ps : List (Nat × Nat)) (p : Nat × Nat) : ∀ k, entsF k (ps ++ [p]) = entsF k ps ++ [prE p (k + ps.length)] := by
  induction ps with
  | nil => intro k; rfl
  | cons q ps ih => intro k; simp only [List.cons_append, entsF, ih, List.length_cons]; rw [show k + 1 + ps.length = k + (ps.length + 1) by omega]
theorem prM_snoc (ps : List (Nat × Nat)) (p : Nat × Nat) : (prM ps).push (prE p ps.length) = prM (ps ++ [p]) := by
  unfold prM; rw [entsF_snoc]; simp
theorem entsF_mem {e : MapEntry} : ∀ {ps : List (Nat × Nat)} {k : Nat}, e ∈ entsF k ps → ∃ p b, e = prE p b ∧ p ∈ ps ∧ k ≤ b ∧ b < k + ps.length
  | [], _, h => by cases h
  | q :: ps, k, h => by
    simp only [entsF, List.mem_cons] at h
    rcases h with rfl | h
    · exact ⟨q, k, rfl, by simp, by omega, by simp⟩
    · obtain ⟨p, b, h1, h2, h3, h4⟩ := entsF_mem h
      exact ⟨p, b, h1, by simp [h2], by omega, by simp only [List.length_cons]; omega⟩
theorem entsF_born : ∀ (ps : List (Nat × Nat)) (k : Nat), ((entsF k ps).map (·.born)).Nodup
  | [], _ => by simp [entsF]
  | q :: ps, k => by
    simp only [entsF, List.map_cons, List.nodup_cons]
    refine ⟨fun h => ?_, entsF_born ps (k + 1)⟩
    obtain ⟨e, he, hb⟩ := List.mem_map.1 h
    obtain ⟨p, b, rfl, _, h3, _⟩ := entsF_mem he
    simp only [prE] at hb; omega
theorem prv_inj {a b : Nat × Nat} (h : prv a = prv b) : a = b := by
  obtain ⟨a1, a2⟩ := a; obtain ⟨b1, b2⟩ := b
  simp only [prv, Array.mk.injEq, List.cons.injEq, Value.int.injEq, true_and, and_true] at h
  have h1 := h.1; have h2 := h.2
  rw [Prod.mk.injEq]
  omega
theorem run_find_pr (p : Nat × Nat) (w : World) : ∀ (ps : List (Nat × Nat)) (k i : Nat), ∃ r, (Instr.findAsking 43 (.agg (prv p)) (entsF k ps) i).run Try.prog w = .ok r w ∧ r.map Prod.snd = if p ∈ ps then some (.bool true) else none
  | [], k, i => ⟨none, by simp [entsF, Instr.findAsking], by simp⟩
  | q :: ps, k, i => by
    have hq := run_equal_pr p q w
    by_cases h : p = q
    · subst h
      rw [decide_eq_true rfl] at hq
      exact ⟨some (i, .bool true), by simp [entsF, Instr.findAsking, prE, hq], by simp⟩
    · rw [decide_eq_false h] at hq
      obtain ⟨r, h1, h2⟩ := run_find_pr p w ps (k + 1) (i + 1)
      exact ⟨r, by simp [entsF, Instr.findAsking, prE, hq, h1], by rw [h2]; simp [h]⟩
theorem run_key_pr (p : Nat × Nat) (w : World) (ps : List (Nat × Nat)) : ∃ r, (Instr.findKey 43 (.agg (prv p)) (prM ps).toList).run Try.prog w = .ok r w ∧ r.map Prod.snd = if p ∈ ps then some (.bool true) else none := by
  obtain ⟨r, h1, h2⟩ := run_find_pr p w ps 0 0
  refine ⟨r, ?_, h2⟩
  cases ps with
  | nil =>
    simp [entsF, Instr.findAsking] at h1
    subst h1
    simp [Instr.findKey, run_underlying Try.underlying43, prM, entsF, Instr.findNow, Result.andThen]
  | cons q ps =>
    simp only [Instr.findKey, run_underlying Try.underlying43, prM, Sem.run_bind, Result.andThen_ok]
    have : Instr.findNow (.struct (Try.prog.fieldsOf 43)) (.agg (prv p)) (entsF 0 (q :: ps)) 0 = none := rfl
    exact h1
theorem run_ck_pr (b : Bool) (p : Nat × Nat) (w : World) : (Instr.checkKey b 10000 43 (.agg (prv p))).run Try.prog w = .ok () w := by
  show (Instr.checkKey b (9998 + 1 + 1) _ _).run _ _ = _
  unfold Instr.checkKey
  simp [Sem.run_bind, run_underlying Try.underlying43, prv]
  unfold Instr.checkKey
  simp [go_sem, part]
/-- Block B holds the map that has the keys ps. -/
def MapB (w : World) (B : Nat) (ps : List (Nat × Nat)) : Prop := w.heap[B]? = some (.map (prM ps) ps.length)
theorem MapB.lt {w : World} {B : Nat} {ps : List (Nat × Nat)} (h : MapB w B ps) : B < w.heap.size := (Array.getElem?_eq_some_iff.1 h).1
theorem MapB.bel {w w' : World} {B : Nat} {ps : List (Nat × Nat)} (h : MapB w B ps) (hb : Bel w w') : MapB w' B ps := (hb.out.block B h.lt).trans h
theorem MapB.old {w : World} {B : Nat} {ps : List (Nat × Nat)} (h : MapB w B ps) {q : Nat × Nat} {b : Nat} (hq : prE q b ∈ (prM ps).toList) : q ∈ ps := by
  obtain ⟨p, c, h1, h2, _⟩ := entsF_mem (k := 0) (by simpa [prM] using hq)
  have : Value.agg (prv q) = Value.agg (prv p) := by
    have := congrArg MapEntry.key h1; exact this
  have := prv_inj (by simpa using this)
  subst this; exact h2
theorem bool_zero (w : World) : (zeroValue 4).run Try.prog w = .ok (.bool false) w := by kernel_rfl
theorem run_look_pr {w : World} {B : Nat} {ps : List (Nat × Nat)} (h : MapB w B ps) (p : Nat × Nat) :
    (Instr.lookup 39 (.map (some B)) (.agg (prv p)) false).run Try.prog w = .ok (.bool (decide (p ∈ ps))) w := by
  obtain ⟨r, h1, h2⟩ := run_key_pr p w ps
  unfold Instr.lookup
  simp only [Sem.run_bind, run_underlying Try.underlying39, Result.andThen_ok, MapKept.run_getObj_map h, run_ck_pr, h1, Sem.run_pure]
  cases r with
  | none =>
    have hn : p ∉ ps := fun hp => by rw [if_pos hp] at h2; cases h2
    simp [bool_zero, hn]
  | some x =>
    obtain ⟨j, v⟩ := x
    have hp : p ∈ ps := by
      by_cases hp : p ∈ ps
      · exact hp
      · rw [if_neg hp] at h2; cases h2
    rw [if_pos hp] at h2
    simp only [Option.map_some, Option.some.injEq] at h2
    subst h2
    simp [hp]
def mset (w : World) (B : Nat) (ps : List (Nat × Nat)) : World := { w with heap := w.heap.setIfInBounds B (.map (prM ps) ps.length) }
theorem mset_map {w : World} {B : Nat} (ps : List (Nat × Nat)) (h : B < w.heap.size) : MapB (mset w B ps) B ps := by simp [MapB, mset, h]
theorem mset_other (w : World) (B : Nat) (ps : List (Nat × Nat)) {k : Nat} (h : k ≠ B) : (mset w B ps).heap[k]? = w.heap[k]? := by simp [mset, Ne.symm h]
theorem below_mset {N : Nat} {w w' : World} (h : Below N w w') {B : Nat} (hB : N ≤ B) (ps : List (Nat × Nat)) : Below N w (mset w' B ps) :=
  h.trans ⟨rfl, rfl, rfl, by simp [mset], fun k hk => mset_other w' B ps (by omega)⟩
theorem run_upd_pr {w : World} {B : Nat} {ps : List (Nat × Nat)} (h : MapB w B ps) {p : Nat × Nat} (hp : p ∉ ps) :
    (Instr.mapUpdate 39 (.map (some B)) (.agg (prv p)) (.bool true)).run Try.prog w = .ok () (mset w B (ps ++ [p])) := by
  obtain ⟨r, h1, h2⟩ := run_key_pr p w ps
  rw [if_neg hp] at h2
  have hr : r = none := by cases r with
    | none => rfl
    | some x => cases h2
  subst hr
  unfold Instr.mapUpdate
  simp only [Sem.run_bind, run_underlying Try.underlying39, MapKept.run_getObj_map h, Result.andThen_ok, run_ck_pr, h1, MapKept.run_setObj_map _ h]
  have e : (prM ps).push ⟨.agg (prv p), .bool true, ps.length⟩ = prM (ps ++ [p]) := prM_snoc ps p
  rw [e]
  unfold mset
  rw [List.length_append, List.length_singleton]
section
variable {ops : Array Oper} {rest : List Oper} {o : Oper} {a : Act} {w : World} {Q : Exit → Act → World → Prop}
theorem updPr (m k v : Operand) (ho : o.op = .mapUpdate 39 m k v) (hgd : o.guard = none) {B : Nat} {ps : List (Nat × Nat)} {p : Nat × Nat} (hm : a.eval m = .map (some B)) (hk : a.eval k = .agg (prv p)) (hv : a.eval v = .bool true) (hb : MapB w B ps) (hp : p ∉ ps)
    (h : wpList Try.prog ops Q rest (a.put o.dst undef) (mset w B (ps ++ [p]))) : wpList Try.prog ops Q (o :: rest) a w := by
  refine wpList_plain hgd fun _ hK' => ?_
  unfold Oper.wp execOp
  simp only [ho, hm, hk, hv, Sem.run_bind, run_upd_pr hb hp, Result.andThen_ok, Sem.run_pure]
  exact hK' _ _ h
end
theorem prM_old (ps : List (Nat × Nat)) : ∀ x ∈ (prM ps).toList, x.born < ps.length := fun x hx => by
  obtain ⟨p, b, rfl, _, _, h⟩ := entsF_mem (k := 0) (by simpa [prM] using hx)
  simpa [prE] using h
theorem prM_nodup (ps : List (Nat × Nat)) : ((prM ps).toList.map (·.born)).Nodup := by simpa [prM] using entsF_born ps 0
theorem prM_in {ps : List (Nat × Nat)} {e : MapEntry} (h : InM (prM ps) e) : ∃ p b, e = prE p b ∧ p ∈ ps := by
  obtain ⟨p, b, h1, h2, _⟩ := entsF_mem (k := 0) (by simpa [prM, InM] using h)
  exact ⟨p, b, h1, h2⟩
end Go.Proofs.Ytmdpegljpdjfoaa
namespace Go.Proofs.Ytmdpegljpdjfoaa
open Go Go.RowKit

theorem may_two : may twoL = 0 := by decide +kernel
theorem prOf_two : prOf bef twoL = [(0, 1), (0, 2)] := by rw [prOf_ok may_two (n := 3) rfl]; exact prsA_two
/-- A map of all the pairs of which one is before the other. -/
def AheadPost (w : World) (l : List Ev) (e : Ending) (w' : World) : Prop := ∃ B, e = .returned (.map (some B)) ∧ MapB w' B (prsA (bef l) l.length) ∧ Below w.heap.size w w'
structure FillR (w : World) (B : Nat) (ps : List (Nat × Nat)) (wr : World) : Prop where
  map : MapB wr B ps
  ge : w.heap.size ≤ B
  below : Bel w wr
theorem mem_bef (l : List Ev) (a b : Nat) : decide ((a, b) ∈ prsA (bef l) l.length) = bef l a b := by
  rw [Bool.eq_iff_iff, decide_eq_true_iff, mem_prsA]
  exact ⟨fun h => h.2.2, fun h => ⟨by have := bef_lt h; omega, (bef_lt h).2, h⟩⟩
/-- A look-up in the map of all pairs. -/
theorem look_bef {w : World} {B : Nat} {l : List Ev} (h : MapB w B (prsA (bef l) l.length)) (a b : Nat) :
    (Instr.lookup 39 (.map (some B)) (.agg #[.int .i64 a, .int .i64 b]) false).run Try.prog w = .ok (.bool (bef l a b)) w := by
  rw [← mem_bef]; exact run_look_pr h (a, b)
end Go.Proofs.Ytmdpegljpdjfoaa

import Derived.Test.YtlcldcbdobgdbaaZPp
import Derived.Test.YtlcldcbdobgdbaaZRfG
import Derived.Test.YtlcldcbdobgdbaaZPg
import Derived.RangeFuncBox
import Derived.Test.YtlcldcbdobgdbaaZHv
import Derived.Test.YtlcldcbdobgdbaaZEqInt
import Derived.Test.YtlcldcbdobgdbaaZKeepTw
import Derived.Test.YtlcldcbdobgdbaaZEc
import Derived.Test.YtlcldcbdobgdbaaZGrow
set_option linter.all false
set_option maxRecDepth 100000
namespace Go.Proofs.Ytlcldcbdobgdbaa
open Go Go.RowKit

def evLk (l : List Ev) (o : Ev) : List Ev := if o.k = 4 ∧ hldL l o.t = false then [⟨3, 0, o.t⟩] else if o.k = 5 ∧ hldL l o.t = true then [⟨4, 0, o.t⟩] else []
def lckT (ops : List Ev) : Nat → List Ev
  | 0 => []
  | i + 1 => lckT ops i ++ (match ops[i]? with | none => [] | some o => evLk (ops.take i) o)
theorem lckT_succ {ops : List Ev} {i : Nat} {o : Ev} (h : ops[i]? = some o) : lckT ops (i + 1) = lckT ops i ++ evLk (ops.take i) o := by show _ ++ (match ops[i]? with | none => [] | some o => evLk (ops.take i) o) = _; rw [h]
theorem edge_snoc (l : List Ev) (e : Ev) (a b : Int) : edge (l ++ [e]) a b = (edge l a b || (e.k == 3 && e.o == b && owner l a == e.t)) := by
  unfold edge
  rw [List.length_append, List.length_singleton, List.range_succ, List.any_append]
  have h1 : ∀ i, i < l.length → edgeAt (l ++ [e]) a b i = edgeAt l a b i := fun i hi => by
    unfold edgeAt evA
    rw [List.take_append_of_le_length (Nat.le_of_lt hi), List.getElem?_append_left hi]
  have h2 : edgeAt (l ++ [e]) a b l.length = (e.k == 3 && e.o == b && owner l a == e.t) := by
    unfold edgeAt evA
    rw [List.take_append_of_le_length (Nat.le_refl _), List.take_length, List.getElem?_append_right (Nat.le_refl _), Nat.sub_self]
    rfl
  congr 1
  · rw [Bool.eq_iff_iff, List.any_eq_true, List.any_eq_true]
    constructor <;> rintro ⟨i, hi, h⟩ <;> refine ⟨i, hi, ?_⟩
    · rwa [h1 i (List.mem_range.1 hi)] at h
    · rwa [h1 i (List.mem_range.1 hi)]
  · simp [h2]
structure LckR (ops : List Ev) (i : Nat) : Prop where
  own : ∀ k, owner (lckT ops i) k = if hldL (ops.take i) k = true then 0 else -1
  good : good [] (lckT ops i)
  len : (lckT ops i).length ≤ i
  bg : begun (lckT ops i) 0 = true
  dd : did (lckT ops i) 6 0 = false
  edge : ∀ a b : Nat, edge (lckT ops i) a b = (List.range i).any (alA ops a b)
theorem LckR.zero (ops : List Ev) : LckR ops 0 := ⟨fun k => by simp [lckT, owner, hldL], trivial, Nat.le_refl _, rfl, rfl, fun a b => rfl⟩
theorem LckR.succ {ops : List Ev} {i : Nat} {o : Ev} (h : LckR ops i) (ho : ops[i]? = some o) (hi : isOp o = true) : LckR ops (i + 1) := by
  obtain ⟨hk1, hk9, h0, _, h4, _⟩ := isOp_obj hi
  have hS := lckT_succ ho
  have hT : ∀ k, hldL (ops.take (i + 1)) k = if (o.k = 4 ∨ o.k = 5) ∧ k = o.t then decide (o.k = 4) else hldL (ops.take i) k := fun k => by
    rw [take_snoc ho, hldL_snoc]; rfl
  have hal : ∀ a b : Nat, (List.range (i + 1)).any (alA ops a b) = ((List.range i).any (alA ops a b) || (decide (o.k = 4) && (decide (o.t = (b : Int)) && (hldL (ops.take i) a && !hldL (ops.take i) b)))) := fun a b => by
    rw [List.range_succ, List.any_append, ← alA_at ho a b]; simp
  by_cases c4 : o.k = 4 ∧ hldL (ops.take i) o.t = false
  · have hE : lckT ops (i + 1) = lckT ops i ++ [⟨3, 0, o.t⟩] := by rw [hS]; unfold evLk; rw [if_pos c4]
    have ho5 := h4 (.inl c4.1)
    have hw : wrong (lckT ops i) ⟨3, 0, o.t⟩ = 0 := by
      unfold wrong
      have hev : isEv ⟨3, 0, o.t⟩ = true := by unfold isEv; simp only [Bool.and_eq_true, inB_iff]; obtain ⟨_, n2, _⟩ := nobj_at (k := (3 : Int)); rw [n2 (.inl rfl)]; omega
      rw [if_neg (by rw [hev]; simp), if_neg (by rw [h.bg, h.dd]; simp), if_pos rfl]
      show (if 0 ≤ owner (lckT ops i) o.t then (9 : Int) else 0) = 0
      rw [h.own, c4.2]; rfl
    refine ⟨fun k => ?_, ?_, ?_, ?_, ?_, fun a b => ?_⟩
    · rw [hE, owner_snoc]
      unfold ownB
      by_cases hk : k = o.t
      · have hq := hT k
        rw [if_pos ⟨.inl c4.1, hk⟩, decide_eq_true c4.1] at hq
        rw [hq, if_neg (by simp), if_pos ⟨hk.symm, rfl⟩]; rfl
      · have hq := hT k
        rw [if_neg (fun g => hk g.2)] at hq
        rw [hq, if_neg (by simp), if_neg (fun g => hk g.1.symm)]; exact h.own k
    · rw [hE]; exact good_snoc h.good hw
    · rw [hE, List.length_append]; have := h.len; simp; omega
    · rw [hE]; exact begun_app h.bg
    · rw [hE, did_snoc, h.dd]; rfl
    · rw [hE, edge_snoc, h.edge, hal, h.own]
      congr 1
      rw [decide_eq_true c4.1, Bool.true_and]
      by_cases hb : o.t = (b : Int)
      · rw [← hb, c4.2]
        cases hldL (ops.take i) (a : Int) <;> simp
      · rw [decide_eq_false hb]; simp [hb]
  · by_cases c5 : o.k = 5 ∧ hldL (ops.take i) o.t = true
    · have hE : lckT ops (i + 1) = lckT ops i ++ [⟨4, 0, o.t⟩] := by rw [hS]; unfold evLk; rw [if_neg c4, if_pos c5]
      have ho5 := h4 (.inr c5.1)
      have hw : wrong (lckT ops i) ⟨4, 0, o.t⟩ = 0 := by
        unfold wrong
        have hev : isEv ⟨4, 0, o.t⟩ = true := by unfold isEv; simp only [Bool.and_eq_true, inB_iff]; obtain ⟨_, n2, _⟩ := nobj_at (k := (4 : Int)); rw [n2 (.inr rfl)]; omega
        rw [if_neg (by rw [hev]; simp), if_neg (by rw [h.bg, h.dd]; simp), if_neg (by simp), if_pos rfl]
        show (if owner (lckT ops i) o.t = 0 then (0 : Int) else 10) = 0
        rw [h.own, c5.2]; rfl
      refine ⟨fun k => ?_, ?_, ?_, ?_, ?_, fun a b => ?_⟩
      · rw [hE, owner_snoc]
        unfold ownB
        by_cases hk : k = o.t
        · have hq := hT k
          rw [if_pos ⟨.inr c5.1, hk⟩, decide_eq_false (by omega)] at hq
          rw [hq, if_pos ⟨hk.symm, rfl⟩]; rfl
        · have hq := hT k
          rw [if_neg (fun g => hk g.2)] at hq
          rw [hq, if_neg (fun g => hk g.1.symm), if_neg (by simp)]; exact h.own k
      · rw [hE]; exact good_snoc h.good hw
      · rw [hE, List.length_append]; have := h.len; simp; omega
      · rw [hE]; exact begun_app h.bg
      · rw [hE, did_snoc, h.dd]; rfl
      · rw [hE, edge_snoc, h.edge, hal, decide_eq_false (p := o.k = 4) (by omega)]
        simp
    · have hE : lckT ops (i + 1) = lckT ops i := by rw [hS]; unfold evLk; rw [if_neg c4, if_neg c5, List.append_nil]
      have hsame : ∀ k, hldL (ops.take (i + 1)) k = hldL (ops.take i) k := fun k => by
        rw [hT]
        by_cases hk : (o.k = 4 ∨ o.k = 5) ∧ k = o.t
        · rw [if_pos hk, hk.2]
          rcases hk.1 with h' | h'
          · rw [decide_eq_true h']
            cases hq : hldL (ops.take i) o.t
            · exact absurd ⟨h', hq⟩ c4
            · rfl
          · rw [decide_eq_false (by omega)]
            cases hq : hldL (ops.take i) o.t
            · rfl
            · exact absurd ⟨h', hq⟩ c5
        · rw [if_neg hk]
      refine ⟨fun k => by rw [hE, hsame]; exact h.own k, by rw [hE]; exact h.good, by rw [hE]; have := h.len; omega, by rw [hE]; exact h.bg, by rw [hE]; exact h.dd, fun a b => ?_⟩
      rw [hE, h.edge, hal]
      by_cases k4 : o.k = 4
      · have hq : hldL (ops.take i) o.t = true := by
          cases hq : hldL (ops.take i) o.t
          · exact absurd ⟨k4, hq⟩ c4
          · rfl
        by_cases hb : o.t = (b : Int)
        · rw [← hb, hq]; simp
        · rw [decide_eq_false hb]; simp
      · rw [decide_eq_false k4]; simp
theorem lckR {ops : List Ev} (h : ∀ o ∈ ops, isOp o = true) : ∀ i, i ≤ ops.length → LckR ops i
  | 0, _ => LckR.zero ops
  | i + 1, hi => by
    have hlt : i < ops.length := by omega
    exact (lckR h i (by omega)).succ (List.getElem?_eq_getElem hlt) (h _ (List.getElem_mem hlt))
theorem lck_may {ops : List Ev} (h : ∀ o ∈ ops, isOp o = true) (hl : ops.length ≤ 12) : may (lckT ops ops.length) = 0 :=
  may_good.2 ⟨by have := (lckR h ops.length (Nat.le_refl _)).len; omega, (lckR h ops.length (Nat.le_refl _)).good⟩
theorem lck_edge {ops : List Ev} (h : ∀ o ∈ ops, isOp o = true) (a b : Nat) : edge (lckT ops ops.length) a b = alB ops a b := by rw [(lckR h ops.length (Nat.le_refl _)).edge, alB_any]
end Go.Proofs.Ytlcldcbdobgdbaa
set_option linter.all false
set_option maxRecDepth 100000
namespace Go.Proofs.Ytlcldcbdobgdbaa
open Go Go.RowKit

theorem own_int {w : World} {base : Nat} {t : TypeId} {v : Value} {l : List Int} {n : Nat} (h : w.ownsRow base t 1 v n (intq l)) : SlI w v l := by
  have hl : l.length = n := by have := h.1; simp [intq] at this; omega
  rcases h.2 with ⟨rfl, rfl⟩ | ⟨g, cap, cur, rfl, hg, hh, hn, hc, hs, ht⟩
  · exact .inl ⟨rfl, List.eq_nil_of_length_eq_zero hl⟩
  · have hb : Box w g cur t := hh
    refine .inr ⟨g, 0, n, cap, rfl, hl, by omega, fun i hi => ?_⟩
    rw [Nat.zero_add]
    refine hb.cell i ?_
    have h9 : (intq l)[i]? = some (.int .i64 (l[i]?.getD 0)) := by
      unfold intq
      rw [List.getElem?_map, List.getElem?_eq_getElem (by omega)]; rfl
    rw [← ht, List.getElem?_take] at h9
    split at h9
    · simpa using h9
    · cases h9
theorem own_formI {w : World} {base : Nat} {t : TypeId} {v : Value} {xs : List Value} {n size : Nat} (h : w.ownsRow base t size v n xs) : ∃ A c, v = .slice A n c := by
  rcases h.2 with ⟨rfl, rfl⟩ | ⟨g, cap, cur, rfl, _⟩
  · exact ⟨_, _, rfl⟩
  · exact ⟨_, _, rfl⟩
theorem fill1r {n : Nat} (hn : n = 1) (f : Fin n → Value) (a : Value) : (Array.ofFn f).setIfInBounds 0 a = #[a] := by
  subst hn
  apply Array.ext
  · simp
  · intro i h1 h2
    have hi : i < 1 := by simpa using h2
    match i, hi with
    | 0, _ => simp [Array.getElem_setIfInBounds]
theorem run_buildI {P : Program} (t e : TypeId) (i : TypeInfo) (ht : P.underlying t = some (.slice e)) (hi : P.info? e = some i) (hz : i.zero = some (.int .i64 0)) (hs : i.size = 1) (x : Int) (w : World) :
    (Instr.buildSlice t 1 #[(0, .int .i64 x)]).run P w = .ok (.slice (some ⟨w.heap.size, 0, none⟩) 1 1) (w.alloc (.cells #[.int .i64 x] e)) := by
  simp [Instr.buildSlice, Sem.run_bind, run_underlying ht, sizeOf, typeInfo, hi, hs, zeroValue, hz, Instr.fill, Value.cells, newRow, newObj, List.zipIdx, Array.range, Result.andThen, go_sem]
  rw [fill1r (by rw [hs])]
  rfl
theorem buildI {P : Program} {ops : Array Oper} {rest : List Oper} {o : Oper} {a : Act} {w : World} {Q : Exit → Act → World → Prop} (t : TypeId) (x : Operand) (ho : o.op = .buildSlice t 1 #[(0, x)]) (hgd : o.guard = none) (e : TypeId) (i : TypeInfo) (ht : P.underlying t = some (.slice e)) (hi : P.info? e = some i)
    (hz : i.zero = some (.int .i64 0)) (hs : i.size = 1) (n : Int) (hx : a.eval x = .int .i64 n)
    (h : wpList P ops Q rest (a.put o.dst (.slice (some ⟨w.heap.size, 0, none⟩) 1 1)) (w.alloc (.cells #[.int .i64 n] e))) : wpList P ops Q (o :: rest) a w :=
  wpList_plain hgd fun _ hK' => by
    have h9 := hK' _ _ h
    unfold Oper.wp execOp
    simp only [ho, Sem.run_bind, Sem.run_pure, Result.andThen_ok, List.map_toArray, List.map_cons, List.map_nil, hx, run_buildI t e i ht hi hz hs n w]
    exact h9
theorem toI_app (r : List Nat) (k : Nat) : intq (toI (r ++ [k])) = intq (toI r) ++ [.int .i64 k] := by simp [intq, toI]
end Go.Proofs.Ytlcldcbdobgdbaa
set_option linter.all false
set_option maxRecDepth 100000
namespace Go.Proofs.Ytlcldcbdobgdbaa
open Go Go.RowKit

def qrl (p : Int × Int) : List Value := [.int .i64 p.1, .int .i64 p.2]
def qrv (p : Int × Int) : Array Value := #[.int .i64 p.1, .int .i64 p.2]
theorem qrv_all (p : Int × Int) : (qrv p).all (·.oneCell') = true := by simp [qrv, Value.oneCell']
def qrc : List (Int × Int) → List Value
  | [] => []
  | p :: l => .int .i64 p.1 :: .int .i64 p.2 :: qrc l
theorem qrc_get (l : List (Int × Int)) (i : Nat) (p : Int × Int) (h : l[i]? = some p) : (qrc l)[i * 2]? = some (.int .i64 p.1) ∧ (qrc l)[i * 2 + 1]? = some (.int .i64 p.2) := by
  induction l generalizing i with
  | nil => simp at h
  | cons x l ih =>
    cases i with
    | zero => simp at h; subst h; exact ⟨rfl, rfl⟩
    | succ i =>
      have := ih i (by simpa using h)
      simp only [qrc]
      rw [show (i + 1) * 2 = i * 2 + 1 + 1 by omega]
      simpa using this
theorem qrc_at {l : List (Int × Int)} {i : Nat} {p : Int × Int} (h : l[i]? = some p) (j : Nat) (v : Value) (hv : (qrl p)[j]? = some v) : (qrc l)[i * 2 + j]? = some v := by
  obtain ⟨h0, h1⟩ := qrc_get l i p h
  match j, hv with
  | 0, hv => simp [qrl] at hv; subst hv; simpa using h0
  | 1, hv => simp [qrl] at hv; subst hv; exact h1
  | j + 2, hv => simp [qrl] at hv
def SlQ (w : World) (A : Option Addr) (n : Nat) (l : List (Int × Int)) : Prop :=
  l.length = n ∧ (0 < n → ∃ b off, A = some ⟨b, off, none⟩ ∧ b < w.heap.size ∧ w.rangeAt b off (qrc l))
theorem SlQ.bel {w w' : World} {A : Option Addr} {n : Nat} {l : List (Int × Int)} (h : SlQ w A n l) (hb : Bel w w') : SlQ w' A n l :=
  ⟨h.1, fun hn => by
    obtain ⟨b, off, hA, hlt, hr⟩ := h.2 hn
    exact ⟨b, off, hA, Nat.lt_of_lt_of_le hlt hb.size, rangeAt_below hb.out hlt hr⟩⟩
theorem SlQ.at_ {w : World} {A : Option Addr} {n : Nat} {l : List (Int × Int)} (h : SlQ w A n l) {i : Nat} (hi : i < n) :
    ∃ b off p, A = some ⟨b, off, none⟩ ∧ b < w.heap.size ∧ l[i]? = some p ∧ w.rangeAt b (off + i * 2) (qrl p) := by
  obtain ⟨b, off, hA, hlt, hr⟩ := h.2 (by omega)
  have hl : i < l.length := by rw [h.1]; exact hi
  exact ⟨b, off, l[i], hA, hlt, List.getElem?_eq_getElem hl, range_part hr fun j v hv => qrc_at (List.getElem?_eq_getElem hl) j v hv⟩
def qwld (w : World) (p : Int × Int) (t : TypeId) : World := (w.alloc (.cells #[.int .i64 0, .int .i64 0] t)).setRow w.heap.size (qrv p)
theorem qwld_box (w : World) (p : Int × Int) (t : TypeId) : Box (qwld w p t) w.heap.size (qrv p) t := (Box.new w _ t).setRow _
theorem qwld_below (w : World) (p : Int × Int) (t : TypeId) : Bel w (qwld w p t) := below_setRow' ((Below.refl _ _).alloc (Nat.le_refl _) _) _ _ (Nat.le_refl _)
theorem qwld_store {P : Program} {ops : Array Oper} {rest : List Oper} {o : Oper} {a : Act} {w' w : World} {Q : Exit → Act → World → Prop} {ty : TypeId} (hT : RowTy P ty 2) (x y : Operand) (ho : o.op = .store ty x y) (hgd : o.guard = none) {p : Int × Int} (t : TypeId)
    (hy : a.eval y = .agg (qrv p)) (hw : w' = w.alloc (.cells #[.int .i64 0, .int .i64 0] t)) (hx : a.eval x = .pointer (some ⟨w.heap.size, 0, none⟩))
    (h : wpList P ops Q rest (a.put o.dst undef) (qwld w p t)) : wpList P ops Q (o :: rest) a w' := by
  subst hw
  exact storeB ty x y ho hgd hx hy (Box.new w _ t) rfl hT (qrv_all p) h
theorem load_qr {P : Program} {ops : Array Oper} {rest : List Oper} {o : Oper} {a : Act} {w : World} {Q : Exit → Act → World → Prop} {ty : TypeId} (hT : RowTy P ty 2) (x : Operand) (ho : o.op = .load ty x) (hgd : o.guard = none) {b off : Nat} {p : Int × Int}
    (hx : a.eval x = .pointer (some ⟨b, off, none⟩)) (hr : w.rangeAt b off (qrl p))
    (h : wpList P ops Q rest (a.put o.dst (.agg (qrv p))) w) : wpList P ops Q (o :: rest) a w := by
  obtain ⟨d, hu, hd, hi⟩ := hT
  exact wpList_load_mid hgd ty x ho b off hx (qrl p) d hr hu hd hi h
def intp (p : Nat × Nat) : Int × Int := (p.1, p.2)
theorem prc_qrc (l : List (Nat × Nat)) : prc l = qrc (l.map intp) := by
  induction l with
  | nil => rfl
  | cons p l ih => simp only [prc, List.map_cons, qrc, ih]; rfl
theorem SlP.q {w : World} {A : Option Addr} {n : Nat} {l : List (Nat × Nat)} (h : SlP w A n l) : SlQ w A n (l.map intp) :=
  ⟨by rw [List.length_map]; exact h.1, fun hn => by rw [← prc_qrc]; exact h.2 hn⟩
end Go.Proofs.Ytlcldcbdobgdbaa
set_option linter.all false
set_option maxRecDepth 100000
namespace Go.Proofs.Ytlcldcbdobgdbaa
open Go Go.RowKit

def qbad (x : Int × Int) : Bool := outs x.1 0 4 || outs x.2 0 4
def Pq (l : List (Int × Int)) (a b : Nat) : Bool := decide ((((a : Nat) : Int), ((b : Nat) : Int)) ∈ l)
def at0 (r : List Nat) (i : Nat) : Nat := r[i]?.getD 0
end Go.Proofs.Ytlcldcbdobgdbaa
set_option linter.all false
set_option maxRecDepth 100000
namespace Go.Proofs.Ytlcldcbdobgdbaa
open Go Go.RowKit

end Go.Proofs.Ytlcldcbdobgdbaa

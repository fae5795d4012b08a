/- Plain facts: the trace of a thread that takes and gives back locks as its ops say. No program in sight. -/
import Derived.Test.YtjindfkomnjceaaPp
import Derived.Test.YtjindfkomnjceaaRpA
import Derived.Test.YtjindfkomnjceaaRfG
import Derived.Test.YtjindfkomnjceaaPg
set_option linter.all false
set_option maxRecDepth 100000
namespace Go.Proofs.Ytjindfkomnjceaa
open Go Go.RowKit

def evLk (l : List Ev) (o : Ev) : List Ev := if o.k = 4 ∧ hldL l o.t = false then [⟨3, 0, o.t⟩] else if o.k = 5 ∧ hldL l o.t = true then [⟨4, 0, o.t⟩] else []
def lckT (ops : List Ev) : Nat → List Ev
  | 0 => []
  | i + 1 => lckT ops i ++ (match ops[i]? with | none => [] | some o => evLk (ops.take i) o)
theorem lckT_succ {ops : List Ev} {i : Nat} {o : Ev} (h : ops[i]? = some o) : lckT ops (i + 1) = lckT ops i ++ evLk (ops.take i) o := by show _ ++ (match ops[i]? with | none => [] | some o => evLk (ops.take i) o) = _; rw [h]
theorem edge_snoc (l : List Ev) (e : Ev) (a b : Int) : edge (l ++ [e]) a b = (edge l a b || (e.k == 3 && e.o == b && owner l a == e.t)) := by
  unfold edge
  rw [List.length_append, List.length_singleton, List.range_succ, List.any_append]
  have h1 : ∀ i, i < l.length → edgeAt (l ++ [e]) a b i = edgeAt l a b i := fun i hi => by
    unfold edgeAt evA
    rw [List.take_append_of_le_length (Nat.le_of_lt hi), List.getElem?_append_left hi]
  have h2 : edgeAt (l ++ [e]) a b l.length = (e.k == 3 && e.o == b && owner l a == e.t) := by
    unfold edgeAt evA
    rw [List.take_append_of_le_length (Nat.le_refl _), List.take_length, List.getElem?_append_right (Nat.le_refl _), Nat.sub_self]
    rfl
  congr 1
  · rw [Bool.eq_iff_iff, List.any_eq_true, List.any_eq_true]
    constructor <;> rintro ⟨i, hi, h⟩ <;> refine ⟨i, hi, ?_⟩
    · rwa [h1 i (List.mem_range.1 hi)] at h
    · rwa [h1 i (List.mem_range.1 hi)]
  · simp [h2]
structure LckR (ops : List Ev) (i : Nat) : Prop where
  own : ∀ k, owner (lckT ops i) k = if hldL (ops.take i) k = true then 0 else -1
  good : good [] (lckT ops i)
  len : (lckT ops i).length ≤ i
  bg : begun (lckT ops i) 0 = true
  dd : did (lckT ops i) 6 0 = false
  edge : ∀ a b : Nat, edge (lckT ops i) a b = (List.range i).any (alA ops a b)
theorem LckR.zero (ops : List Ev) : LckR ops 0 := ⟨fun k => by simp [lckT, owner, hldL], trivial, Nat.le_refl _, rfl, rfl, fun a b => rfl⟩
theorem LckR.succ {ops : List Ev} {i : Nat} {o : Ev} (h : LckR ops i) (ho : ops[i]? = some o) (hi : isOp o = true) : LckR ops (i + 1) := by
  obtain ⟨hk1, hk9, h0, _, h4, _⟩ := isOp_obj hi
  have hS := lckT_succ ho
  have hT : ∀ k, hldL (ops.take (i + 1)) k = if (o.k = 4 ∨ o.k = 5) ∧ k = o.t then decide (o.k = 4) else hldL (ops.take i) k := fun k => by
    rw [take_snoc ho, hldL_snoc]; rfl
  have hal : ∀ a b : Nat, (List.range (i + 1)).any (alA ops a b) = ((List.range i).any (alA ops a b) || (decide (o.k = 4) && (decide (o.t = (b : Int)) && (hldL (ops.take i) a && !hldL (ops.take i) b)))) := fun a b => by
    rw [List.range_succ, List.any_append, ← alA_at ho a b]; simp
  by_cases c4 : o.k = 4 ∧ hldL (ops.take i) o.t = false
  · have hE : lckT ops (i + 1) = lckT ops i ++ [⟨3, 0, o.t⟩] := by rw [hS]; unfold evLk; rw [if_pos c4]
    have ho5 := h4 (.inl c4.1)
    have hw : wrong (lckT ops i) ⟨3, 0, o.t⟩ = 0 := by
      unfold wrong
      have hev : isEv ⟨3, 0, o.t⟩ = true := by unfold isEv; simp only [Bool.and_eq_true, inB_iff]; obtain ⟨_, n2, _⟩ := nobj_at (k := (3 : Int)); rw [n2 (.inl rfl)]; omega
      rw [if_neg (by rw [hev]; simp), if_neg (by rw [h.bg, h.dd]; simp), if_pos rfl]
      show (if 0 ≤ owner (lckT ops i) o.t then (9 : Int) else 0) = 0
      rw [h.own, c4.2]; rfl
    refine ⟨fun k => ?_, ?_, ?_, ?_, ?_, fun a b => ?_⟩
    · rw [hE, owner_snoc]
      unfold ownB
      by_cases hk : k = o.t
      · have hq := hT k
        rw [if_pos ⟨.inl c4.1, hk⟩, decide_eq_true c4.1] at hq
        rw [hq, if_neg (by simp), if_pos ⟨hk.symm, rfl⟩]; rfl
      · have hq := hT k
        rw [if_neg (fun g => hk g.2)] at hq
        rw [hq, if_neg (by simp), if_neg (fun g => hk g.1.symm)]; exact h.own k
    · rw [hE]; exact good_snoc h.good hw
    · rw [hE, List.length_append]; have := h.len; simp; omega
    · rw [hE]; exact begun_app h.bg
    · rw [hE, did_snoc, h.dd]; rfl
    · rw [hE, edge_snoc, h.edge, hal, h.own]
      congr 1
      rw [decide_eq_true c4.1, Bool.true_and]
      by_cases hb : o.t = (b : Int)
      · rw [← hb, c4.2]
        cases hldL (ops.take i) (a : Int) <;> simp
      · rw [decide_eq_false hb]; simp [hb]
  · by_cases c5 : o.k = 5 ∧ hldL (ops.take i) o.t = true
    · have hE : lckT ops (i + 1) = lckT ops i ++ [⟨4, 0, o.t⟩] := by rw [hS]; unfold evLk; rw [if_neg c4, if_pos c5]
      have ho5 := h4 (.inr c5.1)
      have hw : wrong (lckT ops i) ⟨4, 0, o.t⟩ = 0 := by
        unfold wrong
        have hev : isEv ⟨4, 0, o.t⟩ = true := by unfold isEv; simp only [Bool.and_eq_true, inB_iff]; obtain ⟨_, n2, _⟩ := nobj_at (k := (4 : Int)); rw [n2 (.inr rfl)]; omega
        rw [if_neg (by rw [hev]; simp), if_neg (by rw [h.bg, h.dd]; simp), if_neg (by simp), if_pos rfl]
        show (if owner (lckT ops i) o.t = 0 then (0 : Int) else 10) = 0
        rw [h.own, c5.2]; rfl
      refine ⟨fun k => ?_, ?_, ?_, ?_, ?_, fun a b => ?_⟩
      · rw [hE, owner_snoc]
        unfold ownB
        by_cases hk : k = o.t
        · have hq := hT k
          rw [if_pos ⟨.inr c5.1, hk⟩, decide_eq_false (by omega)] at hq
          rw [hq, if_pos ⟨hk.symm, rfl⟩]; rfl
        · have hq := hT k
          rw [if_neg (fun g => hk g.2)] at hq
          rw [hq, if_neg (fun g => hk g.1.symm), if_neg (by simp)]; exact h.own k
      · rw [hE]; exact good_snoc h.good hw
      · rw [hE, List.length_append]; have := h.len; simp; omega
      · rw [hE]; exact begun_app h.bg
      · rw [hE, did_snoc, h.dd]; rfl
      · rw [hE, edge_snoc, h.edge, hal, decide_eq_false (p := o.k = 4) (by omega)]
        simp
    · have hE : lckT ops (i + 1) = lckT ops i := by rw [hS]; unfold evLk; rw [if_neg c4, if_neg c5, List.append_nil]
      have hsame : ∀ k, hldL (ops.take (i + 1)) k = hldL (ops.take i) k := fun k => by
        rw [hT]
        by_cases hk : (o.k = 4 ∨ o.k = 5) ∧ k = o.t
        · rw [if_pos hk, hk.2]
          rcases hk.1 with h' | h'
          · rw [decide_eq_true h']
            cases hq : hldL (ops.take i) o.t
            · exact absurd ⟨h', hq⟩ c4
            · rfl
          · rw [decide_eq_false (by omega)]
            cases hq : hldL (ops.take i) o.t
            · rfl
            · exact absurd ⟨h', hq⟩ c5
        · rw [if_neg hk]
      refine ⟨fun k => by rw [hE, hsame]; exact h.own k, by rw [hE]; exact h.good, by rw [hE]; have := h.len; omega, by rw [hE]; exact h.bg, by rw [hE]; exact h.dd, fun a b => ?_⟩
      rw [hE, h.edge, hal]
      by_cases k4 : o.k = 4
      · have hq : hldL (ops.take i) o.t = true := by
          cases hq : hldL (ops.take i) o.t
          · exact absurd ⟨k4, hq⟩ c4
          · rfl
        by_cases hb : o.t = (b : Int)
        · rw [← hb, hq]; simp
        · rw [decide_eq_false hb]; simp
      · rw [decide_eq_false k4]; simp
theorem lckR {ops : List Ev} (h : ∀ o ∈ ops, isOp o = true) : ∀ i, i ≤ ops.length → LckR ops i
  | 0, _ => LckR.zero ops
  | i + 1, hi => by
    have hlt : i < ops.length := by omega
    exact (lckR h i (by omega)).succ (List.getElem?_eq_getElem hlt) (h _ (List.getElem_mem hlt))
theorem lck_may {ops : List Ev} (h : ∀ o ∈ ops, isOp o = true) (hl : ops.length ≤ 12) : may (lckT ops ops.length) = 0 :=
  may_good.2 ⟨by have := (lckR h ops.length (Nat.le_refl _)).len; omega, (lckR h ops.length (Nat.le_refl _)).good⟩
theorem lck_edge {ops : List Ev} (h : ∀ o ∈ ops, isOp o = true) (a b : Nat) : edge (lckT ops ops.length) a b = alB ops a b := by rw [(lckR h ops.length (Nat.le_refl _)).edge, alB_any]
end Go.Proofs.Ytjindfkomnjceaa

import Derived.WalkKit
import Derived.Laws.BitsAllLaws
set_option linter.all false
set_option maxRecDepth 100000
namespace Go.Proofs.Yticnponenkfneaa
open Go Go.RowKit

structure Ev where
  k : Int
  t : Int
  o : Int
theorem Ev.ext' {a b : Ev} (h1 : a.k = b.k) (h2 : a.t = b.t) (h3 : a.o = b.o) : a = b := by
  cases a; cases b; simp_all
instance : DecidableEq Ev := fun a b =>
  if h : a.k = b.k ∧ a.t = b.t ∧ a.o = b.o then isTrue (Ev.ext' h.1 h.2.1 h.2.2) else isFalse (fun e => h (by subst e; exact ⟨rfl, rfl, rfl⟩))
def evl (e : Ev) : List Value := [.int .i64 e.k, .int .i64 e.t, .int .i64 e.o]
def evv (e : Ev) : Array Value := #[.int .i64 e.k, .int .i64 e.t, .int .i64 e.o]
theorem evv_all (e : Ev) : (evv e).all (·.oneCell') = true := by simp [evv, Value.oneCell']
def evc : List Ev → List Value
  | [] => []
  | e :: l => .int .i64 e.k :: .int .i64 e.t :: .int .i64 e.o :: evc l
theorem evc_length (l : List Ev) : (evc l).length = l.length * 3 := by
  induction l with
  | nil => rfl
  | cons e l ih => simp only [evc, List.length_cons, ih]; omega
theorem evc_append (l m : List Ev) : evc (l ++ m) = evc l ++ evc m := by
  induction l with
  | nil => rfl
  | cons e l ih => simp only [List.cons_append, evc, ih]
theorem evc_get (l : List Ev) (i : Nat) (e : Ev) (h : l[i]? = some e) :
    (evc l)[i * 3]? = some (.int .i64 e.k) ∧ (evc l)[i * 3 + 1]? = some (.int .i64 e.t) ∧ (evc l)[i * 3 + 2]? = some (.int .i64 e.o) := by
  induction l generalizing i with
  | nil => simp at h
  | cons x l ih =>
    cases i with
    | zero => simp at h; subst h; exact ⟨rfl, rfl, rfl⟩
    | succ i =>
      have := ih i (by simpa using h)
      simp only [evc]
      rw [show (i + 1) * 3 = i * 3 + 1 + 1 + 1 by omega]
      simpa using this
theorem evc_take (l : List Ev) (n : Nat) : (evc l).take (n * 3) = evc (l.take n) := by
  induction l generalizing n with
  | nil => simp [evc]
  | cons e l ih =>
    cases n with
    | zero => simp [evc]
    | succ n => rw [show (n + 1) * 3 = n * 3 + 1 + 1 + 1 by omega]; simp only [evc, List.take_succ_cons, ih]
theorem evc_drop (l : List Ev) (n : Nat) : (evc l).drop (n * 3) = evc (l.drop n) := by
  induction l generalizing n with
  | nil => simp [evc]
  | cons e l ih =>
    cases n with
    | zero => simp [evc]
    | succ n => rw [show (n + 1) * 3 = n * 3 + 1 + 1 + 1 by omega]; simp only [evc, List.drop_succ_cons, ih]
theorem evc_one (l : List Ev) : ∀ v ∈ evc l, v.oneCell' = true := by
  induction l with
  | nil => simp [evc]
  | cons e l ih =>
    intro v hv
    simp only [evc, List.mem_cons] at hv
    rcases hv with rfl | rfl | rfl | h
    · rfl
    · rfl
    · rfl
    · exact ih v h

def inB (n m : Int) : Bool := decide (0 ≤ n ∧ n < m)
theorem inB_iff {n m : Int} : inB n m = true ↔ 0 ≤ n ∧ n < m := by simp [inB]
theorem inB_yes {n m : Int} (h0 : 0 ≤ n) (h1 : n < m) : inB n m = true := inB_iff.2 ⟨h0, h1⟩
theorem inB_no {n m : Int} (h : ¬ (0 ≤ n ∧ n < m)) : inB n m = false := by rw [← Bool.not_eq_true, inB_iff]; exact h
def nobj (k : Int) : Int := if k = 1 ∨ k = 2 then 8 else if k = 3 ∨ k = 4 then 5 else if k = 5 ∨ k = 6 then 6 else if k = 7 ∨ k = 8 then 4 else 0
def isEv (e : Ev) : Bool := inB e.t 6 && inB e.o (nobj e.k)
def ownB (who : Int) (e : Ev) (k : Int) : Int := if e.o = k ∧ e.k = 4 then -1 else if e.o = k ∧ e.k = 3 then e.t else who
def owner (l : List Ev) (k : Int) : Int := l.foldl (fun who e => ownB who e k) (-1)
theorem owner_snoc (l : List Ev) (e : Ev) (k : Int) : owner (l ++ [e]) k = ownB (owner l k) e k := by simp [owner, List.foldl_append]
def did (l : List Ev) (kind obj : Int) : Bool := l.any fun e => decide (e.k = kind ∧ e.o = obj)
theorem did_snoc (l : List Ev) (e : Ev) (a b : Int) : did (l ++ [e]) a b = (did l a b || decide (e.k = a ∧ e.o = b)) := by simp [did]
def begun (l : List Ev) (t : Int) : Bool := decide (t = 0) || did l 5 t
theorem begun_snoc (l : List Ev) (e : Ev) (t : Int) : begun (l ++ [e]) t = (begun l t || decide (e.k = 5 ∧ e.o = t)) := by simp [begun, did_snoc, Bool.or_assoc]
def wrong (l : List Ev) (e : Ev) : Int :=
  if isEv e = false then 1 else if begun l e.t = false ∨ did l 6 e.t = true then 11
  else if e.k = 3 then (if 0 ≤ owner l e.o then 9 else 0)
  else if e.k = 4 then (if owner l e.o = e.t then 0 else 10)
  else if e.k = 5 then (if begun l e.o = true then 8 else 0)
  else if e.k = 6 then (if begun l e.o = false ∨ e.o = e.t then 7 else 0) else 0
theorem wrong_isEv {l : List Ev} {e : Ev} (h : wrong l e = 0) : isEv e = true := by
  unfold wrong at h
  cases h1 : isEv e
  · simp [h1] at h
  · rfl
def chk (p : List Ev) : List Ev → Int × Int
  | [] => (0, 0)
  | e :: r => if wrong p e ≠ 0 then (p.length, wrong p e) else chk (p ++ [e]) r
def check (l : List Ev) : Int × Int := if 80 < l.length then (0, 2) else chk [] l
def may (l : List Ev) : Int := (check l).2
theorem chk_step {l : List Ev} {i : Nat} {e : Ev} (h : l[i]? = some e) :
    chk (l.take i) (l.drop i) = if wrong (l.take i) e ≠ 0 then ((i : Int), wrong (l.take i) e) else chk (l.take (i + 1)) (l.drop (i + 1)) := by
  have hi : i < l.length := (List.getElem?_eq_some_iff.1 h).1
  have hd : l.drop i = e :: l.drop (i + 1) := by
    rw [List.drop_eq_getElem_cons hi]; congr 1
    exact (List.getElem?_eq_some_iff.1 h).2
  have ht : l.take (i + 1) = l.take i ++ [e] := by
    rw [List.take_succ_eq_append_getElem hi]; congr 2
    exact (List.getElem?_eq_some_iff.1 h).2
  rw [hd, chk, ht, List.length_take, Nat.min_eq_left (Nat.le_of_lt hi)]
theorem chk_end (l : List Ev) : chk (l.take l.length) (l.drop l.length) = (0, 0) := by simp [chk]
def Fit (l : List Ev) : Prop := ∀ e ∈ l, 0 ≤ e.t ∧ e.t < 6
theorem Fit.nil : Fit [] := fun _ h => by cases h
theorem isEv_t {e : Ev} (h : isEv e = true) : 0 ≤ e.t ∧ e.t < 6 := by
  simp only [isEv, Bool.and_eq_true, inB_iff] at h; exact h.1
theorem isEv_o {e : Ev} (h : isEv e = true) : 0 ≤ e.o ∧ e.o < nobj e.k := by
  simp only [isEv, Bool.and_eq_true, inB_iff] at h; exact h.2
theorem Fit.snoc {l : List Ev} {e : Ev} (h : Fit l) (he : isEv e = true) : Fit (l ++ [e]) := by
  intro x hx
  rcases List.mem_append.1 hx with hx | hx
  · exact h x hx
  · simp at hx; subst hx; exact isEv_t he
theorem owner_range {l : List Ev} (h : Fit l) (k : Int) : -1 ≤ owner l k ∧ owner l k < 6 := by
  suffices H : ∀ (l : List Ev) (w : Int), Fit l → -1 ≤ w ∧ w < 6 → -1 ≤ l.foldl (fun who e => ownB who e k) w ∧ l.foldl (fun who e => ownB who e k) w < 6 from H l (-1) h (by omega)
  intro l
  induction l with
  | nil => intro w _ hw; exact hw
  | cons e l ih =>
    intro w hf hw
    refine ih _ (fun x hx => hf x (List.mem_cons_of_mem _ hx)) ?_
    have := hf e (List.mem_cons_self ..)
    show -1 ≤ ownB w e k ∧ ownB w e k < 6
    unfold ownB; split
    · omega
    · split <;> omega
def hs5 (b0 b1 b2 b3 b4 : Bool) : Int := (if b0 then 1 else 0) + (if b1 then 2 else 0) + (if b2 then 4 else 0) + (if b3 then 8 else 0) + (if b4 then 16 else 0)
def hset (f : Nat → Bool) : Int := hs5 (f 0) (f 1) (f 2) (f 3) (f 4)
theorem hset_congr {f g : Nat → Bool} (h : ∀ k, k < 5 → f k = g k) : hset f = hset g := by
  simp [hset, h 0, h 1, h 2, h 3, h 4]
def held (l : List Ev) (t : Int) : Int := hset fun k => decide (owner l k = t)
end Go.Proofs.Yticnponenkfneaa
namespace Go.Proofs.Yticnponenkfneaa
open Go Go.RowKit

theorem chk_zero (p r : List Ev) : (chk p r).2 = 0 ↔ ∀ i e, r[i]? = some e → wrong (p ++ r.take i) e = 0 := by
  induction r generalizing p with
  | nil => simp [chk]
  | cons x r ih =>
    unfold chk
    by_cases h : wrong p x = 0
    · rw [if_neg (by simpa using h), ih]
      constructor
      · intro H i e he
        cases i with
        | zero => simp at he; subst he; simpa using h
        | succ i =>
          have := H i e (by simpa using he)
          simpa using this
      · intro H i e he
        have := H (i + 1) e (by simpa using he)
        simpa using this
    · rw [if_pos h]
      constructor
      · intro H; exact absurd H h
      · intro H
        have := H 0 x rfl
        simp at this
        exact absurd this h
theorem may_iff (l : List Ev) : may l = 0 ↔ l.length ≤ 80 ∧ ∀ i e, l[i]? = some e → wrong (l.take i) e = 0 := by
  unfold may check
  by_cases h : 80 < l.length
  · rw [if_pos h]; constructor
    · intro h'; cases h'
    · intro ⟨h', _⟩; omega
  · rw [if_neg h, chk_zero]; simp; omega
theorem may_take {l : List Ev} (h : may l = 0) (i : Nat) : may (l.take i) = 0 := by
  rw [may_iff] at h ⊢
  refine ⟨by rw [List.length_take]; omega, fun j e he => ?_⟩
  rw [List.getElem?_take] at he
  split at he
  · have := h.2 j e he
    rwa [List.take_take, Nat.min_eq_left (by omega)]
  · cases he
theorem wrong_fork {p : List Ev} {e : Ev} (h : wrong p e = 0) (hk : e.k = 5) : begun p e.o = false := by
  have hev := wrong_isEv h
  unfold wrong at h
  simp only [hev, Bool.true_eq_false, if_false] at h
  split at h
  · cases h
  · simp [hk] at h; exact h
theorem wrong_thread {p : List Ev} {e : Ev} (h : wrong p e = 0) : begun p e.t = true := by
  have hev := wrong_isEv h
  unfold wrong at h
  simp only [hev, Bool.true_eq_false, if_false] at h
  split at h
  · cases h
  · rename_i hh
    cases hb : begun p e.t
    · exact absurd (.inl hb) hh
    · rfl
theorem begun_mono {p q : List Ev} {t : Int} (h : begun p t = true) : begun (p ++ q) t = true := by
  unfold begun did at *
  rw [List.any_append]
  simp only [Bool.or_eq_true] at *
  rcases h with h | h
  · exact .inl h
  · exact .inr (.inl h)
end Go.Proofs.Yticnponenkfneaa

/- Plain facts on traces: no program in sight. | Plain facts on Check: no program in sight. -/
import Derived.WalkKit
import Derived.Laws.BitsAllLaws
set_option linter.all false
set_option maxRecDepth 100000
namespace Go.Proofs.Yteihildhlcggoaa
open Go Go.RowKit

/-- An event: kind, thread, object. -/
structure Ev where
  k : Int
  t : Int
  o : Int
theorem Ev.ext' {a b : Ev} (h1 : a.k = b.k) (h2 : a.t = b.t) (h3 : a.o = b.o) : a = b := by
  cases a; cases b; simp_all
instance : DecidableEq Ev := fun a b =>
  if h : a.k = b.k ∧ a.t = b.t ∧ a.o = b.o then isTrue (Ev.ext' h.1 h.2.1 h.2.2) else isFalse (fun e => h (by subst e; exact ⟨rfl, rfl, rfl⟩))
def evl (e : Ev) : List Value := [.int .i64 e.k, .int .i64 e.t, .int .i64 e.o]
def evv (e : Ev) : Array Value := #[.int .i64 e.k, .int .i64 e.t, .int .i64 e.o]
theorem evv_size (e : Ev) : (evv e).size = 3 := rfl
theorem evv_all (e : Ev) : (evv e).all (·.oneCell') = true := by simp [evv, Value.oneCell']
def evc : List Ev → List Value
  | [] => []
  | e :: l => .int .i64 e.k :: .int .i64 e.t :: .int .i64 e.o :: evc l
theorem evc_length (l : List Ev) : (evc l).length = l.length * 3 := by
  induction l with
  | nil => rfl
  | cons e l ih => simp only [evc, List.length_cons, ih]; omega
theorem evc_append (l m : List Ev) : evc (l ++ m) = evc l ++ evc m := by
  induction l with
  | nil => rfl
  | cons e l ih => simp only [List.cons_append, evc, ih]
theorem evc_get (l : List Ev) (i : Nat) (e : Ev) (h : l[i]? = some e) :
    (evc l)[i * 3]? = some (.int .i64 e.k) ∧ (evc l)[i * 3 + 1]? = some (.int .i64 e.t) ∧ (evc l)[i * 3 + 2]? = some (.int .i64 e.o) := by
  induction l generalizing i with
  | nil => simp at h
  | cons x l ih =>
    cases i with
    | zero => simp at h; subst h; exact ⟨rfl, rfl, rfl⟩
    | succ i =>
      have := ih i (by simpa using h)
      simp only [evc]
      rw [show (i + 1) * 3 = i * 3 + 1 + 1 + 1 by omega]
      simpa using this
theorem evc_take (l : List Ev) (n : Nat) : (evc l).take (n * 3) = evc (l.take n) := by
  induction l generalizing n with
  | nil => simp [evc]
  | cons e l ih =>
    cases n with
    | zero => simp [evc]
    | succ n => rw [show (n + 1) * 3 = n * 3 + 1 + 1 + 1 by omega]; simp only [evc, List.take_succ_cons, ih]
theorem evc_drop (l : List Ev) (n : Nat) : (evc l).drop (n * 3) = evc (l.drop n) := by
  induction l generalizing n with
  | nil => simp [evc]
  | cons e l ih =>
    cases n with
    | zero => simp [evc]
    | succ n => rw [show (n + 1) * 3 = n * 3 + 1 + 1 + 1 by omega]; simp only [evc, List.drop_succ_cons, ih]
theorem evc_one (l : List Ev) : ∀ v ∈ evc l, v.oneCell' = true := by
  induction l with
  | nil => simp [evc]
  | cons e l ih =>
    intro v hv
    simp only [evc, List.mem_cons] at hv
    rcases hv with rfl | rfl | rfl | h
    · rfl
    · rfl
    · rfl
    · exact ih v h

def inB (n m : Int) : Bool := decide (0 ≤ n ∧ n < m)
theorem inB_iff {n m : Int} : inB n m = true ↔ 0 ≤ n ∧ n < m := by simp [inB]
theorem inB_yes {n m : Int} (h0 : 0 ≤ n) (h1 : n < m) : inB n m = true := inB_iff.2 ⟨h0, h1⟩
theorem inB_no {n m : Int} (h : ¬ (0 ≤ n ∧ n < m)) : inB n m = false := by rw [← Bool.not_eq_true, inB_iff]; exact h
def nobj (k : Int) : Int := if k = 1 ∨ k = 2 then 8 else if k = 3 ∨ k = 4 then 5 else if k = 5 ∨ k = 6 then 6 else if k = 7 ∨ k = 8 then 4 else 0
def isEv (e : Ev) : Bool := inB e.t 6 && inB e.o (nobj e.k)
def ownB (who : Int) (e : Ev) (k : Int) : Int := if e.o = k ∧ e.k = 4 then -1 else if e.o = k ∧ e.k = 3 then e.t else who
def owner (l : List Ev) (k : Int) : Int := l.foldl (fun who e => ownB who e k) (-1)
theorem owner_nil (k : Int) : owner [] k = -1 := rfl
theorem owner_snoc (l : List Ev) (e : Ev) (k : Int) : owner (l ++ [e]) k = ownB (owner l k) e k := by simp [owner, List.foldl_append]
def did (l : List Ev) (kind obj : Int) : Bool := l.any fun e => decide (e.k = kind ∧ e.o = obj)
theorem did_nil (a b : Int) : did [] a b = false := rfl
theorem did_snoc (l : List Ev) (e : Ev) (a b : Int) : did (l ++ [e]) a b = (did l a b || decide (e.k = a ∧ e.o = b)) := by simp [did]
def begun (l : List Ev) (t : Int) : Bool := decide (t = 0) || did l 5 t
theorem begun_snoc (l : List Ev) (e : Ev) (t : Int) : begun (l ++ [e]) t = (begun l t || decide (e.k = 5 ∧ e.o = t)) := by simp [begun, did_snoc, Bool.or_assoc]
def wrong (l : List Ev) (e : Ev) : Int :=
  if isEv e = false then 1 else if begun l e.t = false ∨ did l 6 e.t = true then 11
  else if e.k = 3 then (if 0 ≤ owner l e.o then 9 else 0)
  else if e.k = 4 then (if owner l e.o = e.t then 0 else 10)
  else if e.k = 5 then (if begun l e.o = true then 8 else 0)
  else if e.k = 6 then (if begun l e.o = false ∨ e.o = e.t then 7 else 0) else 0
theorem wrong_range (l : List Ev) (e : Ev) : 0 ≤ wrong l e ∧ wrong l e ≤ 11 := by
  unfold wrong; repeat' split
  all_goals omega
theorem wrong_isEv {l : List Ev} {e : Ev} (h : wrong l e = 0) : isEv e = true := by
  unfold wrong at h
  cases h1 : isEv e
  · simp [h1] at h
  · rfl
def chk (p : List Ev) : List Ev → Int × Int
  | [] => (0, 0)
  | e :: r => if wrong p e ≠ 0 then (p.length, wrong p e) else chk (p ++ [e]) r
def check (l : List Ev) : Int × Int := if 80 < l.length then (0, 2) else chk [] l
def may (l : List Ev) : Int := (check l).2
theorem chk_step {l : List Ev} {i : Nat} {e : Ev} (h : l[i]? = some e) :
    chk (l.take i) (l.drop i) = if wrong (l.take i) e ≠ 0 then ((i : Int), wrong (l.take i) e) else chk (l.take (i + 1)) (l.drop (i + 1)) := by
  have hi : i < l.length := (List.getElem?_eq_some_iff.1 h).1
  have hd : l.drop i = e :: l.drop (i + 1) := by
    rw [List.drop_eq_getElem_cons hi]; congr 1
    exact (List.getElem?_eq_some_iff.1 h).2
  have ht : l.take (i + 1) = l.take i ++ [e] := by
    rw [List.take_succ_eq_append_getElem hi]; congr 2
    exact (List.getElem?_eq_some_iff.1 h).2
  rw [hd, chk, ht, List.length_take, Nat.min_eq_left (Nat.le_of_lt hi)]
theorem chk_end (l : List Ev) : chk (l.take l.length) (l.drop l.length) = (0, 0) := by simp [chk]
/-- A list's threads are in range: what the memory of the checker needs to know of what it has taken in. -/
def Fit (l : List Ev) : Prop := ∀ e ∈ l, 0 ≤ e.t ∧ e.t < 6
theorem Fit.nil : Fit [] := fun _ h => by cases h
theorem isEv_t {e : Ev} (h : isEv e = true) : 0 ≤ e.t ∧ e.t < 6 := by
  simp only [isEv, Bool.and_eq_true, inB_iff] at h; exact h.1
theorem isEv_o {e : Ev} (h : isEv e = true) : 0 ≤ e.o ∧ e.o < nobj e.k := by
  simp only [isEv, Bool.and_eq_true, inB_iff] at h; exact h.2
theorem Fit.snoc {l : List Ev} {e : Ev} (h : Fit l) (he : isEv e = true) : Fit (l ++ [e]) := by
  intro x hx
  rcases List.mem_append.1 hx with hx | hx
  · exact h x hx
  · simp at hx; subst hx; exact isEv_t he
theorem owner_range {l : List Ev} (h : Fit l) (k : Int) : -1 ≤ owner l k ∧ owner l k < 6 := by
  suffices H : ∀ (l : List Ev) (w : Int), Fit l → -1 ≤ w ∧ w < 6 → -1 ≤ l.foldl (fun who e => ownB who e k) w ∧ l.foldl (fun who e => ownB who e k) w < 6 from H l (-1) h (by omega)
  intro l
  induction l with
  | nil => intro w _ hw; exact hw
  | cons e l ih =>
    intro w hf hw
    refine ih _ (fun x hx => hf x (List.mem_cons_of_mem _ hx)) ?_
    have := hf e (List.mem_cons_self ..)
    show -1 ≤ ownB w e k ∧ ownB w e k < 6
    unfold ownB; split
    · omega
    · split <;> omega
/-- The set of five locks as a number. -/
def hs5 (b0 b1 b2 b3 b4 : Bool) : Int := (if b0 then 1 else 0) + (if b1 then 2 else 0) + (if b2 then 4 else 0) + (if b3 then 8 else 0) + (if b4 then 16 else 0)
def hset (f : Nat → Bool) : Int := hs5 (f 0) (f 1) (f 2) (f 3) (f 4)
theorem hset_range (f : Nat → Bool) : 0 ≤ hset f ∧ hset f < 32 := by
  unfold hset hs5; repeat' split
  all_goals omega
theorem hset_congr {f g : Nat → Bool} (h : ∀ k, k < 5 → f k = g k) : hset f = hset g := by
  simp [hset, h 0, h 1, h 2, h 3, h 4]
/-- The locks of a thread behind a trace. -/
def held (l : List Ev) (t : Int) : Int := hset fun k => decide (owner l k = t)
end Go.Proofs.Yteihildhlcggoaa
namespace Go.Proofs.Yteihildhlcggoaa
open Go Go.RowKit

theorem wrong_ne2 (l : List Ev) (e : Ev) : wrong l e ≠ 2 := by
  unfold wrong; repeat' split
  all_goals omega
theorem get_append_take {p r : List Ev} {i : Nat} : (p ++ r).take (p.length + i) = p ++ r.take i := by
  rw [List.take_append, List.take_of_length_le (by omega)]; simp
theorem chk_zero (p r : List Ev) : (chk p r).2 = 0 ↔ ∀ i e, r[i]? = some e → wrong (p ++ r.take i) e = 0 := by
  induction r generalizing p with
  | nil => simp [chk]
  | cons x r ih =>
    unfold chk
    by_cases h : wrong p x = 0
    · rw [if_neg (by simpa using h), ih]
      constructor
      · intro H i e he
        cases i with
        | zero => simp at he; subst he; simpa using h
        | succ i =>
          have := H i e (by simpa using he)
          simpa using this
      · intro H i e he
        have := H (i + 1) e (by simpa using he)
        simpa using this
    · rw [if_pos h]
      constructor
      · intro H; exact absurd H h
      · intro H
        have := H 0 x rfl
        simp at this
        exact absurd this h
theorem chk_fst_zero (p r : List Ev) (h : (chk p r).2 = 0) : chk p r = (0, 0) := by
  induction r generalizing p with
  | nil => rfl
  | cons x r ih =>
    unfold chk at h ⊢
    by_cases hw : wrong p x = 0
    · rw [if_neg (by simpa using hw)] at h ⊢; exact ih _ h
    · rw [if_pos hw] at h; exact absurd h hw
theorem chk_first (p r : List Ev) (h : (chk p r).2 ≠ 0) : ∃ i e, r[i]? = some e ∧ chk p r = (((p.length + i : Nat) : Int), wrong (p ++ r.take i) e) ∧ (chk p (r.take i)).2 = 0 := by
  induction r generalizing p with
  | nil => exact absurd rfl h
  | cons x r ih =>
    by_cases hw : wrong p x = 0
    · have hc : chk p (x :: r) = chk (p ++ [x]) r := by rw [chk, if_neg (by simpa using hw)]
      rw [hc] at h ⊢
      obtain ⟨i, e, h1, h2, h3⟩ := ih _ h
      refine ⟨i + 1, e, by simpa using h1, ?_, ?_⟩
      · rw [h2]; simp; omega
      · rw [List.take_succ_cons, chk, if_neg (by simpa using hw)]; exact h3
    · refine ⟨0, x, rfl, ?_, rfl⟩
      rw [chk, if_pos hw]; simp
theorem may_iff (l : List Ev) : may l = 0 ↔ l.length ≤ 80 ∧ ∀ i e, l[i]? = some e → wrong (l.take i) e = 0 := by
  unfold may check
  by_cases h : 80 < l.length
  · rw [if_pos h]; constructor
    · intro h'; cases h'
    · intro ⟨h', _⟩; omega
  · rw [if_neg h, chk_zero]; simp; omega
theorem check_ok {l : List Ev} (h : may l = 0) : check l = (0, 0) := by
  have h80 := ((may_iff l).1 h).1
  unfold may check at h
  unfold check
  rw [if_neg (by omega)] at h ⊢
  exact chk_fst_zero _ _ h
theorem may_take {l : List Ev} (h : may l = 0) (i : Nat) : may (l.take i) = 0 := by
  rw [may_iff] at h ⊢
  refine ⟨by rw [List.length_take]; omega, fun j e he => ?_⟩
  rw [List.getElem?_take] at he
  split at he
  · have := h.2 j e he
    rwa [List.take_take, Nat.min_eq_left (by omega)]
  · cases he
theorem check_large {l : List Ev} : (check l).2 = 2 ↔ 80 < l.length := by
  unfold check
  split
  · simp [*]
  · constructor
    · intro h
      exfalso
      have h0 : (chk [] l).2 ≠ 0 := by rw [h]; omega
      obtain ⟨i, e, _, h2, _⟩ := chk_first [] l h0
      rw [h2] at h
      exact wrong_ne2 _ _ h
    · intro h; omega
theorem check_bad {l : List Ev} (h : (check l).2 ≠ 0) (h2 : (check l).2 ≠ 2) : l.length ≤ 80 ∧ ∃ (i : Nat) (e : Ev), l[i]? = some e ∧ check l = ((i : Int), wrong (l.take i) e) ∧ wrong (l.take i) e ≠ 0 ∧ may (l.take i) = 0 ∧ may (l.take (i + 1)) ≠ 0 := by
  have h80 : ¬ 80 < l.length := fun hh => h2 (check_large.2 hh)
  refine ⟨by omega, ?_⟩
  have hc : check l = chk [] l := by unfold check; rw [if_neg h80]
  rw [hc] at h
  obtain ⟨i, e, h3, h4, h5⟩ := chk_first [] l h
  have hil : i < l.length := (List.getElem?_eq_some_iff.1 h3).1
  simp only [List.nil_append, List.length_nil, Nat.zero_add] at h4
  rw [h4] at h
  refine ⟨i, e, h3, by rw [hc, h4], h, ?_, ?_⟩
  · unfold may check; rw [if_neg (by rw [List.length_take]; omega)]; exact h5
  · rw [ne_eq, may_iff]
    intro ⟨_, hh⟩
    have := hh i e (by rw [List.getElem?_take, if_pos (by omega)]; exact h3)
    rw [List.take_take, Nat.min_eq_left (by omega)] at this
    exact h this
theorem check_snoc {l : List Ev} (x : Ev) (m : List Ev) (h : may l = 0) (hn : l.length + 1 + m.length ≤ 80) (hw : wrong l x ≠ 0) : check (l ++ x :: m) = ((l.length : Int), wrong l x) := by
  have hl : ¬ 80 < (l ++ x :: m).length := by simp; omega
  have hne : (check (l ++ x :: m)).2 ≠ 0 := fun h0 => by
    have := ((may_iff _).1 h0).2 l.length x (by simp)
    rw [List.take_left] at this
    exact hw this
  obtain ⟨_, i, e, h1, h2, h3, h4, h5⟩ := check_bad hne (fun h2 => hl (check_large.1 h2))
  rcases Nat.lt_trichotomy i l.length with hi | hi | hi
  · exfalso
    rw [List.getElem?_append_left hi] at h1
    have := ((may_iff l).1 h).2 i e h1
    rw [List.take_append_of_le_length (by omega)] at h3
    exact h3 this
  · subst hi
    simp at h1
    subst h1
    rw [h2, List.take_left]
  · exfalso
    have := ((may_iff _).1 h4).2 l.length x (by rw [List.getElem?_take, if_pos hi]; simp)
    rw [List.take_take, Nat.min_eq_left (by omega), List.take_left] at this
    exact hw this
theorem may_snoc {l : List Ev} (x : Ev) (h : may l = 0) (hn : l.length + 1 ≤ 80) (hw : wrong l x = 0) : may (l ++ [x]) = 0 := by
  rw [may_iff] at h ⊢
  refine ⟨by simp; omega, fun i e he => ?_⟩
  rcases Nat.lt_or_ge i l.length with hi | hi
  · rw [List.getElem?_append_left hi] at he
    rw [List.take_append_of_le_length (by omega)]
    exact h.2 i e he
  · rw [List.getElem?_append_right hi] at he
    have h0 : i - l.length = 0 := by
      have := (List.getElem?_eq_some_iff.1 he).1
      simp at this; omega
    rw [h0] at he
    simp at he
    subst he
    obtain rfl : i = l.length := by omega
    rw [List.take_left]
    exact hw
/-- An event of no lock and no thread: Read, Write, See, Show. -/
def Idle (e : Ev) : Prop := e.k ≠ 3 ∧ e.k ≠ 4 ∧ e.k ≠ 5 ∧ e.k ≠ 6
theorem owner_idle {p q : List Ev} {e : Ev} (h : Idle e) (k : Int) : owner (p ++ e :: q) k = owner (p ++ q) k := by
  unfold owner
  rw [List.foldl_append, List.foldl_append, List.foldl_cons]
  congr 1
  unfold ownB
  rw [if_neg (fun hh => h.2.1 hh.2), if_neg (fun hh => h.1 hh.2)]
theorem did_idle {p q : List Ev} {e : Ev} (k o : Int) (hk : e.k ≠ k) : did (p ++ e :: q) k o = did (p ++ q) k o := by
  simp [did, hk]
theorem wrong_idle {p q : List Ev} {e : Ev} (h : Idle e) (x : Ev) : wrong (p ++ e :: q) x = wrong (p ++ q) x := by
  unfold wrong begun
  simp only [owner_idle h, did_idle 5 _ h.2.2.1, did_idle 6 _ h.2.2.2]
theorem may_less {p q : List Ev} {e : Ev} (h : Idle e) (hm : may (p ++ e :: q) = 0) : may (p ++ q) = 0 := by
  rw [may_iff] at hm ⊢
  refine ⟨by have := hm.1; simp at this ⊢; omega, fun i x hx => ?_⟩
  rcases Nat.lt_or_ge i p.length with hi | hi
  · have := hm.2 i x (by rw [List.getElem?_append_left hi] at hx ⊢; exact hx)
    rw [List.take_append_of_le_length (by omega)] at this ⊢
    exact this
  · obtain ⟨j, rfl⟩ := Nat.exists_eq_add_of_le hi
    have h1 : (p ++ e :: q)[p.length + (j + 1)]? = some x := by
      rw [List.getElem?_append_right (by omega)] at hx ⊢
      rw [show p.length + j - p.length = j by omega] at hx
      rw [show p.length + (j + 1) - p.length = j + 1 by omega, List.getElem?_cons_succ]
      exact hx
    have := hm.2 _ x h1
    rw [get_append_take, List.take_succ_cons, wrong_idle h] at this
    rw [get_append_take]
    exact this
def forks (l : List Ev) : Nat := (l.filter fun e => e.k == 5).length
theorem forks_snoc (l : List Ev) (e : Ev) : forks (l ++ [e]) = forks l + if e.k == 5 then 1 else 0 := by
  unfold forks; rw [List.filter_append]
  cases h : e.k == 5 <;> simp [List.filter_cons, h]
def begunTo (l : List Ev) (k : Nat) : List Int := ((List.range k).filter fun (t : Nat) => begun l (t : Int)).map fun (t : Nat) => (t : Int)
theorem begunTo_len (l : List Ev) (k : Nat) : (begunTo l k).length ≤ k := by
  unfold begunTo; rw [List.length_map]; exact Nat.le_trans (List.length_filter_le _ _) (by simp)
theorem begunTo_yes (l : List Ev) (k : Nat) (h : begun l k = true) : begunTo l (k + 1) = begunTo l k ++ [(k : Int)] := by simp [begunTo, List.range_succ, List.filter_append, h]
theorem begunTo_no (l : List Ev) (k : Nat) (h : begun l k = false) : begunTo l (k + 1) = begunTo l k := by simp [begunTo, List.range_succ, List.filter_append, h]
theorem begunTo_one (l : List Ev) : begunTo l 1 = [0] := by
  rw [begunTo_yes l 0 (by simp [begun])]; rfl
theorem mem_begunTo {l : List Ev} {k : Nat} {t : Int} : t ∈ begunTo l k ↔ 0 ≤ t ∧ t < k ∧ begun l t = true := by
  simp only [begunTo, List.mem_map, List.mem_filter, List.mem_range]
  constructor
  · rintro ⟨n, ⟨h1, h2⟩, rfl⟩; exact ⟨by omega, by omega, h2⟩
  · rintro ⟨h0, h1, h2⟩
    obtain ⟨n, rfl⟩ := Int.eq_ofNat_of_zero_le h0
    exact ⟨n, ⟨by omega, h2⟩, rfl⟩
theorem begunTo_fork {l : List Ev} {e : Ev} (hk : e.k = 5) (hb : begun l e.o = false) (k : Nat) (h0 : 0 ≤ e.o) : (begunTo (l ++ [e]) k).length = (begunTo l k).length + if e.o < k then 1 else 0 := by
  obtain ⟨o, ho⟩ := Int.eq_ofNat_of_zero_le h0
  induction k with
  | zero => simp [begunTo]; omega
  | succ k ih =>
    have hs : begun (l ++ [e]) k = (begun l k || decide ((k : Nat) = o)) := by
      rw [begun_snoc, ho]
      congr 1
      simp [hk]; omega
    by_cases hko : k = o
    · subst hko
      have h1 : begun l k = false := by rw [← ho]; exact hb
      rw [begunTo_yes _ _ (by rw [hs]; simp), begunTo_no _ _ h1, List.length_append, ih]
      rw [if_neg (by omega), if_pos (by omega)]; simp
    · cases h1 : begun l k
      · rw [begunTo_no _ _ (by rw [hs, h1]; simp [hko]), begunTo_no _ _ h1, ih]
        congr 1
        split <;> split <;> omega
      · rw [begunTo_yes _ _ (by rw [hs, h1]; simp), begunTo_yes _ _ h1, List.length_append, List.length_append, ih]
        have : (if e.o < ((k : Nat) : Int) then 1 else 0) = (if e.o < ((k + 1 : Nat) : Int) then 1 else 0) := by
          split <;> split <;> omega
        rw [this]; simp; omega
theorem begunTo_other {l : List Ev} {e : Ev} (hk : e.k ≠ 5) (k : Nat) : begunTo (l ++ [e]) k = begunTo l k := by
  unfold begunTo
  congr 2
  funext t
  rw [begun_snoc]
  simp [hk]
theorem wrong_fork {p : List Ev} {e : Ev} (h : wrong p e = 0) (hk : e.k = 5) : begun p e.o = false := by
  have hev := wrong_isEv h
  unfold wrong at h
  simp only [hev, Bool.true_eq_false, if_false] at h
  split at h
  · cases h
  · simp [hk] at h; exact h
theorem wrong_thread {p : List Ev} {e : Ev} (h : wrong p e = 0) : begun p e.t = true := by
  have hev := wrong_isEv h
  unfold wrong at h
  simp only [hev, Bool.true_eq_false, if_false] at h
  split at h
  · cases h
  · rename_i hh
    cases hb : begun p e.t
    · exact absurd (.inl hb) hh
    · rfl
theorem forks_begun {l : List Ev} (h : may l = 0) : ∀ i, i ≤ l.length → (begunTo (l.take i) 6).length = forks (l.take i) + 1 := by
  intro i
  induction i with
  | zero => intro _; simp [forks]; decide
  | succ i ih =>
    intro hi
    have he := List.getElem?_eq_getElem (show i < l.length by omega)
    have hw := ((may_iff l).1 h).2 i _ he
    have hs : l.take (i + 1) = l.take i ++ [l[i]] := by rw [List.take_succ_eq_append_getElem (by omega)]
    rw [hs, forks_snoc]
    by_cases hk : (l[i]).k = 5
    · have hev := wrong_isEv hw
      have ho := isEv_o hev
      have : nobj (l[i]).k = 6 := by rw [hk]; rfl
      rw [begunTo_fork hk (wrong_fork hw hk) 6 ho.1, ih (by omega), if_pos (by omega), if_pos (by simp [hk])]
    · rw [begunTo_other hk, ih (by omega), if_neg (by simp [hk])]
theorem begun_mono {p q : List Ev} {t : Int} (h : begun p t = true) : begun (p ++ q) t = true := by
  unfold begun did at *
  rw [List.any_append]
  simp only [Bool.or_eq_true] at *
  rcases h with h | h
  · exact .inl h
  · exact .inr (.inl h)
end Go.Proofs.Yteihildhlcggoaa

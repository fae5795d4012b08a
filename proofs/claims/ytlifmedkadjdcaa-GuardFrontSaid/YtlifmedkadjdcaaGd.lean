/- Plain facts: the guards of the variables (Eraser) as functions over lists; sets of locks as predicates. -/
import Derived.Test.YtlifmedkadjdcaaFs
set_option linter.all false
set_option maxRecDepth 100000
namespace Go.Proofs.Ytlifmedkadjdcaa
open Go Go.RowKit

/-- A set of locks as a number. -/
theorem hset_and_fin : ∀ a b : Fin 32, bits .and .i64 ((a.val : Nat) : Int) ((b.val : Nat) : Int) = ((a.val &&& b.val : Nat) : Int) := by decide +kernel
structure Gd where
  st : Nat
  th : Nat
  lk : Nat → Bool
def gdStart : Gd := ⟨0, 0, fun _ => true⟩
def acB (l : List Ev) (k : Nat) : Bool := decide (kZ l k = 1 ∨ kZ l k = 2)
/-- Lock q at event k is its thread's. -/
def hB (l : List Ev) (k q : Nat) : Bool := decide (owner (l.take k) q = (eZ l k).t)
def gdStep (g : Gd) (k : Int) (t : Nat) (h : Nat → Bool) : Gd :=
  if g.st = 0 then ⟨1, t, g.lk⟩
  else if g.st = 1 ∧ g.th = t then g
  else ⟨if k = 2 ∨ g.st = 3 then 3 else 2, g.th, fun q => g.lk q && h q⟩
def gdTo (l : List Ev) (x : Nat) : Nat → Gd
  | 0 => gdStart
  | k + 1 => if acB l k = true ∧ oZ l k = x then gdStep (gdTo l x k) (kZ l k) (tZ l k) (hB l k) else gdTo l x k
def emp (p : Nat → Bool) : Bool := (List.range 5).all fun q => !p q
theorem emp_no {p : Nat → Bool} {q : Nat} (hq : q < 5) (h : p q = true) : emp p = false := by
  unfold emp
  rw [← Bool.not_eq_true, List.all_eq_true]
  intro h9
  have := h9 q (List.mem_range.2 hq)
  rw [h] at this; cases this
theorem emp_sub {p p' : Nat → Bool} (h : ∀ q, p' q = true → p q = true) (he : emp p = true) : emp p' = true := by
  unfold emp at *
  rw [List.all_eq_true] at *
  intro q hq
  have h1 := he q hq
  cases h2 : p' q
  · rfl
  · rw [h q h2] at h1; exact h1
/-- Whether event k is warned of. -/
def wn (l : List Ev) (k : Nat) : Bool := acB l k && (decide ((gdTo l (oZ l k) (k + 1)).st = 3) && emp (gdTo l (oZ l k) (k + 1)).lk)
def wl (l : List Ev) : Nat → List Ev
  | 0 => []
  | k + 1 => if wn l k = true then wl l k ++ [⟨(k : Nat), (eZ l k).o, 0⟩] else wl l k
theorem wl_yes {l : List Ev} {k : Nat} (h : wn l k = true) : wl l (k + 1) = wl l k ++ [⟨(k : Nat), (eZ l k).o, 0⟩] := by rw [wl, if_pos h]
theorem wl_no {l : List Ev} {k : Nat} (h : wn l k = false) : wl l (k + 1) = wl l k := by rw [wl, if_neg (by rw [h]; simp)]
theorem wl_len (l : List Ev) : ∀ k, (wl l k).length ≤ k
  | 0 => Nat.le_refl _
  | k + 1 => by
    have := wl_len l k
    rw [wl]
    split
    · simp; omega
    · omega
/-- The locks in common at all accesses so far. -/
def comTo (l : List Ev) (x : Nat) : Nat → Nat → Bool
  | 0 => fun _ => true
  | k + 1 => if acB l k = true ∧ oZ l k = x then fun q => comTo l x k q && hB l k q else comTo l x k
theorem com_down (l : List Ev) (x : Nat) {q i : Nat} : ∀ {k : Nat}, i ≤ k → comTo l x k q = true → comTo l x i q = true
  | 0, h, hc => by obtain rfl : i = 0 := by omega
                   exact hc
  | k + 1, h, hc => by
    by_cases e : i = k + 1
    · subst e; exact hc
    · refine com_down l x (show i ≤ k by omega) ?_
      rw [comTo] at hc
      split at hc
      · rw [Bool.and_eq_true] at hc; exact hc.1
      · exact hc
/-- The guard keeps the locks in common. -/
theorem com_keep (l : List Ev) (x : Nat) {q : Nat} : ∀ k, comTo l x k q = true → (gdTo l x k).lk q = true
  | 0, _ => rfl
  | k + 1, hc => by
    have ih := com_keep l x (q := q) k
    rw [comTo] at hc
    rw [gdTo]
    by_cases h : acB l k = true ∧ oZ l k = x
    · rw [if_pos h] at hc ⊢
      rw [Bool.and_eq_true] at hc
      have h1 := ih hc.1
      unfold gdStep
      split
      · exact h1
      · split
        · exact h1
        · show ((gdTo l x k).lk q && hB l k q) = true
          rw [h1, hc.2]; rfl
    · rw [if_neg h] at hc ⊢
      exact ih hc
theorem wn_common {l : List Ev} {x q n k : Nat} (hq : q < 5) (hk : k < n) (hc : comTo l x n q = true) (ho : oZ l k = x) : wn l k = false := by
  have h1 := com_keep l x (k + 1) (com_down l x (show k + 1 ≤ n by omega) hc)
  unfold wn
  rw [ho, emp_no hq h1, Bool.and_false, Bool.and_false]
/-- At every access of the variable. -/
theorem com_held {l : List Ev} {x q n k : Nat} (hk : k < n) (hc : comTo l x n q = true) (ha : acB l k = true) (ho : oZ l k = x) : hB l k q = true := by
  have h1 := com_down l x (show k + 1 ≤ n by omega) hc
  rw [comTo, if_pos ⟨ha, ho⟩, Bool.and_eq_true] at h1
  exact h1.2
theorem com_none {l : List Ev} {x : Nat} : ∀ {n : Nat}, (∀ k, k < n → ¬ (acB l k = true ∧ oZ l k = x)) → comTo l x n = fun _ => true
  | 0, _ => rfl
  | n + 1, h => by rw [comTo, if_neg (h n (Nat.lt_succ_self n)), com_none fun k hk => h k (by omega)]
/-- Once warned of, always. -/
theorem gd_dirty {l : List Ev} {x i : Nat} (h3 : (gdTo l x i).st = 3) (he : emp (gdTo l x i).lk = true) : ∀ k, i ≤ k → (gdTo l x k).st = 3 ∧ emp (gdTo l x k).lk = true
  | 0, h => by obtain rfl : i = 0 := by omega
               exact ⟨h3, he⟩
  | k + 1, h => by
    by_cases e : i = k + 1
    · subst e; exact ⟨h3, he⟩
    · obtain ⟨g3, ge⟩ := gd_dirty h3 he k (by omega)
      rw [gdTo]
      split
      · unfold gdStep
        rw [if_neg (by omega), if_neg (by omega), if_pos (.inr g3)]
        exact ⟨rfl, emp_sub (fun q hq => (Bool.and_eq_true _ _ ▸ hq : _ ∧ _).1) ge⟩
      · exact ⟨g3, ge⟩
theorem wn_again {l : List Ev} {i j : Nat} (hi : wn l i = true) (hij : i < j) (ha : acB l j = true) (ho : oZ l j = oZ l i) : wn l j = true := by
  unfold wn at hi
  simp only [Bool.and_eq_true, decide_eq_true_eq] at hi
  obtain ⟨h3, he⟩ := gd_dirty hi.2.1 hi.2.2 (j + 1) (by omega)
  unfold wn
  rw [ha, ho, h3, he]; rfl
/-- A prefix. -/
theorem acB_take {l : List Ev} {n k : Nat} (h : k < n) : acB (l.take n) k = acB l k := by unfold acB; rw [kZ_take h]
theorem hB_take {l : List Ev} {n k : Nat} (h : k < n) : hB (l.take n) k = hB l k := by
  funext q
  unfold hB; rw [eZ_take h, List.take_take, Nat.min_eq_left (Nat.le_of_lt h)]
theorem gdTo_take {l : List Ev} {n : Nat} (x : Nat) : ∀ k, k ≤ n → gdTo (l.take n) x k = gdTo l x k
  | 0, _ => rfl
  | k + 1, h => by rw [gdTo, gdTo, gdTo_take x k (by omega), acB_take (by omega), oZ_take (by omega), kZ_take (by omega), tZ_take (by omega), hB_take (by omega)]
theorem wn_take {l : List Ev} {n k : Nat} (h : k < n) : wn (l.take n) k = wn l k := by
  unfold wn; rw [acB_take h, oZ_take h, gdTo_take _ _ (by omega)]
theorem wl_take {l : List Ev} {n : Nat} : ∀ k, k ≤ n → wl (l.take n) k = wl l k
  | 0, _ => rfl
  | k + 1, h => by rw [wl, wl, wl_take k (by omega), wn_take (by omega), eZ_take (by omega)]
theorem wl_split (l : List Ev) (k : Nat) : ∀ d, ∃ r, wl l (k + d) = wl l k ++ r ∧ ∀ e ∈ r, (k : Int) ≤ e.k
  | 0 => ⟨[], by simp, fun _ h => by cases h⟩
  | d + 1 => by
    obtain ⟨r, h1, h2⟩ := wl_split l k d
    by_cases h : wn l (k + d) = true
    · refine ⟨r ++ [⟨((k + d : Nat) : Int), (eZ l (k + d)).o, 0⟩], ?_, fun e he => ?_⟩
      · rw [show k + (d + 1) = (k + d) + 1 by omega, wl_yes h, h1, List.append_assoc]
      · rcases List.mem_append.1 he with he | he
        · exact h2 e he
        · obtain rfl := List.mem_singleton.1 he
          dsimp only; omega
    · exact ⟨r, by rw [show k + (d + 1) = (k + d) + 1 by omega, wl_no (by simpa using h), h1], h2⟩
theorem wl_mem {l : List Ev} {e : Ev} : ∀ {k : Nat}, e ∈ wl l k ↔ ∃ j, j < k ∧ wn l j = true ∧ e = ⟨(j : Nat), (eZ l j).o, 0⟩
  | 0 => by simp [wl]
  | k + 1 => by
    by_cases h : wn l k = true
    · rw [wl_yes h, List.mem_append, wl_mem, List.mem_singleton]
      exact ⟨fun h9 => h9.elim (fun ⟨j, h1, h2⟩ => ⟨j, by omega, h2⟩) fun h9 => ⟨k, by omega, h, h9⟩, fun ⟨j, h1, h2, h3⟩ => by
        by_cases e : j = k
        · subst e; exact .inr h3
        · exact .inl ⟨j, by omega, h2, h3⟩⟩
    · rw [wl_no (by simpa using h), wl_mem]
      exact ⟨fun ⟨j, h1, h2⟩ => ⟨j, by omega, h2⟩, fun ⟨j, h1, h2, h3⟩ => ⟨j, by
        by_cases e : j = k
        · subst e; exact absurd h2 h
        · omega, h2, h3⟩⟩
theorem wl_low {l : List Ev} {e : Ev} {k : Nat} (h : e ∈ wl l k) : 0 ≤ e.k ∧ e.k < k := by
  obtain ⟨j, h1, _, rfl⟩ := wl_mem.1 h
  exact ⟨by dsimp only; omega, by dsimp only; omega⟩
/-- One thread alone. -/
structure GdOne (g : Gd) : Prop where
  st : g.st ≤ 1
  th : g.th = 0
  lk : ∀ q, g.lk q = true
theorem gd_one {l : List Ev} {x : Nat} (h : ∀ k, k < l.length → acB l k = true → oZ l k = x → tZ l k = 0) : ∀ k, k ≤ l.length → GdOne (gdTo l x k)
  | 0, _ => ⟨Nat.zero_le _, rfl, fun _ => rfl⟩
  | k + 1, hk => by
    have ih := gd_one h k (by omega)
    rw [gdTo]
    split
    · rename_i ha
      have ht := h k (by omega) ha.1 ha.2
      unfold gdStep
      by_cases h0 : (gdTo l x k).st = 0
      · rw [if_pos h0, ht]; exact ⟨Nat.le_refl _, rfl, ih.lk⟩
      · rw [if_neg h0, if_pos ⟨by have := ih.st; omega, by rw [ih.th, ht]⟩]; exact ih
    · exact ih
theorem wn_one {l : List Ev} {x k : Nat} (h : ∀ k, k < l.length → acB l k = true → oZ l k = x → tZ l k = 0) (hk : k < l.length) (ho : oZ l k = x) : wn l k = false := by
  have := (gd_one h (k + 1) (by omega)).st
  unfold wn
  rw [ho, decide_eq_false (show ¬ (gdTo l x (k + 1)).st = 3 by omega), Bool.false_and, Bool.and_false]
/-- What tells the state: who was first, whether others came, whether one of them wrote. -/
structure Tl where
  first : Int
  many : Bool
  wrote : Bool
def tlTo (l : List Ev) (x : Nat) : Nat → Tl
  | 0 => ⟨-1, false, false⟩
  | k + 1 =>
    if acB l k = true ∧ oZ l k = x then
      let p := tlTo l x k
      let f := if p.first < 0 then (tZ l k : Int) else p.first
      let m := p.many || decide ((tZ l k : Int) ≠ f)
      ⟨f, m, p.wrote || (m && decide (kZ l k = 2))⟩
    else tlTo l x k
def tlSt (p : Tl) : Nat := if p.wrote = true then 3 else if p.many = true then 2 else if 0 ≤ p.first then 1 else 0
structure GdTl (g : Gd) (p : Tl) : Prop where
  st : g.st = tlSt p
  th : (g.th : Int) = if p.first < 0 then 0 else p.first
  lo : -1 ≤ p.first
  m1 : p.many = true → 0 ≤ p.first
  m2 : p.wrote = true → p.many = true
theorem gd_tl (l : List Ev) (x : Nat) : ∀ k, GdTl (gdTo l x k) (tlTo l x k)
  | 0 => ⟨rfl, rfl, Int.le_refl _, fun h => (by cases h), fun h => (by cases h)⟩
  | k + 1 => by
    obtain ⟨h1, h2, h3, h4, h5⟩ := gd_tl l x k
    rw [gdTo, tlTo]
    split
    · generalize gdTo l x k = g at *
      generalize tlTo l x k = p at *
      obtain ⟨st, th, lk⟩ := g
      obtain ⟨f, m, wr⟩ := p
      dsimp only at h1 h2 h3 h4 h5 ⊢
      generalize tZ l k = t
      generalize hB l k = hh
      unfold tlSt at h1
      dsimp only at h1
      unfold gdStep
      dsimp only
      cases wr
      · cases m
        · by_cases hf : f < 0
          · have hs : st = 0 := by simpa [show ¬ 0 ≤ f by omega] using h1
            rw [if_pos hs]
            simp only [if_pos hf, ne_eq, not_true_eq_false, decide_false, Bool.or_false, Bool.false_and]
            exact ⟨by unfold tlSt; simp, by dsimp only; rw [if_neg (show ¬ (t : Int) < 0 by omega)], by dsimp only; omega, fun h => (by cases h), fun h => (by cases h)⟩
          · have hs : st = 1 := by simpa [show 0 ≤ f by omega] using h1
            rw [if_neg hf] at h2
            rw [if_neg (by omega)]
            simp only [if_neg hf]
            by_cases ht : (t : Int) = f
            · rw [if_pos ⟨hs, by omega⟩]
              simp only [ht, ne_eq, not_true_eq_false, decide_false, Bool.or_false, Bool.false_and]
              exact ⟨by dsimp only; rw [hs]; unfold tlSt; simp [show 0 ≤ f by omega], by dsimp only; rw [if_neg hf]; exact h2, h3, fun h => (by cases h), fun h => (by cases h)⟩
            · rw [if_neg (by omega)]
              have hd : decide ((t : Int) ≠ f) = true := decide_eq_true ht
              simp only [hd, Bool.or_true, Bool.true_and, Bool.false_or]
              refine ⟨?_, by dsimp only; rw [if_neg hf]; exact h2, h3, fun _ => (show 0 ≤ f by omega), fun _ => rfl⟩
              unfold tlSt
              dsimp only
              by_cases hk : kZ l k = 2
              · simp [hk]
              · simp [hk, hs]
        · have hf := h4 rfl
          have hs : st = 2 := by simpa using h1
          rw [if_neg (show ¬ f < 0 by omega)] at h2
          rw [if_neg (by omega), if_neg (by omega)]
          simp only [if_neg (show ¬ f < 0 by omega), Bool.true_or, Bool.true_and, Bool.false_or]
          refine ⟨?_, by dsimp only; rw [if_neg (show ¬ f < 0 by omega)]; exact h2, h3, fun _ => hf, fun _ => rfl⟩
          unfold tlSt
          dsimp only
          by_cases hk : kZ l k = 2
          · simp [hk]
          · simp [hk, hs]
      · have hm := h5 rfl
        have hf := h4 hm
        have hs : st = 3 := by simpa using h1
        rw [if_neg (show ¬ f < 0 by omega)] at h2
        rw [if_neg (by omega), if_neg (by omega)]
        simp only [if_neg (show ¬ f < 0 by omega), hm, Bool.true_or]
        exact ⟨by unfold tlSt; simp [hs], by dsimp only; rw [if_neg (show ¬ f < 0 by omega)]; exact h2, h3, fun _ => hf, fun _ => rfl⟩
    · exact ⟨h1, h2, h3, h4, h5⟩
end Go.Proofs.Ytlifmedkadjdcaa

/- Plain facts on races: no program in sight. -/
import Derived.Test.YtipjgcklnceohaaOr
set_option linter.all false
set_option maxRecDepth 100000
namespace Go.Proofs.Ytipjgcklnceohaa
open Go Go.RowKit

/-- A race: both places, the variable, the kind. -/
structure Rc where
  a : Nat
  b : Nat
  v : Int
  k : Int
theorem Rc.ext' {x y : Rc} (h1 : x.a = y.a) (h2 : x.b = y.b) (h3 : x.v = y.v) (h4 : x.k = y.k) : x = y := by
  cases x; cases y; simp_all
instance : DecidableEq Rc := fun x y =>
  if h : x.a = y.a ∧ x.b = y.b ∧ x.v = y.v ∧ x.k = y.k then isTrue (Rc.ext' h.1 h.2.1 h.2.2.1 h.2.2.2) else isFalse (fun e => h (by subst e; exact ⟨rfl, rfl, rfl, rfl⟩))
def rcl (r : Rc) : List Value := [.int .i64 r.a, .int .i64 r.b, .int .i64 r.v, .int .i64 r.k]
def rcv (r : Rc) : Array Value := #[.int .i64 r.a, .int .i64 r.b, .int .i64 r.v, .int .i64 r.k]
theorem rcv_all (r : Rc) : (rcv r).all (·.oneCell') = true := by simp [rcv, Value.oneCell']
theorem rcl_one (r : Rc) : ∀ v ∈ rcl r, v.oneCell' = true := by simp [rcl, Value.oneCell']
def rcc : List Rc → List Value
  | [] => []
  | r :: l => .int .i64 r.a :: .int .i64 r.b :: .int .i64 r.v :: .int .i64 r.k :: rcc l
theorem rcc_length (l : List Rc) : (rcc l).length = l.length * 4 := by
  induction l with
  | nil => rfl
  | cons e l ih => simp only [rcc, List.length_cons, ih]; omega
theorem rcc_append (l m : List Rc) : rcc (l ++ m) = rcc l ++ rcc m := by
  induction l with
  | nil => rfl
  | cons e l ih => simp only [List.cons_append, rcc, ih]
theorem rcc_get (l : List Rc) (i : Nat) (r : Rc) (h : l[i]? = some r) : (rcc l)[i * 4]? = some (.int .i64 r.a) ∧ (rcc l)[i * 4 + 1]? = some (.int .i64 r.b) ∧ (rcc l)[i * 4 + 2]? = some (.int .i64 r.v) ∧ (rcc l)[i * 4 + 3]? = some (.int .i64 r.k) := by
  induction l generalizing i with
  | nil => simp at h
  | cons x l ih =>
    cases i with
    | zero => simp at h; subst h; exact ⟨rfl, rfl, rfl, rfl⟩
    | succ i =>
      have := ih i (by simpa using h)
      simp only [rcc]
      rw [show (i + 1) * 4 = i * 4 + 1 + 1 + 1 + 1 by omega]
      simpa using this
theorem rcc_at {l : List Rc} {i : Nat} {r : Rc} (h : l[i]? = some r) (j : Nat) (v : Value) (hv : (rcl r)[j]? = some v) : (rcc l)[i * 4 + j]? = some v := by
  obtain ⟨h0, h1, h2, h3⟩ := rcc_get l i r h
  match j, hv with
  | 0, hv => simp [rcl] at hv; subst hv; simpa using h0
  | 1, hv => simp [rcl] at hv; subst hv; exact h1
  | 2, hv => simp [rcl] at hv; subst hv; exact h2
  | 3, hv => simp [rcl] at hv; subst hv; exact h3
  | j + 4, hv => simp [rcl] at hv
/-- The kind of the race that two events may have, 0 if none. -/
def conf (a b : Ev) : Int := if a.o ≠ b.o then 0 else if a.k = 2 ∧ b.k = 2 then 1 else if a.k = 2 ∧ b.k = 1 then 2 else if a.k = 1 ∧ b.k = 2 then 3 else 0
def evZ (l : List Ev) (i : Nat) : Ev := (l[i]?).getD ⟨0, 0, 0⟩
theorem evZ_at {l : List Ev} {i : Nat} {e : Ev} (h : l[i]? = some e) : evZ l i = e := by simp [evZ, h]
def racB (l : List Ev) (i j : Nat) : Bool := decide (i < j) && (decide (conf (evZ l i) (evZ l j) ≠ 0) && !bef l i j)
def rcOf (l : List Ev) (p : Nat × Nat) : Rc := ⟨p.1, p.2, (evZ l p.1).o, conf (evZ l p.1) (evZ l p.2)⟩
/-- The races of the pairs below (i, j). -/
def rcTo (l : List Ev) (n i j : Nat) : List Rc := (prs (racB l) n i j).map (rcOf l)
def rcsA (l : List Ev) : List Rc := (prsA (racB l) l.length).map (rcOf l)
def rcs (l : List Ev) : List Rc := if may l = 0 then rcsA l else []
theorem rcs_ok {l : List Ev} (h : may l = 0) : rcs l = rcsA l := by unfold rcs; rw [if_pos h]
theorem rcs_no {l : List Ev} (h : may l ≠ 0) : rcs l = [] := by unfold rcs; rw [if_neg h]
theorem racB_at {l : List Ev} {i j : Nat} {a b : Ev} (ha : l[i]? = some a) (hb : l[j]? = some b) (h : i < j) : racB l i j = (decide (conf a b ≠ 0) && !bef l i j) := by
  unfold racB; rw [evZ_at ha, evZ_at hb, decide_eq_true h, Bool.true_and]
theorem racB_up (l : List Ev) (a b : Nat) (h : b ≤ a) : racB l a b = false := by unfold racB; rw [decide_eq_false (by omega), Bool.false_and]
theorem racB_lt {l : List Ev} {i j : Nat} (h : racB l i j = true) : i < j := by
  rcases Nat.lt_or_ge i j with h1 | h1
  · exact h1
  · rw [racB_up l i j h1] at h; cases h
theorem rcTo_len (l : List Ev) (n i j : Nat) : (rcTo l n i j).length = (prs (racB l) n i j).length := by unfold rcTo; rw [List.length_map]
theorem rcTo_zero (l : List Ev) (n : Nat) : rcTo l n 0 0 = [] := rfl
theorem rcTo_yes {l : List Ev} {n i j : Nat} {r : Rc} (h : racB l i j = true) (hr : rcOf l (i, j) = r) : rcTo l n i (j + 1) = rcTo l n i j ++ [r] := by
  unfold rcTo; rw [prs_yes h, List.map_append, ← hr]; rfl
theorem rcTo_no {l : List Ev} {n i j : Nat} (h : racB l i j = false) : rcTo l n i (j + 1) = rcTo l n i j := by unfold rcTo; rw [prs_no h]
theorem rcTo_next (l : List Ev) (n i : Nat) : rcTo l n (i + 1) 0 = rcTo l n i n := by unfold rcTo; rw [prs_next]
theorem rcTo_low {l : List Ev} {n i j : Nat} (h : j ≤ i + 1) : rcTo l n i j = rcTo l n i 0 := by
  unfold rcTo; rw [prs_low fun k hk => racB_up l i k (by omega)]
theorem rcTo_all {l : List Ev} {n : Nat} (h : l.length = n) : rcTo l n n 0 = rcsA l := by unfold rcTo rcsA prsA; rw [h]
theorem rcOf_at {l : List Ev} {i j : Nat} {a b : Ev} (ha : l[i]? = some a) (hb : l[j]? = some b) : rcOf l (i, j) = ⟨i, j, a.o, conf a b⟩ := by
  unfold rcOf; simp only [evZ_at ha, evZ_at hb]
theorem mem_rcsA {l : List Ev} {r : Rc} (h : r ∈ rcsA l) : ∃ a b, l[r.a]? = some a ∧ l[r.b]? = some b ∧ r.a < r.b ∧ r.v = a.o ∧ r.k = conf a b ∧ conf a b ≠ 0 ∧ bef l r.a r.b = false := by
  unfold rcsA at h
  obtain ⟨⟨i, j⟩, hp, rfl⟩ := List.mem_map.1 h
  obtain ⟨h1, h2, h3⟩ := mem_prsA.1 hp
  have ha := List.getElem?_eq_getElem h1
  have hb := List.getElem?_eq_getElem h2
  have hl := racB_lt h3
  rw [racB_at ha hb hl] at h3
  simp only [Bool.and_eq_true, decide_eq_true_eq, Bool.not_eq_true'] at h3
  rw [rcOf_at ha hb]
  exact ⟨_, _, ha, hb, hl, rfl, rfl, h3.1, h3.2⟩
theorem rcsA_mem {l : List Ev} {i j : Nat} {a b : Ev} (ha : l[i]? = some a) (hb : l[j]? = some b) (h : i < j) (hc : conf a b ≠ 0) (hn : bef l i j = false) : (⟨i, j, a.o, conf a b⟩ : Rc) ∈ rcsA l := by
  unfold rcsA
  refine List.mem_map.2 ⟨(i, j), mem_prsA.2 ⟨(List.getElem?_eq_some_iff.1 ha).1, (List.getElem?_eq_some_iff.1 hb).1, ?_⟩, rcOf_at ha hb⟩
  rw [racB_at ha hb h, hn]
  simp [hc]
theorem rc_ptake {l : List Rc} {i : Nat} {e : Rc} (h : l[i]? = some e) : l.take (i + 1) = l.take i ++ [e] := by
  have hi' := List.getElem?_eq_some_iff.1 h
  rw [List.take_succ_eq_append_getElem hi'.1, hi'.2]
theorem conf_bin {l : List Ev} {a b : Ev} (h : conf a b ≠ 0) : a.o = b.o ∧ (a.k = 1 ∨ a.k = 2) ∧ (b.k = 1 ∨ b.k = 2) ∧ 3 ≤ a.k + b.k := by
  unfold conf at h
  by_cases ho : a.o = b.o
  · rw [if_neg (by simpa using ho)] at h
    refine ⟨ho, ?_⟩
    split at h
    · omega
    · split at h
      · omega
      · split at h
        · omega
        · exact absurd rfl h
  · rw [if_pos ho] at h; exact absurd rfl h
theorem conf_of {a b : Ev} (ho : a.o = b.o) (ha : a.k = 1 ∨ a.k = 2) (hb : b.k = 1 ∨ b.k = 2) (hs : 3 ≤ a.k + b.k) : conf a b = (if a.k = 1 then 3 else if b.k = 1 then 2 else 1) := by
  unfold conf
  rw [if_neg (by simpa using ho)]
  rcases ha with ha | ha <;> rcases hb with hb | hb <;> simp [ha, hb] <;> omega
end Go.Proofs.Ytipjgcklnceohaa

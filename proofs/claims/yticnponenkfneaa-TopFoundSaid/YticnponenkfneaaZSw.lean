import Derived.Test.YticnponenkfneaaZOr
set_option linter.all false
set_option maxRecDepth 100000
namespace Go.Proofs.Yticnponenkfneaa
open Go Go.RowKit

def pr2 (k m : Int) (a b : Ev) : Bool := (a.k == k || a.k == m) && (b.k == k || b.k == m) && a.o == b.o
def tch (x y : Ev) : Bool := (x.k == 5 || x.k == 6) && x.o == y.t
def dep (a b : Ev) : Bool := a.t == b.t || (pr2 1 2 a b && decide (2 < a.k + b.k)) || pr2 3 4 a b || (pr2 7 8 a b && decide (14 < a.k + b.k)) || (pr2 5 6 a b && decide (a.k + b.k < 12)) || tch a b || tch b a
theorem pr2_symm (k m : Int) (a b : Ev) : pr2 k m a b = pr2 k m b a := by
  rw [Bool.eq_iff_iff]; simp only [pr2, Bool.and_eq_true, Bool.or_eq_true, beq_iff_eq]; omega
theorem dep_symm (a b : Ev) : dep a b = dep b a := by
  unfold dep
  rw [pr2_symm 1 2, pr2_symm 3 4, pr2_symm 7 8, pr2_symm 5 6, Int.add_comm a.k b.k, Bool.eq_iff_iff]
  simp only [Bool.or_eq_true, beq_iff_eq]
  constructor <;> (rintro ((((((h | h) | h) | h) | h) | h) | h) <;> simp [h])
theorem dep_thread {a b : Ev} (h : dep a b = false) : a.t ≠ b.t := fun e => by
  unfold dep at h; rw [e] at h; simp at h
theorem dep_parts {a b : Ev} (h : dep a b = false) : a.t ≠ b.t ∧ (pr2 1 2 a b && decide (2 < a.k + b.k)) = false ∧ pr2 3 4 a b = false ∧ (pr2 7 8 a b && decide (14 < a.k + b.k)) = false ∧ (pr2 5 6 a b && decide (a.k + b.k < 12)) = false ∧ tch a b = false ∧ tch b a = false := by
  have ht := dep_thread h
  unfold dep at h
  simp only [Bool.or_eq_false_iff] at h
  obtain ⟨⟨⟨⟨⟨⟨_, h2⟩, h3⟩, h4⟩, h5⟩, h6⟩, h7⟩ := h
  exact ⟨ht, h2, h3, h4, h5, h6, h7⟩
theorem directly_dep {a b : Ev} (h : directly a b = true) : dep a b = true := by
  unfold directly at h
  simp only [Bool.or_eq_true, Bool.and_eq_true, beq_iff_eq] at h
  rcases h with ((((h | ⟨h1, h2, h3⟩) | ⟨h1, h2⟩) | ⟨h1, h2⟩) | ⟨h1, h2, h3⟩) | ⟨h1, h2, h3⟩
  · simp [dep, h]
  · simp [dep, pr2, h1, h2, h3]
  · simp [dep, tch, h1, h2]
  · simp [dep, tch, h1, h2]
  · simp [dep, pr2, h1, h2, h3]
  · simp [dep, pr2, h1, h2, h3]
theorem conf_dep {a b : Ev} (h : conf a b ≠ 0) : dep a b = true := by
  have h1 : a.o = b.o ∧ ((a.k = 2 ∧ b.k = 2) ∨ (a.k = 2 ∧ b.k = 1) ∨ (a.k = 1 ∧ b.k = 2)) := by
    unfold conf at h
    by_cases ho : a.o = b.o
    · refine ⟨ho, ?_⟩
      rw [if_neg (fun g => g ho)] at h
      by_cases g1 : a.k = 2 ∧ b.k = 2
      · exact .inl g1
      · rw [if_neg g1] at h
        by_cases g2 : a.k = 2 ∧ b.k = 1
        · exact .inr (.inl g2)
        · rw [if_neg g2] at h
          by_cases g3 : a.k = 1 ∧ b.k = 2
          · exact .inr (.inr g3)
          · rw [if_neg g3] at h; exact absurd rfl h
    · rw [if_pos ho] at h; exact absurd rfl h
  obtain ⟨h0, ⟨h2, h3⟩ | ⟨h2, h3⟩ | ⟨h2, h3⟩⟩ := h1 <;> simp [dep, pr2, h0, h2, h3]

inductive Sw : List Ev → List Ev → Prop
  | here {a b : Ev} (q : List Ev) : dep a b = false → Sw (a :: b :: q) (b :: a :: q)
  | there {l m : List Ev} (x : Ev) : Sw l m → Sw (x :: l) (x :: m)
theorem Sw.symm {l m : List Ev} (h : Sw l m) : Sw m l := by
  induction h with
  | here q h => exact .here q (by rw [dep_symm]; exact h)
  | there x _ ih => exact .there x ih
theorem Sw.at_ {a b : Ev} (h : dep a b = false) : ∀ (p q : List Ev), Sw (p ++ a :: b :: q) (p ++ b :: a :: q)
  | [], q => .here q h
  | x :: p, q => .there x (Sw.at_ h p q)
theorem Sw.form {l m : List Ev} (h : Sw l m) : ∃ p a b q, l = p ++ a :: b :: q ∧ m = p ++ b :: a :: q ∧ dep a b = false := by
  induction h with
  | @here a b q h => exact ⟨[], a, b, q, rfl, rfl, h⟩
  | there x _ ih =>
    obtain ⟨p, a, b, q, rfl, rfl, h⟩ := ih
    exact ⟨x :: p, a, b, q, rfl, rfl, h⟩
theorem Sw.length {l m : List Ev} (h : Sw l m) : l.length = m.length := by
  induction h with
  | here q h => rfl
  | there x _ ih => simp [ih]
theorem Sw.perm {l m : List Ev} (h : Sw l m) : l.Perm m := by
  induction h with
  | here q h => exact List.Perm.swap _ _ _
  | there x _ ih => exact ih.cons x
theorem Sw.fit {l m : List Ev} (h : Sw l m) (hf : Fit l) : Fit m := fun e he => hf e (h.perm.symm.subset he)
theorem ownB_none {e : Ev} {k : Int} (h : ¬ (e.o = k ∧ (e.k = 3 ∨ e.k = 4))) (w : Int) : ownB w e k = w := by
  unfold ownB
  rw [if_neg (fun g => h ⟨g.1, .inr g.2⟩), if_neg (fun g => h ⟨g.1, .inl g.2⟩)]
theorem ownB_comm {a b : Ev} (h : dep a b = false) (w k : Int) : ownB (ownB w a k) b k = ownB (ownB w b k) a k := by
  have h3 := (dep_parts h).2.2.1
  by_cases ha : a.o = k ∧ (a.k = 3 ∨ a.k = 4)
  · by_cases hb : b.o = k ∧ (b.k = 3 ∨ b.k = 4)
    · exfalso
      rw [← Bool.not_eq_true] at h3
      apply h3
      simp only [pr2, Bool.and_eq_true, Bool.or_eq_true, beq_iff_eq]
      exact ⟨⟨ha.2, hb.2⟩, ha.1.trans hb.1.symm⟩
    · rw [ownB_none hb, ownB_none hb]
  · rw [ownB_none ha, ownB_none ha]
theorem owner_swap {p q : List Ev} {a b : Ev} (h : dep a b = false) (k : Int) : owner (p ++ a :: b :: q) k = owner (p ++ b :: a :: q) k := by
  unfold owner
  simp only [List.foldl_append, List.foldl_cons]
  rw [ownB_comm h]
theorem did_swap (p q : List Ev) (a b : Ev) (k o : Int) : did (p ++ a :: b :: q) k o = did (p ++ b :: a :: q) k o := by
  unfold did
  simp only [List.any_append, List.any_cons]
  rw [← Bool.or_assoc (decide (a.k = k ∧ a.o = o)), ← Bool.or_assoc (decide (b.k = k ∧ b.o = o)), Bool.or_comm (decide (a.k = k ∧ a.o = o))]
theorem wrong_swap {p q : List Ev} {a b : Ev} (h : dep a b = false) (e : Ev) : wrong (p ++ a :: b :: q) e = wrong (p ++ b :: a :: q) e := by
  have hd := did_swap p q a b
  have ho := fun k => owner_swap (p := p) (q := q) h k
  unfold wrong begun
  simp only [hd, ho]
theorem wrong_past {p : List Ev} {a b : Ev} (h : dep a b = false) : wrong (p ++ [a]) b = wrong p b := by
  obtain ⟨h1, _, h3, _, h5, h6, _⟩ := dep_parts h
  have e1 : did (p ++ [a]) 5 b.t = did p 5 b.t := by
    rw [did_snoc, decide_eq_false, Bool.or_false]
    rintro ⟨g1, g2⟩
    simp [tch, g1, g2] at h6
  have e2 : did (p ++ [a]) 6 b.t = did p 6 b.t := by
    rw [did_snoc, decide_eq_false, Bool.or_false]
    rintro ⟨g1, g2⟩
    simp [tch, g1, g2] at h6
  have e3 : b.k = 3 ∨ b.k = 4 → owner (p ++ [a]) b.o = owner p b.o := fun hk => by
    rw [owner_snoc]
    unfold ownB
    have : ¬ (a.o = b.o ∧ (a.k = 3 ∨ a.k = 4)) := fun g => by
      rw [← Bool.not_eq_true] at h3
      apply h3
      simp only [pr2, Bool.and_eq_true, Bool.or_eq_true, beq_iff_eq]
      exact ⟨⟨g.2, hk⟩, g.1⟩
    rw [if_neg (by omega), if_neg (by omega)]
  have e4 : b.k = 5 ∨ b.k = 6 → begun (p ++ [a]) b.o = begun p b.o := fun hk => by
    rw [begun_snoc, decide_eq_false, Bool.or_false]
    rintro ⟨g1, g2⟩
    rw [← Bool.not_eq_true] at h5
    apply h5
    simp only [pr2, Bool.and_eq_true, Bool.or_eq_true, beq_iff_eq, decide_eq_true_iff]
    exact ⟨⟨⟨.inl g1, hk⟩, g2⟩, by omega⟩
  unfold wrong
  rw [show begun (p ++ [a]) b.t = begun p b.t by unfold begun; rw [e1], e2]
  by_cases k3 : b.k = 3
  · rw [e3 (.inl k3), if_pos k3, if_pos k3]
  · by_cases k4 : b.k = 4
    · rw [e3 (.inr k4), if_neg k3, if_pos k4, if_neg k3, if_pos k4]
    · by_cases k5 : b.k = 5
      · rw [e4 (.inl k5)]
        simp only [if_neg k3, if_neg k4, if_pos k5]
      · by_cases k6 : b.k = 6
        · rw [e4 (.inr k6)]
          simp only [if_neg k3, if_neg k4, if_neg k5, if_pos k6]
        · simp only [if_neg k3, if_neg k4, if_neg k5, if_neg k6]

def good (p : List Ev) : List Ev → Prop
  | [] => True
  | e :: r => wrong p e = 0 ∧ good (p ++ [e]) r
theorem chk_good : ∀ {r p : List Ev}, (chk p r).2 = 0 ↔ good p r
  | [], p => ⟨fun _ => trivial, fun _ => rfl⟩
  | e :: r, p => by
    unfold chk good
    by_cases h : wrong p e = 0
    · rw [if_neg (fun g => g h)]
      exact ⟨fun g => ⟨h, chk_good.1 g⟩, fun g => chk_good.2 g.2⟩
    · rw [if_pos h]
      exact ⟨fun g => absurd g h, fun g => absurd g.1 h⟩
theorem may_good {l : List Ev} : may l = 0 ↔ l.length ≤ 80 ∧ good [] l := by
  unfold may check
  by_cases h : 80 < l.length
  · rw [if_pos h]; constructor
    · intro g; simp at g
    · intro g; omega
  · rw [if_neg h, chk_good]; constructor
    · intro g; exact ⟨by omega, g⟩
    · exact fun g => g.2
theorem good_app : ∀ {x p y : List Ev}, good p (x ++ y) ↔ good p x ∧ good (p ++ x) y
  | [], p, y => by rw [List.append_nil]; exact ⟨fun h => ⟨trivial, h⟩, fun h => h.2⟩
  | e :: x, p, y => by
    have ih := good_app (x := x) (p := p ++ [e]) (y := y)
    rw [List.append_assoc] at ih
    show wrong p e = 0 ∧ good (p ++ [e]) (x ++ y) ↔ (wrong p e = 0 ∧ good (p ++ [e]) x) ∧ good (p ++ e :: x) y
    rw [ih]
    exact ⟨fun h => ⟨⟨h.1, h.2.1⟩, h.2.2⟩, fun h => ⟨h.1.1, h.1.2, h.2⟩⟩
theorem good_congr : ∀ {q p p' : List Ev}, (∀ r e, wrong (p ++ r) e = wrong (p' ++ r) e) → good p q → good p' q
  | [], _, _, _, _ => trivial
  | e :: q, p, p', h, hg => by
    refine ⟨?_, good_congr (q := q) (p := p ++ [e]) (fun r x => ?_) hg.2⟩
    · have := h [] e
      rw [List.append_nil, List.append_nil] at this
      rw [← this]; exact hg.1
    · rw [List.append_assoc, List.append_assoc]; exact h _ _
theorem good_swap {p q : List Ev} {a b : Ev} (h : dep a b = false) (hg : good p (a :: b :: q)) : good p (b :: a :: q) := by
  obtain ⟨h1, h2, h3⟩ := hg
  refine ⟨by rw [← wrong_past h]; exact h2, by rw [wrong_past (by rw [dep_symm]; exact h)]; exact h1, good_congr (fun r e => ?_) h3⟩
  have := wrong_swap (p := p) (q := r) h e
  simpa using this
theorem Sw.may {l m : List Ev} (h : Sw l m) (hm : may l = 0) : may m = 0 := by
  obtain ⟨p, a, b, q, rfl, rfl, hd⟩ := h.form
  rw [may_good] at hm ⊢
  refine ⟨by rw [← h.length]; exact hm.1, ?_⟩
  rw [good_app] at hm ⊢
  exact ⟨hm.2.1, good_swap hd hm.2.2⟩
theorem Sw.owner {l m : List Ev} (h : Sw l m) (k : Int) : owner l k = owner m k := by
  obtain ⟨p, a, b, q, rfl, rfl, hd⟩ := h.form
  exact owner_swap hd k
theorem may_fit {l : List Ev} (h : may l = 0) : Fit l := fun e he => by
  obtain ⟨i, hi⟩ := List.getElem?_of_mem he
  exact isEv_t (wrong_isEv (((may_iff l).1 h).2 i e hi))

inductive Eqv : List Ev → List Ev → Prop
  | refl (l : List Ev) : Eqv l l
  | step {l m n : List Ev} : Eqv l m → Sw m n → Eqv l n
theorem Eqv.one {l m : List Ev} (h : Sw l m) : Eqv l m := .step (.refl l) h
theorem Eqv.trans {l m n : List Ev} (h : Eqv l m) (k : Eqv m n) : Eqv l n := by
  induction k with
  | refl => exact h
  | step _ s ih => exact .step ih s
theorem Eqv.symm {l m : List Ev} (h : Eqv l m) : Eqv m l := by
  induction h with
  | refl => exact .refl _
  | step _ s ih => exact (Eqv.one s.symm).trans ih
theorem Eqv.cons {l m : List Ev} (x : Ev) (h : Eqv l m) : Eqv (x :: l) (x :: m) := by
  induction h with
  | refl => exact .refl _
  | step _ s ih => exact .step ih (.there x s)
theorem Eqv.length {l m : List Ev} (h : Eqv l m) : l.length = m.length := by
  induction h with
  | refl => rfl
  | step _ s ih => rw [ih, s.length]
theorem Eqv.may {l m : List Ev} (h : Eqv l m) (hm : may l = 0) : may m = 0 := by
  induction h with
  | refl => exact hm
  | step _ s ih => exact s.may ih
theorem Eqv.fit {l m : List Ev} (h : Eqv l m) (hf : Fit l) : Fit m := by
  induction h with
  | refl => exact hf
  | step _ s ih => exact s.fit ih
theorem Eqv.owner {l m : List Ev} (h : Eqv l m) (k : Int) : owner l k = owner m k := by
  induction h with
  | refl => rfl
  | step _ s ih => rw [ih, s.owner]
theorem eqv_front {e : Ev} {q : List Ev} : ∀ {p : List Ev}, (∀ x ∈ p, dep x e = false) → Eqv (p ++ e :: q) (e :: (p ++ q))
  | [], _ => .refl _
  | x :: p, h => ((eqv_front (p := p) fun y hy => h y (List.mem_cons_of_mem _ hy)).cons x).trans (.one (.here _ (h x (List.mem_cons_self ..))))
end Go.Proofs.Yticnponenkfneaa

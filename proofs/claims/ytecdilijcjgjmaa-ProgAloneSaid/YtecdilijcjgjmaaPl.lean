/- Plain facts: what locks a thread has is told by its ops; lock pairs of a run are those of its threads alone; sums of one thread. No program in sight. -/
import Derived.Test.YtecdilijcjgjmaaPo
set_option linter.all false
set_option maxRecDepth 100000
namespace Go.Proofs.Ytecdilijcjgjmaa
open Go Go.RowKit

/-- A thread has a lock just if its ops say so. -/
def HdR (P : List (List Ev)) (s : Ps) : Prop := ∀ (t : Nat) (o : Int), owner s.L o = (t : Int) ↔ hldL ((opsP P t).take (s.a t)) o = true
theorem hd_step {P : List (List Ev)} {s : Ps} {t : Nat} {o : Ev} (ho : (opsP P t)[s.a t]? = some o) (hc : canO P s t o = true) (h : HdR P s) : HdR P (stepO P s t o) := by
  intro u k
  show owner (s.L ++ evO P s t o) k = (u : Int) ↔ hldL ((opsP P u).take (upF s.a t (s.a t + 1) u)) k = true
  have hu := h u k
  have hL : (kindO P s t o = 0 ∧ s.L ++ evO P s t o = s.L) ∨ (kindO P s t o ≠ 0 ∧ s.L ++ evO P s t o = s.L ++ [⟨kindO P s t o, t, o.t⟩]) := by
    unfold evO
    by_cases hk : kindO P s t o = 0
    · rw [if_pos hk, List.append_nil]; exact .inl ⟨hk, rfl⟩
    · rw [if_neg hk]; exact .inr ⟨hk, rfl⟩
  have hcases := kind_cases P s t o
  by_cases e : u = t
  · subst e
    rw [upF_at, take_snoc' ho, hldL_snoc]
    unfold hldE
    by_cases h4 : o.k = 4
    · have hk : kindO P s u o = 3 := by unfold kindO; rw [h4]; rfl
      rcases hL with ⟨g, _⟩ | ⟨_, g⟩
      · omega
      · rw [g, hk, owner_snoc]
        unfold ownB
        by_cases ek : k = o.t
        · subst ek; simp [h4]
        · simp [h4, ek, Ne.symm ek]; exact hu
    · by_cases h5 : o.k = 5
      · have hk : kindO P s u o = if owner s.L o.t = u then 4 else 0 := by unfold kindO; rw [h5]; rfl
        by_cases ek : k = o.t
        · subst ek
          by_cases hw : owner s.L o.t = u
          · rw [if_pos hw] at hk
            rcases hL with ⟨g, _⟩ | ⟨_, g⟩
            · omega
            · rw [g, hk, owner_snoc]
              unfold ownB
              simp [h5]
          · rw [if_neg hw] at hk
            rcases hL with ⟨_, g⟩ | ⟨g, _⟩
            · rw [g]; simp [h5, hw]
            · omega
        · have hr : owner (s.L ++ evO P s u o) k = owner s.L k := by
            rcases hL with ⟨_, g⟩ | ⟨_, g⟩
            · rw [g]
            · rw [g, owner_snoc]
              unfold ownB
              rw [if_neg (fun q => ek q.1.symm), if_neg (fun q => ek q.1.symm)]
          rw [hr]; simp [ek]; exact hu
      · have hr : owner (s.L ++ evO P s u o) k = owner s.L k := by
          rcases hL with ⟨_, g⟩ | ⟨_, g⟩
          · rw [g]
          · rw [g, owner_snoc]
            unfold ownB
            rcases hcases with q | ⟨q, _⟩ | ⟨q, _⟩ | ⟨q, q'⟩ | ⟨q, q', _⟩ | ⟨q, _⟩ | ⟨q, _⟩ | ⟨q, _⟩ | ⟨q, _⟩ <;> first | exact absurd q' h4 | exact absurd q' h5 | (rw [if_neg (by simp only [q]; omega), if_neg (by simp only [q]; omega)])
        rw [hr]; simp [h4, h5]; exact hu
  · rw [upF_ne _ _ e, ← hu]
    rcases hL with ⟨_, g⟩ | ⟨_, g⟩
    · rw [g]
    · rw [g, owner_snoc]
      unfold ownB
      simp only
      by_cases ek : o.t = k
      · rcases hcases with q | ⟨q, _⟩ | ⟨q, _⟩ | ⟨q, q'⟩ | ⟨q, q', q2⟩ | ⟨q, _⟩ | ⟨q, _⟩ | ⟨q, _⟩ | ⟨q, _⟩
        · rw [if_neg (by omega), if_neg (by omega)]
        · rw [if_neg (by omega), if_neg (by omega)]
        · rw [if_neg (by omega), if_neg (by omega)]
        · unfold canO at hc
          rw [if_pos q', decide_eq_true_iff, ek] at hc
          rw [if_neg (by omega), if_pos ⟨ek, q⟩]
          constructor <;> intro r <;> omega
        · rw [if_pos ⟨ek, q⟩, ← ek, q2]
          constructor <;> intro r <;> omega
        · rw [if_neg (by omega), if_neg (by omega)]
        · rw [if_neg (by omega), if_neg (by omega)]
        · rw [if_neg (by omega), if_neg (by omega)]
        · rw [if_neg (by omega), if_neg (by omega)]
      · rw [if_neg (fun q => ek q.1), if_neg (fun q => ek q.1)]
def grE (l : List Ev) (a b : Int) : Prop := ∃ (i : Nat) (e : Ev), l[i]? = some e ∧ e.k = 3 ∧ e.o = b ∧ owner (l.take i) a = e.t
def alP (ops : List Ev) (a b : Int) : Prop := ∃ (i : Nat) (o : Ev), ops[i]? = some o ∧ o.k = 4 ∧ o.t = b ∧ hldL (ops.take i) a = true ∧ hldL (ops.take i) b = false
structure GrR (P : List (List Ev)) (s : Ps) : Prop where
  hd : HdR P s
  gr : ∀ a b, grE s.L a b → ∃ t, t < P.length ∧ alP (opsP P t) a b
theorem gr_pick {P : List (List Ev)} {s : Ps} (h : GrR P s) (x : Int) : GrR P (pickP P s x) := by
  unfold pickP
  split
  · rename_i hcan
    obtain ⟨h1, _, o, h3, h4⟩ := can_op hcan.2
    rw [step_op h3]
    refine ⟨hd_step h3 h4 h.hd, fun a b hg => ?_⟩
    obtain ⟨i, e, g1, g2, g3, g4⟩ := hg
    have hL : (stepO P s x.toNat o).L = s.L ++ evO P s x.toNat o := rfl
    rw [hL] at g1 g4
    rcases Nat.lt_or_ge i s.L.length with hi | hi
    · rw [List.getElem?_append_left hi] at g1
      rw [List.take_append_of_le_length (Nat.le_of_lt hi)] at g4
      exact h.gr a b ⟨i, e, g1, g2, g3, g4⟩
    · have hne : kindO P s x.toNat o ≠ 0 := fun hk => by
        unfold evO at g1
        rw [if_pos hk, List.append_nil, List.getElem?_eq_none hi] at g1
        cases g1
      unfold evO at g1 g4
      rw [if_neg hne] at g1 g4
      have hlen := (List.getElem?_eq_some_iff.1 g1).1
      rw [List.length_append, List.length_singleton] at hlen
      obtain rfl : i = s.L.length := by omega
      rw [List.getElem?_append_right hi, Nat.sub_self] at g1
      simp only [List.getElem?_cons_zero, Option.some.injEq] at g1
      subst g1
      rw [List.take_append_of_le_length hi, List.take_length] at g4
      simp only at g2 g3 g4
      have hk4 : o.k = 4 := by
        rcases kind_cases P s x.toNat o with q | ⟨q, _⟩ | ⟨q, _⟩ | ⟨q, q'⟩ | ⟨q, _⟩ | ⟨q, _⟩ | ⟨q, _⟩ | ⟨q, _⟩ | ⟨q, _⟩ <;> first | exact q' | omega
      refine ⟨x.toNat, h1, s.a x.toNat, o, h3, hk4, g3, (h.hd _ a).1 g4, ?_⟩
      unfold canO at h4
      rw [if_pos hk4, decide_eq_true_iff, g3] at h4
      cases hq : hldL ((opsP P x.toNat).take (s.a x.toNat)) b
      · rfl
      · have := (h.hd _ b).2 hq; omega
  · exact h
theorem gr_picks {P : List (List Ev)} : ∀ (ts : List Int) {s : Ps}, GrR P s → GrR P (ts.foldl (pickP P) s)
  | [], _, h => h
  | t :: ts, _, h => gr_picks ts (gr_pick h t)
/-- Lock pairs of a run are pairs of its threads alone. -/
theorem gr_run (P : List (List Ev)) (ts : List Int) : GrR P (runP P ts) :=
  gr_picks ts ⟨fun t o => by simp [ps0, owner, hldL], fun a b ⟨i, e, h, _⟩ => by simp [ps0] at h⟩
end Go.Proofs.Ytecdilijcjgjmaa

/- Plain facts: a program of one thread. No program in sight. -/
import Derived.Test.YtecdilijcjgjmaaPg
set_option linter.all false
set_option maxRecDepth 100000
namespace Go.Proofs.Ytecdilijcjgjmaa
open Go Go.RowKit

/-- Which locks are held as the ops alone tell it. -/
def hldE (h : Int → Bool) (o : Ev) : Int → Bool := fun k => if (o.k = 4 ∨ o.k = 5) ∧ k = o.t then decide (o.k = 4) else h k
def hldL (l : List Ev) : Int → Bool := l.foldl hldE fun _ => false
theorem hldL_snoc (l : List Ev) (o : Ev) : hldL (l ++ [o]) = hldE (hldL l) o := by unfold hldL; rw [List.foldl_append]; rfl
/-- Whether an op waits, behind those. -/
def wts (l : List Ev) (o : Ev) : Bool := decide (o.k = 7) || (decide (o.k = 4) && hldL l o.t)
def wtL (l : List Ev) : Nat → Bool
  | 0 => false
  | i + 1 => wtL l i || (match l[i]? with | none => false | some o => wts (l.take i) o)
def oneS (ops : List Ev) (i : Nat) : Ps := runP [ops] (List.replicate i 0)
theorem oneS_succ (ops : List Ev) (i : Nat) : oneS ops (i + 1) = pickP [ops] (oneS ops i) 0 := by unfold oneS; rw [List.replicate_succ', runP_snoc]
theorem ops_one (ops : List Ev) : opsP [ops] 0 = ops := rfl
structure OneR (ops : List Ev) (i : Nat) (s : Ps) : Prop where
  at_ : s.a 0 = i
  own : ∀ o, owner s.L o = if hldL (ops.take i) o = true then 0 else -1
theorem begun0 (l : List Ev) : begun l 0 = true := by unfold begun; simp
theorem one_can {ops : List Ev} (hP : OkP [ops]) {i : Nat} {s : Ps} {o : Ev} (h : OneR ops i s) (ho : ops[i]? = some o) : canP [ops] s 0 = !wts (ops.take i) o := by
  obtain ⟨k1, k9, o0, _⟩ := isOp_obj (hP.op 0 o (by rw [ops_one]; exact List.mem_of_getElem? ho))
  have hc : canP [ops] s 0 = canO [ops] s 0 o := by
    unfold canP
    rw [ops_one, h.at_, ho]
    simp only [List.length_singleton]
    rw [show ((0 : Nat) : Int) = 0 from rfl, begun0]
    simp
  rw [hc]
  unfold canO wts
  by_cases h4 : o.k = 4
  · rw [if_pos h4, h.own]
    simp only [h4]
    cases hldL (ops.take i) o.t <;> simp
  · rw [if_neg h4]
    by_cases h7 : o.k = 7
    · rw [if_pos h7]
      simp only [h7]
      simp
      intro g1 g2
      omega
    · rw [if_neg h7]
      simp [h4, h7]
theorem one_step {ops : List Ev} (hP : OkP [ops]) {i : Nat} {s : Ps} {o : Ev} (h : OneR ops i s) (ho : ops[i]? = some o) (hw : wts (ops.take i) o = false) : OneR ops (i + 1) (pickP [ops] s 0) := by
  have hc := one_can hP h ho
  rw [hw] at hc
  have ho' : (opsP [ops] 0)[s.a 0]? = some o := by rw [ops_one, h.at_]; exact ho
  have hp : pickP [ops] s 0 = stepO [ops] s 0 o := by
    unfold pickP
    rw [if_pos ⟨Int.le_refl 0, hc⟩]
    exact step_op ho'
  rw [hp]
  have hop := hP.op 0 o (by rw [ops_one]; exact List.mem_of_getElem? ho)
  obtain ⟨k1, k9, o0, _⟩ := isOp_obj hop
  refine ⟨?_, fun k => ?_⟩
  · show upF s.a 0 (s.a 0 + 1) 0 = i + 1
    rw [upF_at, h.at_]
  · show owner (s.L ++ evO [ops] s 0 o) k = _
    rw [take_snoc' ho, hldL_snoc]
    have hown := h.own k
    have howt := h.own o.t
    by_cases h4 : o.k = 4
    · have hk : kindO [ops] s 0 o = 3 := by unfold kindO; rw [h4]; rfl
      unfold evO
      rw [hk, if_neg (by decide), owner_snoc]
      unfold ownB hldE
      simp only [h4]
      by_cases e : o.t = k
      · subst e; simp
      · simp [e, Ne.symm e]; simpa using hown
    · by_cases h5 : o.k = 5
      · have hk : kindO [ops] s 0 o = if owner s.L o.t = (0 : Nat) then 4 else 0 := by unfold kindO; rw [h5]; rfl
        unfold hldE
        simp only [h5]
        by_cases e : k = o.t
        · subst e
          simp only [true_and, or_true, and_self, if_true]
          by_cases hh : hldL (ops.take i) o.t = true
          · rw [if_pos hh] at howt
            have hk4 : kindO [ops] s 0 o = 4 := by rw [hk, howt]; decide
            unfold evO
            rw [hk4, if_neg (by decide), owner_snoc]
            unfold ownB
            simp
          · rw [if_neg hh] at howt
            have hk0 : kindO [ops] s 0 o = 0 := by rw [hk, howt]; decide
            unfold evO
            rw [hk0, if_pos rfl, List.append_nil, howt]
            simp
        · have hr : owner (s.L ++ evO [ops] s 0 o) k = owner s.L k := by
            unfold evO
            split
            · rw [List.append_nil]
            · rw [owner_snoc]
              unfold ownB
              rw [if_neg (fun g => e g.1.symm), if_neg (fun g => e g.1.symm)]
          rw [hr, hown]
          simp [e]
      · have hr : owner (s.L ++ evO [ops] s 0 o) k = owner s.L k := by
          unfold evO
          split
          · rw [List.append_nil]
          · rw [owner_snoc]
            unfold ownB
            rcases kind_cases [ops] s 0 o with q | ⟨q, _⟩ | ⟨q, _⟩ | ⟨q, q'⟩ | ⟨q, q', _⟩ | ⟨q, _⟩ | ⟨q, _⟩ | ⟨q, _⟩ | ⟨q, _⟩ <;> first | exact absurd q' h4 | exact absurd q' h5 | (rw [if_neg (by simp only [q]; omega), if_neg (by simp only [q]; omega)])
        rw [hr, hown]
        unfold hldE
        simp [h4, h5]
theorem one_free {ops : List Ev} (hP : OkP [ops]) : ∀ i, i ≤ ops.length → wtL ops i = false → OneR ops i (oneS ops i)
  | 0, _, _ => ⟨rfl, fun o => by simp [oneS, runP, ps0, owner, hldL]⟩
  | i + 1, hi, hw => by
    unfold wtL at hw
    rw [Bool.or_eq_false_iff] at hw
    have ho : ops[i]? = some (ops[i]'(by omega)) := List.getElem?_eq_getElem (by omega)
    generalize ops[i]'(by omega) = o at ho
    rw [ho] at hw
    rw [oneS_succ]
    exact one_step hP (one_free hP i (by omega) hw.1) ho hw.2
theorem wt_first {l : List Ev} : ∀ {n : Nat}, wtL l n = true → ∃ i o, i < n ∧ wtL l i = false ∧ l[i]? = some o ∧ wts (l.take i) o = true
  | 0, h => by cases h
  | n + 1, h => by
    by_cases hn : wtL l n = true
    · obtain ⟨i, o, h1, h2⟩ := wt_first hn
      exact ⟨i, o, by omega, h2⟩
    · unfold wtL at h
      rw [Bool.or_eq_true] at h
      rcases h with h | h
      · exact absurd h hn
      · cases ho : l[n]? with
        | none => rw [ho] at h; cases h
        | some o => rw [ho] at h; exact ⟨n, o, Nat.lt_succ_self n, by simpa using hn, ho, h⟩
theorem one_stuck {ops : List Ev} {i : Nat} (hn : canP [ops] (oneS ops i) 0 = false) : ∀ j, oneS ops (i + j) = oneS ops i
  | 0 => rfl
  | j + 1 => by
    rw [← Nat.add_assoc, oneS_succ, one_stuck hn j]
    unfold pickP
    rw [if_neg]
    rintro ⟨_, h⟩
    rw [show ((0 : Int)).toNat = 0 from rfl, hn] at h
    cases h
/-- A thread alone does all that it has, unless it waits. -/
theorem one_end {ops : List Ev} (hP : OkP [ops]) : doneP [ops] (oneS ops ops.length) = !wtL ops ops.length ∧ stuckP [ops] (oneS ops ops.length) = wtL ops ops.length := by
  have hd : ∀ s : Ps, doneP [ops] s = decide (s.a 0 = ops.length) := fun s => by
    unfold doneP
    simp only [List.length_singleton, List.range_one, List.all_cons, List.all_nil, Bool.and_true]
    rw [show ((0 : Nat) : Int) = 0 from rfl, begun0, ops_one]; simp
  have hg : ∀ s : Ps, goesP [ops] s = canP [ops] s 0 := fun s => by unfold goesP; simp
  cases hw : wtL ops ops.length
  · have h := one_free hP ops.length (Nat.le_refl _) hw
    have h1 := hd (oneS ops ops.length)
    rw [h.at_] at h1
    refine ⟨by rw [h1]; simp, ?_⟩
    unfold stuckP; rw [h1]; simp
  · obtain ⟨i, o, h1, h2, h3, h4⟩ := wt_first hw
    have h := one_free hP i (by omega) h2
    have hc := one_can hP h h3
    rw [h4] at hc
    have hs := one_stuck hc (ops.length - i)
    rw [show i + (ops.length - i) = ops.length by omega] at hs
    have h5 := hd (oneS ops i)
    rw [h.at_] at h5
    rw [hs]
    refine ⟨by rw [h5]; simp; omega, ?_⟩
    unfold stuckP
    rw [h5, hg, hc]
    simp; omega
end Go.Proofs.Ytecdilijcjgjmaa

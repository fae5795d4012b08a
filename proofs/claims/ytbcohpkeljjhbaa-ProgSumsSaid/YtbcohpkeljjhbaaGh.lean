/- Plain facts: one thread that adds and stores, again and again. No program in sight. -/
import Derived.Test.YtbcohpkeljjhbaaPg
set_option linter.all false
set_option maxRecDepth 100000
namespace Go.Proofs.Ytbcohpkeljjhbaa
open Go Go.RowKit

def sumO : Nat → List Int → List Ev
  | _, [] => []
  | u, n :: ns => ⟨3, 0, n⟩ :: ⟨2, (u : Nat), 0⟩ :: sumO (u + 1) ns
theorem sumO_len : ∀ (ns : List Int) (u : Nat), (sumO u ns).length = 2 * ns.length
  | [], _ => rfl
  | n :: ns, u => by simp only [sumO, List.length_cons, sumO_len ns]; omega
theorem sumO_at : ∀ {ns : List Int} {u i : Nat} {n : Int}, ns[i]? = some n → (sumO u ns)[2 * i]? = some ⟨3, 0, n⟩ ∧ (sumO u ns)[2 * i + 1]? = some ⟨2, ((u + i : Nat) : Int), 0⟩
  | [], _, _, _, h => by simp at h
  | m :: ns, u, 0, n, h => by
    simp only [List.getElem?_cons_zero, Option.some.injEq] at h
    subst h
    exact ⟨rfl, rfl⟩
  | m :: ns, u, i + 1, n, h => by
    have ih := sumO_at (ns := ns) (u := u + 1) (i := i) (n := n) (by simpa using h)
    rw [show 2 * (i + 1) = 2 * i + 1 + 1 by omega, show u + (i + 1) = u + 1 + i by omega]
    simpa only [sumO, List.getElem?_cons_succ] using ih
theorem sumO_mem : ∀ {ns : List Int} {u : Nat} {o : Ev}, o ∈ sumO u ns → (∃ n ∈ ns, o = ⟨3, 0, n⟩) ∨ ∃ j, u ≤ j ∧ j < u + ns.length ∧ o = ⟨2, ((j : Nat) : Int), 0⟩
  | [], _, _, h => by cases h
  | m :: ns, u, o, h => by
    simp only [sumO, List.mem_cons] at h
    rcases h with rfl | rfl | h
    · exact .inl ⟨m, List.mem_cons_self .., rfl⟩
    · exact .inr ⟨u, Nat.le_refl _, by simp, rfl⟩
    · rcases sumO_mem h with ⟨n, h1, h2⟩ | ⟨j, h1, h2, h3⟩
      · exact .inl ⟨n, List.mem_cons_of_mem _ h1, h2⟩
      · exact .inr ⟨j, by omega, by simp only [List.length_cons]; omega, h3⟩
theorem sumP_ok {ns : List Int} (h6 : ns.length ≤ 6) (hn : ∀ n ∈ ns, -1000 ≤ n ∧ n ≤ 1000) : OkP [sumO 0 ns] := by
  have hout : ∀ t, t ≠ 0 → opsP [sumO 0 ns] t = [] := fun t h => opsP_out (by simp; omega)
  refine ⟨Nat.le_refl _, by simp, fun t => ?_, fun t o ho => ?_⟩
  · by_cases h : t = 0
    · subst h; rw [ops_one, sumO_len]; omega
    · rw [hout t h]; simp
  · by_cases h : t = 0
    · subst h
      rw [ops_one] at ho
      rcases sumO_mem ho with ⟨n, h1, rfl⟩ | ⟨j, _, h2, rfl⟩
      · have := hn n h1
        simp [isOp]; omega
      · simp [isOp]; omega
    · rw [hout t h] at ho; cases ho
structure SumR (ns : List Int) (i : Nat) (s : Ps) : Prop where
  at_ : s.a 0 = 2 * i
  has : s.has 0 = (ns.take i).sum
  mem : ∀ j : Nat, s.mem (j : Nat) = if j < i then (ns.take (j + 1)).sum else 0
  len : s.L.length = i
theorem pick0 {ops : List Ev} {s : Ps} {o : Ev} (ho : ops[s.a 0]? = some o) (h4 : o.k ≠ 4) (h7 : o.k ≠ 7) : pickP [ops] s 0 = stepO [ops] s 0 o := by
  have hc : canP [ops] s 0 = true := by
    unfold canP
    rw [ops_one, ho]
    simp only [List.length_singleton]
    rw [show ((0 : Nat) : Int) = 0 from rfl, begun0]
    unfold canO
    rw [if_neg h4, if_neg h7]
    rfl
  unfold pickP
  rw [if_pos ⟨Int.le_refl 0, hc⟩]
  exact step_op ho
theorem take_sum {ns : List Int} {i : Nat} {n : Int} (h : ns[i]? = some n) : (ns.take (i + 1)).sum = (ns.take i).sum + n := by
  rw [List.take_succ, h, List.sum_append]; simp
theorem sum_run {ns : List Int} : ∀ i, i ≤ ns.length → SumR ns i (oneS (sumO 0 ns) (2 * i))
  | 0, _ => ⟨rfl, rfl, fun j => by simp [oneS, runP, ps0], rfl⟩
  | i + 1, hi => by
    have h := sum_run (ns := ns) i (by omega)
    have hn : ns[i]? = some (ns[i]'(by omega)) := List.getElem?_eq_getElem (by omega)
    generalize ns[i]'(by omega) = n at hn
    obtain ⟨o1, o2⟩ := sumO_at (u := 0) hn
    rw [Nat.zero_add] at o2
    rw [show 2 * (i + 1) = 2 * i + 1 + 1 by omega, oneS_succ, oneS_succ]
    generalize oneS (sumO 0 ns) (2 * i) = s at h ⊢
    rw [pick0 (s := s) (o := ⟨3, 0, n⟩) (by rw [h.at_]; exact o1) (by show (3 : Int) ≠ 4; decide) (by show (3 : Int) ≠ 7; decide)]
    have e1 : (stepO [sumO 0 ns] s 0 ⟨3, 0, n⟩).a 0 = 2 * i + 1 := by show upF s.a 0 (s.a 0 + 1) 0 = _; rw [upF_at, h.at_]
    have e2 : (stepO [sumO 0 ns] s 0 ⟨3, 0, n⟩).has 0 = (ns.take (i + 1)).sum := by show upF s.has 0 (s.has 0 + n) 0 = _; rw [upF_at, h.has, take_sum hn]
    have e3 : (stepO [sumO 0 ns] s 0 ⟨3, 0, n⟩).mem = s.mem := rfl
    have e4 : (stepO [sumO 0 ns] s 0 ⟨3, 0, n⟩).L = s.L := by show s.L ++ evO [sumO 0 ns] s 0 ⟨3, 0, n⟩ = s.L; simp [evO, kindO]
    generalize stepO [sumO 0 ns] s 0 ⟨3, 0, n⟩ = r at *
    rw [pick0 (s := r) (o := ⟨2, (i : Nat), 0⟩) (by rw [e1]; exact o2) (by show (2 : Int) ≠ 4; decide) (by show (2 : Int) ≠ 7; decide)]
    refine ⟨?_, ?_, fun j => ?_, ?_⟩
    · show upF r.a 0 (r.a 0 + 1) 0 = _; rw [upF_at, e1]; omega
    · show r.has 0 = _; exact e2
    · show updI r.mem (i : Nat) (r.has 0) (j : Nat) = _
      unfold updI
      by_cases e : (j : Int) = (i : Int)
      · obtain rfl : j = i := by omega
        rw [if_pos rfl, if_pos (by omega), e2]
      · rw [if_neg e, e3, h.mem j]
        by_cases hj : j < i
        · rw [if_pos hj, if_pos (by omega)]
        · rw [if_neg hj, if_neg (by omega)]
    · show (r.L ++ evO [sumO 0 ns] r 0 ⟨2, (i : Nat), 0⟩).length = i + 1
      rw [List.length_append, e4, h.len]
      simp [evO, kindO]
theorem sum_done (ns : List Int) : doneP [sumO 0 ns] (oneS (sumO 0 ns) (2 * ns.length)) = true := by
  have h := sum_run (ns := ns) ns.length (Nat.le_refl _)
  unfold doneP
  simp only [List.length_singleton, List.range_one, List.all_cons, List.all_nil, Bool.and_true]
  rw [show ((0 : Nat) : Int) = 0 from rfl, begun0, ops_one, h.at_, sumO_len]
  simp
end Go.Proofs.Ytbcohpkeljjhbaa

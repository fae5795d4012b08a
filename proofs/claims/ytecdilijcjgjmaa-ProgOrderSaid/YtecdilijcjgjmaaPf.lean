/- Plain facts: a run agrees with what its events tell; two runs to the end with equivalent events end the same. No program in sight. -/
import Derived.Test.YtecdilijcjgjmaaPe
set_option linter.all false
set_option maxRecDepth 100000
namespace Go.Proofs.Ytecdilijcjgjmaa
open Go Go.RowKit

/-- An op that came without an event. -/
def Sil (P : List (List Ev)) (L : List Ev) (t : Nat) (o : Ev) : Prop := o.k = 3 ∨ (o.k = 5 ∧ owner L o.t ≠ (t : Int)) ∨ (o.k = 6 ∧ ¬ (o.t < P.length ∧ begun L o.t = false))
theorem kind_zero {P : List (List Ev)} {s : Ps} {t : Nat} {o : Ev} (hop : isOp o = true) (h : kindO P s t o = 0) : Sil P s.L t o ∧ o.k ≠ 1 ∧ o.k ≠ 2 ∧ o.k ≠ 8 ∧ o.k ≠ 9 := by
  obtain ⟨k1, k9, _⟩ := isOp_obj hop
  unfold kindO at h
  unfold Sil
  by_cases h1 : o.k = 1
  · rw [if_pos h1] at h; cases h
  · rw [if_neg h1] at h
    by_cases h2 : o.k = 2
    · rw [if_pos h2] at h; cases h
    · rw [if_neg h2] at h
      by_cases h4 : o.k = 4
      · rw [if_pos h4] at h; cases h
      · rw [if_neg h4] at h
        by_cases h5 : o.k = 5
        · rw [if_pos h5] at h
          by_cases hw : owner s.L o.t = t
          · rw [if_pos hw] at h; cases h
          · exact ⟨.inr (.inl ⟨h5, hw⟩), by omega, by omega, by omega, by omega⟩
        · rw [if_neg h5] at h
          by_cases h6 : o.k = 6
          · rw [if_pos h6] at h
            by_cases hw : o.t < P.length ∧ begun s.L o.t = false
            · rw [if_pos hw] at h; cases h
            · exact ⟨.inr (.inr ⟨h6, hw⟩), by omega, by omega, by omega, by omega⟩
          · rw [if_neg h6] at h
            by_cases h7 : o.k = 7
            · rw [if_pos h7] at h; cases h
            · rw [if_neg h7] at h
              by_cases h8 : o.k = 8
              · rw [if_pos h8] at h; cases h
              · rw [if_neg h8] at h
                by_cases h9 : o.k = 9
                · rw [if_pos h9] at h; cases h
                · exact ⟨.inl (by omega), h1, h2, h8, h9⟩
theorem kOf_kind {P : List (List Ev)} {s : Ps} {t : Nat} {o : Ev} (h : kindO P s t o ≠ 0) : kOf o.k = kindO P s t o := by
  rcases kind_cases P s t o with g | ⟨g, g'⟩ | ⟨g, g'⟩ | ⟨g, g'⟩ | ⟨g, g', _⟩ | ⟨g, g', _⟩ | ⟨g, g'⟩ | ⟨g, g'⟩ | ⟨g, g'⟩ <;> first | exact absurd g h | (rw [g, g']; rfl)
structure SimR (P : List (List Ev)) (s : Ps) (r : Rp) : Prop where
  mem : s.mem = r.mem
  vol : s.vol = r.vol
  le : ∀ t, r.a t ≤ s.a t
  has : ∀ t, s.has t = r.has t + addL (((opsP P t).drop (r.a t)).take (s.a t - r.a t))
  sil : ∀ t j o, r.a t ≤ j → j < s.a t → (opsP P t)[j]? = some o → Sil P s.L t o
theorem SimR.start (P : List (List Ev)) : SimR P ps0 rp0 := ⟨rfl, rfl, fun _ => Nat.le_refl _, fun t => by simp [ps0, rp0, addL], fun t j o h1 h2 _ => by simp [ps0] at h2⟩
theorem sil_keep {P : List (List Ev)} {L : List Ev} {u : Nat} {o e : Ev} (h : Sil P L u o) (hne : e.t ≠ (u : Int)) : Sil P (L ++ [e]) u o := by
  rcases h with h | ⟨h1, h2⟩ | ⟨h1, h2⟩
  · exact .inl h
  · refine .inr (.inl ⟨h1, ?_⟩)
    rw [owner_snoc]
    unfold ownB
    split
    · omega
    · split
      · exact hne
      · exact h2
  · refine .inr (.inr ⟨h1, fun g => h2 ⟨g.1, ?_⟩⟩)
    cases hq : begun L o.t
    · rfl
    · have := begun_app (m := [e]) hq; rw [g.2] at this; cases this
theorem drop_at {l : List Ev} {i j : Nat} {o : Ev} (h : l[j]? = some o) (hij : i ≤ j) : (l.drop i)[j - i]? = some o := by rw [List.getElem?_drop, show i + (j - i) = j by omega]; exact h
theorem SimR.quiet {P : List (List Ev)} {s : Ps} {r : Rp} (hP : OkP P) (h : SimR P s r) {t : Nat} {o : Ev} (ho : (opsP P t)[s.a t]? = some o) (hk : kindO P s t o = 0) : SimR P (stepO P s t o) r := by
  obtain ⟨hs, k1, k2, k8, k9⟩ := kind_zero (hP.op t o (List.mem_of_getElem? ho)) hk
  have hL : (stepO P s t o).L = s.L := by show s.L ++ evO P s t o = s.L; unfold evO; rw [if_pos hk, List.append_nil]
  have ha : ∀ u, (stepO P s t o).a u = upF s.a t (s.a t + 1) u := fun _ => rfl
  refine ⟨?_, ?_, fun u => ?_, fun u => ?_, fun u j y h1 h2 h3 => ?_⟩
  · show memO s t o = _; unfold memO; rw [if_neg k2]; exact h.mem
  · show volO s t o = _; unfold volO; rw [if_neg k9]; exact h.vol
  · rw [ha]
    by_cases e : u = t
    · subst e; rw [upF_at]; have := h.le u; omega
    · rw [upF_ne _ _ e]; exact h.le u
  · rw [ha]
    show hasO s t o u = _
    by_cases e : u = t
    · subst e
      rw [upF_at]
      have hle := h.le u
      rw [show s.a u + 1 - r.a u = s.a u - r.a u + 1 by omega, take_snoc' (drop_at ho hle), addL_snoc]
      unfold hasO addO
      rw [if_neg k1]
      by_cases k3 : o.k = 3
      · rw [if_pos k3, if_pos k3, upF_at, h.has u]; omega
      · rw [if_neg k3, if_neg k3, if_neg k8, h.has u]; omega
    · rw [upF_ne _ _ e]
      have : hasO s t o u = s.has u := by
        unfold hasO
        rw [if_neg k1, if_neg k8]
        split
        · exact upF_ne _ _ e
        · rfl
      rw [this]; exact h.has u
  · rw [hL]
    rw [ha] at h2
    by_cases e : u = t
    · subst e
      rw [upF_at] at h2
      by_cases ej : j = s.a u
      · subst ej; rw [ho] at h3; cases h3; exact hs
      · exact h.sil u j y h1 (by omega) h3
    · rw [upF_ne _ _ e] at h2
      exact h.sil u j y h1 h2 h3
/-- The op fits its event; the ops ahead of it that came without one don't. -/
theorem loud_no {P : List (List Ev)} {s : Ps} {r : Rp} (h : SimR P s r) {t : Nat} {o : Ev} (hk : kindO P s t o ≠ 0) {j : Nat} {y : Ev} (hj : j < s.a t - r.a t) (hy : ((opsP P t).drop (r.a t))[j]? = some y) : mtch ⟨kindO P s t o, t, o.t⟩ y = false := by
  rw [List.getElem?_drop] at hy
  have hs := h.sil t (r.a t + j) y (by omega) (by omega) hy
  unfold mtch
  rw [Bool.and_eq_false_iff]
  by_cases hyt : y.t = o.t
  · left
    rw [decide_eq_false_iff_not]
    show ¬ kOf y.k = kindO P s t o
    intro hke
    rcases hs with g | ⟨g, g2⟩ | ⟨g, g2⟩
    · rw [g] at hke; exact hk hke.symm
    · rw [g] at hke
      have h4 : kindO P s t o = 4 := hke.symm
      rcases kind_cases P s t o with q | ⟨q, _⟩ | ⟨q, _⟩ | ⟨q, _⟩ | ⟨q, _, q3⟩ | ⟨q, _⟩ | ⟨q, _⟩ | ⟨q, _⟩ | ⟨q, _⟩ <;> first | (rw [hyt] at g2; exact g2 q3) | omega
    · rw [g] at hke
      have h5 : kindO P s t o = 5 := hke.symm
      rcases kind_cases P s t o with q | ⟨q, _⟩ | ⟨q, _⟩ | ⟨q, _⟩ | ⟨q, _⟩ | ⟨q, _, q3⟩ | ⟨q, _⟩ | ⟨q, _⟩ | ⟨q, _⟩ <;> first | (rw [hyt] at g2; exact g2 q3) | omega
  · right
    rw [decide_eq_false_iff_not]
    exact hyt
theorem SimR.loud {P : List (List Ev)} {s : Ps} {r : Rp} (h : SimR P s r) {t : Nat} {o : Ev} (ho : (opsP P t)[s.a t]? = some o) (hk : kindO P s t o ≠ 0) : SimR P (stepO P s t o) (repE P r ⟨kindO P s t o, t, o.t⟩) := by
  have hkO := kOf_kind hk
  have hL : (stepO P s t o).L = s.L ++ [⟨kindO P s t o, t, o.t⟩] := by show s.L ++ evO P s t o = _; unfold evO; rw [if_neg hk]
  have ha : ∀ u, (stepO P s t o).a u = upF s.a t (s.a t + 1) u := fun _ => rfl
  have hle := h.le t
  have hsk : skN ⟨kindO P s t o, t, o.t⟩ ((opsP P t).drop (r.a t)) = s.a t - r.a t := by
    refine skN_at (drop_at ho hle) ?_ fun j y hj hy => loud_no h hk hj hy
    unfold mtch; simp [hkO]
  have htt : ((t : Nat) : Int).toNat = t := Int.toNat_natCast t
  have hmid : midR P r ⟨kindO P s t o, t, o.t⟩ = s.has t := by
    unfold midR
    simp only [htt]
    rw [hsk, h.has t]
  have hra : ∀ u, (repE P r ⟨kindO P s t o, t, o.t⟩).a u = upF r.a t (s.a t + 1) u := fun u => by
    show upF r.a ((t : Int).toNat) _ u = _
    simp only [htt, hsk]
    rw [show r.a t + (s.a t - r.a t) + 1 = s.a t + 1 by omega]
  have hrh : ∀ u, (repE P r ⟨kindO P s t o, t, o.t⟩).has u = upF r.has t (newR P r ⟨kindO P s t o, t, o.t⟩) u := fun u => by
    show upF r.has ((t : Int).toNat) _ u = _
    rw [htt]
  have hkk := kind_cases P s t o
  have hnew : hasO s t o t = newR P r ⟨kindO P s t o, t, o.t⟩ := by
    unfold hasO newR
    rw [hmid]
    show _ = if kindO P s t o = 1 then r.mem o.t else if kindO P s t o = 7 then r.vol o.t else s.has t
    rcases hkk with q | ⟨q, q'⟩ | ⟨q, q'⟩ | ⟨q, q'⟩ | ⟨q, q', _⟩ | ⟨q, q', _⟩ | ⟨q, q'⟩ | ⟨q, q'⟩ | ⟨q, q'⟩ <;> first | exact absurd q hk | (rw [q, q']; simp [upF_at, h.mem, h.vol])
  have hoth : ∀ u, u ≠ t → hasO s t o u = s.has u := fun u e => by
    unfold hasO
    repeat' split
    all_goals first | exact upF_ne _ _ e | rfl
  refine ⟨?_, ?_, fun u => ?_, fun u => ?_, fun u j y h1 h2 h3 => ?_⟩
  · show memO s t o = if kindO P s t o = 2 then updI r.mem o.t (midR P r ⟨kindO P s t o, t, o.t⟩) else r.mem
    rw [hmid]
    unfold memO
    rcases hkk with q | ⟨q, q'⟩ | ⟨q, q'⟩ | ⟨q, q'⟩ | ⟨q, q', _⟩ | ⟨q, q', _⟩ | ⟨q, q'⟩ | ⟨q, q'⟩ | ⟨q, q'⟩ <;> first | exact absurd q hk | (rw [q, q']; simp [h.mem])
  · show volO s t o = if kindO P s t o = 8 then updI r.vol o.t (midR P r ⟨kindO P s t o, t, o.t⟩) else r.vol
    rw [hmid]
    unfold volO
    rcases hkk with q | ⟨q, q'⟩ | ⟨q, q'⟩ | ⟨q, q'⟩ | ⟨q, q', _⟩ | ⟨q, q', _⟩ | ⟨q, q'⟩ | ⟨q, q'⟩ | ⟨q, q'⟩ <;> first | exact absurd q hk | (rw [q, q']; simp [h.vol])
  · rw [ha, hra]
    by_cases e : u = t
    · subst e; rw [upF_at, upF_at]; exact Nat.le_refl _
    · rw [upF_ne _ _ e, upF_ne _ _ e]; exact h.le u
  · rw [ha, hra, hrh]
    show hasO s t o u = _
    by_cases e : u = t
    · subst e
      rw [upF_at, upF_at, upF_at, hnew, Nat.sub_self, List.take_zero]
      simp [addL]
    · rw [upF_ne _ _ e, upF_ne _ _ e, upF_ne _ _ e, hoth u e]; exact h.has u
  · rw [hL]
    rw [ha] at h2
    rw [hra] at h1
    by_cases e : u = t
    · subst e; rw [upF_at] at h1 h2; omega
    · rw [upF_ne _ _ e] at h1 h2
      exact sil_keep (h.sil u j y h1 h2 h3) (by show (t : Int) ≠ u; omega)
theorem sim_pick {P : List (List Ev)} {s : Ps} (hP : OkP P) (h : SimR P s (repL P s.L)) (t : Int) : SimR P (pickP P s t) (repL P (pickP P s t).L) := by
  unfold pickP
  split
  · rename_i hc
    obtain ⟨_, _, o, h3, _⟩ := can_op hc.2
    rw [step_op h3]
    by_cases hk : kindO P s t.toNat o = 0
    · have hL : (stepO P s t.toNat o).L = s.L := by show s.L ++ evO P s t.toNat o = s.L; unfold evO; rw [if_pos hk, List.append_nil]
      rw [hL]; exact h.quiet hP h3 hk
    · have hL : (stepO P s t.toNat o).L = s.L ++ [⟨kindO P s t.toNat o, t.toNat, o.t⟩] := by show s.L ++ evO P s t.toNat o = _; unfold evO; rw [if_neg hk]
      rw [hL, repL_snoc]; exact h.loud h3 hk
  · exact h
theorem sim_picks {P : List (List Ev)} (hP : OkP P) : ∀ (ts : List Int) {s : Ps}, SimR P s (repL P s.L) → SimR P (ts.foldl (pickP P) s) (repL P (ts.foldl (pickP P) s).L)
  | [], _, h => h
  | t :: ts, _, h => sim_picks hP ts (sim_pick hP h t)
theorem sim_run {P : List (List Ev)} (hP : OkP P) (ts : List Int) : SimR P (runP P ts) (repL P (runP P ts).L) := sim_picks hP ts (SimR.start P)
/-- In a run each event is that of the first op that fits, behind those that are known to be done. -/
def MatE (P : List (List Ev)) (r : Rp) (x : Ev) : Prop := ∃ (t n : Nat) (o : Ev), x.t = ((t : Nat) : Int) ∧ t < P.length ∧ ((opsP P t).drop (r.a t))[n]? = some o ∧ mtch x o = true ∧ ∀ (j : Nat) (y : Ev), j < n → ((opsP P t).drop (r.a t))[j]? = some y → mtch x y = false
def MatR (P : List (List Ev)) (s : Ps) : Prop := ∀ i x, s.L[i]? = some x → MatE P (repL P (s.L.take i)) x
theorem mat_pick {P : List (List Ev)} {s : Ps} (h : SimR P s (repL P s.L)) (hm : MatR P s) (t : Int) : MatR P (pickP P s t) := by
  unfold pickP
  split
  · rename_i hc
    obtain ⟨h1, _, o, h3, _⟩ := can_op hc.2
    rw [step_op h3]
    by_cases hk : kindO P s t.toNat o = 0
    · have hL : (stepO P s t.toNat o).L = s.L := by show s.L ++ evO P s t.toNat o = s.L; unfold evO; rw [if_pos hk, List.append_nil]
      intro i x hx
      rw [hL] at hx ⊢
      exact hm i x hx
    · have hL : (stepO P s t.toNat o).L = s.L ++ [⟨kindO P s t.toNat o, t.toNat, o.t⟩] := by show s.L ++ evO P s t.toNat o = _; unfold evO; rw [if_neg hk]
      intro i x hx
      rw [hL] at hx ⊢
      rcases Nat.lt_or_ge i s.L.length with hi | hi
      · rw [List.getElem?_append_left hi] at hx
        rw [List.take_append_of_le_length (Nat.le_of_lt hi)]
        exact hm i x hx
      · have hlen := (List.getElem?_eq_some_iff.1 hx).1
        rw [List.length_append, List.length_singleton] at hlen
        obtain rfl : i = s.L.length := by omega
        rw [List.getElem?_append_right hi, Nat.sub_self] at hx
        simp only [List.getElem?_cons_zero, Option.some.injEq] at hx
        subst hx
        rw [List.take_append_of_le_length hi, List.take_length]
        exact ⟨t.toNat, _, o, rfl, h1, drop_at h3 (h.le _), by unfold mtch; simp [kOf_kind hk], fun j y hj hy => loud_no h hk hj hy⟩
  · exact hm
theorem mat_picks {P : List (List Ev)} (hP : OkP P) : ∀ (ts : List Int) {s : Ps}, SimR P s (repL P s.L) → MatR P s → MatR P (ts.foldl (pickP P) s)
  | [], _, _, h => h
  | t :: ts, _, hs, h => mat_picks hP ts (sim_pick hP hs t) (mat_pick hs h t)
theorem mat_run {P : List (List Ev)} (hP : OkP P) (ts : List Int) : MatR P (runP P ts) := mat_picks hP ts (SimR.start P) fun i x h => by simp [ps0] at h
theorem mat_sk {P : List (List Ev)} {r : Rp} {x : Ev} (h : MatE P r x) : ∃ (t n : Nat) (o : Ev), x.t = ((t : Nat) : Int) ∧ t < P.length ∧ (opsP P t)[r.a t + n]? = some o ∧ mtch x o = true ∧ skN x ((opsP P t).drop (r.a t)) = n ∧ ∀ (j : Nat) (y : Ev), j < n → (opsP P t)[r.a t + j]? = some y → mtch x y = false := by
  obtain ⟨t, n, o, h1, h2, h3, h4, h5⟩ := h
  exact ⟨t, n, o, h1, h2, by rw [← List.getElem?_drop]; exact h3, h4, skN_at h3 h4 h5, fun j y hj hy => h5 j y hj (by rw [List.getElem?_drop]; exact hy)⟩
theorem eqv_begun {l m : List Ev} (h : Eqv l m) (t : Int) : begun l t = begun m t := by
  unfold begun did
  congr 1
  induction h with
  | refl => rfl
  | step _ h2 ih =>
    rw [ih]
    obtain ⟨p, a, b, q, rfl, rfl, _⟩ := h2.form
    simp only [List.any_append, List.any_cons]
    rw [Bool.or_left_comm (decide (a.k = 5 ∧ a.o = t))]
/-- MAZURKIEWICZ: what all begun threads have done to the end, in orders that are equivalent, ends the same. -/
theorem same_end {P : List (List Ev)} (hP : OkP P) {ts us : List Int} (hd1 : doneP P (runP P ts) = true) (hd2 : doneP P (runP P us) = true) (h : Eqv (runP P ts).L (runP P us).L) :
    (runP P ts).mem = (runP P us).mem ∧ (runP P ts).vol = (runP P us).vol ∧ ∀ t, t < P.length → (runP P ts).has t = (runP P us).has t := by
  have s1 := sim_run hP ts
  have s2 := sim_run hP us
  have k1 := runP_ok hP ts
  have k2 := runP_ok hP us
  have hr := rep_eqv (P := P) (may_fit (k1.may hP)) h
  rw [← hr] at s2
  refine ⟨s1.mem.trans s2.mem.symm, s1.vol.trans s2.vol.symm, fun t ht => ?_⟩
  have ha : (runP P ts).a t = (runP P us).a t := by
    unfold doneP at hd1 hd2
    have e1 := List.all_eq_true.1 hd1 t (List.mem_range.2 ht)
    have e2 := List.all_eq_true.1 hd2 t (List.mem_range.2 ht)
    have hb := eqv_begun h t
    cases hq : begun (runP P ts).L t
    · rw [k1.idle t hq, k2.idle t (by rw [← hb]; exact hq)]
    · rw [hq] at e1
      rw [← hb, hq] at e2
      simp only [Bool.not_true, Bool.false_or, decide_eq_true_iff] at e1 e2
      rw [e1, e2]
  rw [s1.has t, s2.has t, ha]
end Go.Proofs.Ytecdilijcjgjmaa

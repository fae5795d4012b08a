/- Plain facts: threads that add under one lock never race, are never stuck, and in the end have added the sum. No program in sight. -/
import Derived.Test.YtbcohpkeljjhbaaGf
import Derived.Test.YtbcohpkeljjhbaaSl
set_option linter.all false
set_option maxRecDepth 100000
namespace Go.Proofs.Ytbcohpkeljjhbaa
open Go Go.RowKit

theorem ad_pick {ns : List Int} (hP : OkP (adP ns)) {s : Ps} (h : AdR ns s) (t : Int) : AdR ns (pickP (adP ns) s t) := by
  have hg := gr_pick h.gr t
  unfold pickP at hg ⊢
  by_cases hc : 0 ≤ t ∧ canP (adP ns) s t.toNat = true
  · rw [if_pos hc] at hg ⊢
    obtain ⟨h1, h2, o, h3, h4⟩ := can_op hc.2
    rw [step_op h3] at hg ⊢
    exact ad_step hP h h1 h2 h3 h4 hg
  · rw [if_neg hc]; exact h
theorem ad_picks {ns : List Int} (hP : OkP (adP ns)) : ∀ (ts : List Int) {s : Ps}, AdR ns s → AdR ns (ts.foldl (pickP (adP ns)) s)
  | [], _, h => h
  | t :: ts, _, h => ad_picks hP ts (ad_pick hP h t)
theorem smA_none : ∀ (ns : List Int) (u : Nat), smA (fun _ => 0) u ns = 0
  | [], _ => rfl
  | n :: ns, u => by unfold smA; rw [smA_none ns (u + 1)]; simp
theorem ad_run {ns : List Int} (hP : OkP (adP ns)) (ts : List Int) : AdR ns (runP (adP ns) ts) :=
  ad_picks hP ts ⟨gr_run (adP ns) [], PsR.start hP, (smA_none ns 1).symm, fun i n _ h => by simp [ps0] at h, fun i n _ h => by simp [ps0] at h, fun i e h => by simp [ps0] at h⟩
theorem ad_free {ns : List Int} (hP : OkP (adP ns)) (ts : List Int) : rcs (runP (adP ns) ts).L = [] := by
  have h := ad_run hP ts
  have hm := h.ps.may hP
  rw [rcs_ok hm]
  exact guarded_free hm h.gd
theorem adF_hld (k : Nat) (o : Int) : ∀ j, hldL ((adF k).take j) o = false
  | 0 => rfl
  | j + 1 => by
    cases hq : (adF k)[j]? with
    | none =>
      have := List.getElem?_eq_none_iff.1 hq
      rw [List.take_of_length_le (by omega), ← List.take_of_length_le (l := adF k) (i := j) this]
      exact adF_hld k o j
    | some x =>
      rw [take_snoc' hq, hldL_snoc]
      obtain ⟨rfl, _⟩ := adF_at hq
      unfold hldE
      simp [adF_hld k o j]
theorem free_op {P : List (List Ev)} {s : Ps} {t : Nat} {o : Ev} (h4 : o.k ≠ 4) (h7 : o.k ≠ 7) : canO P s t o = true := by unfold canO; rw [if_neg h4, if_neg h7]
theorem can_of {P : List (List Ev)} {s : Ps} {t : Nat} {o : Ev} (ht : t < P.length) (hb : begun s.L t = true) (ho : (opsP P t)[s.a t]? = some o) (hc : canO P s t o = true) : canP P s t = true := by
  unfold canP
  rw [ho, hb, decide_eq_true ht]
  exact hc
theorem ad_in {ns : List Int} {s : Ps} (h : AdR ns s) {i : Nat} {n : Int} (hn : ns[i]? = some n) (h1 : 1 ≤ s.a (i + 1)) (h4 : s.a (i + 1) ≤ 4) : goesP (adP ns) s = true := by
  have hil := (List.getElem?_eq_some_iff.1 hn).1
  have ht : i + 1 < (adP ns).length := by unfold adP; rw [List.length_cons, List.length_map]; omega
  have hb : begun s.L ((i + 1 : Nat) : Int) = true := by
    cases hq : begun s.L ((i + 1 : Nat) : Int)
    · have := h.ps.idle _ hq; omega
    · rfl
  unfold goesP
  refine List.any_eq_true.2 ⟨i + 1, List.mem_range.2 ht, ?_⟩
  have hc : s.a (i + 1) = 1 ∨ s.a (i + 1) = 2 ∨ s.a (i + 1) = 3 ∨ s.a (i + 1) = 4 := by omega
  rcases hc with hj | hj | hj | hj
  · exact can_of ht hb (o := ⟨1, 0, 0⟩) (by rw [ad_ops hn, hj]; rfl) (free_op (by decide) (by decide))
  · exact can_of ht hb (o := ⟨3, 0, n⟩) (by rw [ad_ops hn, hj]; rfl) (free_op (by show (3 : Int) ≠ 4; decide) (by show (3 : Int) ≠ 7; decide))
  · exact can_of ht hb (o := ⟨2, 0, 0⟩) (by rw [ad_ops hn, hj]; rfl) (free_op (by decide) (by decide))
  · exact can_of ht hb (o := ⟨5, 2, 0⟩) (by rw [ad_ops hn, hj]; rfl) (free_op (by decide) (by decide))
/-- Never stuck. -/
theorem ad_goes {ns : List Int} {s : Ps} (h : AdR ns s) (hd : doneP (adP ns) s = false) : goesP (adP ns) s = true := by
  unfold doneP at hd
  rw [List.all_eq_false] at hd
  obtain ⟨t, ht, hq⟩ := hd
  rw [List.mem_range] at ht
  simp only [Bool.or_eq_true, Bool.not_eq_true', decide_eq_true_iff, not_or, Bool.not_eq_false] at hq
  obtain ⟨hb, hne⟩ := hq
  have hle := h.ps.le t
  cases t with
  | zero =>
    have hlt : s.a 0 < (opsP (adP ns) 0).length := by omega
    have ho := List.getElem?_eq_getElem hlt
    have hk : ((opsP (adP ns) 0)[s.a 0]'hlt).k = 6 := by
      have := (adF_at (k := ns.length) (j := s.a 0) (o := (opsP (adP ns) 0)[s.a 0]'hlt) (by rw [← ad_zero]; exact ho)).1
      rw [this]
    unfold goesP
    exact List.any_eq_true.2 ⟨0, List.mem_range.2 ht, can_of ht hb ho (free_op (by omega) (by omega))⟩
  | succ i =>
    have hil : i < ns.length := by unfold adP at ht; rw [List.length_cons, List.length_map] at ht; omega
    have hn : ns[i]? = some ns[i] := List.getElem?_eq_getElem hil
    generalize ns[i] = n at hn
    rw [ad_ops hn] at hle hne
    simp only [adO, List.length_cons, List.length_nil] at hle hne
    by_cases h1 : 1 ≤ s.a (i + 1)
    · exact ad_in h hn h1 (by omega)
    · have ha : s.a (i + 1) = 0 := by omega
      have ho : (opsP (adP ns) (i + 1))[s.a (i + 1)]? = some ⟨4, 2, 0⟩ := by rw [ad_ops hn, ha]; rfl
      by_cases hw : owner s.L 2 < 0
      · unfold goesP
        refine List.any_eq_true.2 ⟨i + 1, List.mem_range.2 ht, can_of ht hb ho ?_⟩
        unfold canO
        rw [if_pos rfl]
        exact decide_eq_true hw
      · obtain ⟨u, hu⟩ := Int.eq_ofNat_of_zero_le (show 0 ≤ owner s.L 2 by omega)
        have hh := (h.gr.hd u 2).1 hu
        cases u with
        | zero => rw [ad_zero, adF_hld] at hh; cases hh
        | succ i' =>
          cases hq : ns[i']? with
          | none =>
            rw [opsP_out (by unfold adP; rw [List.length_cons, List.length_map]; have := List.getElem?_eq_none_iff.1 hq; omega)] at hh
            simp [hldL] at hh
          | some n' =>
            obtain ⟨g1, g2⟩ := (ad_own h hq).1 hu
            exact ad_in h hq g1 g2
/-- In the end the sum is there. -/
theorem ad_sum {ns : List Int} {ts : List Int} (hP : OkP (adP ns)) (hd : doneP (adP ns) (runP (adP ns) ts) = true) : (runP (adP ns) ts).mem 0 = ns.sum := by
  have h := ad_run hP ts
  have fb := fb_run (adP ns) ts
  rw [h.mem]
  refine smA_all fun v h1 h2 => ?_
  obtain ⟨i, rfl⟩ : ∃ i, v = i + 1 := ⟨v - 1, by omega⟩
  have hil : i < ns.length := by omega
  have hlen : (adP ns).length = ns.length + 1 := by unfold adP; rw [List.length_cons, List.length_map]
  have hn : ns[i]? = some ns[i] := List.getElem?_eq_getElem hil
  have h0 := done_at hd (t := 0) (by omega) (begun0' _)
  have hb : begun (runP (adP ns) ts).L ((i + 1 : Nat) : Int) = true := by
    refine fb 0 i ⟨6, ((i + 1 : Nat) : Int), 0⟩ ?_ ?_ rfl ?_
    · rw [h0, ad_zero]; unfold adF; simp; exact hil
    · rw [ad_zero]; unfold adF; rw [List.getElem?_map, List.getElem?_range hil]; rfl
    · show ((i + 1 : Nat) : Int) < _; omega
  rw [done_at hd (t := i + 1) (by omega) hb, ad_ops hn]
  simp [adO]
end Go.Proofs.Ytbcohpkeljjhbaa

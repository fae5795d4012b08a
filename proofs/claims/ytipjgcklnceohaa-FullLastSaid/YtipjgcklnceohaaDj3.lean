/- Plain facts: the detector by full clocks: releases, forks, shows; all clocks of a valid trace. -/
import Derived.Test.YtipjgcklnceohaaDj2
set_option linter.all false
set_option maxRecDepth 100000
namespace Go.Proofs.Ytipjgcklnceohaa
open Go Go.RowKit

section
variable {l : List Ev} {k : Nat} {s : Dj}
/-- What hands a clock on: the own number is incremented behind it. -/
theorem djI_give (hm : may l = 0) (hk : k < l.length) (h : DjI l k s) (he : epo l k = s.C (tZ l k) (tZ l k)) (s' : Dj) (hK : kZ l k = 4 ∨ kZ l k = 5 ∨ kZ l k = 8)
    (hCt : s'.C (tZ l k) = incN (s.C (tZ l k)) (tZ l k))
    (hC : ∀ t, t ≠ tZ l k → (s'.C t = s.C t ∧ ¬ (kZ l k = 5 ∧ oZ l k = t)) ∨ (kZ l k = 5 ∧ oZ l k = t ∧ s'.C t = mxN (s.C t) (s.C (tZ l k))))
    (hL : ∀ o, (s'.L o = s.L o ∧ ¬ (kZ l k = 4 ∧ oZ l k = o)) ∨ (kZ l k = 4 ∧ oZ l k = o ∧ s'.L o = s.C (tZ l k)))
    (hV : ∀ o, (s'.V o = s.V o ∧ ¬ (kZ l k = 8 ∧ oZ l k = o)) ∨ (kZ l k = 8 ∧ oZ l k = o ∧ s'.V o = mxN (s.V o) (s.C (tZ l k)))) :
    DjI l (k + 1) s' := by
  have hov := not_over hm hk
  have hb : ∀ i, bef l i k = true ↔ KC l k (tZ l k) i := fun i => by
    rw [at_iff hm hk]
    constructor
    · rintro (h1 | ⟨h1, _⟩ | ⟨h1, _⟩ | ⟨h1, _⟩)
      · exact h1
      all_goals omega
    · exact .inl
  have hf : ∀ t, kZ l k = 5 → oZ l k = t → t ≠ tZ l k := fun t h5 ho e => fork_ne hm hk h5 (ho.trans e)
  generalize hT : tZ l k = T at *
  have hA : ∀ u, s'.C u u = s.C u u + (if u = T then 1 else 0) := fun u => by
    by_cases hu : u = T
    · subst hu; rw [hCt, incN_same, if_pos rfl]
    · rw [if_neg hu]
      rcases hC u hu with ⟨e, _⟩ | ⟨_, _, e⟩
      · rw [e]; rfl
      · rw [e]; unfold mxN; have := h.c0 T u; omega
  have hge : ∀ u, s.C u u ≤ s'.C u u := fun u => by rw [hA]; omega
  have hct : ∀ u, ¬ ovr l k u → s.C T u < s'.C u u := fun u hu => by
    rw [hA]
    by_cases hu2 : u = T
    · subst hu2; rw [if_pos rfl]; omega
    · rw [if_neg hu2]; have := h.c1 T u (Ne.symm hu2) hu; omega
  constructor
  · intro t u
    by_cases ht : t = T
    · subst ht
      rw [hCt]
      by_cases hu : u = t
      · subst hu; rw [incN_same, hA, if_pos rfl]; omega
      · rw [incN_ne _ hu]; have := h.c0 t u; have := hge u; omega
    · rcases hC t ht with ⟨e, _⟩ | ⟨_, _, e⟩
      · rw [e]; have := h.c0 t u; have := hge u; omega
      · rw [e]; unfold mxN; have := h.c0 t u; have := h.c0 T u; have := hge u; omega
  · intro o u
    rcases hL o with ⟨e, _⟩ | ⟨_, _, e⟩
    · rw [e]; have := h.l0 o u; have := hge u; omega
    · rw [e]; have := h.c0 T u; have := hge u; omega
  · intro o u
    rcases hV o with ⟨e, _⟩ | ⟨_, _, e⟩
    · rw [e]; have := h.v0 o u; have := hge u; omega
    · rw [e]; unfold mxN; have := h.v0 o u; have := h.c0 T u; have := hge u; omega
  · intro t u htu hu
    have hu' := (ovr_succ hu).1
    by_cases ht : t = T
    · subst ht
      rw [hCt, incN_ne _ (Ne.symm htu)]; exact hct u hu'
    · rcases hC t ht with ⟨e, _⟩ | ⟨_, _, e⟩
      · rw [e]; have := h.c1 t u htu hu'; have := hge u; omega
      · rw [e]; unfold mxN; have := h.c1 t u htu hu'; have := hct u hu'; have := hge u; omega
  · intro o u hu
    have hu' := (ovr_succ hu).1
    rcases hL o with ⟨e, _⟩ | ⟨_, _, e⟩
    · rw [e]; have := h.l1 o u hu'; have := hge u; omega
    · rw [e]; exact hct u hu'
  · intro o u hu
    have hu' := (ovr_succ hu).1
    rcases hV o with ⟨e, _⟩ | ⟨_, _, e⟩
    · rw [e]; have := h.v1 o u hu'; have := hge u; omega
    · rw [e]; unfold mxN; have := h.v1 o u hu'; have := hct u hu'; have := hge u; omega
  · intro t i hi
    rw [kc_succ, hT]
    rcases Nat.lt_succ_iff_lt_or_eq.1 hi with hi | rfl
    · rw [kb_lt hi, hb]
      by_cases ht : t = T
      · subst ht
        rw [hCt]
        by_cases hti : tZ l i = t
        · have h1 : KC l k t i := ⟨i, hi, .inl hti, kb_self⟩
          have h2 := (h.kc t i hi).2 h1
          rw [hti] at h2 ⊢
          rw [incN_same]
          exact ⟨fun _ => .inl h1, fun _ => by omega⟩
        · rw [incN_ne _ hti, h.kc t i hi]
          exact ⟨.inl, fun hh => hh.elim id fun hr => hr.2⟩
      · rcases hC t ht with ⟨e, hn⟩ | ⟨h5, ho, e⟩
        · rw [e, h.kc t i hi]
          exact ⟨.inl, fun hh => hh.resolve_right fun hr => hr.1.elim (fun e => ht e.symm) hn⟩
        · rw [e, le_mx, h.kc t i hi, h.kc T i hi]
          exact ⟨fun hh => hh.imp id fun hr => ⟨.inr ⟨h5, ho⟩, hr⟩, fun hh => hh.imp id fun hr => hr.2⟩
    · rw [he, hT]
      by_cases ht : t = T
      · subst ht
        rw [hCt, incN_same]
        exact ⟨fun _ => .inr ⟨.inl rfl, kb_self⟩, fun _ => by omega⟩
      · rcases hC t ht with ⟨e, hn⟩ | ⟨h5, ho, e⟩
        · rw [e]
          have := h.c1 t T ht hov
          exact ⟨fun hh => by omega, fun hh => by rcases hh with hh | ⟨hh | hh, _⟩; exact absurd hh kc_self; exact absurd hh.symm ht; exact absurd hh hn⟩
        · rw [e, le_mx]
          exact ⟨fun _ => .inr ⟨.inr ⟨h5, ho⟩, kb_self⟩, fun _ => .inr (Nat.le_refl _)⟩
  · intro o i hi
    rw [kl_succ]
    rcases Nat.lt_succ_iff_lt_or_eq.1 hi with hi | rfl
    · rw [kb_lt hi, hb]
      rcases hL o with ⟨e, hn⟩ | ⟨h4, ho, e⟩
      · rw [e, h.kl o i hi]
        exact ⟨.inl, fun hh => hh.resolve_right fun hr => hn hr.1⟩
      · rw [e, h.kc T i hi]
        refine ⟨fun hh => .inr ⟨⟨h4, ho⟩, hh⟩, fun hh => hh.elim (fun hr => ?_) fun hr => hr.2⟩
        obtain ⟨m, h1, h2, h3⟩ := hr
        exact (hb i).1 (kb_trans h3 (rel_chain hm hk h1 h2.1 h4 (h2.2.trans ho.symm)))
    · rw [he, hT]
      rcases hL o with ⟨e, hn⟩ | ⟨h4, ho, e⟩
      · rw [e]
        have := h.l1 o T hov
        exact ⟨fun hh => by omega, fun hh => by rcases hh with hh | hh; exact absurd hh kl_self; exact absurd hh.1 hn⟩
      · rw [e]
        exact ⟨fun _ => .inr ⟨⟨h4, ho⟩, kb_self⟩, fun _ => Nat.le_refl _⟩
  · intro o i hi
    rw [kv_succ]
    rcases Nat.lt_succ_iff_lt_or_eq.1 hi with hi | rfl
    · rw [kb_lt hi, hb]
      rcases hV o with ⟨e, hn⟩ | ⟨h8, ho, e⟩
      · rw [e, h.kv o i hi]
        exact ⟨.inl, fun hh => hh.resolve_right fun hr => hn hr.1⟩
      · rw [e, le_mx, h.kv o i hi, h.kc T i hi]
        exact ⟨fun hh => hh.imp id fun hr => ⟨⟨h8, ho⟩, hr⟩, fun hh => hh.imp id fun hr => hr.2⟩
    · rw [he, hT]
      rcases hV o with ⟨e, hn⟩ | ⟨h8, ho, e⟩
      · rw [e]
        have := h.v1 o T hov
        exact ⟨fun hh => by omega, fun hh => by rcases hh with hh | hh; exact absurd hh kv_self; exact absurd hh.1 hn⟩
      · rw [e, le_mx]
        exact ⟨fun _ => .inr ⟨⟨h8, ho⟩, kb_self⟩, fun _ => .inr (Nat.le_refl _)⟩
end
theorem djI_all {l : List Ev} (hm : may l = 0) : ∀ k, k ≤ l.length → DjI l k (djTo l k)
  | 0, _ => djI_start l
  | k + 1, hk' => by
    have hk : k < l.length := by omega
    have h := djI_all hm k (by omega)
    have he : epo l k = (djTo l k).C (tZ l k) (tZ l k) := rfl
    have hov := not_over hm hk
    have hat := fun (i : Nat) (_ : i < k) => at_iff (i := i) hm hk
    show DjI l (k + 1) (djStep (djTo l k) (kZ l k) (tZ l k) (oZ l k))
    generalize djTo l k = s at *
    unfold djStep
    by_cases h3 : kZ l k = 3
    · rw [if_pos h3]
      refine djI_take h hov he (s.L (oZ l k)) (KL l k (oZ l k)) (h.l0 _) (fun u _ hu => h.l1 _ u (ovr_succ hu).1) (fun i hi => h.kl _ i hi) (by omega) (by omega) (by omega) fun i hi => ?_
      rw [hat i hi]
      constructor
      · rintro (h1 | ⟨_, h1⟩ | ⟨h0, _⟩ | ⟨h0, _⟩)
        · exact .inl h1
        · exact .inr h1
        all_goals omega
      · rintro (h1 | h1)
        · exact .inl h1
        · exact .inr (.inl ⟨h3, h1⟩)
    rw [if_neg h3]
    by_cases h4 : kZ l k = 4
    · rw [if_pos h4]
      refine djI_give hm hk h he _ (.inl h4) (put1_same _ _ _) (fun t ht => .inl ⟨put1_ne _ _ ht, by omega⟩) (fun o => ?_) (fun o => .inl ⟨rfl, by omega⟩)
      by_cases ho : o = oZ l k
      · subst ho; exact .inr ⟨h4, rfl, put1_same _ _ _⟩
      · exact .inl ⟨put1_ne _ _ ho, fun e => ho e.2.symm⟩
    rw [if_neg h4]
    by_cases h5 : kZ l k = 5
    · rw [if_pos h5]
      refine djI_give hm hk h he _ (.inr (.inl h5)) (put1_same _ _ _) (fun t ht => ?_) (fun o => .inl ⟨rfl, by omega⟩) (fun o => .inl ⟨rfl, by omega⟩)
      by_cases ho : t = oZ l k
      · subst ho; exact .inr ⟨h5, rfl, (put1_ne _ _ ht).trans (put1_same _ _ _)⟩
      · exact .inl ⟨(put1_ne _ _ ht).trans (put1_ne _ _ ho), fun e => ho e.2.symm⟩
    rw [if_neg h5]
    by_cases h6 : kZ l k = 6
    · rw [if_pos h6]
      refine djI_take h hov he (s.C (oZ l k)) (KC l k (oZ l k)) (h.c0 _) (fun u _ hu => h.c1 _ u (fun e => (ovr_succ hu).2 ⟨h6, e⟩) (ovr_succ hu).1) (fun i hi => h.kc _ i hi) (by omega) (by omega) (by omega) fun i hi => ?_
      rw [hat i hi]
      constructor
      · rintro (h1 | ⟨h0, _⟩ | ⟨_, h1⟩ | ⟨h0, _⟩)
        · exact .inl h1
        · omega
        · exact .inr h1
        · omega
      · rintro (h1 | h1)
        · exact .inl h1
        · exact .inr (.inr (.inl ⟨h6, h1⟩))
    rw [if_neg h6]
    by_cases h7 : kZ l k = 7
    · rw [if_pos h7]
      refine djI_take h hov he (s.V (oZ l k)) (KV l k (oZ l k)) (h.v0 _) (fun u _ hu => h.v1 _ u (ovr_succ hu).1) (fun i hi => h.kv _ i hi) (by omega) (by omega) (by omega) fun i hi => ?_
      rw [hat i hi]
      constructor
      · rintro (h1 | ⟨h0, _⟩ | ⟨h0, _⟩ | ⟨_, h1⟩)
        · exact .inl h1
        · omega
        · omega
        · exact .inr h1
      · rintro (h1 | h1)
        · exact .inl h1
        · exact .inr (.inr (.inr ⟨h7, h1⟩))
    rw [if_neg h7]
    by_cases h8 : kZ l k = 8
    · rw [if_pos h8]
      refine djI_give hm hk h he _ (.inr (.inr h8)) (put1_same _ _ _) (fun t ht => .inl ⟨put1_ne _ _ ht, by omega⟩) (fun o => .inl ⟨rfl, by omega⟩) (fun o => ?_)
      by_cases ho : o = oZ l k
      · subst ho; exact .inr ⟨h8, rfl, put1_same _ _ _⟩
      · exact .inl ⟨put1_ne _ _ ho, fun e => ho e.2.symm⟩
    rw [if_neg h8]
    have hs : ({ s with C := put1 s.C (tZ l k) (mxN (s.C (tZ l k)) (s.C (tZ l k))) } : Dj) = s := by
      have : put1 s.C (tZ l k) (mxN (s.C (tZ l k)) (s.C (tZ l k))) = s.C := by
        funext j
        by_cases hj : j = tZ l k
        · subst hj; rw [put1_same]; funext u; unfold mxN; omega
        · rw [put1_ne _ _ hj]
      rw [this]
    rw [← hs]
    refine djI_take h hov he (s.C (tZ l k)) (KC l k (tZ l k)) (h.c0 _) (fun u hu hv => h.c1 _ u (Ne.symm hu) (ovr_succ hv).1) (fun i hi => h.kc _ i hi) (by omega) (by omega) (by omega) fun i hi => ?_
    rw [hat i hi]
    constructor
    · rintro (h1 | ⟨h0, _⟩ | ⟨h0, _⟩ | ⟨h0, _⟩)
      · exact .inl h1
      all_goals omega
    · rintro (h1 | h1) <;> exact .inl h1
end Go.Proofs.Ytipjgcklnceohaa

/- Plain facts: accesses under one lock never race; a program of threads that add under a lock. No program in sight. -/
import Derived.Test.YtbcohpkeljjhbaaPg
set_option linter.all false
set_option maxRecDepth 100000
namespace Go.Proofs.Ytbcohpkeljjhbaa
open Go Go.RowKit

theorem rcsA_none {l : List Ev} (h : ∀ i j a b, l[i]? = some a → l[j]? = some b → i < j → conf a b ≠ 0 → bef l i j = true) : rcsA l = [] := by
  refine List.eq_nil_iff_forall_not_mem.2 fun r hr => ?_
  obtain ⟨a, b, h1, h2, h3, _, _, h4, h5⟩ := mem_rcsA hr
  rw [h _ _ a b h1 h2 h3 h4] at h5
  cases h5
/-- All accesses are their own threads' under lock q. -/
def UnL (q : Int) (l : List Ev) : Prop := ∀ i e, l[i]? = some e → e.k ≤ 2 → owner (l.take i) q = e.t
theorem unl_bef {l : List Ev} (hm : may l = 0) {q : Int} (hu : UnL q l) {i j : Nat} {a b : Ev} (ha : l[i]? = some a) (hb : l[j]? = some b) (hij : i < j) (ka : a.k ≤ 2) (kb : b.k ≤ 2) : bef l i j = true := by
  have oa := hu i a ha ka
  have ob := hu j b hb kb
  have ta := isEv_t (wrong_isEv (wrong_at hm ha))
  have tb := isEv_t (wrong_isEv (wrong_at hm hb))
  have hj : j < l.length := (List.getElem?_eq_some_iff.1 hb).1
  by_cases ht : a.t = b.t
  · exact dir_bef (thread_dir ha hb hij ht)
  · obtain ⟨r, e, h1, h2, he, h3, h4, h5⟩ := lost hm ta.1 oa (show i ≤ j by omega) (by omega) (by rw [ob]; exact Ne.symm ht)
    have hne : r ≠ i := fun e1 => by
      subst e1; rw [ha] at he; cases he; omega
    have or := owner_rel he h3
    obtain ⟨s, f, g1, g2, hf, g3, g4, g5⟩ := gained (l := l) (o := q) (t := b.t) tb.1 (i := r + 1) (by rw [← h5, or]; omega) (j := j) (by omega) (by omega) ob
    exact bef_trans (dir_bef (thread_dir ha he (by omega) h4.symm)) (bef_trans (dir_bef (handed_dir he hf (by omega) h3 g3 (by omega))) (dir_bef (thread_dir hf hb g2 g4)))
theorem guarded_free {l : List Ev} (hm : may l = 0) {q : Int} (hu : UnL q l) : rcsA l = [] :=
  rcsA_none fun i j a b ha hb hij hc => by
    have hk := conf_bin (l := l) hc
    exact unl_bef hm hu ha hb hij (by omega) (by omega)
def adO (n : Int) : List Ev := [⟨4, 2, 0⟩, ⟨1, 0, 0⟩, ⟨3, 0, n⟩, ⟨2, 0, 0⟩, ⟨5, 2, 0⟩]
def adF (k : Nat) : List Ev := (List.range k).map fun i => ⟨6, (i + 1 : Nat), 0⟩
def adP (ns : List Int) : List (List Ev) := adF ns.length :: ns.map adO
/-- The sum of those who have stored, from thread u on. -/
def smA (a : Nat → Nat) : Nat → List Int → Int
  | _, [] => 0
  | u, n :: ns => (if 4 ≤ a u then n else 0) + smA a (u + 1) ns
theorem smA_same {a b : Nat → Nat} : ∀ {ns : List Int} {u : Nat}, (∀ v, u ≤ v → v < u + ns.length → (4 ≤ a v ↔ 4 ≤ b v)) → smA a u ns = smA b u ns
  | [], _, _ => rfl
  | n :: ns, u, h => by
    have h0 := h u (Nat.le_refl _) (by simp)
    unfold smA
    rw [smA_same (ns := ns) (u := u + 1) fun v h1 h2 => h v (by omega) (by simp only [List.length_cons]; omega)]
    simp only [h0]
theorem smA_up {a : Nat → Nat} : ∀ {ns : List Int} {u i : Nat} {n : Int} {w : Nat}, ns[i]? = some n → a (u + i) < 4 → 4 ≤ w → smA (upF a (u + i) w) u ns = smA a u ns + n
  | [], _, _, _, _, h, _, _ => by simp at h
  | m :: ns, u, 0, n, w, h, ha, hw => by
    simp only [List.getElem?_cons_zero, Option.some.injEq] at h
    subst h
    unfold smA
    rw [Nat.add_zero] at ha ⊢
    rw [upF_at, if_pos hw, if_neg (by omega), smA_same (a := upF a u w) (b := a) fun v h1 _ => by rw [upF_ne _ _ (by omega)]]
    omega
  | m :: ns, u, i + 1, n, w, h, ha, hw => by
    unfold smA
    rw [show u + (i + 1) = u + 1 + i by omega] at ha ⊢
    rw [smA_up (ns := ns) (u := u + 1) (i := i) (by simpa using h) ha hw, upF_ne _ _ (by omega)]
    omega
theorem smA_all {a : Nat → Nat} : ∀ {ns : List Int} {u : Nat}, (∀ v, u ≤ v → v < u + ns.length → 4 ≤ a v) → smA a u ns = ns.sum
  | [], _, _ => rfl
  | n :: ns, u, h => by
    unfold smA
    rw [if_pos (h u (Nat.le_refl _) (by simp)), smA_all (ns := ns) (u := u + 1) fun v h1 h2 => h v (by omega) (by simp only [List.length_cons]; omega), List.sum_cons]
theorem ad_ops {ns : List Int} {i : Nat} {n : Int} (h : ns[i]? = some n) : opsP (adP ns) (i + 1) = adO n := by
  unfold opsP adP
  rw [List.getD_eq_getElem?_getD, List.getElem?_cons_succ, List.getElem?_map, h]; rfl
theorem ad_zero (ns : List Int) : opsP (adP ns) 0 = adF ns.length := rfl
theorem ad_hld {ns : List Int} {i : Nat} {n : Int} (h : ns[i]? = some n) (j : Nat) (hj : j ≤ 5) : hldL ((opsP (adP ns) (i + 1)).take j) 2 = decide (1 ≤ j ∧ j ≤ 4) := by
  rw [ad_ops h]
  have : j = 0 ∨ j = 1 ∨ j = 2 ∨ j = 3 ∨ j = 4 ∨ j = 5 := by omega
  rcases this with rfl | rfl | rfl | rfl | rfl | rfl <;> simp [adO, hldL, hldE]
theorem adF_at {k j : Nat} {o : Ev} (h : (adF k)[j]? = some o) : o = ⟨6, (j + 1 : Nat), 0⟩ ∧ j < k := by
  unfold adF at h
  rw [List.getElem?_map] at h
  have hj : j < k := by
    rcases Nat.lt_or_ge j k with g | g
    · exact g
    · rw [List.getElem?_eq_none (by simpa using g)] at h; cases h
  rw [List.getElem?_range hj] at h
  exact ⟨(Option.some.inj h).symm, hj⟩
theorem adP_ok {ns : List Int} (h5 : ns.length ≤ 5) (hn : ∀ n ∈ ns, 1 ≤ n ∧ n ≤ 100) : OkP (adP ns) := by
  have hops : ∀ t, opsP (adP ns) t = if t = 0 then adF ns.length else match ns[t - 1]? with | none => [] | some n => adO n := fun t => by
    cases t with
    | zero => rfl
    | succ i =>
      rw [if_neg (Nat.succ_ne_zero i), Nat.add_sub_cancel]
      cases hq : ns[i]? with
      | none => exact opsP_out (by unfold adP; rw [List.length_cons, List.length_map]; have := List.getElem?_eq_none_iff.1 hq; omega)
      | some n => exact ad_ops hq
  refine ⟨by unfold adP; simp, by unfold adP; simp; omega, fun t => ?_, fun t o ho => ?_⟩
  · rw [hops]
    by_cases h0 : t = 0
    · rw [if_pos h0]; unfold adF; simp; omega
    · rw [if_neg h0]
      cases ns[t - 1]? with
      | none => simp
      | some n => simp [adO]
  · rw [hops] at ho
    by_cases h0 : t = 0
    · rw [if_pos h0] at ho
      obtain ⟨j, hj⟩ := List.getElem?_of_mem ho
      obtain ⟨rfl, hjk⟩ := adF_at hj
      unfold isOp
      simp
      omega
    · rw [if_neg h0] at ho
      cases hq : ns[t - 1]? with
      | none => rw [hq] at ho; cases ho
      | some n =>
        rw [hq] at ho
        have := hn n (List.mem_of_getElem? hq)
        simp only [adO, List.mem_cons, List.not_mem_nil, or_false] at ho
        rcases ho with rfl | rfl | rfl | rfl | rfl <;> simp [isOp] <;> omega
structure AdR (ns : List Int) (s : Ps) : Prop where
  gr : GrR (adP ns) s
  ps : PsR (adP ns) s
  mem : s.mem 0 = smA s.a 1 ns
  ld : ∀ i n, ns[i]? = some n → s.a (i + 1) = 2 → s.has (i + 1) = s.mem 0
  ad : ∀ i n, ns[i]? = some n → s.a (i + 1) = 3 → s.has (i + 1) = s.mem 0 + n
  gd : ∀ i e, s.L[i]? = some e → e.k ≤ 2 → owner (s.L.take i) 2 = e.t
theorem ad_own {ns : List Int} {s : Ps} (h : AdR ns s) {i : Nat} {n : Int} (hn : ns[i]? = some n) : owner s.L 2 = ((i + 1 : Nat) : Int) ↔ 1 ≤ s.a (i + 1) ∧ s.a (i + 1) ≤ 4 := by
  have hle := h.ps.le (i + 1)
  rw [ad_ops hn] at hle
  have h5 : s.a (i + 1) ≤ 5 := hle
  rw [h.gr.hd (i + 1) 2, ad_hld hn _ h5, decide_eq_true_iff]
theorem gd_step {P : List (List Ev)} {s : Ps} {t : Nat} {o : Ev} {q : Int} (h : ∀ i e, s.L[i]? = some e → e.k ≤ 2 → owner (s.L.take i) q = e.t) (hk : kindO P s t o ≠ 0 → kindO P s t o ≤ 2 → owner s.L q = (t : Int)) :
    ∀ i e, (s.L ++ evO P s t o)[i]? = some e → e.k ≤ 2 → owner ((s.L ++ evO P s t o).take i) q = e.t := fun i e he hk2 => by
  rcases Nat.lt_or_ge i s.L.length with hi | hi
  · rw [List.getElem?_append_left hi] at he
    rw [List.take_append_of_le_length (Nat.le_of_lt hi)]
    exact h i e he hk2
  · by_cases hk0 : kindO P s t o = 0
    · unfold evO at he
      rw [if_pos hk0, List.append_nil, List.getElem?_eq_none hi] at he
      cases he
    · unfold evO at he ⊢
      rw [if_neg hk0] at he ⊢
      have hlen := (List.getElem?_eq_some_iff.1 he).1
      rw [List.length_append, List.length_singleton] at hlen
      obtain rfl : i = s.L.length := by omega
      rw [List.getElem?_append_right hi, Nat.sub_self] at he
      simp only [List.getElem?_cons_zero, Option.some.injEq] at he
      subst he
      rw [List.take_append_of_le_length hi, List.take_length]
      exact hk hk0 hk2
theorem hasO_ne {s : Ps} {t u : Nat} {o : Ev} (e : u ≠ t) : hasO s t o u = s.has u := by
  unfold hasO
  repeat' split
  all_goals first | exact upF_ne _ _ e | rfl
theorem ad_step {ns : List Int} (hP : OkP (adP ns)) {s : Ps} (h : AdR ns s) {t : Nat} {o : Ev} (ht : t < (adP ns).length) (hb : begun s.L t = true) (ho : (opsP (adP ns) t)[s.a t]? = some o) (hc : canO (adP ns) s t o = true) (hg : GrR (adP ns) (stepO (adP ns) s t o)) : AdR ns (stepO (adP ns) s t o) := by
  have hps := h.ps.step hP ht hb ho hc
  have hav : ∀ v, (stepO (adP ns) s t o).a v = upF s.a t (s.a t + 1) v := fun _ => rfl
  cases t with
  | zero =>
    rw [ad_zero] at ho
    obtain ⟨rfl, _⟩ := adF_at ho
    refine ⟨hg, hps, ?_, fun i n hn ha => ?_, fun i n hn ha => ?_, gd_step h.gd fun h0 h2 => ?_⟩
    · show s.mem 0 = smA (upF s.a 0 (s.a 0 + 1)) 1 ns
      rw [h.mem]
      exact smA_same fun v h1 _ => by rw [upF_ne _ _ (by omega)]
    · rw [hav, upF_ne _ _ (by omega)] at ha
      exact h.ld i n hn ha
    · rw [hav, upF_ne _ _ (by omega)] at ha
      exact h.ad i n hn ha
    · unfold kindO at h0 h2
      simp at h0 h2
      split at h2 <;> simp_all
  | succ i =>
    have hil : i < ns.length := by unfold adP at ht; rw [List.length_cons, List.length_map] at ht; omega
    have hn : ns[i]? = some ns[i] := List.getElem?_eq_getElem hil
    generalize ns[i] = n at hn
    have hown := ad_own h hn
    have hoth : ∀ j m, ns[j]? = some m → 1 ≤ s.a (i + 1) → s.a (i + 1) ≤ 4 → 1 ≤ s.a (j + 1) → s.a (j + 1) ≤ 4 → j = i := fun j m hm a1 a2 b1 b2 => by
      have e1 := hown.2 ⟨a1, a2⟩
      have e2 := (ad_own h hm).2 ⟨b1, b2⟩
      omega
    rw [ad_ops hn] at ho
    have hj5 := (List.getElem?_eq_some_iff.1 ho).1
    simp only [adO, List.length_cons, List.length_nil] at hj5
    have hcs : s.a (i + 1) = 0 ∨ s.a (i + 1) = 1 ∨ s.a (i + 1) = 2 ∨ s.a (i + 1) = 3 ∨ s.a (i + 1) = 4 := by omega
    have hmem_same : ∀ w, (4 ≤ s.a (i + 1) ↔ 4 ≤ w) → smA s.a 1 ns = smA (upF s.a (i + 1) w) 1 ns := fun w hw => smA_same fun v _ _ => by
      by_cases e : v = i + 1
      · subst e; rw [upF_at]; exact hw
      · rw [upF_ne _ _ e]
    rcases hcs with hj | hj | hj | hj | hj
    · rw [hj] at ho; simp only [adO, List.getElem?_cons_zero, Option.some.injEq] at ho; subst ho
      refine ⟨hg, hps, ?_, fun j m hm ha => ?_, fun j m hm ha => ?_, gd_step h.gd fun h0 h2 => by simp [kindO] at h2⟩
      · show s.mem 0 = _; rw [h.mem]; exact hmem_same _ (by omega)
      · rw [hav] at ha
        by_cases e : j = i
        · subst e; rw [upF_at] at ha; omega
        · rw [upF_ne _ _ (by omega)] at ha; exact h.ld j m hm ha
      · rw [hav] at ha
        by_cases e : j = i
        · subst e; rw [upF_at] at ha; omega
        · rw [upF_ne _ _ (by omega)] at ha; exact h.ad j m hm ha
    · rw [hj] at ho; simp only [adO, List.getElem?_cons_succ, List.getElem?_cons_zero, Option.some.injEq] at ho; subst ho
      refine ⟨hg, hps, ?_, fun j m hm ha => ?_, fun j m hm ha => ?_, gd_step h.gd fun _ _ => hown.2 (by omega)⟩
      · show s.mem 0 = _; rw [h.mem]; exact hmem_same _ (by omega)
      · rw [hav] at ha
        by_cases e : j = i
        · subst e
          show upF s.has (j + 1) (s.mem 0) (j + 1) = s.mem 0
          exact upF_at ..
        · rw [upF_ne _ _ (by omega)] at ha
          show upF s.has (i + 1) (s.mem 0) (j + 1) = s.mem 0
          rw [upF_ne _ _ (by omega)]
          exact h.ld j m hm ha
      · rw [hav] at ha
        by_cases e : j = i
        · subst e; rw [upF_at] at ha; omega
        · rw [upF_ne _ _ (by omega)] at ha
          show upF s.has (i + 1) (s.mem 0) (j + 1) = s.mem 0 + m
          rw [upF_ne _ _ (by omega)]
          exact h.ad j m hm ha
    · rw [hj] at ho; simp only [adO, List.getElem?_cons_succ, List.getElem?_cons_zero, Option.some.injEq] at ho; subst ho
      refine ⟨hg, hps, ?_, fun j m hm ha => ?_, fun j m hm ha => ?_, gd_step h.gd fun _ _ => hown.2 (by omega)⟩
      · show s.mem 0 = _; rw [h.mem]; exact hmem_same _ (by omega)
      · rw [hav] at ha
        by_cases e : j = i
        · subst e; rw [upF_at] at ha; omega
        · rw [upF_ne _ _ (by omega)] at ha
          show upF s.has (i + 1) (s.has (i + 1) + n) (j + 1) = s.mem 0
          rw [upF_ne _ _ (by omega)]
          exact h.ld j m hm ha
      · rw [hav] at ha
        by_cases e : j = i
        · subst e
          show upF s.has (j + 1) (s.has (j + 1) + n) (j + 1) = s.mem 0 + m
          rw [upF_at, h.ld j n hn hj]
          rw [hn] at hm; cases hm; rfl
        · rw [upF_ne _ _ (by omega)] at ha
          show upF s.has (i + 1) (s.has (i + 1) + n) (j + 1) = s.mem 0 + m
          rw [upF_ne _ _ (by omega)]
          exact h.ad j m hm ha
    · rw [hj] at ho; simp only [adO, List.getElem?_cons_succ, List.getElem?_cons_zero, Option.some.injEq] at ho; subst ho
      refine ⟨hg, hps, ?_, fun j m hm ha => ?_, fun j m hm ha => ?_, gd_step h.gd fun _ _ => hown.2 (by omega)⟩
      · show updI s.mem 0 (s.has (i + 1)) 0 = smA (upF s.a (i + 1) (s.a (i + 1) + 1)) 1 ns
        rw [h.ad i n hn hj, Nat.add_comm i 1, smA_up hn (by rw [Nat.add_comm 1 i]; omega) (by rw [Nat.add_comm 1 i]; omega), ← h.mem]
        exact if_pos rfl
      · rw [hav] at ha
        by_cases e : j = i
        · subst e; rw [upF_at] at ha; omega
        · rw [upF_ne _ _ (by omega)] at ha
          exact absurd (hoth j m hm (by omega) (by omega) (by omega) (by omega)) e
      · rw [hav] at ha
        by_cases e : j = i
        · subst e; rw [upF_at] at ha; omega
        · rw [upF_ne _ _ (by omega)] at ha
          exact absurd (hoth j m hm (by omega) (by omega) (by omega) (by omega)) e
    · rw [hj] at ho; simp only [adO, List.getElem?_cons_succ, List.getElem?_cons_zero, Option.some.injEq] at ho; subst ho
      refine ⟨hg, hps, ?_, fun j m hm ha => ?_, fun j m hm ha => ?_, gd_step h.gd fun _ _ => hown.2 (by omega)⟩
      · show s.mem 0 = _; rw [h.mem]; exact hmem_same _ (by omega)
      · rw [hav] at ha
        by_cases e : j = i
        · subst e; rw [upF_at] at ha; omega
        · rw [upF_ne _ _ (by omega)] at ha; exact h.ld j m hm ha
      · rw [hav] at ha
        by_cases e : j = i
        · subst e; rw [upF_at] at ha; omega
        · rw [upF_ne _ _ (by omega)] at ha; exact h.ad j m hm ha
end Go.Proofs.Ytbcohpkeljjhbaa

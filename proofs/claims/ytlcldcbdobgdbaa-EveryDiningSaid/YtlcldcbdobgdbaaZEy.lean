import Derived.Test.YtlcldcbdobgdbaaZPg
import Derived.Test.YtlcldcbdobgdbaaZSl
set_option linter.all false
set_option maxRecDepth 100000
namespace Go.Proofs.Ytlcldcbdobgdbaa
open Go Go.RowKit

structure Sam (s r : Ps) : Prop where
  a : s.a = r.a
  mem : s.mem = r.mem
  vol : s.vol = r.vol
  has : s.has = r.has
  beg : ∀ t : Int, begun s.L t = begun r.L t
theorem Sam.refl (s : Ps) : Sam s s := ⟨rfl, rfl, rfl, rfl, fun _ => rfl⟩
theorem Sam.symm {s r : Ps} (h : Sam s r) : Sam r s := ⟨h.a.symm, h.mem.symm, h.vol.symm, h.has.symm, fun t => (h.beg t).symm⟩
theorem Sam.trans {s r q : Ps} (h : Sam s r) (k : Sam r q) : Sam s q := ⟨h.a.trans k.a, h.mem.trans k.mem, h.vol.trans k.vol, h.has.trans k.has, fun t => (h.beg t).trans (k.beg t)⟩
def FrP (P : List (List Ev)) : Prop := ∀ t, ∀ o ∈ opsP P t, o.k = 1 ∨ o.k = 2 ∨ o.k = 3 ∨ o.k = 6 ∨ o.k = 7
theorem begun_more (l m : List Ev) (t : Int) : begun (l ++ m) t = (begun l t || did m 5 t) := by
  unfold begun did
  rw [List.any_append, Bool.or_assoc]
section
variable {P : List (List Ev)} (hf : FrP P)
include hf
theorem fr_at {t i : Nat} {o : Ev} (h : (opsP P t)[i]? = some o) : o.k = 1 ∨ o.k = 2 ∨ o.k = 3 ∨ o.k = 6 ∨ o.k = 7 := hf t o (List.mem_of_getElem? h)
theorem can_sam {s r : Ps} (h : Sam s r) (t : Nat) : canP P s t = canP P r t := by
  unfold canP
  rw [h.beg, h.a]
  cases ho : (opsP P t)[r.a t]? with
  | none => rfl
  | some o =>
    have := fr_at hf ho
    have h4 : ¬ o.k = 4 := by omega
    simp only [canO, h.beg, h.a, if_neg h4]
theorem goes_sam {s r : Ps} (h : Sam s r) : goesP P s = goesP P r := by
  unfold goesP
  congr 1
  funext t
  exact can_sam hf h t
theorem step_sam {s r : Ps} (h : Sam s r) (t : Nat) : Sam (stepP P s t) (stepP P r t) := by
  unfold stepP
  rw [h.a]
  cases ho : (opsP P t)[r.a t]? with
  | none => exact h
  | some o =>
    have hk := fr_at hf ho
    have he : evO P s t o = evO P r t o := by
      unfold evO kindO
      simp only [h.beg]
      rw [if_neg (show ¬ o.k = 5 by omega), if_neg (show ¬ o.k = 5 by omega)]
    refine ⟨?_, ?_, ?_, ?_, fun x => ?_⟩
    · simp only [stepO, h.a]
    · simp only [stepO, memO, h.mem, h.has]
    · simp only [stepO, volO, h.vol, h.has]
    · simp only [stepO, hasO, h.mem, h.has, h.vol]
    · simp only [stepO]
      rw [begun_more, begun_more, h.beg, he]
end
theorem done_sam {P : List (List Ev)} {s r : Ps} (h : Sam s r) : doneP P s = doneP P r := by unfold doneP; simp only [h.beg, h.a]
def goS (P : List (List Ev)) (s : Ps) (w : List Nat) : Ps := w.foldl (stepP P) s
def VlP (P : List (List Ev)) : Ps → List Nat → Prop
  | _, [] => True
  | s, t :: w => canP P s t = true ∧ VlP P (stepP P s t) w
theorem go_sam {P : List (List Ev)} (hf : FrP P) : ∀ (w : List Nat) {s r : Ps}, Sam s r → Sam (goS P s w) (goS P r w)
  | [], _, _, h => h
  | t :: w, _, _, h => go_sam hf w (step_sam hf h t)
theorem vl_sam {P : List (List Ev)} (hf : FrP P) : ∀ (w : List Nat) {s r : Ps}, Sam s r → VlP P s w → VlP P r w
  | [], _, _, _, _ => trivial
  | t :: w, _, _, h, g => ⟨(can_sam hf h t).symm.trans g.1, vl_sam hf w (step_sam hf h t) g.2⟩
theorem step_pick {P : List (List Ev)} {s : Ps} {t : Nat} (h : canP P s t = true) : pickP P s (t : Int) = stepP P s t := by
  unfold pickP
  rw [if_pos ⟨by omega, by rw [Int.toNat_natCast]; exact h⟩, Int.toNat_natCast]
theorem go_run {P : List (List Ev)} : ∀ (w : List Nat) (s : Ps), VlP P s w → (w.map fun (t : Nat) => (t : Int)).foldl (pickP P) s = goS P s w
  | [], _, _ => rfl
  | t :: w, s, h => by
    rw [List.map_cons, List.foldl_cons, step_pick h.1]
    exact go_run w _ h.2
def lftP (P : List (List Ev)) (s : Ps) : Nat := ((opsP P 0).length - s.a 0) + ((opsP P 1).length - s.a 1) + ((opsP P 2).length - s.a 2) + ((opsP P 3).length - s.a 3) + ((opsP P 4).length - s.a 4) + ((opsP P 5).length - s.a 5)
theorem lft_step {P : List (List Ev)} (hP : OkP P) {s : Ps} {t : Nat} (hc : canP P s t = true) : lftP P (stepP P s t) + 1 = lftP P s := by
  obtain ⟨ht, _, o, ho, _⟩ := can_op hc
  have hlt : s.a t < (opsP P t).length := (List.getElem?_eq_some_iff.1 ho).1
  have h6 := hP.six
  rw [step_op ho]
  unfold lftP stepO
  simp only [upF]
  have : t = 0 ∨ t = 1 ∨ t = 2 ∨ t = 3 ∨ t = 4 ∨ t = 5 := by omega
  rcases this with rfl | rfl | rfl | rfl | rfl | rfl <;> simp <;> omega
theorem to_end {P : List (List Ev)} (hP : OkP P) : ∀ (n : Nat) (s : Ps), lftP P s ≤ n → ∃ w, VlP P s w ∧ goesP P (goS P s w) = false := by
  intro n
  induction n with
  | zero =>
    intro s h
    cases hg : goesP P s
    · exact ⟨[], trivial, hg⟩
    · unfold goesP at hg
      obtain ⟨t, _, hc⟩ := List.any_eq_true.1 hg
      have := lft_step hP hc; omega
  | succ n ih =>
    intro s h
    cases hg : goesP P s
    · exact ⟨[], trivial, hg⟩
    · unfold goesP at hg
      obtain ⟨t, _, hc⟩ := List.any_eq_true.1 hg
      obtain ⟨w, h1, h2⟩ := ih (stepP P s t) (by have := lft_step hP hc; omega)
      exact ⟨t :: w, ⟨hc, h1⟩, h2⟩
theorem beg_step {P : List (List Ev)} {s : Ps} {t : Nat} {o : Ev} (hk : o.k = 1 ∨ o.k = 2 ∨ o.k = 3 ∨ o.k = 6 ∨ o.k = 7) (x : Int) : begun (stepO P s t o).L x = (begun s.L x || decide (o.k = 6 ∧ o.t < P.length ∧ x = o.t)) := by
  unfold stepO
  simp only []
  rw [begun_more]
  by_cases h6 : o.k = 6
  · by_cases hb : o.t < P.length ∧ begun s.L o.t = false
    · have he : evO P s t o = [⟨5, t, o.t⟩] := by
        unfold evO kindO
        simp [h6, hb.1, hb.2]
      rw [he]
      unfold did
      simp [h6, hb.1, eq_comm]
    · have he : evO P s t o = [] := by
        unfold evO kindO
        rw [if_pos]
        rw [if_neg (by omega), if_neg (by omega), if_neg (by omega), if_neg (by omega), if_pos h6, if_neg hb]
      rw [he]
      cases hx : begun s.L x
      · have : ¬ (o.k = 6 ∧ o.t < P.length ∧ x = o.t) := fun ⟨_, h1, h2⟩ => hb ⟨h1, h2 ▸ hx⟩
        simp [did, this]
      · rfl
  · have h5 : ∀ e ∈ evO P s t o, e.k ≠ 5 := fun e he => by
      unfold evO at he
      split at he
      · cases he
      · rename_i hz
        simp only [List.mem_singleton] at he
        subst he
        intro h5
        dsimp only at h5
        unfold kindO at h5
        rcases hk with h | h | h | h | h
        all_goals simp [h] at h5
        exact h6 h
    have hd : did (evO P s t o) 5 x = false := by
      unfold did
      rw [List.any_eq_false]
      intro e he hh
      exact h5 e he (of_decide_eq_true hh).1
    rw [hd, Bool.or_false, decide_eq_false (fun h => h6 h.1), Bool.or_false]
def ClhO (o p : Ev) : Prop := o.t = p.t ∧ (o.k = 1 ∨ o.k = 2) ∧ (p.k = 1 ∨ p.k = 2) ∧ (o.k = 2 ∨ p.k = 2)
theorem dia {P : List (List Ev)} (hf : FrP P) {s : Ps} {t u : Nat} {o p : Ev} (htu : t ≠ u) (ho : (opsP P t)[s.a t]? = some o) (hp : (opsP P u)[s.a u]? = some p) (hn : ¬ ClhO o p) : Sam (stepO P (stepO P s t o) u p) (stepO P (stepO P s u p) t o) := by
  have hk := fr_at hf ho
  have hq := fr_at hf hp
  have hut : u ≠ t := Ne.symm htu
  have hho : hasO s t o u = s.has u := by unfold hasO; split; exact upF_ne _ _ hut; split; exact upF_ne _ _ hut; split; exact upF_ne _ _ hut; rfl
  have hhp : hasO s u p t = s.has t := by unfold hasO; split; exact upF_ne _ _ htu; split; exact upF_ne _ _ htu; split; exact upF_ne _ _ htu; rfl
  unfold ClhO at hn
  refine ⟨?_, ?_, ?_, ?_, fun x => ?_⟩
  · simp only [stepO]
    rw [upF_ne _ _ hut, upF_ne _ _ htu, upF_comm _ htu]
  · simp only [stepO, memO, hho, hhp]
    by_cases h1 : o.k = 2 <;> by_cases h2 : p.k = 2
    · simp only [h1, h2, if_true]
      exact updI_comm _ (fun e => hn ⟨e, .inr h1, .inr h2, .inl h1⟩) _ _
    · simp only [h1, h2, if_true, if_false]
    · simp only [h1, h2, if_true, if_false]
    · simp only [h1, h2, if_false]
  · simp only [stepO, volO]
    rw [if_neg (by omega), if_neg (by omega), if_neg (by omega), if_neg (by omega)]
  · have hmo : p.k = 1 → memO s t o p.t = s.mem p.t := fun h => by
      unfold memO
      split
      · rename_i h2
        exact updI_ne _ (fun e => hn ⟨e.symm, .inr h2, .inl h, .inl h2⟩) _
      · rfl
    have hmp : o.k = 1 → memO s u p o.t = s.mem o.t := fun h => by
      unfold memO
      split
      · rename_i h2
        exact updI_ne _ (fun e => hn ⟨e, .inl h, .inr h2, .inr h2⟩) _
      · rfl
    have hv : ∀ (x : Nat) (q : Ev), (q.k = 1 ∨ q.k = 2 ∨ q.k = 3 ∨ q.k = 6 ∨ q.k = 7) → q.k ≠ 8 := fun _ q h => by omega
    have h8 := hv 0 o hk
    have h8' := hv 0 p hq
    have e1 : (stepO P (stepO P s t o) u p).has = if p.k = 1 then upF (hasO s t o) u (s.mem p.t) else if p.k = 3 then upF (hasO s t o) u (s.has u + p.o) else hasO s t o := by
      show hasO (stepO P s t o) u p = _
      unfold hasO
      by_cases h1 : p.k = 1
      · rw [if_pos h1, if_pos h1]
        show upF (hasO s t o) u (memO s t o p.t) = _
        rw [hmo h1]; rfl
      · rw [if_neg h1, if_neg h1]
        by_cases h3 : p.k = 3
        · rw [if_pos h3, if_pos h3]
          show upF (hasO s t o) u (hasO s t o u + p.o) = _
          rw [hho]; rfl
        · rw [if_neg h3, if_neg h3, if_neg h8']; rfl
    have e2 : (stepO P (stepO P s u p) t o).has = if o.k = 1 then upF (hasO s u p) t (s.mem o.t) else if o.k = 3 then upF (hasO s u p) t (s.has t + o.o) else hasO s u p := by
      show hasO (stepO P s u p) t o = _
      unfold hasO
      by_cases h1 : o.k = 1
      · rw [if_pos h1, if_pos h1]
        show upF (hasO s u p) t (memO s u p o.t) = _
        rw [hmp h1]; rfl
      · rw [if_neg h1, if_neg h1]
        by_cases h3 : o.k = 3
        · rw [if_pos h3, if_pos h3]
          show upF (hasO s u p) t (hasO s u p t + o.o) = _
          rw [hhp]; rfl
        · rw [if_neg h3, if_neg h3, if_neg h8]; rfl
    rw [e1, e2]
    unfold hasO
    simp only [if_neg h8, if_neg h8']
    by_cases p1 : p.k = 1
    · rw [if_pos p1, if_pos p1]
      by_cases o1 : o.k = 1
      · rw [if_pos o1, if_pos o1, upF_comm _ htu]
      · rw [if_neg o1, if_neg o1]
        by_cases o3 : o.k = 3
        · rw [if_pos o3, if_pos o3, upF_comm _ htu]
        · rw [if_neg o3, if_neg o3]
    · rw [if_neg p1, if_neg p1]
      by_cases p3 : p.k = 3
      · rw [if_pos p3, if_pos p3]
        by_cases o1 : o.k = 1
        · rw [if_pos o1, if_pos o1, upF_comm _ htu]
        · rw [if_neg o1, if_neg o1]
          by_cases o3 : o.k = 3
          · rw [if_pos o3, if_pos o3, upF_comm _ htu]
          · rw [if_neg o3, if_neg o3]
      · rw [if_neg p3, if_neg p3]
  · rw [beg_step hq, beg_step hk, beg_step hk, beg_step hq, Bool.or_assoc, Bool.or_assoc, Bool.or_comm (decide _) (decide _)]
theorem can_after {P : List (List Ev)} (hf : FrP P) {s : Ps} {t u : Nat} {o : Ev} (htu : t ≠ u) (ho : (opsP P t)[s.a t]? = some o) (hu : canP P s u = true) : canP P (stepO P s t o) u = true := by
  obtain ⟨h1, h2, p, hp, hc⟩ := can_op hu
  have hut : u ≠ t := Ne.symm htu
  have hq := fr_at hf hp
  have hlt : s.a t < (opsP P t).length := (List.getElem?_eq_some_iff.1 ho).1
  have hb : ∀ x, begun s.L x = true → begun (stepO P s t o).L x = true := fun x h => begun_app h
  unfold canP
  rw [decide_eq_true h1, Bool.true_and, hb _ h2, Bool.true_and, show (stepO P s t o).a u = s.a u from upF_ne _ _ hut, hp]
  simp only []
  unfold canO at hc ⊢
  rw [if_neg (by omega)] at hc ⊢
  by_cases h7 : p.k = 7
  · rw [if_pos h7] at hc ⊢
    simp only [Bool.and_eq_true, decide_eq_true_iff] at hc ⊢
    refine ⟨hc.1, hc.2.1, hb _ hc.2.2.1, ?_⟩
    have hne : p.t.toNat ≠ t := fun e => by have := hc.2.2.2; rw [e] at this; omega
    rw [show (stepO P s t o).a p.t.toNat = s.a p.t.toNat from upF_ne _ _ hne]
    exact hc.2.2.2
  · rw [if_neg h7]
theorem clh_race {P : List (List Ev)} {s : Ps} {t u : Nat} {o p : Ev} (htu : t ≠ u) (hc : ClhO o p) (hm : may (stepO P (stepO P s t o) u p).L = 0) : rcs (stepO P (stepO P s t o) u p).L ≠ [] := by
  obtain ⟨h1, h2, h3, h4⟩ := hc
  have e1 : evO P s t o = [⟨o.k, t, o.t⟩] := by
    unfold evO kindO
    rcases h2 with h | h <;> simp [h]
  have e2 : evO P (stepO P s t o) u p = [⟨p.k, u, p.t⟩] := by
    unfold evO kindO
    rcases h3 with h | h <;> simp [h]
  have hL : (stepO P (stepO P s t o) u p).L = s.L ++ [⟨o.k, t, o.t⟩, ⟨p.k, u, p.t⟩] := by
    show (s.L ++ evO P s t o) ++ evO P (stepO P s t o) u p = _
    rw [e1, e2, List.append_assoc]; rfl
  rw [hL] at hm ⊢
  rw [rcs_ok hm]
  have ha : (s.L ++ [(⟨o.k, t, o.t⟩ : Ev), ⟨p.k, u, p.t⟩])[s.L.length]? = some ⟨o.k, t, o.t⟩ := by simp
  have hb : (s.L ++ [(⟨o.k, t, o.t⟩ : Ev), ⟨p.k, u, p.t⟩])[s.L.length + 1]? = some ⟨p.k, u, p.t⟩ := by simp
  have hr : racB (s.L ++ [(⟨o.k, t, o.t⟩ : Ev), ⟨p.k, u, p.t⟩]) s.L.length (s.L.length + 1) = true := by
    rw [racB_at ha hb (by omega), Bool.and_eq_true, decide_eq_true_iff, Bool.not_eq_true']
    constructor
    · unfold conf
      dsimp only
      rw [if_neg (by omega)]
      rcases h2 with q | q <;> rcases h3 with r | r <;> simp [q, r]
      omega
    · cases hq : bef (s.L ++ [(⟨o.k, t, o.t⟩ : Ev), ⟨p.k, u, p.t⟩]) s.L.length (s.L.length + 1)
      · rfl
      · exfalso
        rcases bef_step hq with h | ⟨m, h, k⟩
        · obtain ⟨a, b, qa, qb, _, hd⟩ := dirB_iff.1 h
          rw [ha] at qa
          rw [hb] at qb
          obtain rfl := Option.some.inj qa
          obtain rfl := Option.some.inj qb
          have := dir_sync hd
          unfold pr2 tch at this
          simp only [Bool.and_eq_true, Bool.or_eq_true, beq_iff_eq] at this
          omega
        · have := (dirB_lt h).1
          have := (bef_lt k).1
          omega
  intro hnil
  unfold rcsA at hnil
  have := List.map_eq_nil_iff.1 hnil
  have hmem : (s.L.length, s.L.length + 1) ∈ prsA (racB (s.L ++ [(⟨o.k, t, o.t⟩ : Ev), ⟨p.k, u, p.t⟩])) (s.L ++ [(⟨o.k, t, o.t⟩ : Ev), ⟨p.k, u, p.t⟩]).length :=
    mem_prsA.2 ⟨by simp, by simp, hr⟩
  rw [this] at hmem
  cases hmem
theorem conflu {P : List (List Ev)} (hP : OkP P) (hf : FrP P) (hr : ∀ ts, rcs (runP P ts).L = []) : ∀ (n : Nat) (ts : List Int), lftP P (runP P ts) ≤ n → ∀ {x y : List Nat}, VlP P (runP P ts) x → VlP P (runP P ts) y → goesP P (goS P (runP P ts) x) = false → goesP P (goS P (runP P ts) y) = false →
    Sam (goS P (runP P ts) x) (goS P (runP P ts) y) := by
  intro n
  induction n with
  | zero =>
    intro ts hl x y vx vy gx gy
    cases x with
    | cons t x => have := lft_step hP vx.1; omega
    | nil =>
      cases y with
      | cons u y => have := lft_step hP vy.1; omega
      | nil => exact Sam.refl _
  | succ n ih =>
    intro ts hl x y vx vy gx gy
    have hstep : ∀ {t : Nat}, canP P (runP P ts) t = true → runP P (ts ++ [(t : Int)]) = stepP P (runP P ts) t := fun {t} h => by rw [runP_snoc, step_pick h]
    cases x with
    | nil =>
      cases y with
      | nil => exact Sam.refl _
      | cons u y =>
        have : goesP P (runP P ts) = true := by unfold goesP; exact List.any_eq_true.2 ⟨u, List.mem_range.2 (can_op vy.1).1, vy.1⟩
        rw [show goS P (runP P ts) [] = runP P ts from rfl, this] at gx
        cases gx
    | cons t x =>
      cases y with
      | nil =>
        have : goesP P (runP P ts) = true := by unfold goesP; exact List.any_eq_true.2 ⟨t, List.mem_range.2 (can_op vx.1).1, vx.1⟩
        rw [show goS P (runP P ts) [] = runP P ts from rfl, this] at gy
        cases gy
      | cons u y =>
        have lt := lft_step hP vx.1
        have lu := lft_step hP vy.1
        have ct := hstep vx.1
        have cu := hstep vy.1
        have vx2 := vx.2
        have vy2 := vy.2
        change goesP P (goS P (stepP P (runP P ts) t) x) = false at gx
        change goesP P (goS P (stepP P (runP P ts) u) y) = false at gy
        show Sam (goS P (stepP P (runP P ts) t) x) (goS P (stepP P (runP P ts) u) y)
        by_cases htu : t = u
        · subst htu
          rw [← ct] at gx gy vx2 vy2 ⊢
          exact ih _ (by rw [ct]; omega) vx2 vy2 gx gy
        · obtain ⟨_, _, o, ho, _⟩ := can_op vx.1
          obtain ⟨_, _, p, hp, _⟩ := can_op vy.1
          have et : stepP P (runP P ts) t = stepO P (runP P ts) t o := step_op ho
          have eu : stepP P (runP P ts) u = stepO P (runP P ts) u p := step_op hp
          have ho' : (opsP P t)[(stepO P (runP P ts) u p).a t]? = some o := by rw [show (stepO P (runP P ts) u p).a t = (runP P ts).a t from upF_ne _ _ htu]; exact ho
          have hp' : (opsP P u)[(stepO P (runP P ts) t o).a u]? = some p := by rw [show (stepO P (runP P ts) t o).a u = (runP P ts).a u from upF_ne _ _ (Ne.symm htu)]; exact hp
          have cau : canP P (stepP P (runP P ts) t) u = true := by rw [et]; exact can_after hf htu ho vy.1
          have cat : canP P (stepP P (runP P ts) u) t = true := by rw [eu]; exact can_after hf (Ne.symm htu) hp vx.1
          have etu : stepP P (stepP P (runP P ts) t) u = stepO P (stepO P (runP P ts) t o) u p := by rw [et]; exact step_op hp'
          have eut : stepP P (stepP P (runP P ts) u) t = stepO P (stepO P (runP P ts) u p) t o := by rw [eu]; exact step_op ho'
          have hn : ¬ ClhO o p := fun hc => by
            have hrun : runP P (ts ++ [(t : Int)] ++ [(u : Int)]) = stepO P (stepO P (runP P ts) t o) u p := by rw [runP_snoc, ct, step_pick cau, etu]
            have hm := (runP_ok hP (ts ++ [(t : Int)] ++ [(u : Int)])).may hP
            rw [hrun] at hm
            exact clh_race htu hc hm (by rw [← hrun]; exact hr _)
          have hd := dia hf htu ho hp hn
          rw [← etu, ← eut] at hd
          obtain ⟨z, vz, gz⟩ := to_end hP (lftP P (stepP P (stepP P (runP P ts) t) u)) _ (Nat.le_refl _)
          have vz' := vl_sam hf z hd vz
          have gz' : goesP P (goS P (stepP P (stepP P (runP P ts) u) t) z) = false := by rw [← goes_sam hf (go_sam hf z hd)]; exact gz
          have s1 : Sam (goS P (stepP P (runP P ts) t) x) (goS P (stepP P (runP P ts) t) (u :: z)) := by
            have vz1 : VlP P (stepP P (runP P ts) t) (u :: z) := ⟨cau, vz⟩
            have gz1 : goesP P (goS P (stepP P (runP P ts) t) (u :: z)) = false := gz
            rw [← ct] at gx vx2 vz1 gz1 ⊢
            exact ih _ (by rw [ct]; omega) vx2 vz1 gx gz1
          have s2 : Sam (goS P (stepP P (runP P ts) u) y) (goS P (stepP P (runP P ts) u) (t :: z)) := by
            have vz1 : VlP P (stepP P (runP P ts) u) (t :: z) := ⟨cat, vz'⟩
            have gz1 : goesP P (goS P (stepP P (runP P ts) u) (t :: z)) = false := gz'
            rw [← cu] at gy vy2 vz1 gz1 ⊢
            exact ih _ (by rw [cu]; omega) vy2 vz1 gy gz1
          exact s1.trans ((go_sam hf z hd).trans s2.symm)
def effP (P : List (List Ev)) : Ps → List Int → List Nat
  | _, [] => []
  | s, t :: ts => if 0 ≤ t ∧ canP P s t.toNat = true then t.toNat :: effP P (stepP P s t.toNat) ts else effP P s ts
theorem eff_vl {P : List (List Ev)} : ∀ (ts : List Int) (s : Ps), VlP P s (effP P s ts) ∧ goS P s (effP P s ts) = ts.foldl (pickP P) s
  | [], _ => ⟨trivial, rfl⟩
  | t :: ts, s => by
    unfold effP
    rw [List.foldl_cons]
    by_cases h : 0 ≤ t ∧ canP P s t.toNat = true
    · rw [if_pos h, show pickP P s t = stepP P s t.toNat by unfold pickP; rw [if_pos h]]
      exact ⟨⟨h.2, (eff_vl ts _).1⟩, (eff_vl ts _).2⟩
    · rw [if_neg h, show pickP P s t = s by unfold pickP; rw [if_neg h]]
      exact eff_vl ts s
theorem free_same {P : List (List Ev)} (hP : OkP P) (hf : FrP P) (hr : ∀ ts, rcs (runP P ts).L = []) {ts us : List Int} (h1 : goesP P (runP P ts) = false) (h2 : goesP P (runP P us) = false) : Sam (runP P ts) (runP P us) := by
  obtain ⟨v1, e1⟩ := eff_vl (P := P) ts ps0
  obtain ⟨v2, e2⟩ := eff_vl (P := P) us ps0
  have := conflu hP hf hr (lftP P (runP P [])) [] (Nat.le_refl _) (x := effP P ps0 ts) (y := effP P ps0 us) v1 v2 (by show goesP P (goS P ps0 _) = false; rw [e1]; exact h1) (by show goesP P (goS P ps0 _) = false; rw [e2]; exact h2)
  have h3 : Sam (goS P ps0 (effP P ps0 ts)) (goS P ps0 (effP P ps0 us)) := this
  rw [e1, e2] at h3
  exact h3
end Go.Proofs.Ytlcldcbdobgdbaa

/- Plain facts: the detector by epochs flags the first race of a variable as full clocks do (FLANAGAN, FREUND). -/
import Derived.Test.YtnjaeampnakbbaaFs
set_option linter.all false
set_option maxRecDepth 100000
namespace Go.Proofs.Ytnjaeampnakbbaa
open Go Go.RowKit

/-- Whoever knows number n of thread t at an access from k on knows event i. -/
def Cov (l : List Ev) (k i t n : Nat) : Prop := ∀ j, k ≤ j → j < l.length → (kZ l j = 1 ∨ kZ l j = 2) → n ≤ cZ l j t → bef l i j = true
theorem Cov.up {l : List Ev} {k i t n : Nat} (h : Cov l k i t n) : Cov l (k + 1) i t n := fun j hj => h j (by omega)
theorem Cov.le {l : List Ev} {k i t n m : Nat} (h : Cov l k i t n) (hnm : n ≤ m) : Cov l k i t m := fun j h1 h2 h3 h4 => h j h1 h2 h3 (Nat.le_trans hnm h4)
theorem cov_self {l : List Ev} (hm : may l = 0) {k : Nat} : Cov l (k + 1) k (tZ l k) (epo l k) := fun j h1 h2 h3 h4 => (acc_iff hm h2 h3 (show k < j by omega)).1 h4
theorem cov_bef {l : List Ev} (hm : may l = 0) {i k : Nat} (h : bef l i k = true) : Cov l (k + 1) i (tZ l k) (epo l k) := fun j h1 h2 h3 h4 => bef_trans h (cov_self hm j h1 h2 h3 h4)
/-- No race of x has its second below k. -/
def NoR (l : List Ev) (x k : Nat) : Prop := ∀ i j, i < j → j < k → oZ l i = x → oZ l j = x → (kZ l i = 2 ∧ (kZ l j = 1 ∨ kZ l j = 2) ∨ kZ l i = 1 ∧ kZ l j = 2) → bef l i j = true
theorem NoR.down {l : List Ev} {x k j : Nat} (h : NoR l x k) (hj : j ≤ k) : NoR l x j := fun a b h1 h2 => h a b h1 (by omega)
theorem noR_of {l : List Ev} (hm : may l = 0) {x k : Nat} (hk : k ≤ l.length) (h : ∀ j, j < k → oZ l j = x → djK l j = 0) : NoR l x k := fun i j hij hjk hi hj hc => by
  have h0 := h j hjk hj
  have hjl : j < l.length := by omega
  have ho : oZ l i = oZ l j := by omega
  unfold djK at h0
  rcases hc with ⟨h2, h1 | h1⟩ | ⟨h2, h1⟩
  · rw [if_pos h1] at h0
    have hs : seenB l 2 j = true := by cases hs : seenB l 2 j <;> simp_all
    exact (seenB_iff hm hjl (.inl h1) 2).1 hs i hij h2 ho
  · rw [if_neg (by omega), if_pos h1] at h0
    have hs : seenB l 2 j = true := by cases hs : seenB l 2 j <;> simp_all
    exact (seenB_iff hm hjl (.inr h1) 2).1 hs i hij h2 ho
  · rw [if_neg (by omega), if_pos h1] at h0
    have hs : seenB l 1 j = true := by cases hs2 : seenB l 2 j <;> cases hs : seenB l 1 j <;> simp_all
    exact (seenB_iff hm hjl (.inr h1) 1).1 hs i hij h2 ho
/-- What W and R cover, as long as nothing races. -/
structure FsC (l : List Ev) (x k : Nat) (s : Fs) : Prop where
  w : ∀ i, i < k → kZ l i = 2 → oZ l i = x → Cov l k i s.wt s.wn
  r : ∀ i, i < k → kZ l i = 1 → oZ l i = x → Cov l k i s.wt s.wn ∨ (s.many = false ∧ Cov l k i s.rt s.rn) ∨ (s.many = true ∧ ∃ u, Cov l k i u (s.rc u))
theorem epo_pos {l : List Ev} (hm : may l = 0) {k : Nat} (hk : k < l.length) : 1 ≤ epo l k := onr_pos hm _ _ (by omega)
theorem rn_own {l : List Ev} (hm : may l = 0) {x k : Nat} (hk : k < l.length) {s : Fs} (h : FsI l x k s) : s.rt = tZ l k → s.rn ≤ cZ l k s.rt := fun e => by
  rcases h.r with ⟨_, h0⟩ | ⟨i, h1, _, _, h4, h5⟩
  · rw [h0]; exact Nat.zero_le _
  · rw [h5, e, cZ_own, epo_onr, epo_onr, ← h4, e]; exact onr_le2 hm _ (by omega) (by omega)
theorem rc_own {l : List Ev} (hm : may l = 0) {x k : Nat} (hk : k < l.length) {s : Fs} (h : FsI l x k s) : s.rc (tZ l k) ≤ epo l k := by
  rcases h.rc (tZ l k) with h0 | ⟨i, h1, _, _, h4, h5⟩
  · rw [h0]; exact Nat.zero_le _
  · rw [h5, epo_onr, epo_onr, h4]; exact onr_le2 hm _ (by omega) (by omega)
theorem fsC_all {l : List Ev} (hm : may l = 0) (x : Nat) : ∀ k, k ≤ l.length → NoR l x k → FsC l x k (fsTo l x k)
  | 0, _, _ => ⟨fun i h => by omega, fun i h => by omega⟩
  | k + 1, hk', hN => by
    have hk : k < l.length := by omega
    have h := fsC_all hm x k (by omega) (hN.down (by omega))
    have hI := fsI_all l x k
    have old : (kZ l k ≠ 1 ∨ oZ l k ≠ x) → (kZ l k ≠ 2 ∨ oZ l k ≠ x) → FsC l x (k + 1) (fsTo l x k) := fun h1 h2 =>
      ⟨fun i hi g1 g2 => by
        rcases Nat.lt_succ_iff_lt_or_eq.1 hi with hi | rfl
        · exact (h.w i hi g1 g2).up
        · rcases h2 with h2 | h2
          · exact absurd g1 h2
          · exact absurd g2 h2,
       fun i hi g1 g2 => by
        rcases Nat.lt_succ_iff_lt_or_eq.1 hi with hi | rfl
        · exact (h.r i hi g1 g2).imp Cov.up fun g => g.imp (fun ⟨a, b⟩ => ⟨a, b.up⟩) fun ⟨a, u, b⟩ => ⟨a, u, b.up⟩
        · rcases h1 with h1 | h1
          · exact absurd g1 h1
          · exact absurd g2 h1⟩
    rw [fsTo]
    split
    · rename_i ho
      generalize fsTo l x k = s at *
      unfold fsStep
      split
      · rename_i hk1
        -- a Read
        have wold : ∀ i, i < k + 1 → kZ l i = 2 → oZ l i = x → Cov l (k + 1) i s.wt s.wn := fun i hi g1 g2 => by
          rcases Nat.lt_succ_iff_lt_or_eq.1 hi with hi | rfl
          · exact (h.w i hi g1 g2).up
          · omega
        split
        · rename_i hs
          refine ⟨wold, fun i hi g1 g2 => ?_⟩
          rcases Nat.lt_succ_iff_lt_or_eq.1 hi with hi | rfl
          · exact (h.r i hi g1 g2).imp Cov.up fun g => g.imp (fun ⟨a, b⟩ => ⟨a, b.up⟩) fun ⟨a, u, b⟩ => ⟨a, u, b.up⟩
          · unfold skR at hs
            simp only [Bool.and_eq_true, Bool.not_eq_true', decide_eq_true_eq] at hs
            exact .inr (.inl ⟨hs.1, by rw [hs.2.1, hs.2.2]; exact cov_self hm⟩)
        · unfold fsR
          split
          · rename_i hmy
            refine ⟨wold, fun i hi g1 g2 => ?_⟩
            dsimp only
            rcases Nat.lt_succ_iff_lt_or_eq.1 hi with hi | rfl
            · rcases h.r i hi g1 g2 with g | ⟨g, _⟩ | ⟨_, u, g⟩
              · exact .inl g.up
              · rw [hmy] at g; cases g
              · refine .inr (.inr ⟨hmy, u, ?_⟩)
                by_cases e : u = tZ l k
                · rw [if_pos e]; subst e; exact g.up.le (rc_own hm hk hI)
                · rw [if_neg e]; exact g.up
            · exact .inr (.inr ⟨hmy, tZ l i, by rw [if_pos rfl]; exact cov_self hm⟩)
          · rename_i hmy
            have hmf : s.many = false := by simpa using hmy
            split
            · rename_i hkn
              refine ⟨wold, fun i hi g1 g2 => ?_⟩
              dsimp only
              rcases Nat.lt_succ_iff_lt_or_eq.1 hi with hi | rfl
              · rcases h.r i hi g1 g2 with g | ⟨_, g⟩ | ⟨g, _⟩
                · exact .inl g.up
                · exact .inr (.inl ⟨hmf, cov_bef hm (g k (Nat.le_refl _) hk (.inl hk1) hkn)⟩)
                · rw [hmf] at g; cases g
              · exact .inr (.inl ⟨hmf, cov_self hm⟩)
            · rename_i hkn
              refine ⟨wold, fun i hi g1 g2 => ?_⟩
              dsimp only
              rcases Nat.lt_succ_iff_lt_or_eq.1 hi with hi | rfl
              · rcases h.r i hi g1 g2 with g | ⟨_, g⟩ | ⟨g, _⟩
                · exact .inl g.up
                · refine .inr (.inr ⟨rfl, s.rt, ?_⟩)
                  rw [if_neg (fun e => hkn (rn_own hm hk hI e)), if_pos rfl]
                  exact g.up
                · rw [hmf] at g; cases g
              · exact .inr (.inr ⟨rfl, tZ l i, by rw [if_pos rfl]; exact cov_self hm⟩)
      · split
        · rename_i hk1 hk2
          split
          · rename_i hs
            unfold skW at hs
            simp only [Bool.and_eq_true, decide_eq_true_eq] at hs
            refine ⟨fun i hi g1 g2 => ?_, fun i hi g1 g2 => ?_⟩
            · rcases Nat.lt_succ_iff_lt_or_eq.1 hi with hi | rfl
              · exact (h.w i hi g1 g2).up
              · rw [hs.1, hs.2]; exact cov_self hm
            · rcases Nat.lt_succ_iff_lt_or_eq.1 hi with hi | rfl
              · exact (h.r i hi g1 g2).imp Cov.up fun g => g.imp (fun ⟨a, b⟩ => ⟨a, b.up⟩) fun ⟨a, u, b⟩ => ⟨a, u, b.up⟩
              · omega
          · refine ⟨fun i hi g1 g2 => ?_, fun i hi g1 g2 => ?_⟩
            · show Cov l (k + 1) i (tZ l k) (epo l k)
              rcases Nat.lt_succ_iff_lt_or_eq.1 hi with hi | rfl
              · exact cov_bef hm (hN i k hi (by omega) g2 ho (.inl ⟨g1, .inr hk2⟩))
              · exact cov_self hm
            · rcases Nat.lt_succ_iff_lt_or_eq.1 hi with hi | rfl
              · exact .inl (cov_bef hm (hN i k hi (by omega) g2 ho (.inr ⟨g1, hk2⟩)))
              · omega
        · rename_i hk1 hk2
          exact old (.inl hk1) (.inl hk2)
    · rename_i ho
      exact old (.inr ho) (.inr ho)
/-- Between two events of one epoch nobody else gets to know of the first. -/
theorem epoch_gap {l : List Ev} (hm : may l = 0) {a i j : Nat} (hij : i < j) (hj : j < l.length) (hk : kZ l i = 1 ∨ kZ l i = 2) (hb : bef l a i = true) (ht : tZ l a = tZ l j) (hn : epo l a = epo l j) : tZ l i = tZ l j := by
  refine Classical.byContradiction fun hne => ?_
  have hai := (bef_lt hb).1
  have h1 := (acc_iff hm (show i < l.length by omega) hk hai).2 hb
  have hov : ¬ ovr l i (tZ l j) := fun ⟨m, g1, g2⟩ => not_over hm hj ⟨m, by omega, g2⟩
  have h2 := (djI_all hm i (by omega)).c1 (tZ l i) (tZ l j) hne hov
  have h3 := onr_le2 hm (tZ l j) (show i ≤ j by omega) (by omega)
  rw [ht] at h1
  rw [epo_onr l j] at hn
  unfold onr at h3 hn
  omega
/-- All is known at an access in the epoch of an earlier one at which all was. -/
theorem same_epoch {l : List Ev} (hm : may l = 0) {x a j : Nat} (hN : NoR l x j) (haj : a < j) (hj : j < l.length) (hoa : oZ l a = x) (ht : tZ l a = tZ l j) (hn : epo l a = epo l j) {i : Nat} (hij : i < j) (hoi : oZ l i = x)
    (hka : kZ l a = 1 ∨ kZ l a = 2) (hki : kZ l i = 1 ∨ kZ l i = 2) (hc : kZ l a = 2 ∨ kZ l i = 2) : bef l i j = true := by
  have haj' := thread_bef hm haj hj ht
  rcases Nat.lt_trichotomy i a with h | rfl | h
  · refine bef_trans (hN i a h haj hoi hoa ?_) haj'
    rcases hka with h1 | h1 <;> rcases hki with h2 | h2 <;> omega
  · exact haj'
  · have hb := hN a i h hij hoa hoi (by rcases hka with h1 | h1 <;> rcases hki with h2 | h2 <;> omega)
    exact thread_bef hm hij hj (epoch_gap hm hij hj hki hb ht hn)
/-- The first race of a variable is flagged as full clocks flag it. -/
theorem fk_first {l : List Ev} (hm : may l = 0) {j : Nat} (hj : j < l.length) (h0 : ∀ i, i < j → oZ l i = oZ l j → djK l i = 0) : fkK l j = djK l j := by
  have hN := noR_of hm (Nat.le_of_lt hj) h0
  have hI := fsI_all l (oZ l j) j
  have hC := fsC_all hm (oZ l j) j (Nat.le_of_lt hj) hN
  unfold fkK
  generalize fsTo l (oZ l j) j = s at *
  have kw : (kZ l j = 1 ∨ kZ l j = 2) → (s.wn ≤ cZ l j s.wt ↔ seenB l 2 j = true) := fun hk => by
    rw [seenB_iff hm hj hk]
    constructor
    · intro hw i hi g1 g2; exact hC.w i hi g1 g2 j (Nat.le_refl _) hj hk hw
    · intro hs
      rcases hI.w with ⟨_, e⟩ | ⟨i, h1, h2, h3, h4, h5⟩
      · rw [e]; exact Nat.zero_le _
      · rw [h4, h5]; exact (acc_iff hm hj hk h1).2 (hs i h1 h2 h3)
  unfold fsK djK
  by_cases hk1 : kZ l j = 1
  · rw [if_pos hk1, if_pos hk1]
    split
    · rename_i hs
      unfold skR at hs
      simp only [Bool.and_eq_true, Bool.not_eq_true', decide_eq_true_eq] at hs
      rcases hI.r with ⟨_, e⟩ | ⟨a, g1, g2, g3, g4, g5⟩
      · have h1 := epo_pos hm hj
        have h2 := hs.2.2
        rw [cZ_own] at h2; omega
      · have : seenB l 2 j = true := by
          rw [seenB_iff hm hj (.inl hk1)]
          intro i hi q1 q2
          exact same_epoch hm hN g1 hj g3 (by omega) (by have := hs.2.2; rw [cZ_own] at this; omega) hi q2 (.inl g2) (.inr q1) (.inr q1)
        rw [if_pos this]
    · by_cases hw : s.wn ≤ cZ l j s.wt
      · rw [if_pos hw, if_pos ((kw (.inl hk1)).1 hw)]
      · rw [if_neg hw, if_neg (fun h => hw ((kw (.inl hk1)).2 h))]
  · rw [if_neg hk1, if_neg hk1]
    by_cases hk2 : kZ l j = 2
    · rw [if_pos hk2, if_pos hk2]
      split
      · rename_i hs
        unfold skW at hs
        simp only [Bool.and_eq_true, decide_eq_true_eq] at hs
        rcases hI.w with ⟨_, e⟩ | ⟨a, g1, g2, g3, g4, g5⟩
        · have h1 := epo_pos hm hj
          have h2 := hs.2
          rw [cZ_own] at h2; omega
        · have hall : ∀ q, (q = 1 ∨ q = 2) → seenB l q j = true := fun q hq => by
            rw [seenB_iff hm hj (.inr hk2)]
            intro i hi q1 q2
            exact same_epoch hm hN g1 hj g3 (by omega) (by have := hs.2; rw [cZ_own] at this; omega) hi q2 (.inr g2) (by omega) (.inl g2)
          rw [hall 2 (.inr rfl), hall 1 (.inl rfl)]; rfl
      · by_cases hw : s.wn ≤ cZ l j s.wt
        · have hs2 := (kw (.inr hk2)).1 hw
          rw [if_pos hw, hs2]
          have hr : rKn s (cZ l j) = seenB l 1 j := by
            rw [Bool.eq_iff_iff, seenB_iff hm hj (.inr hk2)]
            unfold rKn
            constructor
            · intro hr i hi g1 g2
              rcases hC.r i hi g1 g2 with g | ⟨gm, g⟩ | ⟨gm, u, g⟩
              · exact g j (Nat.le_refl _) hj (.inr hk2) hw
              · rw [gm] at hr
                exact g j (Nat.le_refl _) hj (.inr hk2) (by simpa using hr)
              · rw [if_pos gm, knwB_iff] at hr
                refine g j (Nat.le_refl _) hj (.inr hk2) ?_
                rcases hI.rc u with e | ⟨a, q1, _, _, q4, _⟩
                · rw [e]; exact Nat.zero_le _
                · exact hr u (by rw [← q4]; exact tZ_lt hm (by omega))
            · intro hs
              split
              · rw [knwB_iff]
                intro u _
                rcases hI.rc u with e | ⟨a, q1, q2, q3, q4, q5⟩
                · rw [e]; exact Nat.zero_le _
                · rw [q5, ← q4]; exact (acc_iff hm hj (.inr hk2) q1).2 (hs a q1 q2 q3)
              · rw [decide_eq_true_iff]
                rcases hI.r with ⟨_, e⟩ | ⟨a, q1, q2, q3, q4, q5⟩
                · rw [e]; exact Nat.zero_le _
                · rw [q5, q4]; exact (acc_iff hm hj (.inr hk2) q1).2 (hs a q1 q2 q3)
          rw [hr]
          cases seenB l 1 j <;> simp
        · have hs2 : seenB l 2 j = false := by rw [← Bool.not_eq_true]; exact fun h => hw ((kw (.inr hk2)).2 h)
          rw [if_neg hw, hs2]; simp
    · rw [if_neg hk2, if_neg hk2]
/-- Nothing is flagged just if nothing races. -/
theorem fk_none {l : List Ev} (hm : may l = 0) {k : Nat} (hk : k ≤ l.length) : (∀ j, j < k → fkK l j = 0) ↔ ∀ j, j < k → djK l j = 0 := by
  constructor
  · intro h j
    induction j using Nat.strongRecOn with
    | _ j ih =>
      intro hj
      rw [← fk_first hm (by omega) fun i hi _ => ih i hi (by omega)]
      exact h j hj
  · intro h j hj
    refine Classical.byContradiction fun hf => fk_dj hm (by omega) hf (h j hj)
end Go.Proofs.Ytnjaeampnakbbaa

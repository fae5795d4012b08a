import Derived.Test.YticnponenkfneaaZFl
set_option linter.all false
set_option maxRecDepth 100000
namespace Go.Proofs.Yticnponenkfneaa
open Go Go.RowKit

structure Fs where
  wt : Nat
  wn : Nat
  many : Bool
  rt : Nat
  rn : Nat
  rc : Nat → Nat
def fsStart : Fs := ⟨0, 0, false, 0, 0, fun _ => 0⟩
def knwB (r c : Nat → Nat) : Bool := (List.range 6).all fun u => decide (r u ≤ c u)
theorem knwB_iff (r c : Nat → Nat) : knwB r c = true ↔ ∀ u, u < 6 → r u ≤ c u := by simp [knwB]
def rKn (s : Fs) (c : Nat → Nat) : Bool := if s.many = true then knwB s.rc c else decide (s.rn ≤ c s.rt)
def skR (s : Fs) (t : Nat) (c : Nat → Nat) : Bool := !s.many && (decide (s.rt = t) && decide (s.rn = c t))
def skW (s : Fs) (t : Nat) (c : Nat → Nat) : Bool := decide (s.wt = t) && decide (s.wn = c t)
def fsR (s : Fs) (t : Nat) (c : Nat → Nat) : Fs :=
  if s.many = true then { s with rc := fun u => if u = t then c t else s.rc u }
  else if s.rn ≤ c s.rt then { s with rt := t, rn := c t }
  else { s with many := true, rt := 0, rn := 0, rc := fun u => if u = t then c t else if u = s.rt then s.rn else 0 }
def fsW (s : Fs) (t : Nat) (c : Nat → Nat) : Fs := { s with wt := t, wn := c t, many := false, rc := fun _ => 0 }
def fsStep (s : Fs) (k : Int) (t : Nat) (c : Nat → Nat) : Fs := if k = 1 then (if skR s t c = true then s else fsR s t c) else if k = 2 then (if skW s t c = true then s else fsW s t c) else s
def fsK (s : Fs) (k : Int) (t : Nat) (c : Nat → Nat) : Int :=
  if k = 1 then (if skR s t c = true then 0 else if s.wn ≤ c s.wt then 0 else 2)
  else if k = 2 then (if skW s t c = true then 0 else if s.wn ≤ c s.wt then (if rKn s c = true then 0 else 3) else 1) else 0
def fsSl (s : Fs) (k : Int) (t : Nat) (c : Nat → Nat) : Nat := if k = 1 then (if skR s t c = true then 0 else if s.many = true then 0 else if s.rn ≤ c s.rt then 0 else 1) else 0
def cZ (l : List Ev) (k : Nat) : Nat → Nat := (djTo l k).C (tZ l k)
def fsTo (l : List Ev) (x : Nat) : Nat → Fs
  | 0 => fsStart
  | k + 1 => if oZ l k = x then fsStep (fsTo l x k) (kZ l k) (tZ l k) (cZ l k) else fsTo l x k
def fkK (l : List Ev) (k : Nat) : Int := fsK (fsTo l (oZ l k) k) (kZ l k) (tZ l k) (cZ l k)
def slT (l : List Ev) : Nat → Nat
  | 0 => 0
  | k + 1 => slT l k + fsSl (fsTo l (oZ l k) k) (kZ l k) (tZ l k) (cZ l k)
theorem cZ_own (l : List Ev) (k : Nat) : cZ l k (tZ l k) = epo l k := rfl
theorem epo_onr (l : List Ev) (k : Nat) : epo l k = onr l k (tZ l k) := rfl
theorem onr_le2 {l : List Ev} (hm : may l = 0) (u : Nat) {i : Nat} : ∀ {k : Nat}, i ≤ k → k ≤ l.length → onr l i u ≤ onr l k u
  | 0, h, _ => by obtain rfl : i = 0 := by omega
                  exact Nat.le_refl _
  | k + 1, h, hk => by
    by_cases e : i = k + 1
    · subst e; exact Nat.le_refl _
    · have h1 := onr_le2 hm u (show i ≤ k by omega) (by omega)
      have h2 := onr_succ hm (show k < l.length by omega) u
      omega
structure FsI (l : List Ev) (x k : Nat) (s : Fs) : Prop where
  w : (s.wt = 0 ∧ s.wn = 0) ∨ ∃ i, i < k ∧ kZ l i = 2 ∧ oZ l i = x ∧ s.wt = tZ l i ∧ s.wn = epo l i
  r : (s.rt = 0 ∧ s.rn = 0) ∨ ∃ i, i < k ∧ kZ l i = 1 ∧ oZ l i = x ∧ s.rt = tZ l i ∧ s.rn = epo l i
  rc : ∀ u, s.rc u = 0 ∨ ∃ i, i < k ∧ kZ l i = 1 ∧ oZ l i = x ∧ tZ l i = u ∧ s.rc u = epo l i
theorem FsI.up {l : List Ev} {x k : Nat} {s : Fs} (h : FsI l x k s) : FsI l x (k + 1) s :=
  ⟨h.w.imp id fun ⟨i, h1, h2⟩ => ⟨i, by omega, h2⟩, h.r.imp id fun ⟨i, h1, h2⟩ => ⟨i, by omega, h2⟩, fun u => (h.rc u).imp id fun ⟨i, h1, h2⟩ => ⟨i, by omega, h2⟩⟩
theorem fsI_all (l : List Ev) (x : Nat) : ∀ k, FsI l x k (fsTo l x k)
  | 0 => ⟨.inl ⟨rfl, rfl⟩, .inl ⟨rfl, rfl⟩, fun _ => .inl rfl⟩
  | k + 1 => by
    have h := fsI_all l x k
    have hu := h.up
    rw [fsTo]
    split
    · rename_i ho
      generalize fsTo l x k = s at *
      unfold fsStep
      split
      · rename_i hk
        split
        · exact hu
        · unfold fsR
          split
          · refine ⟨hu.w, hu.r, fun u => ?_⟩
            dsimp only
            by_cases e : u = tZ l k
            · rw [if_pos e]; exact .inr ⟨k, by omega, hk, ho, e.symm, cZ_own l k⟩
            · rw [if_neg e]; exact hu.rc u
          · split
            · exact ⟨hu.w, .inr ⟨k, by omega, hk, ho, rfl, cZ_own l k⟩, hu.rc⟩
            · refine ⟨hu.w, .inl ⟨rfl, rfl⟩, fun u => ?_⟩
              dsimp only
              by_cases e : u = tZ l k
              · rw [if_pos e]; exact .inr ⟨k, by omega, hk, ho, e.symm, cZ_own l k⟩
              · rw [if_neg e]
                by_cases e2 : u = s.rt
                · rw [if_pos e2]
                  rcases hu.r with ⟨_, h0⟩ | ⟨i, h1, h2, h3, h4, h5⟩
                  · exact .inl h0
                  · exact .inr ⟨i, h1, h2, h3, by rw [e2, h4], h5⟩
                · rw [if_neg e2]; exact .inl rfl
      · split
        · rename_i _ hk
          split
          · exact hu
          · exact ⟨.inr ⟨k, by omega, hk, ho, rfl, cZ_own l k⟩, hu.r, fun _ => .inl rfl⟩
        · exact hu
    · exact hu
theorem fk_true {l : List Ev} (hm : may l = 0) {j : Nat} (hj : j < l.length) (h : fkK l j ≠ 0) : hasK (rcsA l) j (fkK l j) = true := by
  have hI := fsI_all l (oZ l j) j
  rw [hasK_iff hm hj h]
  unfold fkK at *
  generalize fsTo l (oZ l j) j = s at *
  have unk : ∀ {i t n : Nat}, (kZ l j = 1 ∨ kZ l j = 2) → i < j → t = tZ l i → n = epo l i → ¬ n ≤ cZ l j t → bef l i j = false := fun {i t n} hk hij ht hn hu => by
    rw [← Bool.not_eq_true, ← acc_iff hm hj hk hij, ← hn, ← ht]; exact hu
  have wun : (kZ l j = 1 ∨ kZ l j = 2) → ¬ s.wn ≤ cZ l j s.wt → ∃ i, i < j ∧ oZ l i = oZ l j ∧ kZ l i = 2 ∧ bef l i j = false := fun hk hu => by
    rcases hI.w with ⟨_, h0⟩ | ⟨i, h1, h2, h3, h4, h5⟩
    · rw [h0] at hu; exact absurd (Nat.zero_le _) hu
    · exact ⟨i, h1, h3, h2, unk hk h1 h4 h5 hu⟩
  unfold fsK at h ⊢
  by_cases h1 : kZ l j = 1
  · simp only [if_pos h1] at h ⊢
    split at h
    · exact absurd rfl h
    · rename_i hs
      rw [if_neg hs]
      split at h
      · exact absurd rfl h
      · rename_i hw
        rw [if_neg hw]
        obtain ⟨i, g1, g2, g3, g4⟩ := wun (.inl h1) hw
        exact ⟨i, g1, g2, .inr (.inl ⟨rfl, g3, h1⟩), g4⟩
  · simp only [if_neg h1] at h ⊢
    by_cases h2 : kZ l j = 2
    · simp only [if_pos h2] at h ⊢
      split at h
      · exact absurd rfl h
      · rename_i hs
        rw [if_neg hs]
        split at h
        · rename_i hw
          rw [if_pos hw]
          split at h
          · exact absurd rfl h
          · rename_i hr
            rw [if_neg hr]
            have : ∃ i, i < j ∧ oZ l i = oZ l j ∧ kZ l i = 1 ∧ bef l i j = false := by
              unfold rKn at hr
              split at hr
              · rw [knwB_iff] at hr
                have : ∃ u, u < 6 ∧ ¬ s.rc u ≤ cZ l j u := by
                  refine Classical.byContradiction fun hn => hr fun u hu => ?_
                  refine Classical.byContradiction fun h9 => hn ⟨u, hu, h9⟩
                obtain ⟨u, _, hu⟩ := this
                rcases hI.rc u with h0 | ⟨i, g1, g2, g3, g4, g5⟩
                · rw [h0] at hu; exact absurd (Nat.zero_le _) hu
                · exact ⟨i, g1, g3, g2, unk (.inr h2) g1 g4.symm g5 hu⟩
              · rw [decide_eq_true_iff] at hr
                rcases hI.r with ⟨_, h0⟩ | ⟨i, g1, g2, g3, g4, g5⟩
                · rw [h0] at hr; exact absurd (Nat.zero_le _) hr
                · exact ⟨i, g1, g3, g2, unk (.inr h2) g1 g4 g5 hr⟩
            obtain ⟨i, g1, g2, g3, g4⟩ := this
            exact ⟨i, g1, g2, .inr (.inr ⟨rfl, g3, h2⟩), g4⟩
        · rename_i hw
          rw [if_neg hw]
          obtain ⟨i, g1, g2, g3, g4⟩ := wun (.inr h2) hw
          exact ⟨i, g1, g2, .inl ⟨rfl, g3, h2⟩, g4⟩
    · simp only [if_neg h2] at h; exact absurd rfl h
theorem hasK_djK {l : List Ev} (hm : may l = 0) {j : Nat} (hj : j < l.length) {q : Int} (hq : q = 1 ∨ q = 2 ∨ q = 3) (h : hasK (rcsA l) j q = true) : djK l j ≠ 0 := by
  rw [djK_min hm hj]
  unfold minK
  rcases hq with rfl | rfl | rfl <;> cases g1 : hasK (rcsA l) j 1 <;> cases g2 : hasK (rcsA l) j 2 <;> simp_all
theorem fkK_low (l : List Ev) (j : Nat) : fkK l j = 0 ∨ fkK l j = 1 ∨ fkK l j = 2 ∨ fkK l j = 3 := by
  unfold fkK fsK
  repeat' split
  all_goals first | exact .inl rfl | exact .inr (.inl rfl) | exact .inr (.inr (.inl rfl)) | exact .inr (.inr (.inr rfl))
theorem fk_dj {l : List Ev} (hm : may l = 0) {j : Nat} (hj : j < l.length) (h : fkK l j ≠ 0) : djK l j ≠ 0 := hasK_djK hm hj (by have := fkK_low l j; omega) (fk_true hm hj h)
end Go.Proofs.Yticnponenkfneaa
namespace Go.Proofs.Yticnponenkfneaa
open Go Go.RowKit

def Cov (l : List Ev) (k i t n : Nat) : Prop := ∀ j, k ≤ j → j < l.length → (kZ l j = 1 ∨ kZ l j = 2) → n ≤ cZ l j t → bef l i j = true
theorem Cov.up {l : List Ev} {k i t n : Nat} (h : Cov l k i t n) : Cov l (k + 1) i t n := fun j hj => h j (by omega)
theorem Cov.le {l : List Ev} {k i t n m : Nat} (h : Cov l k i t n) (hnm : n ≤ m) : Cov l k i t m := fun j h1 h2 h3 h4 => h j h1 h2 h3 (Nat.le_trans hnm h4)
theorem cov_self {l : List Ev} (hm : may l = 0) {k : Nat} : Cov l (k + 1) k (tZ l k) (epo l k) := fun j h1 h2 h3 h4 => (acc_iff hm h2 h3 (show k < j by omega)).1 h4
theorem cov_bef {l : List Ev} (hm : may l = 0) {i k : Nat} (h : bef l i k = true) : Cov l (k + 1) i (tZ l k) (epo l k) := fun j h1 h2 h3 h4 => bef_trans h (cov_self hm j h1 h2 h3 h4)
def NoR (l : List Ev) (x k : Nat) : Prop := ∀ i j, i < j → j < k → oZ l i = x → oZ l j = x → (kZ l i = 2 ∧ (kZ l j = 1 ∨ kZ l j = 2) ∨ kZ l i = 1 ∧ kZ l j = 2) → bef l i j = true
theorem NoR.down {l : List Ev} {x k j : Nat} (h : NoR l x k) (hj : j ≤ k) : NoR l x j := fun a b h1 h2 => h a b h1 (by omega)
theorem noR_of {l : List Ev} (hm : may l = 0) {x k : Nat} (hk : k ≤ l.length) (h : ∀ j, j < k → oZ l j = x → djK l j = 0) : NoR l x k := fun i j hij hjk hi hj hc => by
  have h0 := h j hjk hj
  have hjl : j < l.length := by omega
  have ho : oZ l i = oZ l j := by omega
  unfold djK at h0
  rcases hc with ⟨h2, h1 | h1⟩ | ⟨h2, h1⟩
  · rw [if_pos h1] at h0
    have hs : seenB l 2 j = true := by cases hs : seenB l 2 j <;> simp_all
    exact (seenB_iff hm hjl (.inl h1) 2).1 hs i hij h2 ho
  · rw [if_neg (by omega), if_pos h1] at h0
    have hs : seenB l 2 j = true := by cases hs : seenB l 2 j <;> simp_all
    exact (seenB_iff hm hjl (.inr h1) 2).1 hs i hij h2 ho
  · rw [if_neg (by omega), if_pos h1] at h0
    have hs : seenB l 1 j = true := by cases hs2 : seenB l 2 j <;> cases hs : seenB l 1 j <;> simp_all
    exact (seenB_iff hm hjl (.inr h1) 1).1 hs i hij h2 ho
structure FsC (l : List Ev) (x k : Nat) (s : Fs) : Prop where
  w : ∀ i, i < k → kZ l i = 2 → oZ l i = x → Cov l k i s.wt s.wn
  r : ∀ i, i < k → kZ l i = 1 → oZ l i = x → Cov l k i s.wt s.wn ∨ (s.many = false ∧ Cov l k i s.rt s.rn) ∨ (s.many = true ∧ ∃ u, Cov l k i u (s.rc u))
theorem epo_pos {l : List Ev} (hm : may l = 0) {k : Nat} (hk : k < l.length) : 1 ≤ epo l k := onr_pos hm _ _ (by omega)
theorem rn_own {l : List Ev} (hm : may l = 0) {x k : Nat} (hk : k < l.length) {s : Fs} (h : FsI l x k s) : s.rt = tZ l k → s.rn ≤ cZ l k s.rt := fun e => by
  rcases h.r with ⟨_, h0⟩ | ⟨i, h1, _, _, h4, h5⟩
  · rw [h0]; exact Nat.zero_le _
  · rw [h5, e, cZ_own, epo_onr, epo_onr, ← h4, e]; exact onr_le2 hm _ (by omega) (by omega)
theorem rc_own {l : List Ev} (hm : may l = 0) {x k : Nat} (hk : k < l.length) {s : Fs} (h : FsI l x k s) : s.rc (tZ l k) ≤ epo l k := by
  rcases h.rc (tZ l k) with h0 | ⟨i, h1, _, _, h4, h5⟩
  · rw [h0]; exact Nat.zero_le _
  · rw [h5, epo_onr, epo_onr, h4]; exact onr_le2 hm _ (by omega) (by omega)
theorem fsC_all {l : List Ev} (hm : may l = 0) (x : Nat) : ∀ k, k ≤ l.length → NoR l x k → FsC l x k (fsTo l x k)
  | 0, _, _ => ⟨fun i h => by omega, fun i h => by omega⟩
  | k + 1, hk', hN => by
    have hk : k < l.length := by omega
    have h := fsC_all hm x k (by omega) (hN.down (by omega))
    have hI := fsI_all l x k
    have old : (kZ l k ≠ 1 ∨ oZ l k ≠ x) → (kZ l k ≠ 2 ∨ oZ l k ≠ x) → FsC l x (k + 1) (fsTo l x k) := fun h1 h2 =>
      ⟨fun i hi g1 g2 => by
        rcases Nat.lt_succ_iff_lt_or_eq.1 hi with hi | rfl
        · exact (h.w i hi g1 g2).up
        · rcases h2 with h2 | h2
          · exact absurd g1 h2
          · exact absurd g2 h2,
       fun i hi g1 g2 => by
        rcases Nat.lt_succ_iff_lt_or_eq.1 hi with hi | rfl
        · exact (h.r i hi g1 g2).imp Cov.up fun g => g.imp (fun ⟨a, b⟩ => ⟨a, b.up⟩) fun ⟨a, u, b⟩ => ⟨a, u, b.up⟩
        · rcases h1 with h1 | h1
          · exact absurd g1 h1
          · exact absurd g2 h1⟩
    rw [fsTo]
    split
    · rename_i ho
      generalize fsTo l x k = s at *
      unfold fsStep
      split
      · rename_i hk1
        -- a Read
        have wold : ∀ i, i < k + 1 → kZ l i = 2 → oZ l i = x → Cov l (k + 1) i s.wt s.wn := fun i hi g1 g2 => by
          rcases Nat.lt_succ_iff_lt_or_eq.1 hi with hi | rfl
          · exact (h.w i hi g1 g2).up
          · omega
        split
        · rename_i hs
          refine ⟨wold, fun i hi g1 g2 => ?_⟩
          rcases Nat.lt_succ_iff_lt_or_eq.1 hi with hi | rfl
          · exact (h.r i hi g1 g2).imp Cov.up fun g => g.imp (fun ⟨a, b⟩ => ⟨a, b.up⟩) fun ⟨a, u, b⟩ => ⟨a, u, b.up⟩
          · unfold skR at hs
            simp only [Bool.and_eq_true, Bool.not_eq_true', decide_eq_true_eq] at hs
            exact .inr (.inl ⟨hs.1, by rw [hs.2.1, hs.2.2]; exact cov_self hm⟩)
        · unfold fsR
          split
          · rename_i hmy
            refine ⟨wold, fun i hi g1 g2 => ?_⟩
            dsimp only
            rcases Nat.lt_succ_iff_lt_or_eq.1 hi with hi | rfl
            · rcases h.r i hi g1 g2 with g | ⟨g, _⟩ | ⟨_, u, g⟩
              · exact .inl g.up
              · rw [hmy] at g; cases g
              · refine .inr (.inr ⟨hmy, u, ?_⟩)
                by_cases e : u = tZ l k
                · rw [if_pos e]; subst e; exact g.up.le (rc_own hm hk hI)
                · rw [if_neg e]; exact g.up
            · exact .inr (.inr ⟨hmy, tZ l i, by rw [if_pos rfl]; exact cov_self hm⟩)
          · rename_i hmy
            have hmf : s.many = false := by simpa using hmy
            split
            · rename_i hkn
              refine ⟨wold, fun i hi g1 g2 => ?_⟩
              dsimp only
              rcases Nat.lt_succ_iff_lt_or_eq.1 hi with hi | rfl
              · rcases h.r i hi g1 g2 with g | ⟨_, g⟩ | ⟨g, _⟩
                · exact .inl g.up
                · exact .inr (.inl ⟨hmf, cov_bef hm (g k (Nat.le_refl _) hk (.inl hk1) hkn)⟩)
                · rw [hmf] at g; cases g
              · exact .inr (.inl ⟨hmf, cov_self hm⟩)
            · rename_i hkn
              refine ⟨wold, fun i hi g1 g2 => ?_⟩
              dsimp only
              rcases Nat.lt_succ_iff_lt_or_eq.1 hi with hi | rfl
              · rcases h.r i hi g1 g2 with g | ⟨_, g⟩ | ⟨g, _⟩
                · exact .inl g.up
                · refine .inr (.inr ⟨rfl, s.rt, ?_⟩)
                  rw [if_neg (fun e => hkn (rn_own hm hk hI e)), if_pos rfl]
                  exact g.up
                · rw [hmf] at g; cases g
              · exact .inr (.inr ⟨rfl, tZ l i, by rw [if_pos rfl]; exact cov_self hm⟩)
      · split
        · rename_i hk1 hk2
          split
          · rename_i hs
            unfold skW at hs
            simp only [Bool.and_eq_true, decide_eq_true_eq] at hs
            refine ⟨fun i hi g1 g2 => ?_, fun i hi g1 g2 => ?_⟩
            · rcases Nat.lt_succ_iff_lt_or_eq.1 hi with hi | rfl
              · exact (h.w i hi g1 g2).up
              · rw [hs.1, hs.2]; exact cov_self hm
            · rcases Nat.lt_succ_iff_lt_or_eq.1 hi with hi | rfl
              · exact (h.r i hi g1 g2).imp Cov.up fun g => g.imp (fun ⟨a, b⟩ => ⟨a, b.up⟩) fun ⟨a, u, b⟩ => ⟨a, u, b.up⟩
              · omega
          · refine ⟨fun i hi g1 g2 => ?_, fun i hi g1 g2 => ?_⟩
            · show Cov l (k + 1) i (tZ l k) (epo l k)
              rcases Nat.lt_succ_iff_lt_or_eq.1 hi with hi | rfl
              · exact cov_bef hm (hN i k hi (by omega) g2 ho (.inl ⟨g1, .inr hk2⟩))
              · exact cov_self hm
            · rcases Nat.lt_succ_iff_lt_or_eq.1 hi with hi | rfl
              · exact .inl (cov_bef hm (hN i k hi (by omega) g2 ho (.inr ⟨g1, hk2⟩)))
              · omega
        · rename_i hk1 hk2
          exact old (.inl hk1) (.inl hk2)
    · rename_i ho
      exact old (.inr ho) (.inr ho)
theorem epoch_gap {l : List Ev} (hm : may l = 0) {a i j : Nat} (hij : i < j) (hj : j < l.length) (hk : kZ l i = 1 ∨ kZ l i = 2) (hb : bef l a i = true) (ht : tZ l a = tZ l j) (hn : epo l a = epo l j) : tZ l i = tZ l j := by
  refine Classical.byContradiction fun hne => ?_
  have hai := (bef_lt hb).1
  have h1 := (acc_iff hm (show i < l.length by omega) hk hai).2 hb
  have hov : ¬ ovr l i (tZ l j) := fun ⟨m, g1, g2⟩ => not_over hm hj ⟨m, by omega, g2⟩
  have h2 := (djI_all hm i (by omega)).c1 (tZ l i) (tZ l j) hne hov
  have h3 := onr_le2 hm (tZ l j) (show i ≤ j by omega) (by omega)
  rw [ht] at h1
  rw [epo_onr l j] at hn
  unfold onr at h3 hn
  omega
theorem same_epoch {l : List Ev} (hm : may l = 0) {x a j : Nat} (hN : NoR l x j) (haj : a < j) (hj : j < l.length) (hoa : oZ l a = x) (ht : tZ l a = tZ l j) (hn : epo l a = epo l j) {i : Nat} (hij : i < j) (hoi : oZ l i = x)
    (hka : kZ l a = 1 ∨ kZ l a = 2) (hki : kZ l i = 1 ∨ kZ l i = 2) (hc : kZ l a = 2 ∨ kZ l i = 2) : bef l i j = true := by
  have haj' := thread_bef hm haj hj ht
  rcases Nat.lt_trichotomy i a with h | rfl | h
  · refine bef_trans (hN i a h haj hoi hoa ?_) haj'
    rcases hka with h1 | h1 <;> rcases hki with h2 | h2 <;> omega
  · exact haj'
  · have hb := hN a i h hij hoa hoi (by rcases hka with h1 | h1 <;> rcases hki with h2 | h2 <;> omega)
    exact thread_bef hm hij hj (epoch_gap hm hij hj hki hb ht hn)
theorem fk_first {l : List Ev} (hm : may l = 0) {j : Nat} (hj : j < l.length) (h0 : ∀ i, i < j → oZ l i = oZ l j → djK l i = 0) : fkK l j = djK l j := by
  have hN := noR_of hm (Nat.le_of_lt hj) h0
  have hI := fsI_all l (oZ l j) j
  have hC := fsC_all hm (oZ l j) j (Nat.le_of_lt hj) hN
  unfold fkK
  generalize fsTo l (oZ l j) j = s at *
  have kw : (kZ l j = 1 ∨ kZ l j = 2) → (s.wn ≤ cZ l j s.wt ↔ seenB l 2 j = true) := fun hk => by
    rw [seenB_iff hm hj hk]
    constructor
    · intro hw i hi g1 g2; exact hC.w i hi g1 g2 j (Nat.le_refl _) hj hk hw
    · intro hs
      rcases hI.w with ⟨_, e⟩ | ⟨i, h1, h2, h3, h4, h5⟩
      · rw [e]; exact Nat.zero_le _
      · rw [h4, h5]; exact (acc_iff hm hj hk h1).2 (hs i h1 h2 h3)
  unfold fsK djK
  by_cases hk1 : kZ l j = 1
  · rw [if_pos hk1, if_pos hk1]
    split
    · rename_i hs
      unfold skR at hs
      simp only [Bool.and_eq_true, Bool.not_eq_true', decide_eq_true_eq] at hs
      rcases hI.r with ⟨_, e⟩ | ⟨a, g1, g2, g3, g4, g5⟩
      · have h1 := epo_pos hm hj
        have h2 := hs.2.2
        rw [cZ_own] at h2; omega
      · have : seenB l 2 j = true := by
          rw [seenB_iff hm hj (.inl hk1)]
          intro i hi q1 q2
          exact same_epoch hm hN g1 hj g3 (by omega) (by have := hs.2.2; rw [cZ_own] at this; omega) hi q2 (.inl g2) (.inr q1) (.inr q1)
        rw [if_pos this]
    · by_cases hw : s.wn ≤ cZ l j s.wt
      · rw [if_pos hw, if_pos ((kw (.inl hk1)).1 hw)]
      · rw [if_neg hw, if_neg (fun h => hw ((kw (.inl hk1)).2 h))]
  · rw [if_neg hk1, if_neg hk1]
    by_cases hk2 : kZ l j = 2
    · rw [if_pos hk2, if_pos hk2]
      split
      · rename_i hs
        unfold skW at hs
        simp only [Bool.and_eq_true, decide_eq_true_eq] at hs
        rcases hI.w with ⟨_, e⟩ | ⟨a, g1, g2, g3, g4, g5⟩
        · have h1 := epo_pos hm hj
          have h2 := hs.2
          rw [cZ_own] at h2; omega
        · have hall : ∀ q, (q = 1 ∨ q = 2) → seenB l q j = true := fun q hq => by
            rw [seenB_iff hm hj (.inr hk2)]
            intro i hi q1 q2
            exact same_epoch hm hN g1 hj g3 (by omega) (by have := hs.2; rw [cZ_own] at this; omega) hi q2 (.inr g2) (by omega) (.inl g2)
          rw [hall 2 (.inr rfl), hall 1 (.inl rfl)]; rfl
      · by_cases hw : s.wn ≤ cZ l j s.wt
        · have hs2 := (kw (.inr hk2)).1 hw
          rw [if_pos hw, hs2]
          have hr : rKn s (cZ l j) = seenB l 1 j := by
            rw [Bool.eq_iff_iff, seenB_iff hm hj (.inr hk2)]
            unfold rKn
            constructor
            · intro hr i hi g1 g2
              rcases hC.r i hi g1 g2 with g | ⟨gm, g⟩ | ⟨gm, u, g⟩
              · exact g j (Nat.le_refl _) hj (.inr hk2) hw
              · rw [gm] at hr
                exact g j (Nat.le_refl _) hj (.inr hk2) (by simpa using hr)
              · rw [if_pos gm, knwB_iff] at hr
                refine g j (Nat.le_refl _) hj (.inr hk2) ?_
                rcases hI.rc u with e | ⟨a, q1, _, _, q4, _⟩
                · rw [e]; exact Nat.zero_le _
                · exact hr u (by rw [← q4]; exact tZ_lt hm (by omega))
            · intro hs
              split
              · rw [knwB_iff]
                intro u _
                rcases hI.rc u with e | ⟨a, q1, q2, q3, q4, q5⟩
                · rw [e]; exact Nat.zero_le _
                · rw [q5, ← q4]; exact (acc_iff hm hj (.inr hk2) q1).2 (hs a q1 q2 q3)
              · rw [decide_eq_true_iff]
                rcases hI.r with ⟨_, e⟩ | ⟨a, q1, q2, q3, q4, q5⟩
                · rw [e]; exact Nat.zero_le _
                · rw [q5, q4]; exact (acc_iff hm hj (.inr hk2) q1).2 (hs a q1 q2 q3)
          rw [hr]
          cases seenB l 1 j <;> simp
        · have hs2 : seenB l 2 j = false := by rw [← Bool.not_eq_true]; exact fun h => hw ((kw (.inr hk2)).2 h)
          rw [if_neg hw, hs2]; simp
    · rw [if_neg hk2, if_neg hk2]
theorem fk_none {l : List Ev} (hm : may l = 0) {k : Nat} (hk : k ≤ l.length) : (∀ j, j < k → fkK l j = 0) ↔ ∀ j, j < k → djK l j = 0 := by
  constructor
  · intro h j
    induction j using Nat.strongRecOn with
    | _ j ih =>
      intro hj
      rw [← fk_first hm (by omega) fun i hi _ => ih i hi (by omega)]
      exact h j hj
  · intro h j hj
    refine Classical.byContradiction fun hf => fk_dj hm (by omega) hf (h j hj)
end Go.Proofs.Yticnponenkfneaa
namespace Go.Proofs.Yticnponenkfneaa
open Go Go.RowKit

def gl (K : Nat → Int) (l : List Ev) : Nat → List Ev
  | 0 => []
  | k + 1 => if K k = 0 then gl K l k else gl K l k ++ [⟨(k : Nat), (eZ l k).o, K k⟩]
section
variable {K : Nat → Int} {l : List Ev}
theorem gl_yes {k : Nat} (h : K k ≠ 0) : gl K l (k + 1) = gl K l k ++ [⟨(k : Nat), (eZ l k).o, K k⟩] := by rw [gl, if_neg h]
theorem gl_no {k : Nat} (h : K k = 0) : gl K l (k + 1) = gl K l k := by rw [gl, if_pos h]
theorem gl_len (K : Nat → Int) (l : List Ev) : ∀ k, (gl K l k).length ≤ k
  | 0 => Nat.le_refl _
  | k + 1 => by
    have := gl_len K l k
    rw [gl]
    split
    · omega
    · rw [List.length_append]; simp; omega
theorem gl_mem {e : Ev} : ∀ {k : Nat}, e ∈ gl K l k ↔ ∃ j, j < k ∧ K j ≠ 0 ∧ e = ⟨(j : Nat), (eZ l j).o, K j⟩
  | 0 => ⟨fun h => by simp [gl] at h, fun ⟨j, h, _⟩ => by omega⟩
  | k + 1 => by
    rw [gl]
    split
    · rename_i h0
      rw [gl_mem]
      constructor
      · rintro ⟨j, h1, h2⟩; exact ⟨j, by omega, h2⟩
      · rintro ⟨j, h1, h2, h3⟩
        rcases Nat.lt_succ_iff_lt_or_eq.1 h1 with h1 | rfl
        · exact ⟨j, h1, h2, h3⟩
        · exact absurd h0 h2
    · rename_i h0
      rw [List.mem_append, gl_mem, List.mem_singleton]
      constructor
      · rintro (⟨j, h1, h2⟩ | rfl)
        · exact ⟨j, by omega, h2⟩
        · exact ⟨k, by omega, h0, rfl⟩
      · rintro ⟨j, h1, h2, h3⟩
        rcases Nat.lt_succ_iff_lt_or_eq.1 h1 with h1 | rfl
        · exact .inl ⟨j, h1, h2, h3⟩
        · exact .inr h3
theorem gl_nil_iff {k : Nat} : gl K l k = [] ↔ ∀ j, j < k → K j = 0 := by
  constructor
  · intro h j hj
    refine Classical.byContradiction fun h0 => ?_
    have : (⟨(j : Nat), (eZ l j).o, K j⟩ : Ev) ∈ gl K l k := gl_mem.2 ⟨j, hj, h0, rfl⟩
    rw [h] at this; cases this
  · intro h
    cases hg : gl K l k with
    | nil => rfl
    | cons e r =>
      obtain ⟨j, h1, h2, _⟩ := gl_mem.1 (show e ∈ gl K l k by rw [hg]; simp)
      exact absurd (h j h1) h2
end
def fflags (l : List Ev) : List Ev := if may l = 0 then gl (fkK l) l l.length else []
theorem fflags_ok {l : List Ev} (h : may l = 0) : fflags l = gl (fkK l) l l.length := by unfold fflags; rw [if_pos h]
theorem fflags_no {l : List Ev} (h : may l ≠ 0) : fflags l = [] := by unfold fflags; rw [if_neg h]
theorem fsSl_le (s : Fs) (k : Int) (t : Nat) (c : Nat → Nat) : fsSl s k t c ≤ 1 := by
  unfold fsSl
  repeat' split
  all_goals omega
end Go.Proofs.Yticnponenkfneaa
namespace Go.Proofs.Yticnponenkfneaa
open Go Go.RowKit

section
variable {l : List Ev} (hm : may l = 0) (x : Nat)
include hm
end
end Go.Proofs.Yticnponenkfneaa
namespace Go.Proofs.Yticnponenkfneaa
open Go Go.RowKit

section
variable {l : List Ev} (hm : may l = 0) (h : ∀ i, i < l.length → kZ l i = 1 → tZ l i = oZ l i % 6)
include hm h
end
section
variable {l : List Ev} {i : Nat} (hi : i < l.length)
include hi
variable (hw : kZ l i = 2)
include hw
end
end Go.Proofs.Yticnponenkfneaa
namespace Go.Proofs.Yticnponenkfneaa
open Go Go.RowKit

structure Pl where
  w : Int
  rs : List Nat
  many : Bool
structure PlR (l : List Ev) (x k : Nat) (p : Pl) (s : Fs) : Prop where
  w : (p.w = -1 ∧ s.wt = 0 ∧ s.wn = 0) ∨ ∃ i : Nat, i < k ∧ p.w = (i : Nat) ∧ s.wt = tZ l i ∧ s.wn = epo l i
  my : p.many = s.many
  mem : ∀ i ∈ p.rs, i < k
  r : s.many = false → (p.rs = [] ∧ s.rt = 0 ∧ s.rn = 0) ∨ ∃ i, p.rs = [i] ∧ s.rt = tZ l i ∧ s.rn = epo l i
  rc1 : s.many = true → ∀ i ∈ p.rs, s.rc (tZ l i) = epo l i
  rc2 : s.many = true → ∀ u, s.rc u = 0 ∨ ∃ i ∈ p.rs, tZ l i = u
  cl : s.many = true → s.rt = 0 ∧ s.rn = 0
  len : p.rs.length ≤ k
section
variable {l : List Ev} (hm : may l = 0) {x j : Nat} (hj : j < l.length) (hk : kZ l j = 1 ∨ kZ l j = 2) {p : Pl} {s : Fs} (h : PlR l x j p s)
include hm hj h
end
end Go.Proofs.Yticnponenkfneaa
namespace Go.Proofs.Yticnponenkfneaa
open Go Go.RowKit

theorem acc_o {l : List Ev} (hm : may l = 0) {j : Nat} (hj : j < l.length) (hk : kZ l j = 1 ∨ kZ l j = 2) : oZ l j < 8 := by
  have h := isEv_o (eZ_ok hm hj)
  unfold kZ at hk
  have : nobj (eZ l j).k = 8 := by unfold nobj; rw [if_pos hk]
  unfold oZ; omega
theorem fkK_acc {l : List Ev} {j : Nat} (h : fkK l j ≠ 0) : kZ l j = 1 ∨ kZ l j = 2 := by
  refine Classical.byContradiction fun hn => h ?_
  unfold fkK fsK
  rw [if_neg (fun e => hn (.inl e)), if_neg (fun e => hn (.inr e))]
theorem fsSl_acc {l : List Ev} {j : Nat} {s : Fs} (h : fsSl s (kZ l j) (tZ l j) (cZ l j) ≠ 0) : kZ l j = 1 := by
  refine Classical.byContradiction fun hn => h ?_
  unfold fsSl
  rw [if_neg hn]
end Go.Proofs.Yticnponenkfneaa

/- Plain facts: the detector by epochs (FastTrack), as functions over lists: what it flags is the second of a race; the first of a variable is flagged as by full clocks (FLANAGAN, FREUND). -/
import Derived.Test.YtnjaeampnakbbaaFl
set_option linter.all false
set_option maxRecDepth 100000
namespace Go.Proofs.Ytnjaeampnakbbaa
open Go Go.RowKit

/-- What the detector keeps of one variable: the epoch W; the epoch or the clock R. -/
structure Fs where
  wt : Nat
  wn : Nat
  many : Bool
  rt : Nat
  rn : Nat
  rc : Nat → Nat
def fsStart : Fs := ⟨0, 0, false, 0, 0, fun _ => 0⟩
def knwB (r c : Nat → Nat) : Bool := (List.range 6).all fun u => decide (r u ≤ c u)
theorem knwB_iff (r c : Nat → Nat) : knwB r c = true ↔ ∀ u, u < 6 → r u ≤ c u := by simp [knwB]
def rKn (s : Fs) (c : Nat → Nat) : Bool := if s.many = true then knwB s.rc c else decide (s.rn ≤ c s.rt)
/-- R, or W, is the event's epoch. -/
def skR (s : Fs) (t : Nat) (c : Nat → Nat) : Bool := !s.many && (decide (s.rt = t) && decide (s.rn = c t))
def skW (s : Fs) (t : Nat) (c : Nat → Nat) : Bool := decide (s.wt = t) && decide (s.wn = c t)
def fsR (s : Fs) (t : Nat) (c : Nat → Nat) : Fs :=
  if s.many = true then { s with rc := fun u => if u = t then c t else s.rc u }
  else if s.rn ≤ c s.rt then { s with rt := t, rn := c t }
  else { s with many := true, rt := 0, rn := 0, rc := fun u => if u = t then c t else if u = s.rt then s.rn else 0 }
def fsW (s : Fs) (t : Nat) (c : Nat → Nat) : Fs := { s with wt := t, wn := c t, many := false, rc := fun _ => 0 }
def fsStep (s : Fs) (k : Int) (t : Nat) (c : Nat → Nat) : Fs := if k = 1 then (if skR s t c = true then s else fsR s t c) else if k = 2 then (if skW s t c = true then s else fsW s t c) else s
/-- The kind of an access's flag, 0 for none. -/
def fsK (s : Fs) (k : Int) (t : Nat) (c : Nat → Nat) : Int :=
  if k = 1 then (if skR s t c = true then 0 else if s.wn ≤ c s.wt then 0 else 2)
  else if k = 2 then (if skW s t c = true then 0 else if s.wn ≤ c s.wt then (if rKn s c = true then 0 else 3) else 1) else 0
/-- Whether R becomes a clock. -/
def fsSl (s : Fs) (k : Int) (t : Nat) (c : Nat → Nat) : Nat := if k = 1 then (if skR s t c = true then 0 else if s.many = true then 0 else if s.rn ≤ c s.rt then 0 else 1) else 0
def cZ (l : List Ev) (k : Nat) : Nat → Nat := (djTo l k).C (tZ l k)
def fsTo (l : List Ev) (x : Nat) : Nat → Fs
  | 0 => fsStart
  | k + 1 => if oZ l k = x then fsStep (fsTo l x k) (kZ l k) (tZ l k) (cZ l k) else fsTo l x k
def fkK (l : List Ev) (k : Nat) : Int := fsK (fsTo l (oZ l k) k) (kZ l k) (tZ l k) (cZ l k)
def slT (l : List Ev) : Nat → Nat
  | 0 => 0
  | k + 1 => slT l k + fsSl (fsTo l (oZ l k) k) (kZ l k) (tZ l k) (cZ l k)
theorem cZ_own (l : List Ev) (k : Nat) : cZ l k (tZ l k) = epo l k := rfl
theorem epo_onr (l : List Ev) (k : Nat) : epo l k = onr l k (tZ l k) := rfl
theorem onr_le2 {l : List Ev} (hm : may l = 0) (u : Nat) {i : Nat} : ∀ {k : Nat}, i ≤ k → k ≤ l.length → onr l i u ≤ onr l k u
  | 0, h, _ => by obtain rfl : i = 0 := by omega
                  exact Nat.le_refl _
  | k + 1, h, hk => by
    by_cases e : i = k + 1
    · subst e; exact Nat.le_refl _
    · have h1 := onr_le2 hm u (show i ≤ k by omega) (by omega)
      have h2 := onr_succ hm (show k < l.length by omega) u
      omega
/-- Where W and R come from. -/
structure FsI (l : List Ev) (x k : Nat) (s : Fs) : Prop where
  w : (s.wt = 0 ∧ s.wn = 0) ∨ ∃ i, i < k ∧ kZ l i = 2 ∧ oZ l i = x ∧ s.wt = tZ l i ∧ s.wn = epo l i
  r : (s.rt = 0 ∧ s.rn = 0) ∨ ∃ i, i < k ∧ kZ l i = 1 ∧ oZ l i = x ∧ s.rt = tZ l i ∧ s.rn = epo l i
  rc : ∀ u, s.rc u = 0 ∨ ∃ i, i < k ∧ kZ l i = 1 ∧ oZ l i = x ∧ tZ l i = u ∧ s.rc u = epo l i
theorem FsI.up {l : List Ev} {x k : Nat} {s : Fs} (h : FsI l x k s) : FsI l x (k + 1) s :=
  ⟨h.w.imp id fun ⟨i, h1, h2⟩ => ⟨i, by omega, h2⟩, h.r.imp id fun ⟨i, h1, h2⟩ => ⟨i, by omega, h2⟩, fun u => (h.rc u).imp id fun ⟨i, h1, h2⟩ => ⟨i, by omega, h2⟩⟩
theorem fsI_all (l : List Ev) (x : Nat) : ∀ k, FsI l x k (fsTo l x k)
  | 0 => ⟨.inl ⟨rfl, rfl⟩, .inl ⟨rfl, rfl⟩, fun _ => .inl rfl⟩
  | k + 1 => by
    have h := fsI_all l x k
    have hu := h.up
    rw [fsTo]
    split
    · rename_i ho
      generalize fsTo l x k = s at *
      unfold fsStep
      split
      · rename_i hk
        split
        · exact hu
        · unfold fsR
          split
          · refine ⟨hu.w, hu.r, fun u => ?_⟩
            dsimp only
            by_cases e : u = tZ l k
            · rw [if_pos e]; exact .inr ⟨k, by omega, hk, ho, e.symm, cZ_own l k⟩
            · rw [if_neg e]; exact hu.rc u
          · split
            · exact ⟨hu.w, .inr ⟨k, by omega, hk, ho, rfl, cZ_own l k⟩, hu.rc⟩
            · refine ⟨hu.w, .inl ⟨rfl, rfl⟩, fun u => ?_⟩
              dsimp only
              by_cases e : u = tZ l k
              · rw [if_pos e]; exact .inr ⟨k, by omega, hk, ho, e.symm, cZ_own l k⟩
              · rw [if_neg e]
                by_cases e2 : u = s.rt
                · rw [if_pos e2]
                  rcases hu.r with ⟨_, h0⟩ | ⟨i, h1, h2, h3, h4, h5⟩
                  · exact .inl h0
                  · exact .inr ⟨i, h1, h2, h3, by rw [e2, h4], h5⟩
                · rw [if_neg e2]; exact .inl rfl
      · split
        · rename_i _ hk
          split
          · exact hu
          · exact ⟨.inr ⟨k, by omega, hk, ho, rfl, cZ_own l k⟩, hu.r, fun _ => .inl rfl⟩
        · exact hu
    · exact hu
/-- A flag tells a race of its kind. -/
theorem fk_true {l : List Ev} (hm : may l = 0) {j : Nat} (hj : j < l.length) (h : fkK l j ≠ 0) : hasK (rcsA l) j (fkK l j) = true := by
  have hI := fsI_all l (oZ l j) j
  rw [hasK_iff hm hj h]
  unfold fkK at *
  generalize fsTo l (oZ l j) j = s at *
  have unk : ∀ {i t n : Nat}, (kZ l j = 1 ∨ kZ l j = 2) → i < j → t = tZ l i → n = epo l i → ¬ n ≤ cZ l j t → bef l i j = false := fun {i t n} hk hij ht hn hu => by
    rw [← Bool.not_eq_true, ← acc_iff hm hj hk hij, ← hn, ← ht]; exact hu
  have wun : (kZ l j = 1 ∨ kZ l j = 2) → ¬ s.wn ≤ cZ l j s.wt → ∃ i, i < j ∧ oZ l i = oZ l j ∧ kZ l i = 2 ∧ bef l i j = false := fun hk hu => by
    rcases hI.w with ⟨_, h0⟩ | ⟨i, h1, h2, h3, h4, h5⟩
    · rw [h0] at hu; exact absurd (Nat.zero_le _) hu
    · exact ⟨i, h1, h3, h2, unk hk h1 h4 h5 hu⟩
  unfold fsK at h ⊢
  by_cases h1 : kZ l j = 1
  · simp only [if_pos h1] at h ⊢
    split at h
    · exact absurd rfl h
    · rename_i hs
      rw [if_neg hs]
      split at h
      · exact absurd rfl h
      · rename_i hw
        rw [if_neg hw]
        obtain ⟨i, g1, g2, g3, g4⟩ := wun (.inl h1) hw
        exact ⟨i, g1, g2, .inr (.inl ⟨rfl, g3, h1⟩), g4⟩
  · simp only [if_neg h1] at h ⊢
    by_cases h2 : kZ l j = 2
    · simp only [if_pos h2] at h ⊢
      split at h
      · exact absurd rfl h
      · rename_i hs
        rw [if_neg hs]
        split at h
        · rename_i hw
          rw [if_pos hw]
          split at h
          · exact absurd rfl h
          · rename_i hr
            rw [if_neg hr]
            have : ∃ i, i < j ∧ oZ l i = oZ l j ∧ kZ l i = 1 ∧ bef l i j = false := by
              unfold rKn at hr
              split at hr
              · rw [knwB_iff] at hr
                have : ∃ u, u < 6 ∧ ¬ s.rc u ≤ cZ l j u := by
                  refine Classical.byContradiction fun hn => hr fun u hu => ?_
                  refine Classical.byContradiction fun h9 => hn ⟨u, hu, h9⟩
                obtain ⟨u, _, hu⟩ := this
                rcases hI.rc u with h0 | ⟨i, g1, g2, g3, g4, g5⟩
                · rw [h0] at hu; exact absurd (Nat.zero_le _) hu
                · exact ⟨i, g1, g3, g2, unk (.inr h2) g1 g4.symm g5 hu⟩
              · rw [decide_eq_true_iff] at hr
                rcases hI.r with ⟨_, h0⟩ | ⟨i, g1, g2, g3, g4, g5⟩
                · rw [h0] at hr; exact absurd (Nat.zero_le _) hr
                · exact ⟨i, g1, g3, g2, unk (.inr h2) g1 g4 g5 hr⟩
            obtain ⟨i, g1, g2, g3, g4⟩ := this
            exact ⟨i, g1, g2, .inr (.inr ⟨rfl, g3, h2⟩), g4⟩
        · rename_i hw
          rw [if_neg hw]
          obtain ⟨i, g1, g2, g3, g4⟩ := wun (.inr h2) hw
          exact ⟨i, g1, g2, .inl ⟨rfl, g3, h2⟩, g4⟩
    · simp only [if_neg h2] at h; exact absurd rfl h
theorem hasK_djK {l : List Ev} (hm : may l = 0) {j : Nat} (hj : j < l.length) {q : Int} (hq : q = 1 ∨ q = 2 ∨ q = 3) (h : hasK (rcsA l) j q = true) : djK l j ≠ 0 := by
  rw [djK_min hm hj]
  unfold minK
  rcases hq with rfl | rfl | rfl <;> cases g1 : hasK (rcsA l) j 1 <;> cases g2 : hasK (rcsA l) j 2 <;> simp_all
theorem fkK_low (l : List Ev) (j : Nat) : fkK l j = 0 ∨ fkK l j = 1 ∨ fkK l j = 2 ∨ fkK l j = 3 := by
  unfold fkK fsK
  repeat' split
  all_goals first | exact .inl rfl | exact .inr (.inl rfl) | exact .inr (.inr (.inl rfl)) | exact .inr (.inr (.inr rfl))
theorem fk_dj {l : List Ev} (hm : may l = 0) {j : Nat} (hj : j < l.length) (h : fkK l j ≠ 0) : djK l j ≠ 0 := hasK_djK hm hj (by have := fkK_low l j; omega) (fk_true hm hj h)
end Go.Proofs.Ytnjaeampnakbbaa

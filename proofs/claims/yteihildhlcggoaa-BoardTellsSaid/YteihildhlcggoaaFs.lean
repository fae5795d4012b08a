/- Plain facts: the detector by epochs (FastTrack), as functions over lists: what it flags is the second of a race; the first of a variable is flagged as by full clocks (FLANAGAN, FREUND). | Plain facts: the detector by epochs flags the first race of a variable as full clocks do (FLANAGAN, FREUND). | Plain facts: lists of flags of whatever detector; those by epochs; beginnings of a trace. | Plain facts: traces without some accesses; the detector by epochs over them (one variable alone; one reader alone; a Write once more). | Plain facts: the detector by epochs: one reader alone (FastOne), a Write once more (FastAgain). | Plain facts: the reference's detector by places is the detector by epochs. | Plain facts: the reference's Fast: variable after variable, its flags sorted by place, its sum over the variables. -/
import Derived.Test.YteihildhlcggoaaFl
set_option linter.all false
set_option maxRecDepth 100000
namespace Go.Proofs.Yteihildhlcggoaa
open Go Go.RowKit

/-- What the detector keeps of one variable: the epoch W; the epoch or the clock R. -/
structure Fs where
  wt : Nat
  wn : Nat
  many : Bool
  rt : Nat
  rn : Nat
  rc : Nat → Nat
def fsStart : Fs := ⟨0, 0, false, 0, 0, fun _ => 0⟩
def knwB (r c : Nat → Nat) : Bool := (List.range 6).all fun u => decide (r u ≤ c u)
theorem knwB_iff (r c : Nat → Nat) : knwB r c = true ↔ ∀ u, u < 6 → r u ≤ c u := by simp [knwB]
def rKn (s : Fs) (c : Nat → Nat) : Bool := if s.many = true then knwB s.rc c else decide (s.rn ≤ c s.rt)
/-- R, or W, is the event's epoch. -/
def skR (s : Fs) (t : Nat) (c : Nat → Nat) : Bool := !s.many && (decide (s.rt = t) && decide (s.rn = c t))
def skW (s : Fs) (t : Nat) (c : Nat → Nat) : Bool := decide (s.wt = t) && decide (s.wn = c t)
def fsR (s : Fs) (t : Nat) (c : Nat → Nat) : Fs :=
  if s.many = true then { s with rc := fun u => if u = t then c t else s.rc u }
  else if s.rn ≤ c s.rt then { s with rt := t, rn := c t }
  else { s with many := true, rt := 0, rn := 0, rc := fun u => if u = t then c t else if u = s.rt then s.rn else 0 }
def fsW (s : Fs) (t : Nat) (c : Nat → Nat) : Fs := { s with wt := t, wn := c t, many := false, rc := fun _ => 0 }
def fsStep (s : Fs) (k : Int) (t : Nat) (c : Nat → Nat) : Fs := if k = 1 then (if skR s t c = true then s else fsR s t c) else if k = 2 then (if skW s t c = true then s else fsW s t c) else s
/-- The kind of an access's flag, 0 for none. -/
def fsK (s : Fs) (k : Int) (t : Nat) (c : Nat → Nat) : Int :=
  if k = 1 then (if skR s t c = true then 0 else if s.wn ≤ c s.wt then 0 else 2)
  else if k = 2 then (if skW s t c = true then 0 else if s.wn ≤ c s.wt then (if rKn s c = true then 0 else 3) else 1) else 0
/-- Whether R becomes a clock. -/
def fsSl (s : Fs) (k : Int) (t : Nat) (c : Nat → Nat) : Nat := if k = 1 then (if skR s t c = true then 0 else if s.many = true then 0 else if s.rn ≤ c s.rt then 0 else 1) else 0
def cZ (l : List Ev) (k : Nat) : Nat → Nat := (djTo l k).C (tZ l k)
def fsTo (l : List Ev) (x : Nat) : Nat → Fs
  | 0 => fsStart
  | k + 1 => if oZ l k = x then fsStep (fsTo l x k) (kZ l k) (tZ l k) (cZ l k) else fsTo l x k
def fkK (l : List Ev) (k : Nat) : Int := fsK (fsTo l (oZ l k) k) (kZ l k) (tZ l k) (cZ l k)
def slT (l : List Ev) : Nat → Nat
  | 0 => 0
  | k + 1 => slT l k + fsSl (fsTo l (oZ l k) k) (kZ l k) (tZ l k) (cZ l k)
theorem cZ_own (l : List Ev) (k : Nat) : cZ l k (tZ l k) = epo l k := rfl
theorem epo_onr (l : List Ev) (k : Nat) : epo l k = onr l k (tZ l k) := rfl
theorem onr_le2 {l : List Ev} (hm : may l = 0) (u : Nat) {i : Nat} : ∀ {k : Nat}, i ≤ k → k ≤ l.length → onr l i u ≤ onr l k u
  | 0, h, _ => by obtain rfl : i = 0 := by omega
                  exact Nat.le_refl _
  | k + 1, h, hk => by
    by_cases e : i = k + 1
    · subst e; exact Nat.le_refl _
    · have h1 := onr_le2 hm u (show i ≤ k by omega) (by omega)
      have h2 := onr_succ hm (show k < l.length by omega) u
      omega
/-- Where W and R come from. -/
structure FsI (l : List Ev) (x k : Nat) (s : Fs) : Prop where
  w : (s.wt = 0 ∧ s.wn = 0) ∨ ∃ i, i < k ∧ kZ l i = 2 ∧ oZ l i = x ∧ s.wt = tZ l i ∧ s.wn = epo l i
  r : (s.rt = 0 ∧ s.rn = 0) ∨ ∃ i, i < k ∧ kZ l i = 1 ∧ oZ l i = x ∧ s.rt = tZ l i ∧ s.rn = epo l i
  rc : ∀ u, s.rc u = 0 ∨ ∃ i, i < k ∧ kZ l i = 1 ∧ oZ l i = x ∧ tZ l i = u ∧ s.rc u = epo l i
theorem FsI.up {l : List Ev} {x k : Nat} {s : Fs} (h : FsI l x k s) : FsI l x (k + 1) s :=
  ⟨h.w.imp id fun ⟨i, h1, h2⟩ => ⟨i, by omega, h2⟩, h.r.imp id fun ⟨i, h1, h2⟩ => ⟨i, by omega, h2⟩, fun u => (h.rc u).imp id fun ⟨i, h1, h2⟩ => ⟨i, by omega, h2⟩⟩
theorem fsI_all (l : List Ev) (x : Nat) : ∀ k, FsI l x k (fsTo l x k)
  | 0 => ⟨.inl ⟨rfl, rfl⟩, .inl ⟨rfl, rfl⟩, fun _ => .inl rfl⟩
  | k + 1 => by
    have h := fsI_all l x k
    have hu := h.up
    rw [fsTo]
    split
    · rename_i ho
      generalize fsTo l x k = s at *
      unfold fsStep
      split
      · rename_i hk
        split
        · exact hu
        · unfold fsR
          split
          · refine ⟨hu.w, hu.r, fun u => ?_⟩
            dsimp only
            by_cases e : u = tZ l k
            · rw [if_pos e]; exact .inr ⟨k, by omega, hk, ho, e.symm, cZ_own l k⟩
            · rw [if_neg e]; exact hu.rc u
          · split
            · exact ⟨hu.w, .inr ⟨k, by omega, hk, ho, rfl, cZ_own l k⟩, hu.rc⟩
            · refine ⟨hu.w, .inl ⟨rfl, rfl⟩, fun u => ?_⟩
              dsimp only
              by_cases e : u = tZ l k
              · rw [if_pos e]; exact .inr ⟨k, by omega, hk, ho, e.symm, cZ_own l k⟩
              · rw [if_neg e]
                by_cases e2 : u = s.rt
                · rw [if_pos e2]
                  rcases hu.r with ⟨_, h0⟩ | ⟨i, h1, h2, h3, h4, h5⟩
                  · exact .inl h0
                  · exact .inr ⟨i, h1, h2, h3, by rw [e2, h4], h5⟩
                · rw [if_neg e2]; exact .inl rfl
      · split
        · rename_i _ hk
          split
          · exact hu
          · exact ⟨.inr ⟨k, by omega, hk, ho, rfl, cZ_own l k⟩, hu.r, fun _ => .inl rfl⟩
        · exact hu
    · exact hu
/-- A flag tells a race of its kind. -/
theorem fk_true {l : List Ev} (hm : may l = 0) {j : Nat} (hj : j < l.length) (h : fkK l j ≠ 0) : hasK (rcsA l) j (fkK l j) = true := by
  have hI := fsI_all l (oZ l j) j
  rw [hasK_iff hm hj h]
  unfold fkK at *
  generalize fsTo l (oZ l j) j = s at *
  have unk : ∀ {i t n : Nat}, (kZ l j = 1 ∨ kZ l j = 2) → i < j → t = tZ l i → n = epo l i → ¬ n ≤ cZ l j t → bef l i j = false := fun {i t n} hk hij ht hn hu => by
    rw [← Bool.not_eq_true, ← acc_iff hm hj hk hij, ← hn, ← ht]; exact hu
  have wun : (kZ l j = 1 ∨ kZ l j = 2) → ¬ s.wn ≤ cZ l j s.wt → ∃ i, i < j ∧ oZ l i = oZ l j ∧ kZ l i = 2 ∧ bef l i j = false := fun hk hu => by
    rcases hI.w with ⟨_, h0⟩ | ⟨i, h1, h2, h3, h4, h5⟩
    · rw [h0] at hu; exact absurd (Nat.zero_le _) hu
    · exact ⟨i, h1, h3, h2, unk hk h1 h4 h5 hu⟩
  unfold fsK at h ⊢
  by_cases h1 : kZ l j = 1
  · simp only [if_pos h1] at h ⊢
    split at h
    · exact absurd rfl h
    · rename_i hs
      rw [if_neg hs]
      split at h
      · exact absurd rfl h
      · rename_i hw
        rw [if_neg hw]
        obtain ⟨i, g1, g2, g3, g4⟩ := wun (.inl h1) hw
        exact ⟨i, g1, g2, .inr (.inl ⟨rfl, g3, h1⟩), g4⟩
  · simp only [if_neg h1] at h ⊢
    by_cases h2 : kZ l j = 2
    · simp only [if_pos h2] at h ⊢
      split at h
      · exact absurd rfl h
      · rename_i hs
        rw [if_neg hs]
        split at h
        · rename_i hw
          rw [if_pos hw]
          split at h
          · exact absurd rfl h
          · rename_i hr
            rw [if_neg hr]
            have : ∃ i, i < j ∧ oZ l i = oZ l j ∧ kZ l i = 1 ∧ bef l i j = false := by
              unfold rKn at hr
              split at hr
              · rw [knwB_iff] at hr
                have : ∃ u, u < 6 ∧ ¬ s.rc u ≤ cZ l j u := by
                  refine Classical.byContradiction fun hn => hr fun u hu => ?_
                  refine Classical.byContradiction fun h9 => hn ⟨u, hu, h9⟩
                obtain ⟨u, _, hu⟩ := this
                rcases hI.rc u with h0 | ⟨i, g1, g2, g3, g4, g5⟩
                · rw [h0] at hu; exact absurd (Nat.zero_le _) hu
                · exact ⟨i, g1, g3, g2, unk (.inr h2) g1 g4.symm g5 hu⟩
              · rw [decide_eq_true_iff] at hr
                rcases hI.r with ⟨_, h0⟩ | ⟨i, g1, g2, g3, g4, g5⟩
                · rw [h0] at hr; exact absurd (Nat.zero_le _) hr
                · exact ⟨i, g1, g3, g2, unk (.inr h2) g1 g4 g5 hr⟩
            obtain ⟨i, g1, g2, g3, g4⟩ := this
            exact ⟨i, g1, g2, .inr (.inr ⟨rfl, g3, h2⟩), g4⟩
        · rename_i hw
          rw [if_neg hw]
          obtain ⟨i, g1, g2, g3, g4⟩ := wun (.inr h2) hw
          exact ⟨i, g1, g2, .inl ⟨rfl, g3, h2⟩, g4⟩
    · simp only [if_neg h2] at h; exact absurd rfl h
theorem hasK_djK {l : List Ev} (hm : may l = 0) {j : Nat} (hj : j < l.length) {q : Int} (hq : q = 1 ∨ q = 2 ∨ q = 3) (h : hasK (rcsA l) j q = true) : djK l j ≠ 0 := by
  rw [djK_min hm hj]
  unfold minK
  rcases hq with rfl | rfl | rfl <;> cases g1 : hasK (rcsA l) j 1 <;> cases g2 : hasK (rcsA l) j 2 <;> simp_all
theorem fkK_low (l : List Ev) (j : Nat) : fkK l j = 0 ∨ fkK l j = 1 ∨ fkK l j = 2 ∨ fkK l j = 3 := by
  unfold fkK fsK
  repeat' split
  all_goals first | exact .inl rfl | exact .inr (.inl rfl) | exact .inr (.inr (.inl rfl)) | exact .inr (.inr (.inr rfl))
theorem fk_dj {l : List Ev} (hm : may l = 0) {j : Nat} (hj : j < l.length) (h : fkK l j ≠ 0) : djK l j ≠ 0 := hasK_djK hm hj (by have := fkK_low l j; omega) (fk_true hm hj h)
end Go.Proofs.Yteihildhlcggoaa
namespace Go.Proofs.Yteihildhlcggoaa
open Go Go.RowKit

/-- Whoever knows number n of thread t at an access from k on knows event i. -/
def Cov (l : List Ev) (k i t n : Nat) : Prop := ∀ j, k ≤ j → j < l.length → (kZ l j = 1 ∨ kZ l j = 2) → n ≤ cZ l j t → bef l i j = true
theorem Cov.up {l : List Ev} {k i t n : Nat} (h : Cov l k i t n) : Cov l (k + 1) i t n := fun j hj => h j (by omega)
theorem Cov.le {l : List Ev} {k i t n m : Nat} (h : Cov l k i t n) (hnm : n ≤ m) : Cov l k i t m := fun j h1 h2 h3 h4 => h j h1 h2 h3 (Nat.le_trans hnm h4)
theorem cov_self {l : List Ev} (hm : may l = 0) {k : Nat} : Cov l (k + 1) k (tZ l k) (epo l k) := fun j h1 h2 h3 h4 => (acc_iff hm h2 h3 (show k < j by omega)).1 h4
theorem cov_bef {l : List Ev} (hm : may l = 0) {i k : Nat} (h : bef l i k = true) : Cov l (k + 1) i (tZ l k) (epo l k) := fun j h1 h2 h3 h4 => bef_trans h (cov_self hm j h1 h2 h3 h4)
/-- No race of x has its second below k. -/
def NoR (l : List Ev) (x k : Nat) : Prop := ∀ i j, i < j → j < k → oZ l i = x → oZ l j = x → (kZ l i = 2 ∧ (kZ l j = 1 ∨ kZ l j = 2) ∨ kZ l i = 1 ∧ kZ l j = 2) → bef l i j = true
theorem NoR.down {l : List Ev} {x k j : Nat} (h : NoR l x k) (hj : j ≤ k) : NoR l x j := fun a b h1 h2 => h a b h1 (by omega)
theorem noR_of {l : List Ev} (hm : may l = 0) {x k : Nat} (hk : k ≤ l.length) (h : ∀ j, j < k → oZ l j = x → djK l j = 0) : NoR l x k := fun i j hij hjk hi hj hc => by
  have h0 := h j hjk hj
  have hjl : j < l.length := by omega
  have ho : oZ l i = oZ l j := by omega
  unfold djK at h0
  rcases hc with ⟨h2, h1 | h1⟩ | ⟨h2, h1⟩
  · rw [if_pos h1] at h0
    have hs : seenB l 2 j = true := by cases hs : seenB l 2 j <;> simp_all
    exact (seenB_iff hm hjl (.inl h1) 2).1 hs i hij h2 ho
  · rw [if_neg (by omega), if_pos h1] at h0
    have hs : seenB l 2 j = true := by cases hs : seenB l 2 j <;> simp_all
    exact (seenB_iff hm hjl (.inr h1) 2).1 hs i hij h2 ho
  · rw [if_neg (by omega), if_pos h1] at h0
    have hs : seenB l 1 j = true := by cases hs2 : seenB l 2 j <;> cases hs : seenB l 1 j <;> simp_all
    exact (seenB_iff hm hjl (.inr h1) 1).1 hs i hij h2 ho
/-- What W and R cover, as long as nothing races. -/
structure FsC (l : List Ev) (x k : Nat) (s : Fs) : Prop where
  w : ∀ i, i < k → kZ l i = 2 → oZ l i = x → Cov l k i s.wt s.wn
  r : ∀ i, i < k → kZ l i = 1 → oZ l i = x → Cov l k i s.wt s.wn ∨ (s.many = false ∧ Cov l k i s.rt s.rn) ∨ (s.many = true ∧ ∃ u, Cov l k i u (s.rc u))
theorem epo_pos {l : List Ev} (hm : may l = 0) {k : Nat} (hk : k < l.length) : 1 ≤ epo l k := onr_pos hm _ _ (by omega)
theorem rn_own {l : List Ev} (hm : may l = 0) {x k : Nat} (hk : k < l.length) {s : Fs} (h : FsI l x k s) : s.rt = tZ l k → s.rn ≤ cZ l k s.rt := fun e => by
  rcases h.r with ⟨_, h0⟩ | ⟨i, h1, _, _, h4, h5⟩
  · rw [h0]; exact Nat.zero_le _
  · rw [h5, e, cZ_own, epo_onr, epo_onr, ← h4, e]; exact onr_le2 hm _ (by omega) (by omega)
theorem rc_own {l : List Ev} (hm : may l = 0) {x k : Nat} (hk : k < l.length) {s : Fs} (h : FsI l x k s) : s.rc (tZ l k) ≤ epo l k := by
  rcases h.rc (tZ l k) with h0 | ⟨i, h1, _, _, h4, h5⟩
  · rw [h0]; exact Nat.zero_le _
  · rw [h5, epo_onr, epo_onr, h4]; exact onr_le2 hm _ (by omega) (by omega)
theorem fsC_all {l : List Ev} (hm : may l = 0) (x : Nat) : ∀ k, k ≤ l.length → NoR l x k → FsC l x k (fsTo l x k)
  | 0, _, _ => ⟨fun i h => by omega, fun i h => by omega⟩
  | k + 1, hk', hN => by
    have hk : k < l.length := by omega
    have h := fsC_all hm x k (by omega) (hN.down (by omega))
    have hI := fsI_all l x k
    have old : (kZ l k ≠ 1 ∨ oZ l k ≠ x) → (kZ l k ≠ 2 ∨ oZ l k ≠ x) → FsC l x (k + 1) (fsTo l x k) := fun h1 h2 =>
      ⟨fun i hi g1 g2 => by
        rcases Nat.lt_succ_iff_lt_or_eq.1 hi with hi | rfl
        · exact (h.w i hi g1 g2).up
        · rcases h2 with h2 | h2
          · exact absurd g1 h2
          · exact absurd g2 h2,
       fun i hi g1 g2 => by
        rcases Nat.lt_succ_iff_lt_or_eq.1 hi with hi | rfl
        · exact (h.r i hi g1 g2).imp Cov.up fun g => g.imp (fun ⟨a, b⟩ => ⟨a, b.up⟩) fun ⟨a, u, b⟩ => ⟨a, u, b.up⟩
        · rcases h1 with h1 | h1
          · exact absurd g1 h1
          · exact absurd g2 h1⟩
    rw [fsTo]
    split
    · rename_i ho
      generalize fsTo l x k = s at *
      unfold fsStep
      split
      · rename_i hk1
        -- a Read
        have wold : ∀ i, i < k + 1 → kZ l i = 2 → oZ l i = x → Cov l (k + 1) i s.wt s.wn := fun i hi g1 g2 => by
          rcases Nat.lt_succ_iff_lt_or_eq.1 hi with hi | rfl
          · exact (h.w i hi g1 g2).up
          · omega
        split
        · rename_i hs
          refine ⟨wold, fun i hi g1 g2 => ?_⟩
          rcases Nat.lt_succ_iff_lt_or_eq.1 hi with hi | rfl
          · exact (h.r i hi g1 g2).imp Cov.up fun g => g.imp (fun ⟨a, b⟩ => ⟨a, b.up⟩) fun ⟨a, u, b⟩ => ⟨a, u, b.up⟩
          · unfold skR at hs
            simp only [Bool.and_eq_true, Bool.not_eq_true', decide_eq_true_eq] at hs
            exact .inr (.inl ⟨hs.1, by rw [hs.2.1, hs.2.2]; exact cov_self hm⟩)
        · unfold fsR
          split
          · rename_i hmy
            refine ⟨wold, fun i hi g1 g2 => ?_⟩
            dsimp only
            rcases Nat.lt_succ_iff_lt_or_eq.1 hi with hi | rfl
            · rcases h.r i hi g1 g2 with g | ⟨g, _⟩ | ⟨_, u, g⟩
              · exact .inl g.up
              · rw [hmy] at g; cases g
              · refine .inr (.inr ⟨hmy, u, ?_⟩)
                by_cases e : u = tZ l k
                · rw [if_pos e]; subst e; exact g.up.le (rc_own hm hk hI)
                · rw [if_neg e]; exact g.up
            · exact .inr (.inr ⟨hmy, tZ l i, by rw [if_pos rfl]; exact cov_self hm⟩)
          · rename_i hmy
            have hmf : s.many = false := by simpa using hmy
            split
            · rename_i hkn
              refine ⟨wold, fun i hi g1 g2 => ?_⟩
              dsimp only
              rcases Nat.lt_succ_iff_lt_or_eq.1 hi with hi | rfl
              · rcases h.r i hi g1 g2 with g | ⟨_, g⟩ | ⟨g, _⟩
                · exact .inl g.up
                · exact .inr (.inl ⟨hmf, cov_bef hm (g k (Nat.le_refl _) hk (.inl hk1) hkn)⟩)
                · rw [hmf] at g; cases g
              · exact .inr (.inl ⟨hmf, cov_self hm⟩)
            · rename_i hkn
              refine ⟨wold, fun i hi g1 g2 => ?_⟩
              dsimp only
              rcases Nat.lt_succ_iff_lt_or_eq.1 hi with hi | rfl
              · rcases h.r i hi g1 g2 with g | ⟨_, g⟩ | ⟨g, _⟩
                · exact .inl g.up
                · refine .inr (.inr ⟨rfl, s.rt, ?_⟩)
                  rw [if_neg (fun e => hkn (rn_own hm hk hI e)), if_pos rfl]
                  exact g.up
                · rw [hmf] at g; cases g
              · exact .inr (.inr ⟨rfl, tZ l i, by rw [if_pos rfl]; exact cov_self hm⟩)
      · split
        · rename_i hk1 hk2
          split
          · rename_i hs
            unfold skW at hs
            simp only [Bool.and_eq_true, decide_eq_true_eq] at hs
            refine ⟨fun i hi g1 g2 => ?_, fun i hi g1 g2 => ?_⟩
            · rcases Nat.lt_succ_iff_lt_or_eq.1 hi with hi | rfl
              · exact (h.w i hi g1 g2).up
              · rw [hs.1, hs.2]; exact cov_self hm
            · rcases Nat.lt_succ_iff_lt_or_eq.1 hi with hi | rfl
              · exact (h.r i hi g1 g2).imp Cov.up fun g => g.imp (fun ⟨a, b⟩ => ⟨a, b.up⟩) fun ⟨a, u, b⟩ => ⟨a, u, b.up⟩
              · omega
          · refine ⟨fun i hi g1 g2 => ?_, fun i hi g1 g2 => ?_⟩
            · show Cov l (k + 1) i (tZ l k) (epo l k)
              rcases Nat.lt_succ_iff_lt_or_eq.1 hi with hi | rfl
              · exact cov_bef hm (hN i k hi (by omega) g2 ho (.inl ⟨g1, .inr hk2⟩))
              · exact cov_self hm
            · rcases Nat.lt_succ_iff_lt_or_eq.1 hi with hi | rfl
              · exact .inl (cov_bef hm (hN i k hi (by omega) g2 ho (.inr ⟨g1, hk2⟩)))
              · omega
        · rename_i hk1 hk2
          exact old (.inl hk1) (.inl hk2)
    · rename_i ho
      exact old (.inr ho) (.inr ho)
/-- Between two events of one epoch nobody else gets to know of the first. -/
theorem epoch_gap {l : List Ev} (hm : may l = 0) {a i j : Nat} (hij : i < j) (hj : j < l.length) (hk : kZ l i = 1 ∨ kZ l i = 2) (hb : bef l a i = true) (ht : tZ l a = tZ l j) (hn : epo l a = epo l j) : tZ l i = tZ l j := by
  refine Classical.byContradiction fun hne => ?_
  have hai := (bef_lt hb).1
  have h1 := (acc_iff hm (show i < l.length by omega) hk hai).2 hb
  have hov : ¬ ovr l i (tZ l j) := fun ⟨m, g1, g2⟩ => not_over hm hj ⟨m, by omega, g2⟩
  have h2 := (djI_all hm i (by omega)).c1 (tZ l i) (tZ l j) hne hov
  have h3 := onr_le2 hm (tZ l j) (show i ≤ j by omega) (by omega)
  rw [ht] at h1
  rw [epo_onr l j] at hn
  unfold onr at h3 hn
  omega
/-- All is known at an access in the epoch of an earlier one at which all was. -/
theorem same_epoch {l : List Ev} (hm : may l = 0) {x a j : Nat} (hN : NoR l x j) (haj : a < j) (hj : j < l.length) (hoa : oZ l a = x) (ht : tZ l a = tZ l j) (hn : epo l a = epo l j) {i : Nat} (hij : i < j) (hoi : oZ l i = x)
    (hka : kZ l a = 1 ∨ kZ l a = 2) (hki : kZ l i = 1 ∨ kZ l i = 2) (hc : kZ l a = 2 ∨ kZ l i = 2) : bef l i j = true := by
  have haj' := thread_bef hm haj hj ht
  rcases Nat.lt_trichotomy i a with h | rfl | h
  · refine bef_trans (hN i a h haj hoi hoa ?_) haj'
    rcases hka with h1 | h1 <;> rcases hki with h2 | h2 <;> omega
  · exact haj'
  · have hb := hN a i h hij hoa hoi (by rcases hka with h1 | h1 <;> rcases hki with h2 | h2 <;> omega)
    exact thread_bef hm hij hj (epoch_gap hm hij hj hki hb ht hn)
/-- The first race of a variable is flagged as full clocks flag it. -/
theorem fk_first {l : List Ev} (hm : may l = 0) {j : Nat} (hj : j < l.length) (h0 : ∀ i, i < j → oZ l i = oZ l j → djK l i = 0) : fkK l j = djK l j := by
  have hN := noR_of hm (Nat.le_of_lt hj) h0
  have hI := fsI_all l (oZ l j) j
  have hC := fsC_all hm (oZ l j) j (Nat.le_of_lt hj) hN
  unfold fkK
  generalize fsTo l (oZ l j) j = s at *
  have kw : (kZ l j = 1 ∨ kZ l j = 2) → (s.wn ≤ cZ l j s.wt ↔ seenB l 2 j = true) := fun hk => by
    rw [seenB_iff hm hj hk]
    constructor
    · intro hw i hi g1 g2; exact hC.w i hi g1 g2 j (Nat.le_refl _) hj hk hw
    · intro hs
      rcases hI.w with ⟨_, e⟩ | ⟨i, h1, h2, h3, h4, h5⟩
      · rw [e]; exact Nat.zero_le _
      · rw [h4, h5]; exact (acc_iff hm hj hk h1).2 (hs i h1 h2 h3)
  unfold fsK djK
  by_cases hk1 : kZ l j = 1
  · rw [if_pos hk1, if_pos hk1]
    split
    · rename_i hs
      unfold skR at hs
      simp only [Bool.and_eq_true, Bool.not_eq_true', decide_eq_true_eq] at hs
      rcases hI.r with ⟨_, e⟩ | ⟨a, g1, g2, g3, g4, g5⟩
      · have h1 := epo_pos hm hj
        have h2 := hs.2.2
        rw [cZ_own] at h2; omega
      · have : seenB l 2 j = true := by
          rw [seenB_iff hm hj (.inl hk1)]
          intro i hi q1 q2
          exact same_epoch hm hN g1 hj g3 (by omega) (by have := hs.2.2; rw [cZ_own] at this; omega) hi q2 (.inl g2) (.inr q1) (.inr q1)
        rw [if_pos this]
    · by_cases hw : s.wn ≤ cZ l j s.wt
      · rw [if_pos hw, if_pos ((kw (.inl hk1)).1 hw)]
      · rw [if_neg hw, if_neg (fun h => hw ((kw (.inl hk1)).2 h))]
  · rw [if_neg hk1, if_neg hk1]
    by_cases hk2 : kZ l j = 2
    · rw [if_pos hk2, if_pos hk2]
      split
      · rename_i hs
        unfold skW at hs
        simp only [Bool.and_eq_true, decide_eq_true_eq] at hs
        rcases hI.w with ⟨_, e⟩ | ⟨a, g1, g2, g3, g4, g5⟩
        · have h1 := epo_pos hm hj
          have h2 := hs.2
          rw [cZ_own] at h2; omega
        · have hall : ∀ q, (q = 1 ∨ q = 2) → seenB l q j = true := fun q hq => by
            rw [seenB_iff hm hj (.inr hk2)]
            intro i hi q1 q2
            exact same_epoch hm hN g1 hj g3 (by omega) (by have := hs.2; rw [cZ_own] at this; omega) hi q2 (.inr g2) (by omega) (.inl g2)
          rw [hall 2 (.inr rfl), hall 1 (.inl rfl)]; rfl
      · by_cases hw : s.wn ≤ cZ l j s.wt
        · have hs2 := (kw (.inr hk2)).1 hw
          rw [if_pos hw, hs2]
          have hr : rKn s (cZ l j) = seenB l 1 j := by
            rw [Bool.eq_iff_iff, seenB_iff hm hj (.inr hk2)]
            unfold rKn
            constructor
            · intro hr i hi g1 g2
              rcases hC.r i hi g1 g2 with g | ⟨gm, g⟩ | ⟨gm, u, g⟩
              · exact g j (Nat.le_refl _) hj (.inr hk2) hw
              · rw [gm] at hr
                exact g j (Nat.le_refl _) hj (.inr hk2) (by simpa using hr)
              · rw [if_pos gm, knwB_iff] at hr
                refine g j (Nat.le_refl _) hj (.inr hk2) ?_
                rcases hI.rc u with e | ⟨a, q1, _, _, q4, _⟩
                · rw [e]; exact Nat.zero_le _
                · exact hr u (by rw [← q4]; exact tZ_lt hm (by omega))
            · intro hs
              split
              · rw [knwB_iff]
                intro u _
                rcases hI.rc u with e | ⟨a, q1, q2, q3, q4, q5⟩
                · rw [e]; exact Nat.zero_le _
                · rw [q5, ← q4]; exact (acc_iff hm hj (.inr hk2) q1).2 (hs a q1 q2 q3)
              · rw [decide_eq_true_iff]
                rcases hI.r with ⟨_, e⟩ | ⟨a, q1, q2, q3, q4, q5⟩
                · rw [e]; exact Nat.zero_le _
                · rw [q5, q4]; exact (acc_iff hm hj (.inr hk2) q1).2 (hs a q1 q2 q3)
          rw [hr]
          cases seenB l 1 j <;> simp
        · have hs2 : seenB l 2 j = false := by rw [← Bool.not_eq_true]; exact fun h => hw ((kw (.inr hk2)).2 h)
          rw [if_neg hw, hs2]; simp
    · rw [if_neg hk2, if_neg hk2]
/-- Nothing is flagged just if nothing races. -/
theorem fk_none {l : List Ev} (hm : may l = 0) {k : Nat} (hk : k ≤ l.length) : (∀ j, j < k → fkK l j = 0) ↔ ∀ j, j < k → djK l j = 0 := by
  constructor
  · intro h j
    induction j using Nat.strongRecOn with
    | _ j ih =>
      intro hj
      rw [← fk_first hm (by omega) fun i hi _ => ih i hi (by omega)]
      exact h j hj
  · intro h j hj
    refine Classical.byContradiction fun hf => fk_dj hm (by omega) hf (h j hj)
end Go.Proofs.Yteihildhlcggoaa
namespace Go.Proofs.Yteihildhlcggoaa
open Go Go.RowKit

/-- The flags of the first k events, told by their kinds K (0: none): place, variable, kind. -/
def gl (K : Nat → Int) (l : List Ev) : Nat → List Ev
  | 0 => []
  | k + 1 => if K k = 0 then gl K l k else gl K l k ++ [⟨(k : Nat), (eZ l k).o, K k⟩]
theorem flT_gl (l : List Ev) : ∀ k, flT l k = gl (djK l) l k
  | 0 => rfl
  | k + 1 => by rw [flT, gl, flT_gl l k]
section
variable {K : Nat → Int} {l : List Ev}
theorem gl_yes {k : Nat} (h : K k ≠ 0) : gl K l (k + 1) = gl K l k ++ [⟨(k : Nat), (eZ l k).o, K k⟩] := by rw [gl, if_neg h]
theorem gl_no {k : Nat} (h : K k = 0) : gl K l (k + 1) = gl K l k := by rw [gl, if_pos h]
theorem gl_len (K : Nat → Int) (l : List Ev) : ∀ k, (gl K l k).length ≤ k
  | 0 => Nat.le_refl _
  | k + 1 => by
    have := gl_len K l k
    rw [gl]
    split
    · omega
    · rw [List.length_append]; simp; omega
theorem gl_mem {e : Ev} : ∀ {k : Nat}, e ∈ gl K l k ↔ ∃ j, j < k ∧ K j ≠ 0 ∧ e = ⟨(j : Nat), (eZ l j).o, K j⟩
  | 0 => ⟨fun h => by simp [gl] at h, fun ⟨j, h, _⟩ => by omega⟩
  | k + 1 => by
    rw [gl]
    split
    · rename_i h0
      rw [gl_mem]
      constructor
      · rintro ⟨j, h1, h2⟩; exact ⟨j, by omega, h2⟩
      · rintro ⟨j, h1, h2, h3⟩
        rcases Nat.lt_succ_iff_lt_or_eq.1 h1 with h1 | rfl
        · exact ⟨j, h1, h2, h3⟩
        · exact absurd h0 h2
    · rename_i h0
      rw [List.mem_append, gl_mem, List.mem_singleton]
      constructor
      · rintro (⟨j, h1, h2⟩ | rfl)
        · exact ⟨j, by omega, h2⟩
        · exact ⟨k, by omega, h0, rfl⟩
      · rintro ⟨j, h1, h2, h3⟩
        rcases Nat.lt_succ_iff_lt_or_eq.1 h1 with h1 | rfl
        · exact .inl ⟨j, h1, h2, h3⟩
        · exact .inr h3
theorem gl_low {e : Ev} {k : Nat} (h : e ∈ gl K l k) : 0 ≤ e.k ∧ e.k < k := by
  obtain ⟨j, h1, _, rfl⟩ := gl_mem.1 h
  dsimp only; omega
theorem gl_up (K : Nat → Int) (l : List Ev) : ∀ k, ((gl K l k).map (·.k)).Pairwise (· < ·)
  | 0 => by simp [gl]
  | k + 1 => by
    rw [gl]
    split
    · exact gl_up K l k
    · rw [List.map_append, List.pairwise_append]
      refine ⟨gl_up K l k, by simp, fun a ha b hb => ?_⟩
      obtain ⟨e, he, rfl⟩ := List.mem_map.1 ha
      simp at hb
      subst hb
      exact (gl_low he).2
theorem gl_split (K : Nat → Int) (l : List Ev) (k : Nat) : ∀ d, ∃ r, gl K l (k + d) = gl K l k ++ r ∧ ∀ e ∈ r, (k : Int) ≤ e.k
  | 0 => ⟨[], by simp, by simp⟩
  | d + 1 => by
    obtain ⟨r, h1, h2⟩ := gl_split K l k d
    rw [← Nat.add_assoc, gl]
    split
    · exact ⟨r, h1, h2⟩
    · refine ⟨r ++ [_], by rw [h1, List.append_assoc], fun e he => ?_⟩
      rcases List.mem_append.1 he with he | he
      · exact h2 e he
      · simp at he; subst he; dsimp only; omega
theorem gl_congr {K' : Nat → Int} {l' : List Ev} : ∀ {k : Nat}, (∀ j, j < k → K j = K' j ∧ (K j ≠ 0 → (eZ l j).o = (eZ l' j).o)) → gl K l k = gl K' l' k
  | 0, _ => rfl
  | k + 1, h => by
    have h1 := gl_congr (k := k) fun j hj => h j (by omega)
    have h2 := h k (by omega)
    rw [gl, gl, h1, ← h2.1]
    split
    · rfl
    · rename_i h0; rw [h2.2 h0]
theorem gl_nil_iff {k : Nat} : gl K l k = [] ↔ ∀ j, j < k → K j = 0 := by
  constructor
  · intro h j hj
    refine Classical.byContradiction fun h0 => ?_
    have : (⟨(j : Nat), (eZ l j).o, K j⟩ : Ev) ∈ gl K l k := gl_mem.2 ⟨j, hj, h0, rfl⟩
    rw [h] at this; cases this
  · intro h
    cases hg : gl K l k with
    | nil => rfl
    | cons e r =>
      obtain ⟨j, h1, h2, _⟩ := gl_mem.1 (show e ∈ gl K l k by rw [hg]; simp)
      exact absurd (h j h1) h2
end
/-- What the detector by epochs returns. -/
def fflags (l : List Ev) : List Ev := if may l = 0 then gl (fkK l) l l.length else []
theorem fflags_ok {l : List Ev} (h : may l = 0) : fflags l = gl (fkK l) l l.length := by unfold fflags; rw [if_pos h]
theorem fflags_no {l : List Ev} (h : may l ≠ 0) : fflags l = [] := by unfold fflags; rw [if_neg h]
/-- Prefixes. -/
theorem cZ_take {l : List Ev} {k j : Nat} (h : j < k) : cZ (l.take k) j = cZ l j := by unfold cZ; rw [djTo_take j (Nat.le_of_lt h), tZ_take h]
theorem fsTo_take {l : List Ev} {k : Nat} (x : Nat) : ∀ j, j ≤ k → fsTo (l.take k) x j = fsTo l x j
  | 0, _ => rfl
  | j + 1, h => by rw [fsTo, fsTo, fsTo_take x j (by omega), oZ_take (by omega), kZ_take (by omega), tZ_take (by omega), cZ_take (by omega)]
theorem fkK_take {l : List Ev} {k j : Nat} (h : j < k) : fkK (l.take k) j = fkK l j := by
  unfold fkK; rw [oZ_take h, kZ_take h, tZ_take h, cZ_take h, fsTo_take _ j (Nat.le_of_lt h)]
theorem slT_take {l : List Ev} {k : Nat} : ∀ j, j ≤ k → slT (l.take k) j = slT l j
  | 0, _ => rfl
  | j + 1, h => by rw [slT, slT, slT_take j (by omega), oZ_take (by omega), kZ_take (by omega), tZ_take (by omega), cZ_take (by omega), fsTo_take _ j (by omega)]
theorem slT_mono (l : List Ev) {i : Nat} : ∀ {k : Nat}, i ≤ k → slT l i ≤ slT l k
  | 0, h => by obtain rfl : i = 0 := by omega
               exact Nat.le_refl _
  | k + 1, h => by
    by_cases e : i = k + 1
    · subst e; exact Nat.le_refl _
    · have := slT_mono l (show i ≤ k by omega)
      rw [slT]; omega
theorem fsSl_le (s : Fs) (k : Int) (t : Nat) (c : Nat → Nat) : fsSl s k t c ≤ 1 := by
  unfold fsSl
  repeat' split
  all_goals omega
theorem slT_le (l : List Ev) : ∀ k, slT l k ≤ k
  | 0 => Nat.le_refl _
  | k + 1 => by
    have h1 := slT_le l k
    have h2 := fsSl_le (fsTo l (oZ l k) k) (kZ l k) (tZ l k) (cZ l k)
    rw [slT]; omega
theorem glF_take {l : List Ev} {k : Nat} : gl (fkK (l.take k)) (l.take k) k = gl (fkK l) l k := gl_congr fun j hj => ⟨fkK_take hj, fun _ => by rw [eZ_take hj]⟩
end Go.Proofs.Yteihildhlcggoaa
namespace Go.Proofs.Yteihildhlcggoaa
open Go Go.RowKit

theorem may_snoc_iff {l : List Ev} {e : Ev} : may (l ++ [e]) = 0 ↔ may l = 0 ∧ wrong l e = 0 ∧ l.length < 80 := by
  rw [may_iff, may_iff]
  constructor
  · rintro ⟨h1, h2⟩
    rw [List.length_append] at h1
    simp at h1
    refine ⟨⟨by omega, fun i a ha => ?_⟩, ?_, by omega⟩
    · have hi := (List.getElem?_eq_some_iff.1 ha).1
      have := h2 i a (by rw [List.getElem?_append_left hi]; exact ha)
      rwa [List.take_append_of_le_length (by omega)] at this
    · have := h2 l.length e (by simp)
      rwa [List.take_left] at this
  · rintro ⟨⟨h1, h2⟩, h3, h4⟩
    refine ⟨by rw [List.length_append]; simp; omega, fun i a ha => ?_⟩
    rcases Nat.lt_or_ge i l.length with hi | hi
    · rw [List.getElem?_append_left hi] at ha
      rw [List.take_append_of_le_length (by omega)]
      exact h2 i a ha
    · rw [List.getElem?_append_right hi] at ha
      have hi0 : i - l.length = 0 := by
        refine Classical.byContradiction fun h => ?_
        rw [List.getElem?_eq_none (by simp; omega)] at ha; cases ha
      rw [hi0] at ha
      simp at ha
      subst ha
      have : i = l.length := by omega
      subst this
      rw [List.take_left]; exact h3
/-- What Check looks back at. -/
def syn (e : Ev) : Bool := decide (3 ≤ e.k ∧ e.k ≤ 6)
theorem did_syn {q o : Int} (hq : q = 5 ∨ q = 6) : ∀ l : List Ev, did (l.filter syn) q o = did l q o
  | [] => rfl
  | e :: l => by
    have ih := did_syn hq (o := o) l
    unfold did at ih ⊢
    by_cases h : syn e = true
    · rw [List.filter_cons_of_pos h, List.any_cons, List.any_cons, ih]
    · rw [List.filter_cons_of_neg h, List.any_cons, ih]
      have : decide (e.k = q ∧ e.o = o) = false := by
        rw [decide_eq_false_iff_not]
        intro hh
        unfold syn at h
        simp only [decide_eq_true_eq] at h
        omega
      rw [this, Bool.false_or]
theorem owner_syn (k : Int) : ∀ (l : List Ev) (a : Int), (l.filter syn).foldl (fun who e => ownB who e k) a = l.foldl (fun who e => ownB who e k) a
  | [], _ => rfl
  | e :: l, a => by
    by_cases h : syn e = true
    · rw [List.filter_cons_of_pos h, List.foldl_cons, List.foldl_cons]; exact owner_syn k l _
    · rw [List.filter_cons_of_neg h, List.foldl_cons, owner_syn k l]
      have : ownB a e k = a := by
        unfold syn at h
        simp only [decide_eq_true_eq] at h
        unfold ownB
        rw [if_neg (by omega), if_neg (by omega)]
      rw [this]
theorem wrong_syn (l : List Ev) (e : Ev) : wrong (l.filter syn) e = wrong l e := by
  have h5 := fun o => did_syn (q := 5) (o := o) (.inl rfl) l
  have h6 := fun o => did_syn (q := 6) (o := o) (.inr rfl) l
  have ho : ∀ o, owner (l.filter syn) o = owner l o := fun o => owner_syn o l (-1)
  unfold wrong begun
  rw [h5, h5, h6, ho]
theorem wrong_eq {p q : List Ev} (h : p.filter syn = q.filter syn) (e : Ev) : wrong p e = wrong q e := by rw [← wrong_syn p, h, wrong_syn]
theorem may_filter {f : Ev → Bool} (hf : ∀ e, syn e = true → f e = true) : ∀ k (l : List Ev), l.length = k → may l = 0 → may (l.filter f) = 0
  | 0, l, hk, h => by
    have : l = [] := List.eq_nil_of_length_eq_zero hk
    subst this; exact h
  | k + 1, l, hk, h => by
    obtain ⟨p, e, rfl⟩ : ∃ p e, l = p ++ [e] := by
      have hne : l ≠ [] := by intro hh; rw [hh] at hk; cases hk
      exact ⟨l.dropLast, l.getLast hne, (List.dropLast_concat_getLast hne).symm⟩
    have h1 := may_snoc_iff.1 h
    have ih := may_filter hf k p (by rw [List.length_append] at hk; simp at hk; exact hk) h1.1
    rw [List.filter_append]
    by_cases hfe : f e = true
    · rw [show [e].filter f = [e] by simp [hfe]]
      refine may_snoc_iff.2 ⟨ih, ?_, Nat.lt_of_le_of_lt (List.length_filter_le _ _) h1.2.2⟩
      rw [← h1.2.1]
      refine wrong_eq ?_ e
      rw [List.filter_filter]
      refine List.filter_congr fun a _ => ?_
      cases hs : syn a
      · simp
      · simp [hf a hs]
    · rw [show [e].filter f = [] by simp [hfe], List.append_nil]; exact ih
/-- How many of the first k are kept. -/
def kept (f : Ev → Bool) (l : List Ev) (k : Nat) : Nat := ((l.take k).filter f).length
theorem kept_zero (f : Ev → Bool) (l : List Ev) : kept f l 0 = 0 := rfl
theorem kept_succ {f : Ev → Bool} {l : List Ev} {k : Nat} (hk : k < l.length) : kept f l (k + 1) = kept f l k + if f (eZ l k) = true then 1 else 0 := by
  unfold kept
  rw [take_snoc' (eZ_get hk), List.filter_append, List.length_append]
  by_cases h : f (eZ l k) = true <;> simp [h]
theorem kept_all (f : Ev → Bool) (l : List Ev) : kept f l l.length = (l.filter f).length := by unfold kept; rw [List.take_length]
theorem kept_at {f : Ev → Bool} {l : List Ev} {k : Nat} (hk : k < l.length) (h : f (eZ l k) = true) : eZ (l.filter f) (kept f l k) = eZ l k := by
  have e : l = l.take k ++ eZ l k :: l.drop (k + 1) := by
    have h1 := List.getElem?_eq_some_iff.1 (eZ_get hk)
    rw [← h1.2, ← List.drop_eq_getElem_cons h1.1, List.take_append_drop]
  have h2 : (l.filter f)[kept f l k]? = some (eZ l k) := by
    conv => lhs; arg 1; rw [e]
    unfold kept
    rw [List.filter_append, List.filter_cons_of_pos h, List.getElem?_append_right (Nat.le_refl _)]
    simp
  exact eZ_at h2
/-- All but the accesses of other variables. -/
def varF (x : Nat) (e : Ev) : Bool := decide (2 < e.k) || decide (e.o = (x : Int))
theorem varF_syn (x : Nat) (e : Ev) (h : syn e = true) : varF x e = true := by
  unfold syn at h; unfold varF
  simp only [decide_eq_true_eq] at h
  simp; omega
section
variable {l : List Ev} (hm : may l = 0) (x : Nat)
include hm
theorem varF_no {k : Nat} (hk : k < l.length) (h : varF x (eZ l k) = false) : (kZ l k = 1 ∨ kZ l k = 2) ∧ oZ l k ≠ x := by
  have he := eZ_ok hm hk
  have ho := isEv_o he
  unfold varF at h
  simp only [Bool.or_eq_false_iff, decide_eq_false_iff_not] at h
  have hk1 : 1 ≤ (eZ l k).k := by
    refine Classical.byContradiction fun hn => ?_
    have : nobj (eZ l k).k = 0 := by unfold nobj; rw [if_neg (by omega), if_neg (by omega), if_neg (by omega), if_neg (by omega)]
    omega
  unfold kZ oZ
  exact ⟨by omega, by omega⟩
theorem djTo_var : ∀ k, k ≤ l.length → djTo (l.filter (varF x)) (kept (varF x) l k) = djTo l k
  | 0, _ => rfl
  | k + 1, hk' => by
    have hk : k < l.length := by omega
    have ih := djTo_var k (by omega)
    rw [kept_succ hk]
    by_cases h : varF x (eZ l k) = true
    · have e := kept_at hk h
      rw [if_pos h, djTo, ih, djTo]
      unfold kZ tZ oZ
      rw [e]
    · rw [if_neg h, Nat.add_zero, ih, djTo_acc (varF_no hm x hk (by simpa using h)).1]
theorem cZ_var {k : Nat} (hk : k < l.length) (h : varF x (eZ l k) = true) : cZ (l.filter (varF x)) (kept (varF x) l k) = cZ l k := by
  unfold cZ tZ
  rw [djTo_var hm x k (by omega), kept_at hk h]
theorem fsTo_var : ∀ k, k ≤ l.length → fsTo (l.filter (varF x)) x (kept (varF x) l k) = fsTo l x k
  | 0, _ => rfl
  | k + 1, hk' => by
    have hk : k < l.length := by omega
    have ih := fsTo_var k (by omega)
    rw [kept_succ hk]
    by_cases h : varF x (eZ l k) = true
    · have e := kept_at hk h
      rw [if_pos h, fsTo, ih, fsTo, cZ_var hm x hk h]
      unfold kZ tZ oZ
      rw [e]
    · rw [if_neg h, Nat.add_zero, ih, fsTo, if_neg (varF_no hm x hk (by simpa using h)).2]
theorem fkK_var {k : Nat} (hk : k < l.length) (h : varF x (eZ l k) = true) (ho : oZ l k = x) : fkK (l.filter (varF x)) (kept (varF x) l k) = fkK l k := by
  have e := kept_at hk h
  unfold fkK
  rw [cZ_var hm x hk h]
  have eo : oZ (l.filter (varF x)) (kept (varF x) l k) = oZ l k := by unfold oZ; rw [e]
  have ek : kZ (l.filter (varF x)) (kept (varF x) l k) = kZ l k := by unfold kZ; rw [e]
  have et : tZ (l.filter (varF x)) (kept (varF x) l k) = tZ l k := by unfold tZ; rw [e]
  rw [eo, ek, et, ho, fsTo_var hm x k (by omega)]
/-- The places of those that are kept. -/
def atK (f : Ev → Bool) (l : List Ev) (k : Nat) : List Nat := (List.range k).filter fun i => f (eZ l i)
omit hm in
theorem atK_len {f : Ev → Bool} : ∀ k, k ≤ l.length → (atK f l k).length = kept f l k
  | 0, _ => rfl
  | k + 1, hk => by
    have ih := atK_len (f := f) k (by omega)
    rw [kept_succ (by omega), ← ih]
    unfold atK
    rw [List.range_succ, List.filter_append, List.length_append]
    by_cases h : f (eZ l k) = true <;> simp [h]
omit hm in
theorem atK_at {f : Ev → Bool} {k n : Nat} (hkn : k < n) (hn : n ≤ l.length) (h : f (eZ l k) = true) : (atK f l n)[kept f l k]? = some k := by
  rw [← atK_len k (by omega)]
  obtain ⟨d, rfl⟩ := Nat.exists_eq_add_of_le (show k + 1 ≤ n from hkn)
  have : atK f l (k + 1 + d) = atK f l k ++ k :: ((List.range d).map (k + 1 + ·)).filter (fun i => f (eZ l i)) := by
    unfold atK
    rw [List.range_add, List.range_succ, List.filter_append, List.filter_append, List.append_assoc]
    simp [h]
  rw [this, List.getElem?_append_right (Nat.le_refl _)]
  simp
/-- A flag, its place told by a row of places. -/
def reAt (at_ : List Nat) (e : Ev) : Ev := ⟨((at_[e.k.toNat]?).getD 0 : Nat), e.t, e.o⟩
theorem gl_var {n : Nat} (hn : n = l.length) : ∀ k, k ≤ l.length → (gl (fkK (l.filter (varF x))) (l.filter (varF x)) (kept (varF x) l k)).map (reAt (atK (varF x) l n)) = (gl (fkK l) l k).filter fun e => decide (e.t = (x : Int))
  | 0, _ => rfl
  | k + 1, hk' => by
    have hk : k < l.length := by omega
    have ih := gl_var hn k (by omega)
    rw [kept_succ hk]
    have hoz : (eZ l k).o = (oZ l k : Nat) := by have := (isEv_o (eZ_ok hm hk)).1; unfold oZ; omega
    by_cases h : varF x (eZ l k) = true
    · have e := kept_at hk h
      rw [if_pos h]
      by_cases ho : oZ l k = x
      · have hf := fkK_var hm x hk h ho
        by_cases h0 : fkK l k = 0
        · rw [gl_no (by rw [hf]; exact h0), gl_no h0, ih]
        · rw [gl_yes (by rw [hf]; exact h0), gl_yes h0, List.map_append, List.filter_append, ih, hf, e]
          congr 1
          rw [List.filter_cons_of_pos (by dsimp only; rw [hoz, ho]; simp)]
          simp only [List.map_cons, List.map_nil, List.filter_nil, reAt, Int.toNat_natCast, atK_at (show k < n by omega) (by omega) h, Option.getD_some]
      · have hk2 : 2 < kZ l k := by
          unfold varF at h
          simp only [Bool.or_eq_true, decide_eq_true_eq] at h
          unfold kZ
          rcases h with h | h
          · exact h
          · exact absurd (by unfold oZ; omega) ho
        have z : ∀ (l' : List Ev) (j : Nat), 2 < kZ l' j → fkK l' j = 0 := fun l' j h => by unfold fkK fsK; rw [if_neg (by omega), if_neg (by omega)]
        rw [gl_no (z _ _ (by unfold kZ; rw [e]; exact hk2)), gl_no (z _ _ hk2), ih]
    · have hno := varF_no hm x hk (by simpa using h)
      rw [if_neg h, Nat.add_zero, ih]
      by_cases h0 : fkK l k = 0
      · rw [gl_no h0]
      · rw [gl_yes h0, List.filter_append, List.filter_cons_of_neg (by dsimp only; rw [hoz]; simp; omega)]
        simp
end
end Go.Proofs.Yteihildhlcggoaa
namespace Go.Proofs.Yteihildhlcggoaa
open Go Go.RowKit

section
variable {l : List Ev} (hm : may l = 0) (h : ∀ i, i < l.length → kZ l i = 1 → tZ l i = oZ l i % 6)
include hm h
theorem one_kn {x k : Nat} (hk : k < l.length) (ho : oZ l k = x) (h1 : kZ l k = 1) : (fsTo l x k).rn ≤ cZ l k (fsTo l x k).rt := by
  have hI := fsI_all l x k
  rcases hI.r with ⟨_, e⟩ | ⟨i, g1, g2, g3, g4, _⟩
  · rw [e]; exact Nat.zero_le _
  · exact rn_own hm hk hI (by rw [g4, h i (by omega) g2, h k hk h1, g3, ho])
theorem one_many (x : Nat) : ∀ k, k ≤ l.length → (fsTo l x k).many = false
  | 0, _ => rfl
  | k + 1, hk' => by
    have hk : k < l.length := by omega
    have ih := one_many x k (by omega)
    rw [fsTo]
    split
    · rename_i ho
      unfold fsStep
      split
      · rename_i h1
        have hkn := one_kn hm h hk ho h1
        split
        · exact ih
        · unfold fsR
          rw [if_neg (by rw [ih]; simp), if_pos hkn]
          exact ih
      · split
        · split
          · exact ih
          · rfl
        · exact ih
    · exact ih
theorem slT_one : ∀ k, k ≤ l.length → slT l k = 0
  | 0, _ => rfl
  | k + 1, hk' => by
    have hk : k < l.length := by omega
    rw [slT, slT_one k (by omega)]
    unfold fsSl
    split
    · rename_i h1
      split
      · rfl
      · rw [if_neg (by rw [one_many hm h _ k (by omega)]; simp), if_pos (one_kn hm h hk rfl h1)]
    · rfl
end
/-- Event i once more, just behind itself. -/
def dup (l : List Ev) (i : Nat) : List Ev := l.take (i + 1) ++ l.drop i
section
variable {l : List Ev} {i : Nat} (hi : i < l.length)
include hi
theorem dup_len : (dup l i).length = l.length + 1 := by unfold dup; rw [List.length_append, List.length_take, List.length_drop]; omega
theorem dup_get (j : Nat) : (dup l i)[j]? = if j ≤ i then l[j]? else l[j - 1]? := by
  unfold dup
  split
  · rw [List.getElem?_append_left (by rw [List.length_take]; omega), List.getElem?_take, if_pos (by omega)]
  · rw [List.getElem?_append_right (by rw [List.length_take]; omega), List.length_take, List.getElem?_drop]
    congr 1
    omega
theorem eZ_dup (j : Nat) : eZ (dup l i) j = if j ≤ i then eZ l j else eZ l (j - 1) := by
  unfold eZ
  rw [dup_get hi]
  split <;> rfl
theorem eZ_low {j : Nat} (h : j ≤ i) : eZ (dup l i) j = eZ l j := by rw [eZ_dup hi, if_pos h]
theorem eZ_high {j : Nat} (h : i ≤ j) : eZ (dup l i) (j + 1) = eZ l j := by rw [eZ_dup hi, if_neg (by omega)]; rfl
theorem djTo_low : ∀ j, j ≤ i + 1 → djTo (dup l i) j = djTo l j
  | 0, _ => rfl
  | j + 1, h => by
    rw [djTo, djTo, djTo_low j (by omega)]
    unfold kZ tZ oZ
    rw [eZ_low hi (by omega)]
theorem cZ_lowD {j : Nat} (h : j ≤ i) : cZ (dup l i) j = cZ l j := by unfold cZ tZ; rw [djTo_low hi j (by omega), eZ_low hi h]
theorem fsTo_lowD (x : Nat) : ∀ j, j ≤ i + 1 → fsTo (dup l i) x j = fsTo l x j
  | 0, _ => rfl
  | j + 1, h => by
    rw [fsTo, fsTo, fsTo_lowD x j (by omega), cZ_lowD hi (by omega)]
    unfold kZ tZ oZ
    rw [eZ_low hi (by omega)]
theorem fkK_lowD {j : Nat} (h : j ≤ i) : fkK (dup l i) j = fkK l j := by
  unfold fkK
  rw [cZ_lowD hi h, fsTo_lowD hi _ j (by omega)]
  unfold kZ tZ oZ
  rw [eZ_low hi h]
variable (hw : kZ l i = 2)
include hw
theorem djTo_mid : djTo (dup l i) (i + 2) = djTo l (i + 1) := by
  have h2 : kZ (dup l i) (i + 1) = 2 := by unfold kZ; rw [eZ_high hi (Nat.le_refl _)]; exact hw
  rw [djTo_acc (.inr h2), djTo_low hi _ (Nat.le_refl _)]
theorem djTo_highD : ∀ d, djTo (dup l i) (i + 1 + d + 1) = djTo l (i + 1 + d)
  | 0 => djTo_mid hi hw
  | d + 1 => by
    show djTo (dup l i) ((i + 1 + d + 1) + 1) = djTo l ((i + 1 + d) + 1)
    rw [djTo, djTo_highD d, djTo]
    unfold kZ tZ oZ
    rw [eZ_high hi (by omega)]
theorem cZ_highD {j : Nat} (h : i < j) : cZ (dup l i) (j + 1) = cZ l j := by
  obtain ⟨d, rfl⟩ := Nat.exists_eq_add_of_le (show i + 1 ≤ j from h)
  unfold cZ tZ
  rw [djTo_highD hi hw d, eZ_high hi (by omega)]
theorem cZ_mid : cZ (dup l i) (i + 1) = cZ l i := by
  unfold cZ tZ
  rw [djTo_low hi _ (Nat.le_refl _), eZ_high hi (Nat.le_refl _), djTo_acc (.inr hw)]
theorem sk_mid : skW (fsTo l (oZ l i) (i + 1)) (tZ l i) (cZ l i) = true := by
  rw [fsTo, if_pos rfl]
  unfold fsStep
  rw [if_neg (by omega), if_pos hw]
  split
  · rename_i h; exact h
  · unfold skW fsW; simp
theorem mid_parts : kZ (dup l i) (i + 1) = 2 ∧ tZ (dup l i) (i + 1) = tZ l i ∧ oZ (dup l i) (i + 1) = oZ l i := by
  unfold kZ tZ oZ
  rw [eZ_high hi (Nat.le_refl _)]
  exact ⟨hw, rfl, rfl⟩
theorem fkK_mid : fkK (dup l i) (i + 1) = 0 := by
  obtain ⟨h1, h2, h3⟩ := mid_parts hi hw
  unfold fkK fsK
  rw [h1, h2, h3, cZ_mid hi hw, fsTo_lowD hi _ _ (Nat.le_refl _), sk_mid hi hw]
  simp
theorem fsTo_mid (x : Nat) : fsTo (dup l i) x (i + 2) = fsTo l x (i + 1) := by
  obtain ⟨h1, h2, h3⟩ := mid_parts hi hw
  rw [fsTo, h1, h2, h3, cZ_mid hi hw, fsTo_lowD hi _ _ (Nat.le_refl _)]
  split
  · rename_i ho
    unfold fsStep
    rw [if_neg (by omega), if_pos rfl, ← ho, if_pos (sk_mid hi hw)]
  · rfl
theorem fsTo_highD (x : Nat) : ∀ d, fsTo (dup l i) x (i + 1 + d + 1) = fsTo l x (i + 1 + d)
  | 0 => fsTo_mid hi hw x
  | d + 1 => by
    show fsTo (dup l i) x ((i + 1 + d + 1) + 1) = fsTo l x ((i + 1 + d) + 1)
    rw [fsTo, fsTo_highD x d, fsTo, cZ_highD hi hw (by omega)]
    unfold kZ tZ oZ
    rw [eZ_high hi (by omega)]
theorem fkK_highD {j : Nat} (h : i < j) : fkK (dup l i) (j + 1) = fkK l j := by
  obtain ⟨d, rfl⟩ := Nat.exists_eq_add_of_le (show i + 1 ≤ j from h)
  unfold fkK
  rw [cZ_highD hi hw (by omega), fsTo_highD hi hw]
  unfold kZ tZ oZ
  rw [eZ_high hi (by omega)]
/-- A flag behind event i comes one later. -/
def shE (i : Nat) (e : Ev) : Ev := if (i : Int) < e.k then ⟨e.k + 1, e.t, e.o⟩ else e
theorem gl_dup : ∀ d, gl (fkK (dup l i)) (dup l i) (i + 1 + d + 1) = (gl (fkK l) l (i + 1 + d)).map (shE i)
  | 0 => by
    rw [gl_no (fkK_mid hi hw)]
    have e : gl (fkK (dup l i)) (dup l i) (i + 1) = gl (fkK l) l (i + 1) := gl_congr fun j hj => ⟨fkK_lowD hi (by omega), fun _ => by rw [eZ_low hi (by omega)]⟩
    rw [e]
    have hid : (gl (fkK l) l (i + 1)).map (shE i) = (gl (fkK l) l (i + 1)).map id := List.map_congr_left fun a ha => by
      have := gl_low ha
      unfold shE
      rw [if_neg (by omega)]; rfl
    rw [Nat.add_zero, hid, List.map_id]
  | d + 1 => by
    show gl (fkK (dup l i)) (dup l i) ((i + 1 + d + 1) + 1) = (gl (fkK l) l ((i + 1 + d) + 1)).map (shE i)
    rw [gl, gl_dup d, gl, fkK_highD hi hw (by omega), eZ_high hi (by omega)]
    split
    · rfl
    · rw [List.map_append]
      congr 1
      simp only [List.map_cons, List.map_nil, shE]
      rw [if_pos (by omega)]
      rfl
end
theorem may_ins {p : List Ev} {w : Ev} (hs : syn w = false) (hpw : wrong p w = 0) : ∀ (k : Nat) (q : List Ev), q.length = k → may (p ++ q) = 0 → (p ++ q).length < 80 → may (p ++ [w] ++ q) = 0
  | 0, q, hk, h, hl => by
    have : q = [] := List.eq_nil_of_length_eq_zero hk
    subst this
    rw [List.append_nil] at h hl ⊢
    exact may_snoc_iff.2 ⟨h, hpw, hl⟩
  | k + 1, q, hk, h, hl => by
    obtain ⟨r, e, rfl⟩ : ∃ r e, q = r ++ [e] := by
      have hne : q ≠ [] := by intro hh; rw [hh] at hk; cases hk
      exact ⟨q.dropLast, q.getLast hne, (List.dropLast_concat_getLast hne).symm⟩
    rw [← List.append_assoc] at h hl ⊢
    rw [List.length_append] at hl hk
    simp only [List.length_cons, List.length_nil] at hl hk
    have h1 := may_snoc_iff.1 h
    have ih := may_ins hs hpw k r (by omega) h1.1 (by omega)
    refine may_snoc_iff.2 ⟨ih, ?_, ?_⟩
    · rw [← h1.2.1]
      refine wrong_eq ?_ e
      simp [List.filter_append, hs]
    · simp only [List.length_append, List.length_cons, List.length_nil] at hl ⊢
      omega
theorem may_dup {l : List Ev} {i : Nat} (hm : may l = 0) (hi : i < l.length) (hw : kZ l i = 2) (hl : l.length < 80) : may (dup l i) = 0 := by
  have he := eZ_get hi
  have hs : syn (eZ l i) = false := by unfold syn; rw [decide_eq_false_iff_not]; unfold kZ at hw; omega
  have hd : l.drop i = eZ l i :: l.drop (i + 1) := by
    have h1 := List.getElem?_eq_some_iff.1 he
    rw [List.drop_eq_getElem_cons h1.1, h1.2]
  have e : dup l i = l.take (i + 1) ++ [eZ l i] ++ l.drop (i + 1) := by unfold dup; rw [hd]; simp
  rw [e]
  refine may_ins hs ?_ _ _ rfl (by rw [List.take_append_drop]; exact hm) (by rw [List.take_append_drop]; exact hl)
  rw [← wrong_at hm he]
  refine wrong_eq ?_ _
  rw [take_snoc' he, List.filter_append]
  simp [hs]
end Go.Proofs.Yteihildhlcggoaa
namespace Go.Proofs.Yteihildhlcggoaa
open Go Go.RowKit

/-- Of one variable: the last Write's place or -1; the Reads' places. -/
structure Pl where
  w : Int
  rs : List Nat
  many : Bool
def plStart : Pl := ⟨-1, [], false⟩
/-- Known at event j. -/
def knP (l : List Ev) (i : Int) (j : Nat) : Bool := decide (i < 0) || bef l i.toNat j
/-- In the epoch of event j: below m, nothing handed on. -/
def epTo (l : List Ev) (i : Nat) (m : Nat) : Bool := (List.range m).all fun k => decide (k < i) || !(giveB l k (tZ l i))
def epP (l : List Ev) (i : Int) (j : Nat) : Bool := decide (0 ≤ i) && (decide (tZ l i.toNat = tZ l j) && epTo l i.toNat j)
def ltP (l : List Ev) (rs : List Nat) (j : Nat) : Bool := rs.any fun i => !(bef l i j)
def plSkR (l : List Ev) (p : Pl) (j : Nat) : Bool := !p.many && (decide (p.rs.length = 1) && epP l ((p.rs[0]?).getD 0 : Nat) j)
def plR (l : List Ev) (p : Pl) (j : Nat) : Pl :=
  if plSkR l p j = true then p
  else if p.many = false ∧ ltP l p.rs j = false then { p with rs := [j] }
  else { p with many := true, rs := (p.rs.filter fun i => decide (tZ l i ≠ tZ l j)) ++ [j] }
def plW (l : List Ev) (p : Pl) (j : Nat) : Pl := if epP l p.w j = true then p else ⟨(j : Nat), if p.many = true then [] else p.rs, false⟩
def plStep (l : List Ev) (p : Pl) (j : Nat) : Pl := if kZ l j = 1 then plR l p j else if kZ l j = 2 then plW l p j else p
def plK (l : List Ev) (p : Pl) (j : Nat) : Int :=
  if kZ l j = 1 then (if plSkR l p j = true then 0 else if knP l p.w j = true then 0 else 2)
  else if kZ l j = 2 then (if epP l p.w j = true then 0 else if knP l p.w j = true then (if ltP l p.rs j = true then 3 else 0) else 1) else 0
def plSl (l : List Ev) (p : Pl) (j : Nat) : Nat := if kZ l j = 1 then (if plSkR l p j = true then 0 else if p.many = true then 0 else if ltP l p.rs j = true then 1 else 0) else 0
def plTo (l : List Ev) (x : Nat) : Nat → Pl
  | 0 => plStart
  | k + 1 => if oZ l k = x then plStep l (plTo l x k) k else plTo l x k
theorem onr_same {l : List Ev} (hm : may l = 0) (u : Nat) {i : Nat} : ∀ {k : Nat}, i ≤ k → k ≤ l.length → (onr l i u = onr l k u ↔ ∀ m, i ≤ m → m < k → giveB l m u = false)
  | 0, h, _ => by
    obtain rfl : i = 0 := by omega
    exact ⟨fun _ m h1 h2 => by omega, fun _ => rfl⟩
  | k + 1, h, hk => by
    by_cases e : i = k + 1
    · subst e; exact ⟨fun _ m h1 h2 => by omega, fun _ => rfl⟩
    · have ih := onr_same hm u (show i ≤ k by omega) (by omega)
      have h1 := onr_le2 hm u (show i ≤ k by omega) (by omega)
      rw [onr_succ hm (by omega)]
      constructor
      · intro hh m h2 h3
        cases hg : giveB l k u
        · rw [hg] at hh
          simp at hh
          rcases Nat.lt_succ_iff_lt_or_eq.1 h3 with h3 | rfl
          · exact ih.1 hh m h2 h3
          · exact hg
        · rw [hg] at hh
          simp at hh
          omega
      · intro hh
        rw [hh k (by omega) (by omega)]
        simp
        exact ih.2 fun m h2 h3 => hh m h2 (by omega)
theorem epTo_iff {l : List Ev} {i j : Nat} : epTo l i j = true ↔ ∀ m, i ≤ m → m < j → giveB l m (tZ l i) = false := by
  unfold epTo
  simp only [List.all_eq_true, List.mem_range, Bool.or_eq_true, decide_eq_true_eq, Bool.not_eq_true']
  constructor
  · intro h m h1 h2
    rcases h m h2 with h3 | h3
    · omega
    · exact h3
  · intro h m h2
    by_cases h1 : m < i
    · exact .inl h1
    · exact .inr (h m (by omega) h2)
theorem epP_iff {l : List Ev} (hm : may l = 0) {i j : Nat} (hij : i < j) (hj : j < l.length) : epP l (i : Nat) j = true ↔ tZ l i = tZ l j ∧ epo l i = epo l j := by
  unfold epP
  simp only [Int.toNat_natCast, Bool.and_eq_true, decide_eq_true_eq, epTo_iff]
  constructor
  · rintro ⟨_, h1, h2⟩
    refine ⟨h1, ?_⟩
    rw [epo_onr, epo_onr, ← h1]
    exact (onr_same hm _ (Nat.le_of_lt hij) (Nat.le_of_lt hj)).2 h2
  · rintro ⟨h1, h2⟩
    refine ⟨by omega, h1, ?_⟩
    rw [epo_onr, epo_onr, ← h1] at h2
    exact (onr_same hm _ (Nat.le_of_lt hij) (Nat.le_of_lt hj)).1 h2
structure PlR (l : List Ev) (x k : Nat) (p : Pl) (s : Fs) : Prop where
  w : (p.w = -1 ∧ s.wt = 0 ∧ s.wn = 0) ∨ ∃ i : Nat, i < k ∧ p.w = (i : Nat) ∧ s.wt = tZ l i ∧ s.wn = epo l i
  my : p.many = s.many
  mem : ∀ i ∈ p.rs, i < k
  r : s.many = false → (p.rs = [] ∧ s.rt = 0 ∧ s.rn = 0) ∨ ∃ i, p.rs = [i] ∧ s.rt = tZ l i ∧ s.rn = epo l i
  rc1 : s.many = true → ∀ i ∈ p.rs, s.rc (tZ l i) = epo l i
  rc2 : s.many = true → ∀ u, s.rc u = 0 ∨ ∃ i ∈ p.rs, tZ l i = u
  cl : s.many = true → s.rt = 0 ∧ s.rn = 0
  len : p.rs.length ≤ k
theorem PlR.up {l : List Ev} {x k : Nat} {p : Pl} {s : Fs} (h : PlR l x k p s) : PlR l x (k + 1) p s :=
  ⟨h.w.imp id fun ⟨i, h1, h2⟩ => ⟨i, by omega, h2⟩, h.my, fun i hi => by have := h.mem i hi; omega, h.r, h.rc1, h.rc2, h.cl, by have := h.len; omega⟩
section
variable {l : List Ev} (hm : may l = 0) {x j : Nat} (hj : j < l.length) (hk : kZ l j = 1 ∨ kZ l j = 2) {p : Pl} {s : Fs} (h : PlR l x j p s)
include hm hj h
theorem plr_kn (hk : kZ l j = 1 ∨ kZ l j = 2) : knP l p.w j = decide (s.wn ≤ cZ l j s.wt) := by
  unfold knP
  rcases h.w with ⟨h1, h2, h3⟩ | ⟨i, h1, h2, h3, h4⟩
  · rw [h1, h3]; simp
  · rw [h2, h3, h4, Int.toNat_natCast, decide_eq_false (by omega), Bool.false_or, Bool.eq_iff_iff, decide_eq_true_iff]
    exact (acc_iff hm hj hk h1).symm
theorem plr_sw : epP l p.w j = skW s (tZ l j) (cZ l j) := by
  have hp := epo_pos hm hj
  unfold skW
  rcases h.w with ⟨h1, h2, h3⟩ | ⟨i, h1, h2, h3, h4⟩
  · rw [h1, h2, h3, cZ_own, show decide (0 = epo l j) = false by rw [decide_eq_false_iff_not]; omega, Bool.and_false]
    rfl
  · rw [h2, Bool.eq_iff_iff, epP_iff hm h1 hj, h3, h4, cZ_own]; simp
theorem plr_late (hk : kZ l j = 1 ∨ kZ l j = 2) : ltP l p.rs j = !(rKn s (cZ l j)) := by
  unfold ltP rKn
  cases hmy : s.many
  · rcases h.r hmy with ⟨h1, h2, h3⟩ | ⟨i, h1, h2, h3⟩
    · rw [h1, h3]; simp
    · rw [h1, h2, h3]
      have hi := h.mem i (by rw [h1]; simp)
      have := acc_iff hm hj hk hi
      simp only [List.any_cons, List.any_nil, Bool.or_false, Bool.false_eq_true, if_false]
      congr 1
      rw [Bool.eq_iff_iff, decide_eq_true_iff]
      exact this.symm
  · rw [if_pos rfl, Bool.eq_iff_iff]
    simp only [List.any_eq_true, Bool.not_eq_true', ← Bool.not_eq_true, knwB_iff]
    constructor
    · rintro ⟨i, hi, hb⟩ hall
      have h1 := hall (tZ l i) (tZ_lt hm (by have := h.mem i hi; omega))
      rw [h.rc1 hmy i hi] at h1
      exact hb ((acc_iff hm hj hk (h.mem i hi)).1 h1)
    · intro hn
      have : ∃ u, u < 6 ∧ ¬ s.rc u ≤ cZ l j u := by
        refine Classical.byContradiction fun hx => hn fun u hu => ?_
        refine Classical.byContradiction fun h9 => hx ⟨u, hu, h9⟩
      obtain ⟨u, _, hu⟩ := this
      rcases h.rc2 hmy u with h0 | ⟨i, hi, rfl⟩
      · rw [h0] at hu; exact absurd (Nat.zero_le _) hu
      · refine ⟨i, hi, fun hb => hu ?_⟩
        rw [h.rc1 hmy i hi]
        exact (acc_iff hm hj hk (h.mem i hi)).2 hb
theorem plr_sr : plSkR l p j = skR s (tZ l j) (cZ l j) := by
  have hp := epo_pos hm hj
  unfold plSkR skR
  rw [h.my]
  cases hmy : s.many
  · rcases h.r hmy with ⟨h1, h2, h3⟩ | ⟨i, h1, h2, h3⟩
    · rw [h1, h2, h3, cZ_own, show decide (0 = epo l j) = false by rw [decide_eq_false_iff_not]; omega]
      simp
    · have hi := h.mem i (by rw [h1]; simp)
      rw [h1, h2, h3, cZ_own]
      simp only [Bool.not_false, Bool.true_and, List.length_cons, List.length_nil, decide_true, List.getElem?_cons_zero, Option.getD_some]
      rw [Bool.eq_iff_iff, epP_iff hm hi hj]; simp
  · simp
theorem plr_step (ho : oZ l j = x) : PlR l x (j + 1) (plStep l p j) (fsStep s (kZ l j) (tZ l j) (cZ l j)) ∧ plK l p j = fsK s (kZ l j) (tZ l j) (cZ l j) ∧ plSl l p j = fsSl s (kZ l j) (tZ l j) (cZ l j) := by
  have hu := h.up
  unfold plStep fsStep plK fsK plSl fsSl
  by_cases h1 : kZ l j = 1
  · simp only [if_pos h1]
    rw [plr_sr hm hj h, plr_kn hm hj h (.inl h1), plr_late hm hj h (.inl h1), h.my]
    refine ⟨?_, ?_, ?_⟩
    · unfold plR
      rw [plr_sr hm hj h, plr_late hm hj h (.inl h1), h.my]
      by_cases hs : skR s (tZ l j) (cZ l j) = true
      · rw [if_pos hs, if_pos hs]; exact hu
      · rw [if_neg hs, if_neg hs]
        unfold fsR
        cases hmy : s.many
        · have hr : rKn s (cZ l j) = decide (s.rn ≤ cZ l j s.rt) := by unfold rKn; rw [hmy]; simp
          rw [hr]
          simp only [Bool.false_eq_true, if_false]
          by_cases hkn : s.rn ≤ cZ l j s.rt
          · rw [if_pos hkn, if_pos ⟨trivial, by simp [hkn]⟩]
            exact ⟨hu.w, rfl, by simp, fun _ => .inr ⟨j, rfl, rfl, cZ_own l j⟩, fun e => (by simp at e), fun e => (by simp at e), fun e => (by simp at e), by simp⟩
          · rw [if_neg hkn, if_neg (by simp [hkn])]
            obtain ⟨i, g1, g2, g3⟩ : ∃ i, p.rs = [i] ∧ s.rt = tZ l i ∧ s.rn = epo l i := by
              rcases h.r hmy with ⟨_, _, g⟩ | g
              · rw [g] at hkn; exact absurd (Nat.zero_le _) hkn
              · exact g
            have hij := h.mem i (by rw [g1]; simp)
            have hne : tZ l i ≠ tZ l j := fun e => hkn (by rw [g2, g3, e, cZ_own, epo_onr, epo_onr, e]; exact onr_le2 hm _ (Nat.le_of_lt hij) (Nat.le_of_lt hj))
            have hf : (p.rs.filter fun i => decide (tZ l i ≠ tZ l j)) = [i] := by rw [g1]; simp [hne]
            rw [hf]
            refine ⟨hu.w, rfl, (by simp; omega), fun e => (by simp at e), fun _ a ha => ?_, fun _ u => ?_, fun _ => ⟨rfl, rfl⟩, (by simp; omega)⟩
            · simp at ha
              dsimp only
              rcases ha with rfl | rfl
              · rw [if_neg hne, if_pos g2.symm, g3]
              · rw [if_pos rfl]; exact cZ_own l _
            · dsimp only
              by_cases e : u = tZ l j
              · exact .inr ⟨j, by simp, e.symm⟩
              · rw [if_neg e]
                by_cases e2 : u = s.rt
                · exact .inr ⟨i, by simp, by rw [e2, g2]⟩
                · rw [if_neg e2]; exact .inl rfl
        · rw [if_neg (by simp), if_pos rfl]
          refine ⟨hu.w, rfl, fun a ha => ?_, fun e => (by simp at e), fun _ a ha => ?_, fun _ u => ?_, fun _ => h.cl hmy, ?_⟩
          · rcases List.mem_append.1 ha with ha | ha
            · have := h.mem a (List.mem_filter.1 ha).1; omega
            · simp at ha; omega
          · dsimp only
            rcases List.mem_append.1 ha with ha | ha
            · have := List.mem_filter.1 ha
              rw [if_neg (by simpa using this.2)]
              exact h.rc1 hmy a this.1
            · simp at ha
              rw [ha, if_pos rfl]; exact cZ_own l j
          · dsimp only
            by_cases e : u = tZ l j
            · exact .inr ⟨j, by simp, e.symm⟩
            · rw [if_neg e]
              rcases h.rc2 hmy u with g | ⟨i, g1, g2⟩
              · exact .inl g
              · exact .inr ⟨i, List.mem_append.2 (.inl (List.mem_filter.2 ⟨g1, by simp; omega⟩)), g2⟩
          · rw [List.length_append]
            exact Nat.succ_le_succ (Nat.le_trans (List.length_filter_le _ _) h.len)
    · split
      · rfl
      · by_cases hw : s.wn ≤ cZ l j s.wt <;> simp [hw]
    · split
      · rfl
      · cases hmy : s.many
        · have hr : rKn s (cZ l j) = decide (s.rn ≤ cZ l j s.rt) := by unfold rKn; rw [hmy]; simp
          rw [hr]
          by_cases hkn : s.rn ≤ cZ l j s.rt <;> simp [hkn]
        · simp
  · simp only [if_neg h1]
    by_cases h2 : kZ l j = 2
    · simp only [if_pos h2]
      unfold plW
      rw [plr_sw hm hj h, plr_kn hm hj h (.inr h2), plr_late hm hj h (.inr h2)]
      refine ⟨?_, ?_, trivial⟩
      · by_cases hs : skW s (tZ l j) (cZ l j) = true
        · rw [if_pos hs, if_pos hs]; exact hu
        · rw [if_neg hs, if_neg hs]
          unfold fsW
          rw [h.my]
          cases hmy : s.many
          · refine ⟨.inr ⟨j, by omega, rfl, rfl, cZ_own l j⟩, rfl, ?_, fun _ => ?_, fun e => (by simp at e), fun e => (by simp at e), fun e => (by simp at e), ?_⟩
            · exact fun a ha => hu.mem a ha
            · exact h.r hmy
            · exact hu.len
          · refine ⟨.inr ⟨j, by omega, rfl, rfl, cZ_own l j⟩, rfl, by simp, fun _ => .inl ⟨rfl, h.cl hmy⟩, fun e => absurd (show false = true from e) (by simp), fun e => absurd (show false = true from e) (by simp), fun e => absurd (show false = true from e) (by simp), by simp⟩
      · split
        · rfl
        · by_cases hw : s.wn ≤ cZ l j s.wt
          · cases hr : rKn s (cZ l j) <;> simp [hw]
          · simp [hw]
    · simp only [if_neg h2]
      exact ⟨hu, trivial, trivial⟩
end
theorem plr_all {l : List Ev} (hm : may l = 0) (x : Nat) : ∀ k, k ≤ l.length → PlR l x k (plTo l x k) (fsTo l x k)
  | 0, _ => ⟨.inl ⟨rfl, rfl, rfl⟩, rfl, (by intro i hi; cases hi), fun _ => .inl ⟨rfl, rfl, rfl⟩, fun e => absurd (show false = true from e) (by simp), fun e => absurd (show false = true from e) (by simp), fun e => absurd (show false = true from e) (by simp), Nat.le_refl _⟩
  | k + 1, hk => by
    have ih := plr_all hm x k (by omega)
    rw [plTo, fsTo]
    split
    · rename_i ho
      exact (plr_step hm (by omega) ih ho).1
    · exact ih.up
end Go.Proofs.Yteihildhlcggoaa
namespace Go.Proofs.Yteihildhlcggoaa
open Go Go.RowKit

theorem acc_o {l : List Ev} (hm : may l = 0) {j : Nat} (hj : j < l.length) (hk : kZ l j = 1 ∨ kZ l j = 2) : oZ l j < 8 := by
  have h := isEv_o (eZ_ok hm hj)
  unfold kZ at hk
  have : nobj (eZ l j).k = 8 := by unfold nobj; rw [if_pos hk]
  unfold oZ; omega
theorem fkK_acc {l : List Ev} {j : Nat} (h : fkK l j ≠ 0) : kZ l j = 1 ∨ kZ l j = 2 := by
  refine Classical.byContradiction fun hn => h ?_
  unfold fkK fsK
  rw [if_neg (fun e => hn (.inl e)), if_neg (fun e => hn (.inr e))]
theorem fsSl_acc {l : List Ev} {j : Nat} {s : Fs} (h : fsSl s (kZ l j) (tZ l j) (cZ l j) ≠ 0) : kZ l j = 1 := by
  refine Classical.byContradiction fun hn => h ?_
  unfold fsSl
  rw [if_neg hn]
/-- How often R of variable x became a clock. -/
def slX (l : List Ev) (x : Nat) : Nat → Nat
  | 0 => 0
  | k + 1 => slX l x k + if oZ l k = x then plSl l (plTo l x k) k else 0
def slS (l : List Ev) (k : Nat) : Nat → Nat
  | 0 => 0
  | m + 1 => slS l k m + slX l m k
theorem slX_le {l : List Ev} (x : Nat) : ∀ k, slX l x k ≤ k
  | 0 => Nat.le_refl _
  | k + 1 => by
    have ih := slX_le (l := l) x k
    have : plSl l (plTo l x k) k ≤ 1 := by
      unfold plSl
      repeat' split
      all_goals omega
    rw [slX]
    split <;> omega
theorem slS_le {l : List Ev} (k : Nat) : ∀ m, slS l k m ≤ m * k
  | 0 => by simp [slS]
  | m + 1 => by
    have h1 := slS_le (l := l) k m
    have h2 := slX_le (l := l) m k
    rw [slS, Nat.succ_mul]; omega
theorem slS_zero {l : List Ev} : ∀ m, slS l 0 m = 0
  | 0 => rfl
  | m + 1 => by rw [slS, slS_zero m]; rfl
theorem slS_step {l : List Ev} {k : Nat} : ∀ m, slS l (k + 1) m = slS l k m + if oZ l k < m then plSl l (plTo l (oZ l k) k) k else 0
  | 0 => by simp [slS]
  | m + 1 => by
    rw [slS, slS, slS_step m, slX]
    by_cases h1 : oZ l k = m
    · subst h1
      rw [if_neg (Nat.lt_irrefl _), if_pos rfl, if_pos (Nat.lt_succ_self _)]; omega
    · rw [if_neg h1]
      by_cases h2 : oZ l k < m
      · rw [if_pos h2, if_pos (by omega)]; omega
      · rw [if_neg h2, if_neg (by omega)]; omega
theorem slS_all {l : List Ev} (hm : may l = 0) : ∀ k, k ≤ l.length → slS l k 8 = slT l k
  | 0, _ => slS_zero 8
  | k + 1, hk => by
    have h := plr_step hm (show k < l.length by omega) (plr_all hm (oZ l k) k (by omega)) rfl
    rw [slS_step, slS_all hm k (by omega), slT, h.2.2]
    by_cases h8 : oZ l k < 8
    · rw [if_pos h8]
    · rw [if_neg h8]
      have : fsSl (fsTo l (oZ l k) k) (kZ l k) (tZ l k) (cZ l k) = 0 := by
        refine Classical.byContradiction fun hn => h8 (acc_o hm (by omega) (.inl (fsSl_acc hn)))
      rw [this]
/-- The flags of variable x. -/
def kX (l : List Ev) (x j : Nat) : Int := if oZ l j = x then fkK l j else 0
/-- The flags of the variables below m, and those of m below k. -/
def faT (l : List Ev) (n m k : Nat) : List Ev := ((List.range m).flatMap fun x => gl (kX l x) l n) ++ gl (kX l m) l k
theorem faT_next (l : List Ev) (n m : Nat) : faT l n m n = faT l n (m + 1) 0 := by
  unfold faT
  rw [List.range_succ, List.flatMap_append]
  simp [gl]
theorem faT_yes {l : List Ev} {n m k : Nat} (h : kX l m k ≠ 0) : faT l n m (k + 1) = faT l n m k ++ [⟨(k : Nat), (eZ l k).o, kX l m k⟩] := by unfold faT; rw [gl_yes h, List.append_assoc]
theorem faT_no {l : List Ev} {n m k : Nat} (h : kX l m k = 0) : faT l n m (k + 1) = faT l n m k := by unfold faT; rw [gl_no h]
theorem faT_len (l : List Ev) (n m k : Nat) : (faT l n m k).length ≤ m * n + k := by
  unfold faT
  rw [List.length_append]
  have h1 := gl_len (kX l m) l k
  have h2 : ((List.range m).flatMap fun x => gl (kX l x) l n).length ≤ m * n := by
    clear h1
    induction m with
    | zero => simp
    | succ m ih =>
      rw [List.range_succ, List.flatMap_append, List.length_append, Nat.succ_mul]
      have := gl_len (kX l m) l n
      simp only [List.flatMap_cons, List.flatMap_nil, List.append_nil]
      omega
  omega
def atB (j : Nat) (e : Ev) : Bool := e.k == (j : Int)
theorem gl_filter {K : Nat → Int} {l : List Ev} {j : Nat} : ∀ {n : Nat}, (gl K l n).filter (atB j) = if j < n ∧ K j ≠ 0 then [⟨(j : Nat), (eZ l j).o, K j⟩] else []
  | 0 => by simp [gl]
  | n + 1 => by
    rw [gl]
    by_cases h0 : K n = 0
    · rw [if_pos h0, gl_filter]
      by_cases hj : j < n
      · by_cases hk : K j ≠ 0
        · rw [if_pos ⟨hj, hk⟩, if_pos ⟨by omega, hk⟩]
        · rw [if_neg (fun h => hk h.2), if_neg (fun h => hk h.2)]
      · rw [if_neg (fun h => hj h.1), if_neg]
        rintro ⟨h1, h2⟩
        have : j = n := by omega
        exact h2 (this ▸ h0)
    · rw [if_neg h0, List.filter_append, gl_filter]
      by_cases hj : j = n
      · subst hj
        rw [if_neg (fun h => absurd h.1 (Nat.lt_irrefl _)), if_pos ⟨Nat.lt_succ_self _, h0⟩]
        simp [atB]
      · have : [(⟨(n : Nat), (eZ l n).o, K n⟩ : Ev)].filter (atB j) = [] := by
          rw [List.filter_cons_of_neg (by unfold atB; simp; omega)]; rfl
        rw [this, List.append_nil]
        by_cases hc : j < n ∧ K j ≠ 0
        · rw [if_pos hc, if_pos ⟨by omega, hc.2⟩]
        · rw [if_neg hc, if_neg (fun h => hc ⟨by omega, h.2⟩)]
theorem faT_filter {l : List Ev} (hm : may l = 0) {j n : Nat} (hj : j < n) (hn : n ≤ l.length) : (faT l n 8 0).filter (atB j) = if fkK l j = 0 then [] else [⟨(j : Nat), (eZ l j).o, fkK l j⟩] := by
  have key : ∀ m, ((List.range m).flatMap fun x => gl (kX l x) l n).filter (atB j) = if oZ l j < m ∧ fkK l j ≠ 0 then [⟨(j : Nat), (eZ l j).o, fkK l j⟩] else [] := by
    intro m
    induction m with
    | zero => simp
    | succ m ih =>
      rw [List.range_succ, List.flatMap_append, List.filter_append, ih]
      simp only [List.flatMap_cons, List.flatMap_nil, List.append_nil]
      rw [gl_filter]
      unfold kX
      by_cases ho : oZ l j = m
      · rw [if_pos ho]
        by_cases h0 : fkK l j = 0
        · simp [h0]
        · rw [if_neg (by omega), if_pos ⟨hj, h0⟩, if_pos ⟨by omega, h0⟩]; rfl
      · rw [if_neg ho]
        simp only [ne_eq, not_true, and_false, if_false, List.append_nil]
        by_cases hc : oZ l j < m ∧ fkK l j ≠ 0
        · rw [if_pos hc, if_pos ⟨by omega, hc.2⟩]
        · rw [if_neg hc, if_neg (fun h => hc ⟨by omega, h.2⟩)]
  unfold faT
  rw [gl, List.append_nil, key]
  by_cases h0 : fkK l j = 0
  · rw [if_pos h0, if_neg (fun h => h.2 h0)]
  · rw [if_neg h0, if_pos ⟨acc_o hm (by omega) (fkK_acc h0), h0⟩]
/-- The flags behind place j, and of those at j the first i that were found. -/
def outT (l : List Ev) (fa : List Ev) (j i : Nat) : List Ev := gl (fkK l) l j ++ (fa.take i).filter (atB j)
theorem outT_zero (l fa : List Ev) (j : Nat) : outT l fa j 0 = gl (fkK l) l j := by simp [outT]
theorem outT_yes {l fa : List Ev} {j i : Nat} {e : Ev} (h : fa[i]? = some e) (he : e.k = j) : outT l fa j (i + 1) = outT l fa j i ++ [e] := by
  unfold outT
  rw [take_snoc' h, List.filter_append, ← List.append_assoc]
  congr 1
  simp [atB, he]
theorem outT_no {l fa : List Ev} {j i : Nat} {e : Ev} (h : fa[i]? = some e) (he : e.k ≠ j) : outT l fa j (i + 1) = outT l fa j i := by
  unfold outT
  rw [take_snoc' h, List.filter_append]
  have : [e].filter (atB j) = [] := by rw [List.filter_cons_of_neg (by unfold atB; simpa using he)]; rfl
  rw [this, List.append_nil]
theorem outT_all {l : List Ev} (hm : may l = 0) {j n : Nat} (hj : j < n) (hn : n ≤ l.length) : outT l (faT l n 8 0) j (faT l n 8 0).length = gl (fkK l) l (j + 1) := by
  unfold outT
  rw [List.take_length, faT_filter hm hj hn, gl]
  split <;> simp
theorem outT_len (l fa : List Ev) (j i : Nat) : (outT l fa j i).length ≤ j + i := by
  unfold outT
  rw [List.length_append]
  have h1 := gl_len (fkK l) l j
  have h2 : ((fa.take i).filter (atB j)).length ≤ i := Nat.le_trans (List.length_filter_le _ _) (by rw [List.length_take]; omega)
  omega
end Go.Proofs.Yteihildhlcggoaa

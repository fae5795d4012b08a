import Derived.Test.YtjddahidkodieaaYFl
set_option linter.all false
set_option maxRecDepth 100000
namespace Go.Proofs.Ytjddahidkodieaa
open Go Go.RowKit

structure Fs where
  wt : Nat
  wn : Nat
  many : Bool
  rt : Nat
  rn : Nat
  rc : Nat → Nat
def fsStart : Fs := ⟨0, 0, false, 0, 0, fun _ => 0⟩
def knwB (r c : Nat → Nat) : Bool := (List.range 6).all fun u => decide (r u ≤ c u)
theorem knwB_iff (r c : Nat → Nat) : knwB r c = true ↔ ∀ u, u < 6 → r u ≤ c u := by simp [knwB]
def rKn (s : Fs) (c : Nat → Nat) : Bool := if s.many = true then knwB s.rc c else decide (s.rn ≤ c s.rt)
def skR (s : Fs) (t : Nat) (c : Nat → Nat) : Bool := !s.many && (decide (s.rt = t) && decide (s.rn = c t))
def skW (s : Fs) (t : Nat) (c : Nat → Nat) : Bool := decide (s.wt = t) && decide (s.wn = c t)
def fsR (s : Fs) (t : Nat) (c : Nat → Nat) : Fs :=
  if s.many = true then { s with rc := fun u => if u = t then c t else s.rc u }
  else if s.rn ≤ c s.rt then { s with rt := t, rn := c t }
  else { s with many := true, rt := 0, rn := 0, rc := fun u => if u = t then c t else if u = s.rt then s.rn else 0 }
def fsW (s : Fs) (t : Nat) (c : Nat → Nat) : Fs := { s with wt := t, wn := c t, many := false, rc := fun _ => 0 }
def fsStep (s : Fs) (k : Int) (t : Nat) (c : Nat → Nat) : Fs := if k = 1 then (if skR s t c = true then s else fsR s t c) else if k = 2 then (if skW s t c = true then s else fsW s t c) else s
def fsK (s : Fs) (k : Int) (t : Nat) (c : Nat → Nat) : Int :=
  if k = 1 then (if skR s t c = true then 0 else if s.wn ≤ c s.wt then 0 else 2)
  else if k = 2 then (if skW s t c = true then 0 else if s.wn ≤ c s.wt then (if rKn s c = true then 0 else 3) else 1) else 0
def fsSl (s : Fs) (k : Int) (t : Nat) (c : Nat → Nat) : Nat := if k = 1 then (if skR s t c = true then 0 else if s.many = true then 0 else if s.rn ≤ c s.rt then 0 else 1) else 0
def cZ (l : List Ev) (k : Nat) : Nat → Nat := (djTo l k).C (tZ l k)
def fsTo (l : List Ev) (x : Nat) : Nat → Fs
  | 0 => fsStart
  | k + 1 => if oZ l k = x then fsStep (fsTo l x k) (kZ l k) (tZ l k) (cZ l k) else fsTo l x k
def fkK (l : List Ev) (k : Nat) : Int := fsK (fsTo l (oZ l k) k) (kZ l k) (tZ l k) (cZ l k)
def slT (l : List Ev) : Nat → Nat
  | 0 => 0
  | k + 1 => slT l k + fsSl (fsTo l (oZ l k) k) (kZ l k) (tZ l k) (cZ l k)
theorem cZ_own (l : List Ev) (k : Nat) : cZ l k (tZ l k) = epo l k := rfl
structure FsI (l : List Ev) (x k : Nat) (s : Fs) : Prop where
  w : (s.wt = 0 ∧ s.wn = 0) ∨ ∃ i, i < k ∧ kZ l i = 2 ∧ oZ l i = x ∧ s.wt = tZ l i ∧ s.wn = epo l i
  r : (s.rt = 0 ∧ s.rn = 0) ∨ ∃ i, i < k ∧ kZ l i = 1 ∧ oZ l i = x ∧ s.rt = tZ l i ∧ s.rn = epo l i
  rc : ∀ u, s.rc u = 0 ∨ ∃ i, i < k ∧ kZ l i = 1 ∧ oZ l i = x ∧ tZ l i = u ∧ s.rc u = epo l i
theorem FsI.up {l : List Ev} {x k : Nat} {s : Fs} (h : FsI l x k s) : FsI l x (k + 1) s :=
  ⟨h.w.imp id fun ⟨i, h1, h2⟩ => ⟨i, by omega, h2⟩, h.r.imp id fun ⟨i, h1, h2⟩ => ⟨i, by omega, h2⟩, fun u => (h.rc u).imp id fun ⟨i, h1, h2⟩ => ⟨i, by omega, h2⟩⟩
theorem fsI_all (l : List Ev) (x : Nat) : ∀ k, FsI l x k (fsTo l x k)
  | 0 => ⟨.inl ⟨rfl, rfl⟩, .inl ⟨rfl, rfl⟩, fun _ => .inl rfl⟩
  | k + 1 => by
    have h := fsI_all l x k
    have hu := h.up
    rw [fsTo]
    split
    · rename_i ho
      generalize fsTo l x k = s at *
      unfold fsStep
      split
      · rename_i hk
        split
        · exact hu
        · unfold fsR
          split
          · refine ⟨hu.w, hu.r, fun u => ?_⟩
            dsimp only
            by_cases e : u = tZ l k
            · rw [if_pos e]; exact .inr ⟨k, by omega, hk, ho, e.symm, cZ_own l k⟩
            · rw [if_neg e]; exact hu.rc u
          · split
            · exact ⟨hu.w, .inr ⟨k, by omega, hk, ho, rfl, cZ_own l k⟩, hu.rc⟩
            · refine ⟨hu.w, .inl ⟨rfl, rfl⟩, fun u => ?_⟩
              dsimp only
              by_cases e : u = tZ l k
              · rw [if_pos e]; exact .inr ⟨k, by omega, hk, ho, e.symm, cZ_own l k⟩
              · rw [if_neg e]
                by_cases e2 : u = s.rt
                · rw [if_pos e2]
                  rcases hu.r with ⟨_, h0⟩ | ⟨i, h1, h2, h3, h4, h5⟩
                  · exact .inl h0
                  · exact .inr ⟨i, h1, h2, h3, by rw [e2, h4], h5⟩
                · rw [if_neg e2]; exact .inl rfl
      · split
        · rename_i _ hk
          split
          · exact hu
          · exact ⟨.inr ⟨k, by omega, hk, ho, rfl, cZ_own l k⟩, hu.r, fun _ => .inl rfl⟩
        · exact hu
    · exact hu
theorem fk_true {l : List Ev} (hm : may l = 0) {j : Nat} (hj : j < l.length) (h : fkK l j ≠ 0) : hasK (rcsA l) j (fkK l j) = true := by
  have hI := fsI_all l (oZ l j) j
  rw [hasK_iff hm hj h]
  unfold fkK at *
  generalize fsTo l (oZ l j) j = s at *
  have unk : ∀ {i t n : Nat}, (kZ l j = 1 ∨ kZ l j = 2) → i < j → t = tZ l i → n = epo l i → ¬ n ≤ cZ l j t → bef l i j = false := fun {i t n} hk hij ht hn hu => by
    rw [← Bool.not_eq_true, ← acc_iff hm hj hk hij, ← hn, ← ht]; exact hu
  have wun : (kZ l j = 1 ∨ kZ l j = 2) → ¬ s.wn ≤ cZ l j s.wt → ∃ i, i < j ∧ oZ l i = oZ l j ∧ kZ l i = 2 ∧ bef l i j = false := fun hk hu => by
    rcases hI.w with ⟨_, h0⟩ | ⟨i, h1, h2, h3, h4, h5⟩
    · rw [h0] at hu; exact absurd (Nat.zero_le _) hu
    · exact ⟨i, h1, h3, h2, unk hk h1 h4 h5 hu⟩
  unfold fsK at h ⊢
  by_cases h1 : kZ l j = 1
  · simp only [if_pos h1] at h ⊢
    split at h
    · exact absurd rfl h
    · rename_i hs
      rw [if_neg hs]
      split at h
      · exact absurd rfl h
      · rename_i hw
        rw [if_neg hw]
        obtain ⟨i, g1, g2, g3, g4⟩ := wun (.inl h1) hw
        exact ⟨i, g1, g2, .inr (.inl ⟨rfl, g3, h1⟩), g4⟩
  · simp only [if_neg h1] at h ⊢
    by_cases h2 : kZ l j = 2
    · simp only [if_pos h2] at h ⊢
      split at h
      · exact absurd rfl h
      · rename_i hs
        rw [if_neg hs]
        split at h
        · rename_i hw
          rw [if_pos hw]
          split at h
          · exact absurd rfl h
          · rename_i hr
            rw [if_neg hr]
            have : ∃ i, i < j ∧ oZ l i = oZ l j ∧ kZ l i = 1 ∧ bef l i j = false := by
              unfold rKn at hr
              split at hr
              · rw [knwB_iff] at hr
                have : ∃ u, u < 6 ∧ ¬ s.rc u ≤ cZ l j u := by
                  refine Classical.byContradiction fun hn => hr fun u hu => ?_
                  refine Classical.byContradiction fun h9 => hn ⟨u, hu, h9⟩
                obtain ⟨u, _, hu⟩ := this
                rcases hI.rc u with h0 | ⟨i, g1, g2, g3, g4, g5⟩
                · rw [h0] at hu; exact absurd (Nat.zero_le _) hu
                · exact ⟨i, g1, g3, g2, unk (.inr h2) g1 g4.symm g5 hu⟩
              · rw [decide_eq_true_iff] at hr
                rcases hI.r with ⟨_, h0⟩ | ⟨i, g1, g2, g3, g4, g5⟩
                · rw [h0] at hr; exact absurd (Nat.zero_le _) hr
                · exact ⟨i, g1, g3, g2, unk (.inr h2) g1 g4 g5 hr⟩
            obtain ⟨i, g1, g2, g3, g4⟩ := this
            exact ⟨i, g1, g2, .inr (.inr ⟨rfl, g3, h2⟩), g4⟩
        · rename_i hw
          rw [if_neg hw]
          obtain ⟨i, g1, g2, g3, g4⟩ := wun (.inr h2) hw
          exact ⟨i, g1, g2, .inl ⟨rfl, g3, h2⟩, g4⟩
    · simp only [if_neg h2] at h; exact absurd rfl h
end Go.Proofs.Ytjddahidkodieaa
namespace Go.Proofs.Ytjddahidkodieaa
open Go Go.RowKit

end Go.Proofs.Ytjddahidkodieaa
namespace Go.Proofs.Ytjddahidkodieaa
open Go Go.RowKit

def gl (K : Nat → Int) (l : List Ev) : Nat → List Ev
  | 0 => []
  | k + 1 => if K k = 0 then gl K l k else gl K l k ++ [⟨(k : Nat), (eZ l k).o, K k⟩]
section
variable {K : Nat → Int} {l : List Ev}
theorem gl_yes {k : Nat} (h : K k ≠ 0) : gl K l (k + 1) = gl K l k ++ [⟨(k : Nat), (eZ l k).o, K k⟩] := by rw [gl, if_neg h]
theorem gl_no {k : Nat} (h : K k = 0) : gl K l (k + 1) = gl K l k := by rw [gl, if_pos h]
theorem gl_len (K : Nat → Int) (l : List Ev) : ∀ k, (gl K l k).length ≤ k
  | 0 => Nat.le_refl _
  | k + 1 => by
    have := gl_len K l k
    rw [gl]
    split
    · omega
    · rw [List.length_append]; simp; omega
theorem gl_mem {e : Ev} : ∀ {k : Nat}, e ∈ gl K l k ↔ ∃ j, j < k ∧ K j ≠ 0 ∧ e = ⟨(j : Nat), (eZ l j).o, K j⟩
  | 0 => ⟨fun h => by simp [gl] at h, fun ⟨j, h, _⟩ => by omega⟩
  | k + 1 => by
    rw [gl]
    split
    · rename_i h0
      rw [gl_mem]
      constructor
      · rintro ⟨j, h1, h2⟩; exact ⟨j, by omega, h2⟩
      · rintro ⟨j, h1, h2, h3⟩
        rcases Nat.lt_succ_iff_lt_or_eq.1 h1 with h1 | rfl
        · exact ⟨j, h1, h2, h3⟩
        · exact absurd h0 h2
    · rename_i h0
      rw [List.mem_append, gl_mem, List.mem_singleton]
      constructor
      · rintro (⟨j, h1, h2⟩ | rfl)
        · exact ⟨j, by omega, h2⟩
        · exact ⟨k, by omega, h0, rfl⟩
      · rintro ⟨j, h1, h2, h3⟩
        rcases Nat.lt_succ_iff_lt_or_eq.1 h1 with h1 | rfl
        · exact .inl ⟨j, h1, h2, h3⟩
        · exact .inr h3
theorem gl_nil_iff {k : Nat} : gl K l k = [] ↔ ∀ j, j < k → K j = 0 := by
  constructor
  · intro h j hj
    refine Classical.byContradiction fun h0 => ?_
    have : (⟨(j : Nat), (eZ l j).o, K j⟩ : Ev) ∈ gl K l k := gl_mem.2 ⟨j, hj, h0, rfl⟩
    rw [h] at this; cases this
  · intro h
    cases hg : gl K l k with
    | nil => rfl
    | cons e r =>
      obtain ⟨j, h1, h2, _⟩ := gl_mem.1 (show e ∈ gl K l k by rw [hg]; simp)
      exact absurd (h j h1) h2
end
def fflags (l : List Ev) : List Ev := if may l = 0 then gl (fkK l) l l.length else []
theorem fflags_ok {l : List Ev} (h : may l = 0) : fflags l = gl (fkK l) l l.length := by unfold fflags; rw [if_pos h]
theorem fflags_no {l : List Ev} (h : may l ≠ 0) : fflags l = [] := by unfold fflags; rw [if_neg h]
theorem fsSl_le (s : Fs) (k : Int) (t : Nat) (c : Nat → Nat) : fsSl s k t c ≤ 1 := by
  unfold fsSl
  repeat' split
  all_goals omega
end Go.Proofs.Ytjddahidkodieaa
namespace Go.Proofs.Ytjddahidkodieaa
open Go Go.RowKit

section
variable {l : List Ev} (hm : may l = 0) (x : Nat)
include hm
end
end Go.Proofs.Ytjddahidkodieaa
namespace Go.Proofs.Ytjddahidkodieaa
open Go Go.RowKit

section
variable {l : List Ev} (hm : may l = 0) (h : ∀ i, i < l.length → kZ l i = 1 → tZ l i = oZ l i % 6)
include hm h
end
section
variable {l : List Ev} {i : Nat} (hi : i < l.length)
include hi
variable (hw : kZ l i = 2)
include hw
end
end Go.Proofs.Ytjddahidkodieaa
namespace Go.Proofs.Ytjddahidkodieaa
open Go Go.RowKit

structure Pl where
  w : Int
  rs : List Nat
  many : Bool
structure PlR (l : List Ev) (x k : Nat) (p : Pl) (s : Fs) : Prop where
  w : (p.w = -1 ∧ s.wt = 0 ∧ s.wn = 0) ∨ ∃ i : Nat, i < k ∧ p.w = (i : Nat) ∧ s.wt = tZ l i ∧ s.wn = epo l i
  my : p.many = s.many
  mem : ∀ i ∈ p.rs, i < k
  r : s.many = false → (p.rs = [] ∧ s.rt = 0 ∧ s.rn = 0) ∨ ∃ i, p.rs = [i] ∧ s.rt = tZ l i ∧ s.rn = epo l i
  rc1 : s.many = true → ∀ i ∈ p.rs, s.rc (tZ l i) = epo l i
  rc2 : s.many = true → ∀ u, s.rc u = 0 ∨ ∃ i ∈ p.rs, tZ l i = u
  cl : s.many = true → s.rt = 0 ∧ s.rn = 0
  len : p.rs.length ≤ k
section
variable {l : List Ev} (hm : may l = 0) {x j : Nat} (hj : j < l.length) (hk : kZ l j = 1 ∨ kZ l j = 2) {p : Pl} {s : Fs} (h : PlR l x j p s)
include hm hj h
end
end Go.Proofs.Ytjddahidkodieaa
namespace Go.Proofs.Ytjddahidkodieaa
open Go Go.RowKit

theorem acc_o {l : List Ev} (hm : may l = 0) {j : Nat} (hj : j < l.length) (hk : kZ l j = 1 ∨ kZ l j = 2) : oZ l j < 8 := by
  have h := isEv_o (eZ_ok hm hj)
  unfold kZ at hk
  have : nobj (eZ l j).k = 8 := by unfold nobj; rw [if_pos hk]
  unfold oZ; omega
theorem fkK_acc {l : List Ev} {j : Nat} (h : fkK l j ≠ 0) : kZ l j = 1 ∨ kZ l j = 2 := by
  refine Classical.byContradiction fun hn => h ?_
  unfold fkK fsK
  rw [if_neg (fun e => hn (.inl e)), if_neg (fun e => hn (.inr e))]
theorem fsSl_acc {l : List Ev} {j : Nat} {s : Fs} (h : fsSl s (kZ l j) (tZ l j) (cZ l j) ≠ 0) : kZ l j = 1 := by
  refine Classical.byContradiction fun hn => h ?_
  unfold fsSl
  rw [if_neg hn]
end Go.Proofs.Ytjddahidkodieaa
set_option linter.all false
set_option maxRecDepth 100000
namespace Go.Proofs.Ytjddahidkodieaa
open Go Go.RowKit

structure Gd where
  st : Nat
  th : Nat
  lk : Nat → Bool
def gdStart : Gd := ⟨0, 0, fun _ => true⟩
def acB (l : List Ev) (k : Nat) : Bool := decide (kZ l k = 1 ∨ kZ l k = 2)
def hB (l : List Ev) (k q : Nat) : Bool := decide (owner (l.take k) q = (eZ l k).t)
def gdStep (g : Gd) (k : Int) (t : Nat) (h : Nat → Bool) : Gd :=
  if g.st = 0 then ⟨1, t, g.lk⟩
  else if g.st = 1 ∧ g.th = t then g
  else ⟨if k = 2 ∨ g.st = 3 then 3 else 2, g.th, fun q => g.lk q && h q⟩
def gdTo (l : List Ev) (x : Nat) : Nat → Gd
  | 0 => gdStart
  | k + 1 => if acB l k = true ∧ oZ l k = x then gdStep (gdTo l x k) (kZ l k) (tZ l k) (hB l k) else gdTo l x k
def emp (p : Nat → Bool) : Bool := (List.range 5).all fun q => !p q
theorem emp_no {p : Nat → Bool} {q : Nat} (hq : q < 5) (h : p q = true) : emp p = false := by
  unfold emp
  rw [← Bool.not_eq_true, List.all_eq_true]
  intro h9
  have := h9 q (List.mem_range.2 hq)
  rw [h] at this; cases this
def wn (l : List Ev) (k : Nat) : Bool := acB l k && (decide ((gdTo l (oZ l k) (k + 1)).st = 3) && emp (gdTo l (oZ l k) (k + 1)).lk)
def wl (l : List Ev) : Nat → List Ev
  | 0 => []
  | k + 1 => if wn l k = true then wl l k ++ [⟨(k : Nat), (eZ l k).o, 0⟩] else wl l k
theorem wl_no {l : List Ev} {k : Nat} (h : wn l k = false) : wl l (k + 1) = wl l k := by rw [wl, if_neg (by rw [h]; simp)]
def comTo (l : List Ev) (x : Nat) : Nat → Nat → Bool
  | 0 => fun _ => true
  | k + 1 => if acB l k = true ∧ oZ l k = x then fun q => comTo l x k q && hB l k q else comTo l x k
theorem com_down (l : List Ev) (x : Nat) {q i : Nat} : ∀ {k : Nat}, i ≤ k → comTo l x k q = true → comTo l x i q = true
  | 0, h, hc => by obtain rfl : i = 0 := by omega
                   exact hc
  | k + 1, h, hc => by
    by_cases e : i = k + 1
    · subst e; exact hc
    · refine com_down l x (show i ≤ k by omega) ?_
      rw [comTo] at hc
      split at hc
      · rw [Bool.and_eq_true] at hc; exact hc.1
      · exact hc
theorem com_keep (l : List Ev) (x : Nat) {q : Nat} : ∀ k, comTo l x k q = true → (gdTo l x k).lk q = true
  | 0, _ => rfl
  | k + 1, hc => by
    have ih := com_keep l x (q := q) k
    rw [comTo] at hc
    rw [gdTo]
    by_cases h : acB l k = true ∧ oZ l k = x
    · rw [if_pos h] at hc ⊢
      rw [Bool.and_eq_true] at hc
      have h1 := ih hc.1
      unfold gdStep
      split
      · exact h1
      · split
        · exact h1
        · show ((gdTo l x k).lk q && hB l k q) = true
          rw [h1, hc.2]; rfl
    · rw [if_neg h] at hc ⊢
      exact ih hc
theorem wn_common {l : List Ev} {x q n k : Nat} (hq : q < 5) (hk : k < n) (hc : comTo l x n q = true) (ho : oZ l k = x) : wn l k = false := by
  have h1 := com_keep l x (k + 1) (com_down l x (show k + 1 ≤ n by omega) hc)
  unfold wn
  rw [ho, emp_no hq h1, Bool.and_false, Bool.and_false]
end Go.Proofs.Ytjddahidkodieaa

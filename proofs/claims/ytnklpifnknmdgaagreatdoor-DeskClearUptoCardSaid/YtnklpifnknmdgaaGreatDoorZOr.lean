import Derived.Test.YtnklpifnknmdgaaGreatDoorRows
import Derived.ProofKit
import Derived.OpenShut
import Derived.ShutString
import Derived.ChangeOld
import Derived.Below
import Derived.Lib.SmallJoins
import Derived.SizedLaws
import Derived.Deep.Slices
import Derived.Deep.Fields
import Derived.ChangeSame
import Derived.Test.YtnklpifnknmdgaaGreatDoorZTr
import Derived.Test.YtnklpifnknmdgaaGreatDoorZTrace
set_option linter.all false
set_option maxRecDepth 100000
namespace Go.Proofs.YtnklpifnknmdgaaGreatDoor
open Go.ChangeShapes Go.WideShapes Go.ChangeAt Go.RowKit

theorem own : ownKnob Tryz.prog.godebug = none := by kernel_rfl
theorem laidOut : laidOutB Tryz.prog = true := by kernel_rfl

section
variable {H : Type} {enc : TypeId × Value → H} {P : Program} {w : World} {base : Nat} {spare : Nat → Bool} {held : Bool}
end
end Go.Proofs.YtnklpifnknmdgaaGreatDoor
namespace Go.Proofs.YtnklpifnknmdgaaGreatDoor
open Go.ChangeShapes Go.WideShapes Go.ChangeAt Go.RowKit Go.Deep

section
variable {H : Type} {enc : TypeId × Value → H} {P : Program} {w : World} {base : Nat} {spare : Nat → Bool} {held : Bool}
end
end Go.Proofs.YtnklpifnknmdgaaGreatDoor
set_option linter.all false
set_option maxRecDepth 100000
namespace Go.Proofs.YtnklpifnknmdgaaGreatDoor
open Go Go.RowKit

def awaited (a b : Int) : Bool := if b = 3 then a == 4 else if b = 6 then a == 5 else if b = 7 then a == 8 else false
def directly (a b : Ev) : Bool := a.t == b.t || (a.k == 4 && (b.k == 3 && a.o == b.o)) || (a.k == 5 && b.t == a.o) || (b.k == 6 && a.t == b.o) || (a.k == 8 && (b.k == 7 && a.o == b.o)) || (a.k == 5 && (b.k == 6 && a.o == b.o))
theorem directly_eq (a b : Ev) : directly a b = (a.t == b.t || (a.k == 5 && a.o == b.t) || (b.k == 6 && b.o == a.t) || (a.o == b.o && awaited a.k b.k)) := by
  rw [Bool.eq_iff_iff]
  unfold directly awaited
  split
  · simp only [Bool.or_eq_true, Bool.and_eq_true, beq_iff_eq]; omega
  · split
    · simp only [Bool.or_eq_true, Bool.and_eq_true, beq_iff_eq]; omega
    · split
      · simp only [Bool.or_eq_true, Bool.and_eq_true, beq_iff_eq]; omega
      · simp only [Bool.or_eq_true, Bool.and_eq_true, beq_iff_eq, Bool.false_eq_true, and_false, or_false]; omega
def dirB (l : List Ev) (i j : Nat) : Bool := match l[i]?, l[j]? with
  | some a, some b => decide (i < j) && directly a b
  | _, _ => false
theorem dirB_at {l : List Ev} {i j : Nat} {a b : Ev} (ha : l[i]? = some a) (hb : l[j]? = some b) : dirB l i j = (decide (i < j) && directly a b) := by simp [dirB, ha, hb]
theorem dirB_iff {l : List Ev} {i j : Nat} : dirB l i j = true ↔ ∃ a b, l[i]? = some a ∧ l[j]? = some b ∧ i < j ∧ directly a b = true := by
  unfold dirB
  cases h1 : l[i]? <;> cases h2 : l[j]? <;> simp
theorem dirB_lt {l : List Ev} {i j : Nat} (h : dirB l i j = true) : i < j ∧ j < l.length := by
  obtain ⟨a, b, _, hb, hlt, _⟩ := dirB_iff.1 h
  exact ⟨hlt, (List.getElem?_eq_some_iff.1 hb).1⟩
def thr (l : List Ev) : Nat → Nat → Nat → Bool
  | 0, i, j => dirB l i j
  | k + 1, i, j => thr l k i j || (thr l k i k && thr l k k j)
theorem thr_lt {l : List Ev} : ∀ (k : Nat) {i j : Nat}, thr l k i j = true → i < j ∧ j < l.length
  | 0, _, _, h => dirB_lt h
  | k + 1, i, j, h => by
    simp only [thr, Bool.or_eq_true, Bool.and_eq_true] at h
    rcases h with h | ⟨h1, h2⟩
    · exact thr_lt k h
    · have := thr_lt k h1; have := thr_lt k h2; omega
theorem thr_self (l : List Ev) (k i : Nat) : thr l k i i = false := by
  rw [← Bool.not_eq_true]; intro h; have := thr_lt k h; omega
theorem thr_col (l : List Ev) (k i : Nat) : thr l (k + 1) i k = thr l k i k := by simp [thr, thr_self]
theorem thr_row (l : List Ev) (k j : Nat) : thr l (k + 1) k j = thr l k k j := by simp [thr, thr_self]
theorem thr_up {l : List Ev} {k i j : Nat} (h : thr l k i j = true) : thr l (k + 1) i j = true := by simp [thr, h]
theorem thr_ups {l : List Ev} {k i j : Nat} (h : thr l k i j = true) (m : Nat) : thr l (k + m) i j = true := by
  induction m with
  | zero => exact h
  | succ m ih => exact thr_up ih
theorem thr_trans {l : List Ev} : ∀ {k i m j : Nat}, m < k → thr l k i m = true → thr l k m j = true → thr l k i j = true := by
  intro k
  induction k with
  | zero => intro i m j h; omega
  | succ k ih =>
    intro i m j hm h1 h2
    rcases Nat.lt_succ_iff_lt_or_eq.1 hm with hm | rfl
    · simp only [thr, Bool.or_eq_true, Bool.and_eq_true] at h1 h2 ⊢
      rcases h1 with h1 | ⟨h1, h1'⟩ <;> rcases h2 with h2 | ⟨h2, h2'⟩
      · exact .inl (ih hm h1 h2)
      · exact .inr ⟨ih hm h1 h2, h2'⟩
      · exact .inr ⟨h1, ih hm h1' h2⟩
      · exact .inr ⟨h1, h2'⟩
    · rw [thr_col] at h1; rw [thr_row] at h2
      simp [thr, h1, h2]
def bef (l : List Ev) (i j : Nat) : Bool := thr l l.length i j
theorem bef_lt {l : List Ev} {i j : Nat} (h : bef l i j = true) : i < j ∧ j < l.length := thr_lt _ h
theorem thr_bef {l : List Ev} {k i j : Nat} (h : thr l k i j = true) (hk : k ≤ l.length) : bef l i j = true := by
  have := thr_ups h (l.length - k)
  rwa [Nat.add_sub_cancel' hk] at this
theorem dir_bef {l : List Ev} {i j : Nat} (h : dirB l i j = true) : bef l i j = true := thr_bef (k := 0) h (Nat.zero_le _)
theorem bef_trans {l : List Ev} {i k j : Nat} (h1 : bef l i k = true) (h2 : bef l k j = true) : bef l i j = true := thr_trans (bef_lt h1).2 h1 h2
theorem thr_step {l : List Ev} : ∀ (k : Nat) {i j : Nat}, k ≤ l.length → thr l k i j = true → dirB l i j = true ∨ ∃ m, dirB l i m = true ∧ bef l m j = true
  | 0, _, _, _, h => .inl h
  | k + 1, i, j, hk, h => by
    simp only [thr, Bool.or_eq_true, Bool.and_eq_true] at h
    rcases h with h | ⟨h1, h2⟩
    · exact thr_step k (by omega) h
    · have g2 := thr_bef h2 (by omega)
      rcases thr_step k (by omega) h1 with h1 | ⟨m, h1, h3⟩
      · exact .inr ⟨k, h1, g2⟩
      · exact .inr ⟨m, h1, bef_trans h3 g2⟩
theorem bef_step {l : List Ev} {i j : Nat} (h : bef l i j = true) : dirB l i j = true ∨ ∃ m, dirB l i m = true ∧ bef l m j = true := thr_step _ (Nat.le_refl _) h
def fol1 (l : List Ev) (a b c : Nat) : Bool := (List.range b).any fun d => dirB l a d && (d == c || bef l d c)
theorem fol1_iff {l : List Ev} {a b c : Nat} : fol1 l a b c = true ↔ ∃ d, d < b ∧ dirB l a d = true ∧ (d = c ∨ bef l d c = true) := by simp [fol1]
theorem fol1_succ (l : List Ev) (a b c : Nat) : fol1 l a (b + 1) c = (fol1 l a b c || (dirB l a b && (b == c || bef l b c))) := by simp [fol1, List.range_succ]
theorem fol1_in {l : List Ev} {a b : Nat} (h : fol1 l a b b = true) (c : Nat) : fol1 l a (b + 1) c = fol1 l a b c := by
  obtain ⟨d, hd, h1, h2⟩ := fol1_iff.1 h
  have hb : bef l d b = true := by rcases h2 with h2 | h2
                                   · omega
                                   · exact h2
  rw [fol1_succ, Bool.eq_iff_iff, Bool.or_eq_true]
  refine ⟨fun h => ?_, .inl⟩
  rcases h with h | h
  · exact h
  · simp only [Bool.and_eq_true, Bool.or_eq_true, beq_iff_eq] at h
    refine fol1_iff.2 ⟨d, hd, h1, .inr ?_⟩
    rcases h.2 with rfl | h
    · exact hb
    · exact bef_trans hb h
theorem fol1_out {l : List Ev} {a b : Nat} (h : dirB l a b = false) (c : Nat) : fol1 l a (b + 1) c = fol1 l a b c := by simp [fol1_succ, h]
theorem fol1_new {l : List Ev} {a b : Nat} (h : dirB l a b = true) (c : Nat) : fol1 l a (b + 1) c = ((if c = b then true else fol1 l a b c) || bef l b c) := by
  rw [fol1_succ, h]
  by_cases hc : c = b
  · subst hc; simp
  · have : (b == c) = false := by simpa using Ne.symm hc
    simp [this, hc]
theorem fol1_low {l : List Ev} {a b : Nat} (h : b ≤ a + 1) (c : Nat) : fol1 l a b c = false := by
  rw [← Bool.not_eq_true, fol1_iff]
  rintro ⟨d, hd, h1, _⟩
  have := dirB_lt h1; omega
theorem fol1_all {l : List Ev} (a c : Nat) : fol1 l a l.length c = bef l a c := by
  rw [Bool.eq_iff_iff, fol1_iff]
  constructor
  · rintro ⟨d, _, h1, rfl | h2⟩
    · exact dir_bef h1
    · exact bef_trans (dir_bef h1) h2
  · intro h
    rcases bef_step h with h | ⟨m, h1, h2⟩
    · exact ⟨c, (dirB_lt h).2, h, .inl rfl⟩
    · exact ⟨m, (dirB_lt h1).2, h1, .inr h2⟩
def rowTo (R : Nat → Nat → Bool) (i j : Nat) : List (Nat × Nat) := ((List.range j).filter (R i)).map fun k => (i, k)
def prs (R : Nat → Nat → Bool) (n i j : Nat) : List (Nat × Nat) := ((List.range i).flatMap fun k => rowTo R k n) ++ rowTo R i j
def prsA (R : Nat → Nat → Bool) (n : Nat) : List (Nat × Nat) := prs R n n 0
theorem rowTo_yes {R : Nat → Nat → Bool} {i j : Nat} (h : R i j = true) : rowTo R i (j + 1) = rowTo R i j ++ [(i, j)] := by simp [rowTo, List.range_succ, h]
theorem rowTo_no {R : Nat → Nat → Bool} {i j : Nat} (h : R i j = false) : rowTo R i (j + 1) = rowTo R i j := by simp [rowTo, List.range_succ, h]
theorem rowTo_low {R : Nat → Nat → Bool} {i : Nat} : ∀ {j : Nat}, (∀ k, k < j → R i k = false) → rowTo R i j = []
  | 0, _ => rfl
  | j + 1, h => by rw [rowTo_no (h j (by omega)), rowTo_low fun k hk => h k (by omega)]
theorem rowTo_len (R : Nat → Nat → Bool) (i j : Nat) : (rowTo R i j).length ≤ j := by
  unfold rowTo; rw [List.length_map]; exact Nat.le_trans (List.length_filter_le _ _) (by simp)
theorem prs_zero (R : Nat → Nat → Bool) (n : Nat) : prs R n 0 0 = [] := rfl
theorem prs_yes {R : Nat → Nat → Bool} {n i j : Nat} (h : R i j = true) : prs R n i (j + 1) = prs R n i j ++ [(i, j)] := by simp [prs, rowTo_yes h]
theorem prs_no {R : Nat → Nat → Bool} {n i j : Nat} (h : R i j = false) : prs R n i (j + 1) = prs R n i j := by simp [prs, rowTo_no h]
theorem prs_next (R : Nat → Nat → Bool) (n i : Nat) : prs R n (i + 1) 0 = prs R n i n := by simp [prs, List.range_succ, rowTo]
theorem prs_low {R : Nat → Nat → Bool} {n i j : Nat} (h : ∀ k, k < j → R i k = false) : prs R n i j = prs R n i 0 := by
  show _ ++ rowTo R i j = _ ++ rowTo R i 0
  rw [rowTo_low h]; rfl
theorem prs_len (R : Nat → Nat → Bool) (n i j : Nat) : (prs R n i j).length ≤ i * n + j := by
  unfold prs
  rw [List.length_append]
  have h1 := rowTo_len R i j
  have h2 : ((List.range i).flatMap fun k => rowTo R k n).length ≤ i * n := by
    clear h1
    induction i with
    | zero => simp
    | succ i ih =>
      rw [List.range_succ, List.flatMap_append, List.length_append, Nat.succ_mul]
      have := rowTo_len R i n
      simp only [List.flatMap_cons, List.flatMap_nil, List.append_nil]
      omega
  omega
theorem mem_rowTo {R : Nat → Nat → Bool} {i j : Nat} {p : Nat × Nat} : p ∈ rowTo R i j ↔ p.1 = i ∧ p.2 < j ∧ R i p.2 = true := by
  simp only [rowTo, List.mem_map, List.mem_filter, List.mem_range]
  constructor
  · rintro ⟨k, ⟨h1, h2⟩, rfl⟩; exact ⟨rfl, h1, h2⟩
  · rintro ⟨h1, h2, h3⟩; exact ⟨p.2, ⟨h2, h3⟩, by rw [← h1]⟩
theorem mem_prsA {R : Nat → Nat → Bool} {n : Nat} {p : Nat × Nat} : p ∈ prsA R n ↔ p.1 < n ∧ p.2 < n ∧ R p.1 p.2 = true := by
  simp only [prsA, prs, List.mem_append, List.mem_flatMap, List.mem_range, mem_rowTo]
  constructor
  · rintro (⟨k, h1, rfl, h2, h3⟩ | ⟨_, h, _⟩)
    · exact ⟨h1, h2, h3⟩
    · omega
  · rintro ⟨h1, h2, h3⟩; exact .inl ⟨p.1, h1, rfl, h2, h3⟩
theorem wrong_at {l : List Ev} (h : may l = 0) {i : Nat} {e : Ev} (he : l[i]? = some e) : wrong (l.take i) e = 0 := ((may_iff l).1 h).2 i e he
theorem wrong_over {p : List Ev} {e : Ev} (h : wrong p e = 0) : did p 6 e.t = false := by
  have hev := wrong_isEv h
  unfold wrong at h
  simp only [hev, Bool.true_eq_false, if_false] at h
  split at h
  · cases h
  · rename_i hh
    cases hb : did p 6 e.t
    · rfl
    · exact absurd (.inr hb) hh
theorem wrong_join {p : List Ev} {e : Ev} (h : wrong p e = 0) (hk : e.k = 6) : e.o ≠ e.t := by
  have hev := wrong_isEv h
  unfold wrong at h
  simp only [hev, Bool.true_eq_false, if_false] at h
  split at h
  · cases h
  · intro ho
    simp [hk, ho] at h
theorem wrong_acq {p : List Ev} {e : Ev} (h : wrong p e = 0) (hk : e.k = 3) : ¬ 0 ≤ owner p e.o := by
  have hev := wrong_isEv h
  unfold wrong at h
  simp only [hev, Bool.true_eq_false, if_false] at h
  split at h
  · cases h
  · intro ho
    simp [hk, ho] at h
theorem wrong_rel {p : List Ev} {e : Ev} (h : wrong p e = 0) (hk : e.k = 4) : owner p e.o = e.t := by
  have hev := wrong_isEv h
  unfold wrong at h
  simp only [hev, Bool.true_eq_false, if_false] at h
  split at h
  · cases h
  · simp [hk] at h; exact h
theorem take_app {l : List Ev} {i j : Nat} (h : i ≤ j) : ∃ q, l.take j = l.take i ++ q := ⟨(l.take j).drop i, by
  have := List.take_append_drop i (l.take j)
  rw [List.take_take, Nat.min_eq_left h] at this
  exact this.symm⟩
theorem take_snoc' {l : List Ev} {i : Nat} {e : Ev} (h : l[i]? = some e) : l.take (i + 1) = l.take i ++ [e] := by
  have hi := List.getElem?_eq_some_iff.1 h
  rw [List.take_succ_eq_append_getElem hi.1, hi.2]
theorem fork_lt {l : List Ev} (h : may l = 0) {i j : Nat} {a b : Ev} (ha : l[i]? = some a) (hb : l[j]? = some b) (hk : a.k = 5) (ho : b.t = a.o) : i < j := by
  rcases Nat.lt_or_ge i j with h1 | h1
  · exact h1
  · exfalso
    have h2 := wrong_thread (wrong_at h hb)
    have h3 := wrong_fork (wrong_at h ha) hk
    obtain ⟨q, hq⟩ := take_app (l := l) h1
    have h4 := begun_mono (q := q) h2
    rw [← hq, ho, h3] at h4
    cases h4
theorem join_lt {l : List Ev} (h : may l = 0) {i j : Nat} {a b : Ev} (ha : l[i]? = some a) (hb : l[j]? = some b) (hk : a.k = 6) (ho : b.t = a.o) : j < i := by
  rcases Nat.lt_trichotomy j i with h1 | h1 | h1
  · exact h1
  · subst h1
    rw [ha] at hb; cases hb
    exact absurd ho.symm (wrong_join (wrong_at h ha) hk)
  · exfalso
    have h2 := wrong_over (wrong_at h hb)
    obtain ⟨q, hq⟩ := take_app (l := l) (show i + 1 ≤ j by omega)
    rw [hq, take_snoc' ha] at h2
    simp [did, hk, ho] at h2
theorem thread_dir {l : List Ev} {i j : Nat} {a b : Ev} (ha : l[i]? = some a) (hb : l[j]? = some b) (hlt : i < j) (ht : a.t = b.t) : dirB l i j = true :=
  dirB_iff.2 ⟨a, b, ha, hb, hlt, by simp [directly, ht]⟩
theorem handed_dir {l : List Ev} {i j : Nat} {a b : Ev} (ha : l[i]? = some a) (hb : l[j]? = some b) (hlt : i < j) (hka : a.k = 4) (hkb : b.k = 3) (ho : a.o = b.o) : dirB l i j = true :=
  dirB_iff.2 ⟨a, b, ha, hb, hlt, by simp [directly, hka, hkb, ho]⟩
theorem lost {l : List Ev} (h : may l = 0) {o t : Int} (ht : 0 ≤ t) {i : Nat} (hi : owner (l.take i) o = t) : ∀ {j : Nat}, i ≤ j → j ≤ l.length → owner (l.take j) o ≠ t → ∃ r e, i ≤ r ∧ r < j ∧ l[r]? = some e ∧ e.k = 4 ∧ e.t = t ∧ e.o = o := by
  intro j
  induction j with
  | zero => intro h1 _ h2; obtain rfl : i = 0 := by omega
            exact absurd hi h2
  | succ j ih =>
    intro h1 h2 h3
    by_cases hij : i = j + 1
    · subst hij; exact absurd hi h3
    · by_cases hj : owner (l.take j) o = t
      · have he := List.getElem?_eq_getElem (show j < l.length by omega)
        have hw := wrong_at h he
        rw [take_snoc' he, owner_snoc, ownB] at h3
        split at h3
        · rename_i hc
          refine ⟨j, _, by omega, by omega, he, hc.2, ?_, hc.1⟩
          have := wrong_rel hw hc.2
          rw [hc.1, hj] at this; exact this.symm
        · split at h3
          · rename_i hc
            have := wrong_acq hw hc.2
            rw [hc.1, hj] at this; omega
          · exact absurd hj h3
      · obtain ⟨r, e, h4, h5, h6⟩ := ih (by omega) (by omega) hj
        exact ⟨r, e, h4, by omega, h6⟩
theorem gained {l : List Ev} {o t : Int} (ht : 0 ≤ t) {i : Nat} (hi : owner (l.take i) o ≠ t) : ∀ {j : Nat}, i ≤ j → j ≤ l.length → owner (l.take j) o = t → ∃ r e, i ≤ r ∧ r < j ∧ l[r]? = some e ∧ e.k = 3 ∧ e.t = t ∧ e.o = o := by
  intro j
  induction j with
  | zero => intro h1 _ h2; obtain rfl : i = 0 := by omega
            exact absurd h2 hi
  | succ j ih =>
    intro h1 h2 h3
    by_cases hij : i = j + 1
    · subst hij; exact absurd h3 hi
    · by_cases hj : owner (l.take j) o = t
      · obtain ⟨r, e, h4, h5, h6⟩ := ih (by omega) (by omega) hj
        exact ⟨r, e, h4, by omega, h6⟩
      · have he := List.getElem?_eq_getElem (show j < l.length by omega)
        rw [take_snoc' he, owner_snoc, ownB] at h3
        split at h3
        · omega
        · split at h3
          · rename_i hc
            exact ⟨j, _, by omega, by omega, he, hc.2, h3, hc.1⟩
          · exact absurd h3 hj
theorem owner_acq {l : List Ev} {i : Nat} {e : Ev} (he : l[i]? = some e) (hk : e.k = 3) : owner (l.take (i + 1)) e.o = e.t := by
  rw [take_snoc' he, owner_snoc, ownB, if_neg (by omega), if_pos ⟨rfl, hk⟩]
theorem owner_rel {l : List Ev} {i : Nat} {e : Ev} (he : l[i]? = some e) (hk : e.k = 4) : owner (l.take (i + 1)) e.o = -1 := by
  rw [take_snoc' he, owner_snoc, ownB, if_pos ⟨rfl, hk⟩]
theorem lock_bef {l : List Ev} (h : may l = 0) {i j : Nat} {a b : Ev} (ha : l[i]? = some a) (hb : l[j]? = some b) (hlt : i < j) (ka : a.k = 3 ∨ a.k = 4) (kb : b.k = 3 ∨ b.k = 4) (ho : a.o = b.o) : bef l i j = true := by
  have hj : j < l.length := (List.getElem?_eq_some_iff.1 hb).1
  have wa := wrong_at h ha
  have wb := wrong_at h hb
  have ta := isEv_t (wrong_isEv wa)
  have tb := isEv_t (wrong_isEv wb)
  rcases ka with ka | ka
  · have oa := owner_acq ha ka
    have rel : owner (l.take j) a.o ≠ a.t → ∃ r e, i + 1 ≤ r ∧ r < j ∧ l[r]? = some e ∧ e.k = 4 ∧ e.t = a.t ∧ e.o = a.o := fun hne => lost h ta.1 oa (by omega) (by omega) hne
    rcases kb with kb | kb
    · have ob := wrong_acq wb kb
      obtain ⟨r, e, h1, h2, he, h3, h4, h5⟩ := rel (by rw [ho]; omega)
      exact bef_trans (dir_bef (thread_dir ha he (by omega) h4.symm)) (dir_bef (handed_dir he hb h2 h3 kb (by omega)))
    · have ob := wrong_rel wb kb
      by_cases ht : a.t = b.t
      · exact dir_bef (thread_dir ha hb hlt ht)
      · obtain ⟨r, e, h1, h2, he, h3, h4, h5⟩ := rel (by rw [ho, ob]; exact Ne.symm ht)
        have or := owner_rel he h3
        obtain ⟨q, f, g1, g2, hf, g3, g4, g5⟩ := gained (l := l) (o := b.o) (t := b.t) tb.1 (i := r + 1) (by rw [← ho, ← h5, or]; omega) (j := j) (by omega) (by omega) ob
        exact bef_trans (dir_bef (thread_dir ha he (by omega) h4.symm)) (bef_trans (dir_bef (handed_dir he hf (by omega) h3 g3 (by omega))) (dir_bef (thread_dir hf hb g2 g4)))
  · have oa := owner_rel ha ka
    rcases kb with kb | kb
    · exact dir_bef (handed_dir ha hb hlt ka kb ho)
    · have ob := wrong_rel wb kb
      obtain ⟨q, f, g1, g2, hf, g3, g4, g5⟩ := gained (l := l) (o := b.o) (t := b.t) tb.1 (i := i + 1) (by rw [← ho, oa]; omega) (j := j) (by omega) (by omega) ob
      exact bef_trans (dir_bef (handed_dir ha hf (by omega) ka g3 (by omega))) (dir_bef (thread_dir hf hb g2 g4))
end Go.Proofs.YtnklpifnknmdgaaGreatDoor
namespace Go.Proofs.YtnklpifnknmdgaaGreatDoor
open Go Go.RowKit

structure Rc where
  a : Nat
  b : Nat
  v : Int
  k : Int
theorem Rc.ext' {x y : Rc} (h1 : x.a = y.a) (h2 : x.b = y.b) (h3 : x.v = y.v) (h4 : x.k = y.k) : x = y := by
  cases x; cases y; simp_all
instance : DecidableEq Rc := fun x y =>
  if h : x.a = y.a ∧ x.b = y.b ∧ x.v = y.v ∧ x.k = y.k then isTrue (Rc.ext' h.1 h.2.1 h.2.2.1 h.2.2.2) else isFalse (fun e => h (by subst e; exact ⟨rfl, rfl, rfl, rfl⟩))
def rcl (r : Rc) : List Value := [.int .i64 r.a, .int .i64 r.b, .int .i64 r.v, .int .i64 r.k]
def rcv (r : Rc) : Array Value := #[.int .i64 r.a, .int .i64 r.b, .int .i64 r.v, .int .i64 r.k]
theorem rcv_all (r : Rc) : (rcv r).all (·.oneCell') = true := by simp [rcv, Value.oneCell']
theorem rcl_one (r : Rc) : ∀ v ∈ rcl r, v.oneCell' = true := by simp [rcl, Value.oneCell']
def rcc : List Rc → List Value
  | [] => []
  | r :: l => .int .i64 r.a :: .int .i64 r.b :: .int .i64 r.v :: .int .i64 r.k :: rcc l
theorem rcc_length (l : List Rc) : (rcc l).length = l.length * 4 := by
  induction l with
  | nil => rfl
  | cons e l ih => simp only [rcc, List.length_cons, ih]; omega
theorem rcc_append (l m : List Rc) : rcc (l ++ m) = rcc l ++ rcc m := by
  induction l with
  | nil => rfl
  | cons e l ih => simp only [List.cons_append, rcc, ih]
theorem rcc_get (l : List Rc) (i : Nat) (r : Rc) (h : l[i]? = some r) : (rcc l)[i * 4]? = some (.int .i64 r.a) ∧ (rcc l)[i * 4 + 1]? = some (.int .i64 r.b) ∧ (rcc l)[i * 4 + 2]? = some (.int .i64 r.v) ∧ (rcc l)[i * 4 + 3]? = some (.int .i64 r.k) := by
  induction l generalizing i with
  | nil => simp at h
  | cons x l ih =>
    cases i with
    | zero => simp at h; subst h; exact ⟨rfl, rfl, rfl, rfl⟩
    | succ i =>
      have := ih i (by simpa using h)
      simp only [rcc]
      rw [show (i + 1) * 4 = i * 4 + 1 + 1 + 1 + 1 by omega]
      simpa using this
theorem rcc_at {l : List Rc} {i : Nat} {r : Rc} (h : l[i]? = some r) (j : Nat) (v : Value) (hv : (rcl r)[j]? = some v) : (rcc l)[i * 4 + j]? = some v := by
  obtain ⟨h0, h1, h2, h3⟩ := rcc_get l i r h
  match j, hv with
  | 0, hv => simp [rcl] at hv; subst hv; simpa using h0
  | 1, hv => simp [rcl] at hv; subst hv; exact h1
  | 2, hv => simp [rcl] at hv; subst hv; exact h2
  | 3, hv => simp [rcl] at hv; subst hv; exact h3
  | j + 4, hv => simp [rcl] at hv
def conf (a b : Ev) : Int := if a.o ≠ b.o then 0 else if a.k = 2 ∧ b.k = 2 then 1 else if a.k = 2 ∧ b.k = 1 then 2 else if a.k = 1 ∧ b.k = 2 then 3 else 0
def evZ (l : List Ev) (i : Nat) : Ev := (l[i]?).getD ⟨0, 0, 0⟩
theorem evZ_at {l : List Ev} {i : Nat} {e : Ev} (h : l[i]? = some e) : evZ l i = e := by simp [evZ, h]
def racB (l : List Ev) (i j : Nat) : Bool := decide (i < j) && (decide (conf (evZ l i) (evZ l j) ≠ 0) && !bef l i j)
def rcOf (l : List Ev) (p : Nat × Nat) : Rc := ⟨p.1, p.2, (evZ l p.1).o, conf (evZ l p.1) (evZ l p.2)⟩
def rcTo (l : List Ev) (n i j : Nat) : List Rc := (prs (racB l) n i j).map (rcOf l)
def rcsA (l : List Ev) : List Rc := (prsA (racB l) l.length).map (rcOf l)
def rcs (l : List Ev) : List Rc := if may l = 0 then rcsA l else []
theorem rcs_ok {l : List Ev} (h : may l = 0) : rcs l = rcsA l := by unfold rcs; rw [if_pos h]
theorem rcs_no {l : List Ev} (h : may l ≠ 0) : rcs l = [] := by unfold rcs; rw [if_neg h]
theorem racB_at {l : List Ev} {i j : Nat} {a b : Ev} (ha : l[i]? = some a) (hb : l[j]? = some b) (h : i < j) : racB l i j = (decide (conf a b ≠ 0) && !bef l i j) := by
  unfold racB; rw [evZ_at ha, evZ_at hb, decide_eq_true h, Bool.true_and]
theorem racB_up (l : List Ev) (a b : Nat) (h : b ≤ a) : racB l a b = false := by unfold racB; rw [decide_eq_false (by omega), Bool.false_and]
theorem racB_lt {l : List Ev} {i j : Nat} (h : racB l i j = true) : i < j := by
  rcases Nat.lt_or_ge i j with h1 | h1
  · exact h1
  · rw [racB_up l i j h1] at h; cases h
theorem rcTo_len (l : List Ev) (n i j : Nat) : (rcTo l n i j).length = (prs (racB l) n i j).length := by unfold rcTo; rw [List.length_map]
theorem rcTo_yes {l : List Ev} {n i j : Nat} {r : Rc} (h : racB l i j = true) (hr : rcOf l (i, j) = r) : rcTo l n i (j + 1) = rcTo l n i j ++ [r] := by
  unfold rcTo; rw [prs_yes h, List.map_append, ← hr]; rfl
theorem rcTo_no {l : List Ev} {n i j : Nat} (h : racB l i j = false) : rcTo l n i (j + 1) = rcTo l n i j := by unfold rcTo; rw [prs_no h]
theorem rcTo_next (l : List Ev) (n i : Nat) : rcTo l n (i + 1) 0 = rcTo l n i n := by unfold rcTo; rw [prs_next]
theorem rcTo_low {l : List Ev} {n i j : Nat} (h : j ≤ i + 1) : rcTo l n i j = rcTo l n i 0 := by
  unfold rcTo; rw [prs_low fun k hk => racB_up l i k (by omega)]
theorem rcTo_all {l : List Ev} {n : Nat} (h : l.length = n) : rcTo l n n 0 = rcsA l := by unfold rcTo rcsA prsA; rw [h]
theorem rcOf_at {l : List Ev} {i j : Nat} {a b : Ev} (ha : l[i]? = some a) (hb : l[j]? = some b) : rcOf l (i, j) = ⟨i, j, a.o, conf a b⟩ := by
  unfold rcOf; simp only [evZ_at ha, evZ_at hb]
theorem mem_rcsA {l : List Ev} {r : Rc} (h : r ∈ rcsA l) : ∃ a b, l[r.a]? = some a ∧ l[r.b]? = some b ∧ r.a < r.b ∧ r.v = a.o ∧ r.k = conf a b ∧ conf a b ≠ 0 ∧ bef l r.a r.b = false := by
  unfold rcsA at h
  obtain ⟨⟨i, j⟩, hp, rfl⟩ := List.mem_map.1 h
  obtain ⟨h1, h2, h3⟩ := mem_prsA.1 hp
  have ha := List.getElem?_eq_getElem h1
  have hb := List.getElem?_eq_getElem h2
  have hl := racB_lt h3
  rw [racB_at ha hb hl] at h3
  simp only [Bool.and_eq_true, decide_eq_true_eq, Bool.not_eq_true'] at h3
  rw [rcOf_at ha hb]
  exact ⟨_, _, ha, hb, hl, rfl, rfl, h3.1, h3.2⟩
end Go.Proofs.YtnklpifnknmdgaaGreatDoor

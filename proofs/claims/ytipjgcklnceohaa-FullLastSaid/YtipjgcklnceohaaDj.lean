/- Plain facts: the detector by full clocks (DJIT+), as functions over lists; what its clocks know is what happens before. -/
import Derived.Test.YtipjgcklnceohaaOr
set_option linter.all false
set_option maxRecDepth 100000
namespace Go.Proofs.Ytipjgcklnceohaa
open Go Go.RowKit

/-- The event at a place, its parts as counted numbers. -/
def eZ (l : List Ev) (i : Nat) : Ev := (l[i]?).getD ⟨0, 0, 0⟩
def kZ (l : List Ev) (i : Nat) : Int := (eZ l i).k
def tZ (l : List Ev) (i : Nat) : Nat := (eZ l i).t.toNat
def oZ (l : List Ev) (i : Nat) : Nat := (eZ l i).o.toNat
theorem eZ_at {l : List Ev} {i : Nat} {e : Ev} (h : l[i]? = some e) : eZ l i = e := by simp [eZ, h]
theorem eZ_get {l : List Ev} {i : Nat} (h : i < l.length) : l[i]? = some (eZ l i) := by simp [eZ, h]
theorem eZ_ok {l : List Ev} (hm : may l = 0) {i : Nat} (h : i < l.length) : isEv (eZ l i) = true := wrong_isEv (wrong_at hm (eZ_get h))
theorem tZ_lt {l : List Ev} (hm : may l = 0) {i : Nat} (h : i < l.length) : tZ l i < 6 := by
  have := isEv_t (eZ_ok hm h); unfold tZ; omega
/-- Directly before, in counted numbers. -/
def dirN (l : List Ev) (m k : Nat) : Prop := tZ l m = tZ l k ∨ (kZ l m = 4 ∧ kZ l k = 3 ∧ oZ l m = oZ l k) ∨ (kZ l m = 5 ∧ tZ l k = oZ l m) ∨ (kZ l k = 6 ∧ tZ l m = oZ l k) ∨ (kZ l m = 8 ∧ kZ l k = 7 ∧ oZ l m = oZ l k) ∨ (kZ l m = 5 ∧ kZ l k = 6 ∧ oZ l m = oZ l k)
theorem dirB_N {l : List Ev} (hm : may l = 0) {m k : Nat} (hk : k < l.length) : dirB l m k = true ↔ m < k ∧ dirN l m k := by
  by_cases hmk : m < k
  · have hml : m < l.length := by omega
    have ha := eZ_get hml; have hb := eZ_get hk
    have ta := isEv_t (eZ_ok hm hml); have tb := isEv_t (eZ_ok hm hk)
    have oa := (isEv_o (eZ_ok hm hml)).1; have ob := (isEv_o (eZ_ok hm hk)).1
    have e1 : (eZ l m).t = (eZ l k).t ↔ tZ l m = tZ l k := by unfold tZ; omega
    have e2 : (eZ l m).o = (eZ l k).o ↔ oZ l m = oZ l k := by unfold oZ; omega
    have e3 : (eZ l k).t = (eZ l m).o ↔ tZ l k = oZ l m := by unfold tZ oZ; omega
    have e4 : (eZ l m).t = (eZ l k).o ↔ tZ l m = oZ l k := by unfold tZ oZ; omega
    rw [dirB_at ha hb, decide_eq_true hmk, Bool.true_and]
    unfold directly dirN kZ
    simp only [Bool.or_eq_true, Bool.and_eq_true, beq_iff_eq, e1, e2, e3, e4, hmk, true_and, or_assoc]
  · constructor
    · intro h; exact absurd (dirB_lt h).1 hmk
    · intro h; exact absurd h.1 hmk
/-- Before or the same. -/
def kb (l : List Ev) (i m : Nat) : Prop := i = m ∨ bef l i m = true
theorem kb_trans {l : List Ev} {i m k : Nat} (h : kb l i m) (h2 : bef l m k = true) : bef l i k = true := by
  rcases h with rfl | h
  · exact h2
  · exact bef_trans h h2
theorem kb_le {l : List Ev} {i m : Nat} (h : kb l i m) : i ≤ m := by
  rcases h with rfl | h
  · exact Nat.le_refl _
  · have := bef_lt h; omega
theorem bef_last {l : List Ev} {j : Nat} : ∀ (d i : Nat), j - i ≤ d → bef l i j = true → ∃ m, dirB l m j = true ∧ kb l i m
  | 0, i, hd, h => by have := bef_lt h; omega
  | d + 1, i, hd, h => by
    rcases bef_step h with h1 | ⟨m, h1, h2⟩
    · exact ⟨i, h1, .inl rfl⟩
    · have := dirB_lt h1; have := bef_lt h2
      obtain ⟨p, h3, h4⟩ := bef_last d m (by omega) h2
      exact ⟨p, h3, .inr (by rcases h4 with rfl | h4
                             · exact dir_bef h1
                             · exact bef_trans (dir_bef h1) h4)⟩
theorem bef_iff {l : List Ev} (hm : may l = 0) {i j : Nat} (hj : j < l.length) : bef l i j = true ↔ ∃ m, m < j ∧ dirN l m j ∧ kb l i m := by
  constructor
  · intro h
    obtain ⟨m, h1, h2⟩ := bef_last _ i (Nat.le_refl _) h
    have := (dirB_N hm hj).1 h1
    exact ⟨m, this.1, this.2, h2⟩
  · rintro ⟨m, h1, h2, h3⟩
    exact kb_trans h3 (dir_bef ((dirB_N hm hj).2 ⟨h1, h2⟩))
theorem thread_bef {l : List Ev} (hm : may l = 0) {i j : Nat} (hij : i < j) (hj : j < l.length) (h : tZ l i = tZ l j) : bef l i j = true := dir_bef ((dirB_N hm hj).2 ⟨hij, .inl h⟩)

/-- The detector's clocks: of threads, locks, signals. -/
structure Dj where
  C : Nat → Nat → Nat
  L : Nat → Nat → Nat
  V : Nat → Nat → Nat
def put1 {α : Type} (f : Nat → α) (i : Nat) (g : α) : Nat → α := fun j => if j = i then g else f j
def mxN (a b : Nat → Nat) : Nat → Nat := fun u => max (a u) (b u)
def incN (a : Nat → Nat) (t : Nat) : Nat → Nat := fun u => if u = t then a u + 1 else a u
theorem put1_same {α : Type} (f : Nat → α) (i : Nat) (g : α) : put1 f i g i = g := if_pos rfl
theorem put1_ne {α : Type} (f : Nat → α) {i j : Nat} (g : α) (h : j ≠ i) : put1 f i g j = f j := if_neg h
theorem incN_same (a : Nat → Nat) (t : Nat) : incN a t t = a t + 1 := if_pos rfl
theorem incN_ne (a : Nat → Nat) {t u : Nat} (h : u ≠ t) : incN a t u = a u := if_neg h
def djStart : Dj := ⟨fun t u => if t = u then 1 else 0, fun _ _ => 0, fun _ _ => 0⟩
def djStep (s : Dj) (k : Int) (t o : Nat) : Dj :=
  if k = 3 then { s with C := put1 s.C t (mxN (s.C t) (s.L o)) }
  else if k = 4 then { s with L := put1 s.L o (s.C t), C := put1 s.C t (incN (s.C t) t) }
  else if k = 5 then { s with C := put1 (put1 s.C o (mxN (s.C o) (s.C t))) t (incN (s.C t) t) }
  else if k = 6 then { s with C := put1 s.C t (mxN (s.C t) (s.C o)) }
  else if k = 7 then { s with C := put1 s.C t (mxN (s.C t) (s.V o)) }
  else if k = 8 then { s with V := put1 s.V o (mxN (s.V o) (s.C t)), C := put1 s.C t (incN (s.C t) t) }
  else s
/-- The clocks ahead of event k. -/
def djTo (l : List Ev) : Nat → Dj
  | 0 => djStart
  | k + 1 => djStep (djTo l k) (kZ l k) (tZ l k) (oZ l k)
/-- The own number at an event. -/
def epo (l : List Ev) (i : Nat) : Nat := (djTo l i).C (tZ l i) (tZ l i)
/-- Known to thread t ahead of event k; to a lock; to a signal. -/
def KC (l : List Ev) (k t i : Nat) : Prop := ∃ m, m < k ∧ (tZ l m = t ∨ (kZ l m = 5 ∧ oZ l m = t)) ∧ kb l i m
def KL (l : List Ev) (k o i : Nat) : Prop := ∃ m, m < k ∧ (kZ l m = 4 ∧ oZ l m = o) ∧ kb l i m
def KV (l : List Ev) (k o i : Nat) : Prop := ∃ m, m < k ∧ (kZ l m = 8 ∧ oZ l m = o) ∧ kb l i m
/-- Joined ahead of event k. -/
def ovr (l : List Ev) (k u : Nat) : Prop := ∃ m, m < k ∧ kZ l m = 6 ∧ oZ l m = u
structure DjI (l : List Ev) (k : Nat) (s : Dj) : Prop where
  c0 : ∀ t u, s.C t u ≤ s.C u u
  l0 : ∀ o u, s.L o u ≤ s.C u u
  v0 : ∀ o u, s.V o u ≤ s.C u u
  c1 : ∀ t u, t ≠ u → ¬ ovr l k u → s.C t u < s.C u u
  l1 : ∀ o u, ¬ ovr l k u → s.L o u < s.C u u
  v1 : ∀ o u, ¬ ovr l k u → s.V o u < s.C u u
  kc : ∀ t i, i < k → (epo l i ≤ s.C t (tZ l i) ↔ KC l k t i)
  kl : ∀ o i, i < k → (epo l i ≤ s.L o (tZ l i) ↔ KL l k o i)
  kv : ∀ o i, i < k → (epo l i ≤ s.V o (tZ l i) ↔ KV l k o i)
theorem not_over {l : List Ev} (hm : may l = 0) {k : Nat} (hk : k < l.length) : ¬ ovr l k (tZ l k) := by
  rintro ⟨m, h1, h2, h3⟩
  have hml : m < l.length := by omega
  have ha := eZ_get hml; have hb := eZ_get hk
  have tb := isEv_t (eZ_ok hm hk)
  have oa := (isEv_o (eZ_ok hm hml)).1
  unfold oZ tZ at h3
  have := join_lt hm ha hb h2 (by omega)
  omega
theorem fork_ne {l : List Ev} (hm : may l = 0) {k : Nat} (hk : k < l.length) (h5 : kZ l k = 5) : oZ l k ≠ tZ l k := by
  intro h
  have hb := eZ_get hk
  have tb := isEv_t (eZ_ok hm hk)
  have oa := (isEv_o (eZ_ok hm hk)).1
  unfold oZ tZ at h
  have := fork_lt hm hb hb h5 (by omega)
  omega
theorem join_ne {l : List Ev} (hm : may l = 0) {k : Nat} (hk : k < l.length) (h6 : kZ l k = 6) : oZ l k ≠ tZ l k := by
  intro h
  have hb := eZ_get hk
  have tb := isEv_t (eZ_ok hm hk)
  have oa := (isEv_o (eZ_ok hm hk)).1
  unfold oZ tZ at h
  have := wrong_join (wrong_at hm hb) h6
  omega
/-- Nothing of a forked thread comes ahead of its fork. -/
theorem fork_first {l : List Ev} (hm : may l = 0) {k m : Nat} (hk : k < l.length) (h5 : kZ l k = 5) (hmk : m < k) : tZ l m ≠ oZ l k := by
  intro h
  have hb := eZ_get hk; have ha := eZ_get (l := l) (i := m) (by omega)
  have tb := isEv_t (eZ_ok hm (show m < l.length by omega))
  have oa := (isEv_o (eZ_ok hm hk)).1
  unfold oZ tZ at h
  have := fork_lt hm hb ha h5 (by omega)
  omega
/-- Earlier releases of one lock are known at a later one. -/
theorem rel_chain {l : List Ev} (hm : may l = 0) {m k : Nat} (hk : k < l.length) (hmk : m < k) (h4 : kZ l m = 4) (h4' : kZ l k = 4) (ho : oZ l m = oZ l k) : bef l m k = true := by
  have ha := eZ_get (l := l) (i := m) (by omega); have hb := eZ_get hk
  have oa := (isEv_o (eZ_ok hm (show m < l.length by omega))).1; have ob := (isEv_o (eZ_ok hm hk)).1
  unfold oZ at ho
  exact lock_bef hm ha hb hmk (.inr h4) (.inr h4') (by omega)
/-- What event k knows of those ahead of it. -/
theorem at_iff {l : List Ev} (hm : may l = 0) {k i : Nat} (hk : k < l.length) : bef l i k = true ↔ KC l k (tZ l k) i ∨ (kZ l k = 3 ∧ KL l k (oZ l k) i) ∨ (kZ l k = 6 ∧ KC l k (oZ l k) i) ∨ (kZ l k = 7 ∧ KV l k (oZ l k) i) := by
  rw [bef_iff hm hk]
  constructor
  · rintro ⟨m, h1, h2, h3⟩
    unfold dirN at h2
    rcases h2 with h | h | h | h | h | h
    · exact .inl ⟨m, h1, .inl h, h3⟩
    · exact .inr (.inl ⟨h.2.1, m, h1, ⟨h.1, h.2.2⟩, h3⟩)
    · exact .inl ⟨m, h1, .inr ⟨h.1, h.2.symm⟩, h3⟩
    · exact .inr (.inr (.inl ⟨h.1, m, h1, .inl h.2, h3⟩))
    · exact .inr (.inr (.inr ⟨h.2.1, m, h1, ⟨h.1, h.2.2⟩, h3⟩))
    · exact .inr (.inr (.inl ⟨h.2.1, m, h1, .inr ⟨h.1, h.2.2⟩, h3⟩))
  · unfold dirN
    rintro (⟨m, h1, h | h, h3⟩ | ⟨h0, m, h1, h, h3⟩ | ⟨h0, m, h1, h | h, h3⟩ | ⟨h0, m, h1, h, h3⟩)
    · exact ⟨m, h1, .inl h, h3⟩
    · exact ⟨m, h1, .inr (.inr (.inl ⟨h.1, h.2.symm⟩)), h3⟩
    · exact ⟨m, h1, .inr (.inl ⟨h.1, h0, h.2⟩), h3⟩
    · exact ⟨m, h1, .inr (.inr (.inr (.inl ⟨h0, h⟩))), h3⟩
    · exact ⟨m, h1, .inr (.inr (.inr (.inr (.inr ⟨h.1, h0, h.2⟩)))), h3⟩
    · exact ⟨m, h1, .inr (.inr (.inr (.inr (.inl ⟨h.1, h0, h.2⟩)))), h3⟩
end Go.Proofs.Ytipjgcklnceohaa

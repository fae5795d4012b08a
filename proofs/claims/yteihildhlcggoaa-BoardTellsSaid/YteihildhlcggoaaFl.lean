/- Plain facts: the detector by full clocks (DJIT+), as functions over lists; what its clocks know is what happens before. | Plain facts: the detector by full clocks: the invariant's step. | Plain facts: the detector by full clocks: releases, forks, shows; all clocks of a valid trace. | Plain facts: the detector by full clocks: what it flags are the seconds of races (POZNIANSKY, SCHUSTER). | Plain facts: how many events of each thread are known at each event; blocks of counted numbers. | Plain facts: a list of numbers sorted, each once. | Plain facts: the detector's clocks and variables as blocks of numbers; what it flags, as a list. | Plain facts: the reference's Full: the least kind of a race, as a fold; own numbers counted. | Plain facts: flags of a beginning of a trace. | Plain facts: what is flagged are just the seconds of races. -/
import Derived.Test.YteihildhlcggoaaOr
import Derived.Test.YteihildhlcggoaaBase
import Derived.Lib.SlicesCompact
import Derived.Test.YteihildhlcggoaaRows
import Derived.Test.YteihildhlcggoaaGrow
import Derived.Deep.MidRow
import Derived.Maps.AppendAt
set_option linter.all false
set_option maxRecDepth 100000
namespace Go.Proofs.Yteihildhlcggoaa
open Go Go.RowKit

/-- The event at a place, its parts as counted numbers. -/
def eZ (l : List Ev) (i : Nat) : Ev := (l[i]?).getD ⟨0, 0, 0⟩
def kZ (l : List Ev) (i : Nat) : Int := (eZ l i).k
def tZ (l : List Ev) (i : Nat) : Nat := (eZ l i).t.toNat
def oZ (l : List Ev) (i : Nat) : Nat := (eZ l i).o.toNat
theorem eZ_at {l : List Ev} {i : Nat} {e : Ev} (h : l[i]? = some e) : eZ l i = e := by simp [eZ, h]
theorem eZ_get {l : List Ev} {i : Nat} (h : i < l.length) : l[i]? = some (eZ l i) := by simp [eZ, h]
theorem eZ_ok {l : List Ev} (hm : may l = 0) {i : Nat} (h : i < l.length) : isEv (eZ l i) = true := wrong_isEv (wrong_at hm (eZ_get h))
theorem tZ_lt {l : List Ev} (hm : may l = 0) {i : Nat} (h : i < l.length) : tZ l i < 6 := by
  have := isEv_t (eZ_ok hm h); unfold tZ; omega
/-- Directly before, in counted numbers. -/
def dirN (l : List Ev) (m k : Nat) : Prop := tZ l m = tZ l k ∨ (kZ l m = 4 ∧ kZ l k = 3 ∧ oZ l m = oZ l k) ∨ (kZ l m = 5 ∧ tZ l k = oZ l m) ∨ (kZ l k = 6 ∧ tZ l m = oZ l k) ∨ (kZ l m = 8 ∧ kZ l k = 7 ∧ oZ l m = oZ l k) ∨ (kZ l m = 5 ∧ kZ l k = 6 ∧ oZ l m = oZ l k)
theorem dirB_N {l : List Ev} (hm : may l = 0) {m k : Nat} (hk : k < l.length) : dirB l m k = true ↔ m < k ∧ dirN l m k := by
  by_cases hmk : m < k
  · have hml : m < l.length := by omega
    have ha := eZ_get hml; have hb := eZ_get hk
    have ta := isEv_t (eZ_ok hm hml); have tb := isEv_t (eZ_ok hm hk)
    have oa := (isEv_o (eZ_ok hm hml)).1; have ob := (isEv_o (eZ_ok hm hk)).1
    have e1 : (eZ l m).t = (eZ l k).t ↔ tZ l m = tZ l k := by unfold tZ; omega
    have e2 : (eZ l m).o = (eZ l k).o ↔ oZ l m = oZ l k := by unfold oZ; omega
    have e3 : (eZ l k).t = (eZ l m).o ↔ tZ l k = oZ l m := by unfold tZ oZ; omega
    have e4 : (eZ l m).t = (eZ l k).o ↔ tZ l m = oZ l k := by unfold tZ oZ; omega
    rw [dirB_at ha hb, decide_eq_true hmk, Bool.true_and]
    unfold directly dirN kZ
    simp only [Bool.or_eq_true, Bool.and_eq_true, beq_iff_eq, e1, e2, e3, e4, hmk, true_and, or_assoc]
  · constructor
    · intro h; exact absurd (dirB_lt h).1 hmk
    · intro h; exact absurd h.1 hmk
/-- Before or the same. -/
def kb (l : List Ev) (i m : Nat) : Prop := i = m ∨ bef l i m = true
theorem kb_trans {l : List Ev} {i m k : Nat} (h : kb l i m) (h2 : bef l m k = true) : bef l i k = true := by
  rcases h with rfl | h
  · exact h2
  · exact bef_trans h h2
theorem kb_le {l : List Ev} {i m : Nat} (h : kb l i m) : i ≤ m := by
  rcases h with rfl | h
  · exact Nat.le_refl _
  · have := bef_lt h; omega
theorem bef_last {l : List Ev} {j : Nat} : ∀ (d i : Nat), j - i ≤ d → bef l i j = true → ∃ m, dirB l m j = true ∧ kb l i m
  | 0, i, hd, h => by have := bef_lt h; omega
  | d + 1, i, hd, h => by
    rcases bef_step h with h1 | ⟨m, h1, h2⟩
    · exact ⟨i, h1, .inl rfl⟩
    · have := dirB_lt h1; have := bef_lt h2
      obtain ⟨p, h3, h4⟩ := bef_last d m (by omega) h2
      exact ⟨p, h3, .inr (by rcases h4 with rfl | h4
                             · exact dir_bef h1
                             · exact bef_trans (dir_bef h1) h4)⟩
theorem bef_iff {l : List Ev} (hm : may l = 0) {i j : Nat} (hj : j < l.length) : bef l i j = true ↔ ∃ m, m < j ∧ dirN l m j ∧ kb l i m := by
  constructor
  · intro h
    obtain ⟨m, h1, h2⟩ := bef_last _ i (Nat.le_refl _) h
    have := (dirB_N hm hj).1 h1
    exact ⟨m, this.1, this.2, h2⟩
  · rintro ⟨m, h1, h2, h3⟩
    exact kb_trans h3 (dir_bef ((dirB_N hm hj).2 ⟨h1, h2⟩))
theorem thread_bef {l : List Ev} (hm : may l = 0) {i j : Nat} (hij : i < j) (hj : j < l.length) (h : tZ l i = tZ l j) : bef l i j = true := dir_bef ((dirB_N hm hj).2 ⟨hij, .inl h⟩)

/-- The detector's clocks: of threads, locks, signals. -/
structure Dj where
  C : Nat → Nat → Nat
  L : Nat → Nat → Nat
  V : Nat → Nat → Nat
def put1 {α : Type} (f : Nat → α) (i : Nat) (g : α) : Nat → α := fun j => if j = i then g else f j
def mxN (a b : Nat → Nat) : Nat → Nat := fun u => max (a u) (b u)
def incN (a : Nat → Nat) (t : Nat) : Nat → Nat := fun u => if u = t then a u + 1 else a u
theorem put1_same {α : Type} (f : Nat → α) (i : Nat) (g : α) : put1 f i g i = g := if_pos rfl
theorem put1_ne {α : Type} (f : Nat → α) {i j : Nat} (g : α) (h : j ≠ i) : put1 f i g j = f j := if_neg h
theorem incN_same (a : Nat → Nat) (t : Nat) : incN a t t = a t + 1 := if_pos rfl
theorem incN_ne (a : Nat → Nat) {t u : Nat} (h : u ≠ t) : incN a t u = a u := if_neg h
def djStart : Dj := ⟨fun t u => if t = u then 1 else 0, fun _ _ => 0, fun _ _ => 0⟩
def djStep (s : Dj) (k : Int) (t o : Nat) : Dj :=
  if k = 3 then { s with C := put1 s.C t (mxN (s.C t) (s.L o)) }
  else if k = 4 then { s with L := put1 s.L o (s.C t), C := put1 s.C t (incN (s.C t) t) }
  else if k = 5 then { s with C := put1 (put1 s.C o (mxN (s.C o) (s.C t))) t (incN (s.C t) t) }
  else if k = 6 then { s with C := put1 s.C t (mxN (s.C t) (s.C o)) }
  else if k = 7 then { s with C := put1 s.C t (mxN (s.C t) (s.V o)) }
  else if k = 8 then { s with V := put1 s.V o (mxN (s.V o) (s.C t)), C := put1 s.C t (incN (s.C t) t) }
  else s
/-- The clocks ahead of event k. -/
def djTo (l : List Ev) : Nat → Dj
  | 0 => djStart
  | k + 1 => djStep (djTo l k) (kZ l k) (tZ l k) (oZ l k)
/-- The own number at an event. -/
def epo (l : List Ev) (i : Nat) : Nat := (djTo l i).C (tZ l i) (tZ l i)
/-- Known to thread t ahead of event k; to a lock; to a signal. -/
def KC (l : List Ev) (k t i : Nat) : Prop := ∃ m, m < k ∧ (tZ l m = t ∨ (kZ l m = 5 ∧ oZ l m = t)) ∧ kb l i m
def KL (l : List Ev) (k o i : Nat) : Prop := ∃ m, m < k ∧ (kZ l m = 4 ∧ oZ l m = o) ∧ kb l i m
def KV (l : List Ev) (k o i : Nat) : Prop := ∃ m, m < k ∧ (kZ l m = 8 ∧ oZ l m = o) ∧ kb l i m
/-- Joined ahead of event k. -/
def ovr (l : List Ev) (k u : Nat) : Prop := ∃ m, m < k ∧ kZ l m = 6 ∧ oZ l m = u
structure DjI (l : List Ev) (k : Nat) (s : Dj) : Prop where
  c0 : ∀ t u, s.C t u ≤ s.C u u
  l0 : ∀ o u, s.L o u ≤ s.C u u
  v0 : ∀ o u, s.V o u ≤ s.C u u
  c1 : ∀ t u, t ≠ u → ¬ ovr l k u → s.C t u < s.C u u
  l1 : ∀ o u, ¬ ovr l k u → s.L o u < s.C u u
  v1 : ∀ o u, ¬ ovr l k u → s.V o u < s.C u u
  kc : ∀ t i, i < k → (epo l i ≤ s.C t (tZ l i) ↔ KC l k t i)
  kl : ∀ o i, i < k → (epo l i ≤ s.L o (tZ l i) ↔ KL l k o i)
  kv : ∀ o i, i < k → (epo l i ≤ s.V o (tZ l i) ↔ KV l k o i)
theorem not_over {l : List Ev} (hm : may l = 0) {k : Nat} (hk : k < l.length) : ¬ ovr l k (tZ l k) := by
  rintro ⟨m, h1, h2, h3⟩
  have hml : m < l.length := by omega
  have ha := eZ_get hml; have hb := eZ_get hk
  have tb := isEv_t (eZ_ok hm hk)
  have oa := (isEv_o (eZ_ok hm hml)).1
  unfold oZ tZ at h3
  have := join_lt hm ha hb h2 (by omega)
  omega
theorem fork_ne {l : List Ev} (hm : may l = 0) {k : Nat} (hk : k < l.length) (h5 : kZ l k = 5) : oZ l k ≠ tZ l k := by
  intro h
  have hb := eZ_get hk
  have tb := isEv_t (eZ_ok hm hk)
  have oa := (isEv_o (eZ_ok hm hk)).1
  unfold oZ tZ at h
  have := fork_lt hm hb hb h5 (by omega)
  omega
theorem join_ne {l : List Ev} (hm : may l = 0) {k : Nat} (hk : k < l.length) (h6 : kZ l k = 6) : oZ l k ≠ tZ l k := by
  intro h
  have hb := eZ_get hk
  have tb := isEv_t (eZ_ok hm hk)
  have oa := (isEv_o (eZ_ok hm hk)).1
  unfold oZ tZ at h
  have := wrong_join (wrong_at hm hb) h6
  omega
/-- Nothing of a forked thread comes ahead of its fork. -/
theorem fork_first {l : List Ev} (hm : may l = 0) {k m : Nat} (hk : k < l.length) (h5 : kZ l k = 5) (hmk : m < k) : tZ l m ≠ oZ l k := by
  intro h
  have hb := eZ_get hk; have ha := eZ_get (l := l) (i := m) (by omega)
  have tb := isEv_t (eZ_ok hm (show m < l.length by omega))
  have oa := (isEv_o (eZ_ok hm hk)).1
  unfold oZ tZ at h
  have := fork_lt hm hb ha h5 (by omega)
  omega
/-- Earlier releases of one lock are known at a later one. -/
theorem rel_chain {l : List Ev} (hm : may l = 0) {m k : Nat} (hk : k < l.length) (hmk : m < k) (h4 : kZ l m = 4) (h4' : kZ l k = 4) (ho : oZ l m = oZ l k) : bef l m k = true := by
  have ha := eZ_get (l := l) (i := m) (by omega); have hb := eZ_get hk
  have oa := (isEv_o (eZ_ok hm (show m < l.length by omega))).1; have ob := (isEv_o (eZ_ok hm hk)).1
  unfold oZ at ho
  exact lock_bef hm ha hb hmk (.inr h4) (.inr h4') (by omega)
/-- What event k knows of those ahead of it. -/
theorem at_iff {l : List Ev} (hm : may l = 0) {k i : Nat} (hk : k < l.length) : bef l i k = true ↔ KC l k (tZ l k) i ∨ (kZ l k = 3 ∧ KL l k (oZ l k) i) ∨ (kZ l k = 6 ∧ KC l k (oZ l k) i) ∨ (kZ l k = 7 ∧ KV l k (oZ l k) i) := by
  rw [bef_iff hm hk]
  constructor
  · rintro ⟨m, h1, h2, h3⟩
    unfold dirN at h2
    rcases h2 with h | h | h | h | h | h
    · exact .inl ⟨m, h1, .inl h, h3⟩
    · exact .inr (.inl ⟨h.2.1, m, h1, ⟨h.1, h.2.2⟩, h3⟩)
    · exact .inl ⟨m, h1, .inr ⟨h.1, h.2.symm⟩, h3⟩
    · exact .inr (.inr (.inl ⟨h.1, m, h1, .inl h.2, h3⟩))
    · exact .inr (.inr (.inr ⟨h.2.1, m, h1, ⟨h.1, h.2.2⟩, h3⟩))
    · exact .inr (.inr (.inl ⟨h.2.1, m, h1, .inr ⟨h.1, h.2.2⟩, h3⟩))
  · unfold dirN
    rintro (⟨m, h1, h | h, h3⟩ | ⟨h0, m, h1, h, h3⟩ | ⟨h0, m, h1, h | h, h3⟩ | ⟨h0, m, h1, h, h3⟩)
    · exact ⟨m, h1, .inl h, h3⟩
    · exact ⟨m, h1, .inr (.inr (.inl ⟨h.1, h.2.symm⟩)), h3⟩
    · exact ⟨m, h1, .inr (.inl ⟨h.1, h0, h.2⟩), h3⟩
    · exact ⟨m, h1, .inr (.inr (.inr (.inl ⟨h0, h⟩))), h3⟩
    · exact ⟨m, h1, .inr (.inr (.inr (.inr (.inr ⟨h.1, h0, h.2⟩)))), h3⟩
    · exact ⟨m, h1, .inr (.inr (.inr (.inr (.inl ⟨h.1, h0, h.2⟩)))), h3⟩
end Go.Proofs.Yteihildhlcggoaa
namespace Go.Proofs.Yteihildhlcggoaa
open Go Go.RowKit

theorem le_mx {e : Nat} {a b : Nat → Nat} {u : Nat} : e ≤ mxN a b u ↔ e ≤ a u ∨ e ≤ b u := by unfold mxN; omega
theorem kc_succ {l : List Ev} {k t i : Nat} : KC l (k + 1) t i ↔ KC l k t i ∨ ((tZ l k = t ∨ (kZ l k = 5 ∧ oZ l k = t)) ∧ kb l i k) := by
  constructor
  · rintro ⟨m, h1, h2, h3⟩
    rcases Nat.lt_succ_iff_lt_or_eq.1 h1 with h | rfl
    · exact .inl ⟨m, h, h2, h3⟩
    · exact .inr ⟨h2, h3⟩
  · rintro (⟨m, h1, h2, h3⟩ | ⟨h2, h3⟩)
    · exact ⟨m, by omega, h2, h3⟩
    · exact ⟨k, by omega, h2, h3⟩
theorem kl_succ {l : List Ev} {k o i : Nat} : KL l (k + 1) o i ↔ KL l k o i ∨ ((kZ l k = 4 ∧ oZ l k = o) ∧ kb l i k) := by
  constructor
  · rintro ⟨m, h1, h2, h3⟩
    rcases Nat.lt_succ_iff_lt_or_eq.1 h1 with h | rfl
    · exact .inl ⟨m, h, h2, h3⟩
    · exact .inr ⟨h2, h3⟩
  · rintro (⟨m, h1, h2, h3⟩ | ⟨h2, h3⟩)
    · exact ⟨m, by omega, h2, h3⟩
    · exact ⟨k, by omega, h2, h3⟩
theorem kv_succ {l : List Ev} {k o i : Nat} : KV l (k + 1) o i ↔ KV l k o i ∨ ((kZ l k = 8 ∧ oZ l k = o) ∧ kb l i k) := by
  constructor
  · rintro ⟨m, h1, h2, h3⟩
    rcases Nat.lt_succ_iff_lt_or_eq.1 h1 with h | rfl
    · exact .inl ⟨m, h, h2, h3⟩
    · exact .inr ⟨h2, h3⟩
  · rintro (⟨m, h1, h2, h3⟩ | ⟨h2, h3⟩)
    · exact ⟨m, by omega, h2, h3⟩
    · exact ⟨k, by omega, h2, h3⟩
theorem ovr_succ {l : List Ev} {k u : Nat} (h : ¬ ovr l (k + 1) u) : ¬ ovr l k u ∧ ¬ (kZ l k = 6 ∧ oZ l k = u) :=
  ⟨fun ⟨m, h1, h2⟩ => h ⟨m, by omega, h2⟩, fun h2 => h ⟨k, by omega, h2⟩⟩
theorem kc_self {l : List Ev} {k t : Nat} : ¬ KC l k t k := fun ⟨_, h1, _, h3⟩ => by have := kb_le h3; omega
theorem kl_self {l : List Ev} {k o : Nat} : ¬ KL l k o k := fun ⟨_, h1, _, h3⟩ => by have := kb_le h3; omega
theorem kv_self {l : List Ev} {k o : Nat} : ¬ KV l k o k := fun ⟨_, h1, _, h3⟩ => by have := kb_le h3; omega
theorem kb_self {l : List Ev} {k : Nat} : kb l k k := .inl rfl
theorem kb_lt {l : List Ev} {i k : Nat} (h : i < k) : kb l i k ↔ bef l i k = true := ⟨fun h1 => h1.resolve_left (by omega), .inr⟩
theorem djI_start (l : List Ev) : DjI l 0 djStart where
  c0 := fun t u => by unfold djStart; dsimp only; split <;> simp
  l0 := fun _ _ => Nat.zero_le _
  v0 := fun _ _ => Nat.zero_le _
  c1 := fun t u h _ => by unfold djStart; dsimp only; rw [if_neg h, if_pos rfl]; omega
  l1 := fun _ u _ => by unfold djStart; dsimp only; rw [if_pos rfl]; omega
  v1 := fun _ u _ => by unfold djStart; dsimp only; rw [if_pos rfl]; omega
  kc := fun _ i h => by omega
  kl := fun _ i h => by omega
  kv := fun _ i h => by omega
section
variable {l : List Ev} {k : Nat} {s : Dj}
/-- A step that leaves all clocks but one thread's, which takes in another clock X that knows what Y knows. -/
theorem djI_take (h : DjI l k s) (hov : ¬ ovr l k (tZ l k)) (he : epo l k = s.C (tZ l k) (tZ l k)) (X : Nat → Nat) (Y : Nat → Prop)
    (x0 : ∀ u, X u ≤ s.C u u) (x1 : ∀ u, u ≠ tZ l k → ¬ ovr l (k + 1) u → X u < s.C u u) (hx : ∀ i, i < k → (epo l i ≤ X (tZ l i) ↔ Y i))
    (h4 : kZ l k ≠ 4) (h5 : kZ l k ≠ 5) (h8 : kZ l k ≠ 8) (hb : ∀ i, i < k → (bef l i k = true ↔ KC l k (tZ l k) i ∨ Y i)) :
    DjI l (k + 1) { s with C := put1 s.C (tZ l k) (mxN (s.C (tZ l k)) X) } := by
  have hself : ∀ u, put1 s.C (tZ l k) (mxN (s.C (tZ l k)) X) u u = s.C u u := fun u => by
    by_cases hu : u = tZ l k
    · subst hu; rw [put1_same]; unfold mxN; have := x0 (tZ l k); omega
    · rw [put1_ne _ _ hu]
  constructor
  · intro t u
    dsimp only; rw [hself]
    by_cases ht : t = tZ l k
    · subst ht; rw [put1_same]; unfold mxN; have := h.c0 (tZ l k) u; have := x0 u; omega
    · rw [put1_ne _ _ ht]; exact h.c0 t u
  · intro o u; dsimp only; rw [hself]; exact h.l0 o u
  · intro o u; dsimp only; rw [hself]; exact h.v0 o u
  · intro t u htu hu
    dsimp only; rw [hself]
    have hu' := ovr_succ hu
    by_cases ht : t = tZ l k
    · subst ht; rw [put1_same]; unfold mxN; have := h.c1 (tZ l k) u htu hu'.1; have := x1 u (Ne.symm htu) hu; omega
    · rw [put1_ne _ _ ht]; exact h.c1 t u htu hu'.1
  · intro o u hu; dsimp only; rw [hself]; exact h.l1 o u (ovr_succ hu).1
  · intro o u hu; dsimp only; rw [hself]; exact h.v1 o u (ovr_succ hu).1
  · intro t i hi
    dsimp only
    rw [kc_succ]
    rcases Nat.lt_succ_iff_lt_or_eq.1 hi with hi | rfl
    · by_cases ht : t = tZ l k
      · subst ht
        rw [put1_same, le_mx, h.kc _ i hi, hx i hi, kb_lt hi, hb i hi]
        constructor
        · intro hh; exact .inr ⟨.inl rfl, hh⟩
        · rintro (hh | ⟨_, hh⟩)
          · exact .inl hh
          · exact hh
      · rw [put1_ne _ _ ht, h.kc _ i hi]
        exact ⟨.inl, fun hh => hh.resolve_right fun hr => hr.1.elim (fun e => ht e.symm) (fun e => h5 e.1)⟩
    · rw [he]
      by_cases ht : t = tZ l i
      · subst ht
        rw [hself]
        exact ⟨fun _ => .inr ⟨.inl rfl, kb_self⟩, fun _ => Nat.le_refl _⟩
      · rw [put1_ne _ _ ht]
        have := h.c1 t _ ht hov
        constructor
        · intro hh; omega
        · rintro (hh | ⟨hh | hh, _⟩)
          · exact absurd hh kc_self
          · exact absurd hh.symm ht
          · exact absurd hh.1 h5
  · intro o i hi
    dsimp only
    rw [kl_succ]
    rcases Nat.lt_succ_iff_lt_or_eq.1 hi with hi | rfl
    · rw [h.kl _ i hi]
      exact ⟨.inl, fun hh => hh.resolve_right fun hr => h4 hr.1.1⟩
    · rw [he]
      have := h.l1 o _ hov
      exact ⟨fun hh => by omega, fun hh => by rcases hh with hh | hh; exact absurd hh kl_self; exact absurd hh.1.1 h4⟩
  · intro o i hi
    dsimp only
    rw [kv_succ]
    rcases Nat.lt_succ_iff_lt_or_eq.1 hi with hi | rfl
    · rw [h.kv _ i hi]
      exact ⟨.inl, fun hh => hh.resolve_right fun hr => h8 hr.1.1⟩
    · rw [he]
      have := h.v1 o _ hov
      exact ⟨fun hh => by omega, fun hh => by rcases hh with hh | hh; exact absurd hh kv_self; exact absurd hh.1.1 h8⟩
end
end Go.Proofs.Yteihildhlcggoaa
namespace Go.Proofs.Yteihildhlcggoaa
open Go Go.RowKit

section
variable {l : List Ev} {k : Nat} {s : Dj}
/-- What hands a clock on: the own number is incremented behind it. -/
theorem djI_give (hm : may l = 0) (hk : k < l.length) (h : DjI l k s) (he : epo l k = s.C (tZ l k) (tZ l k)) (s' : Dj) (hK : kZ l k = 4 ∨ kZ l k = 5 ∨ kZ l k = 8)
    (hCt : s'.C (tZ l k) = incN (s.C (tZ l k)) (tZ l k))
    (hC : ∀ t, t ≠ tZ l k → (s'.C t = s.C t ∧ ¬ (kZ l k = 5 ∧ oZ l k = t)) ∨ (kZ l k = 5 ∧ oZ l k = t ∧ s'.C t = mxN (s.C t) (s.C (tZ l k))))
    (hL : ∀ o, (s'.L o = s.L o ∧ ¬ (kZ l k = 4 ∧ oZ l k = o)) ∨ (kZ l k = 4 ∧ oZ l k = o ∧ s'.L o = s.C (tZ l k)))
    (hV : ∀ o, (s'.V o = s.V o ∧ ¬ (kZ l k = 8 ∧ oZ l k = o)) ∨ (kZ l k = 8 ∧ oZ l k = o ∧ s'.V o = mxN (s.V o) (s.C (tZ l k)))) :
    DjI l (k + 1) s' := by
  have hov := not_over hm hk
  have hb : ∀ i, bef l i k = true ↔ KC l k (tZ l k) i := fun i => by
    rw [at_iff hm hk]
    constructor
    · rintro (h1 | ⟨h1, _⟩ | ⟨h1, _⟩ | ⟨h1, _⟩)
      · exact h1
      all_goals omega
    · exact .inl
  have hf : ∀ t, kZ l k = 5 → oZ l k = t → t ≠ tZ l k := fun t h5 ho e => fork_ne hm hk h5 (ho.trans e)
  generalize hT : tZ l k = T at *
  have hA : ∀ u, s'.C u u = s.C u u + (if u = T then 1 else 0) := fun u => by
    by_cases hu : u = T
    · subst hu; rw [hCt, incN_same, if_pos rfl]
    · rw [if_neg hu]
      rcases hC u hu with ⟨e, _⟩ | ⟨_, _, e⟩
      · rw [e]; rfl
      · rw [e]; unfold mxN; have := h.c0 T u; omega
  have hge : ∀ u, s.C u u ≤ s'.C u u := fun u => by rw [hA]; omega
  have hct : ∀ u, ¬ ovr l k u → s.C T u < s'.C u u := fun u hu => by
    rw [hA]
    by_cases hu2 : u = T
    · subst hu2; rw [if_pos rfl]; omega
    · rw [if_neg hu2]; have := h.c1 T u (Ne.symm hu2) hu; omega
  constructor
  · intro t u
    by_cases ht : t = T
    · subst ht
      rw [hCt]
      by_cases hu : u = t
      · subst hu; rw [incN_same, hA, if_pos rfl]; omega
      · rw [incN_ne _ hu]; have := h.c0 t u; have := hge u; omega
    · rcases hC t ht with ⟨e, _⟩ | ⟨_, _, e⟩
      · rw [e]; have := h.c0 t u; have := hge u; omega
      · rw [e]; unfold mxN; have := h.c0 t u; have := h.c0 T u; have := hge u; omega
  · intro o u
    rcases hL o with ⟨e, _⟩ | ⟨_, _, e⟩
    · rw [e]; have := h.l0 o u; have := hge u; omega
    · rw [e]; have := h.c0 T u; have := hge u; omega
  · intro o u
    rcases hV o with ⟨e, _⟩ | ⟨_, _, e⟩
    · rw [e]; have := h.v0 o u; have := hge u; omega
    · rw [e]; unfold mxN; have := h.v0 o u; have := h.c0 T u; have := hge u; omega
  · intro t u htu hu
    have hu' := (ovr_succ hu).1
    by_cases ht : t = T
    · subst ht
      rw [hCt, incN_ne _ (Ne.symm htu)]; exact hct u hu'
    · rcases hC t ht with ⟨e, _⟩ | ⟨_, _, e⟩
      · rw [e]; have := h.c1 t u htu hu'; have := hge u; omega
      · rw [e]; unfold mxN; have := h.c1 t u htu hu'; have := hct u hu'; have := hge u; omega
  · intro o u hu
    have hu' := (ovr_succ hu).1
    rcases hL o with ⟨e, _⟩ | ⟨_, _, e⟩
    · rw [e]; have := h.l1 o u hu'; have := hge u; omega
    · rw [e]; exact hct u hu'
  · intro o u hu
    have hu' := (ovr_succ hu).1
    rcases hV o with ⟨e, _⟩ | ⟨_, _, e⟩
    · rw [e]; have := h.v1 o u hu'; have := hge u; omega
    · rw [e]; unfold mxN; have := h.v1 o u hu'; have := hct u hu'; have := hge u; omega
  · intro t i hi
    rw [kc_succ, hT]
    rcases Nat.lt_succ_iff_lt_or_eq.1 hi with hi | rfl
    · rw [kb_lt hi, hb]
      by_cases ht : t = T
      · subst ht
        rw [hCt]
        by_cases hti : tZ l i = t
        · have h1 : KC l k t i := ⟨i, hi, .inl hti, kb_self⟩
          have h2 := (h.kc t i hi).2 h1
          rw [hti] at h2 ⊢
          rw [incN_same]
          exact ⟨fun _ => .inl h1, fun _ => by omega⟩
        · rw [incN_ne _ hti, h.kc t i hi]
          exact ⟨.inl, fun hh => hh.elim id fun hr => hr.2⟩
      · rcases hC t ht with ⟨e, hn⟩ | ⟨h5, ho, e⟩
        · rw [e, h.kc t i hi]
          exact ⟨.inl, fun hh => hh.resolve_right fun hr => hr.1.elim (fun e => ht e.symm) hn⟩
        · rw [e, le_mx, h.kc t i hi, h.kc T i hi]
          exact ⟨fun hh => hh.imp id fun hr => ⟨.inr ⟨h5, ho⟩, hr⟩, fun hh => hh.imp id fun hr => hr.2⟩
    · rw [he, hT]
      by_cases ht : t = T
      · subst ht
        rw [hCt, incN_same]
        exact ⟨fun _ => .inr ⟨.inl rfl, kb_self⟩, fun _ => by omega⟩
      · rcases hC t ht with ⟨e, hn⟩ | ⟨h5, ho, e⟩
        · rw [e]
          have := h.c1 t T ht hov
          exact ⟨fun hh => by omega, fun hh => by rcases hh with hh | ⟨hh | hh, _⟩; exact absurd hh kc_self; exact absurd hh.symm ht; exact absurd hh hn⟩
        · rw [e, le_mx]
          exact ⟨fun _ => .inr ⟨.inr ⟨h5, ho⟩, kb_self⟩, fun _ => .inr (Nat.le_refl _)⟩
  · intro o i hi
    rw [kl_succ]
    rcases Nat.lt_succ_iff_lt_or_eq.1 hi with hi | rfl
    · rw [kb_lt hi, hb]
      rcases hL o with ⟨e, hn⟩ | ⟨h4, ho, e⟩
      · rw [e, h.kl o i hi]
        exact ⟨.inl, fun hh => hh.resolve_right fun hr => hn hr.1⟩
      · rw [e, h.kc T i hi]
        refine ⟨fun hh => .inr ⟨⟨h4, ho⟩, hh⟩, fun hh => hh.elim (fun hr => ?_) fun hr => hr.2⟩
        obtain ⟨m, h1, h2, h3⟩ := hr
        exact (hb i).1 (kb_trans h3 (rel_chain hm hk h1 h2.1 h4 (h2.2.trans ho.symm)))
    · rw [he, hT]
      rcases hL o with ⟨e, hn⟩ | ⟨h4, ho, e⟩
      · rw [e]
        have := h.l1 o T hov
        exact ⟨fun hh => by omega, fun hh => by rcases hh with hh | hh; exact absurd hh kl_self; exact absurd hh.1 hn⟩
      · rw [e]
        exact ⟨fun _ => .inr ⟨⟨h4, ho⟩, kb_self⟩, fun _ => Nat.le_refl _⟩
  · intro o i hi
    rw [kv_succ]
    rcases Nat.lt_succ_iff_lt_or_eq.1 hi with hi | rfl
    · rw [kb_lt hi, hb]
      rcases hV o with ⟨e, hn⟩ | ⟨h8, ho, e⟩
      · rw [e, h.kv o i hi]
        exact ⟨.inl, fun hh => hh.resolve_right fun hr => hn hr.1⟩
      · rw [e, le_mx, h.kv o i hi, h.kc T i hi]
        exact ⟨fun hh => hh.imp id fun hr => ⟨⟨h8, ho⟩, hr⟩, fun hh => hh.imp id fun hr => hr.2⟩
    · rw [he, hT]
      rcases hV o with ⟨e, hn⟩ | ⟨h8, ho, e⟩
      · rw [e]
        have := h.v1 o T hov
        exact ⟨fun hh => by omega, fun hh => by rcases hh with hh | hh; exact absurd hh kv_self; exact absurd hh.1 hn⟩
      · rw [e, le_mx]
        exact ⟨fun _ => .inr ⟨⟨h8, ho⟩, kb_self⟩, fun _ => .inr (Nat.le_refl _)⟩
end
theorem djI_all {l : List Ev} (hm : may l = 0) : ∀ k, k ≤ l.length → DjI l k (djTo l k)
  | 0, _ => djI_start l
  | k + 1, hk' => by
    have hk : k < l.length := by omega
    have h := djI_all hm k (by omega)
    have he : epo l k = (djTo l k).C (tZ l k) (tZ l k) := rfl
    have hov := not_over hm hk
    have hat := fun (i : Nat) (_ : i < k) => at_iff (i := i) hm hk
    show DjI l (k + 1) (djStep (djTo l k) (kZ l k) (tZ l k) (oZ l k))
    generalize djTo l k = s at *
    unfold djStep
    by_cases h3 : kZ l k = 3
    · rw [if_pos h3]
      refine djI_take h hov he (s.L (oZ l k)) (KL l k (oZ l k)) (h.l0 _) (fun u _ hu => h.l1 _ u (ovr_succ hu).1) (fun i hi => h.kl _ i hi) (by omega) (by omega) (by omega) fun i hi => ?_
      rw [hat i hi]
      constructor
      · rintro (h1 | ⟨_, h1⟩ | ⟨h0, _⟩ | ⟨h0, _⟩)
        · exact .inl h1
        · exact .inr h1
        all_goals omega
      · rintro (h1 | h1)
        · exact .inl h1
        · exact .inr (.inl ⟨h3, h1⟩)
    rw [if_neg h3]
    by_cases h4 : kZ l k = 4
    · rw [if_pos h4]
      refine djI_give hm hk h he _ (.inl h4) (put1_same _ _ _) (fun t ht => .inl ⟨put1_ne _ _ ht, by omega⟩) (fun o => ?_) (fun o => .inl ⟨rfl, by omega⟩)
      by_cases ho : o = oZ l k
      · subst ho; exact .inr ⟨h4, rfl, put1_same _ _ _⟩
      · exact .inl ⟨put1_ne _ _ ho, fun e => ho e.2.symm⟩
    rw [if_neg h4]
    by_cases h5 : kZ l k = 5
    · rw [if_pos h5]
      refine djI_give hm hk h he _ (.inr (.inl h5)) (put1_same _ _ _) (fun t ht => ?_) (fun o => .inl ⟨rfl, by omega⟩) (fun o => .inl ⟨rfl, by omega⟩)
      by_cases ho : t = oZ l k
      · subst ho; exact .inr ⟨h5, rfl, (put1_ne _ _ ht).trans (put1_same _ _ _)⟩
      · exact .inl ⟨(put1_ne _ _ ht).trans (put1_ne _ _ ho), fun e => ho e.2.symm⟩
    rw [if_neg h5]
    by_cases h6 : kZ l k = 6
    · rw [if_pos h6]
      refine djI_take h hov he (s.C (oZ l k)) (KC l k (oZ l k)) (h.c0 _) (fun u _ hu => h.c1 _ u (fun e => (ovr_succ hu).2 ⟨h6, e⟩) (ovr_succ hu).1) (fun i hi => h.kc _ i hi) (by omega) (by omega) (by omega) fun i hi => ?_
      rw [hat i hi]
      constructor
      · rintro (h1 | ⟨h0, _⟩ | ⟨_, h1⟩ | ⟨h0, _⟩)
        · exact .inl h1
        · omega
        · exact .inr h1
        · omega
      · rintro (h1 | h1)
        · exact .inl h1
        · exact .inr (.inr (.inl ⟨h6, h1⟩))
    rw [if_neg h6]
    by_cases h7 : kZ l k = 7
    · rw [if_pos h7]
      refine djI_take h hov he (s.V (oZ l k)) (KV l k (oZ l k)) (h.v0 _) (fun u _ hu => h.v1 _ u (ovr_succ hu).1) (fun i hi => h.kv _ i hi) (by omega) (by omega) (by omega) fun i hi => ?_
      rw [hat i hi]
      constructor
      · rintro (h1 | ⟨h0, _⟩ | ⟨h0, _⟩ | ⟨_, h1⟩)
        · exact .inl h1
        · omega
        · omega
        · exact .inr h1
      · rintro (h1 | h1)
        · exact .inl h1
        · exact .inr (.inr (.inr ⟨h7, h1⟩))
    rw [if_neg h7]
    by_cases h8 : kZ l k = 8
    · rw [if_pos h8]
      refine djI_give hm hk h he _ (.inr (.inr h8)) (put1_same _ _ _) (fun t ht => .inl ⟨put1_ne _ _ ht, by omega⟩) (fun o => .inl ⟨rfl, by omega⟩) (fun o => ?_)
      by_cases ho : o = oZ l k
      · subst ho; exact .inr ⟨h8, rfl, put1_same _ _ _⟩
      · exact .inl ⟨put1_ne _ _ ho, fun e => ho e.2.symm⟩
    rw [if_neg h8]
    have hs : ({ s with C := put1 s.C (tZ l k) (mxN (s.C (tZ l k)) (s.C (tZ l k))) } : Dj) = s := by
      have : put1 s.C (tZ l k) (mxN (s.C (tZ l k)) (s.C (tZ l k))) = s.C := by
        funext j
        by_cases hj : j = tZ l k
        · subst hj; rw [put1_same]; funext u; unfold mxN; omega
        · rw [put1_ne _ _ hj]
      rw [this]
    rw [← hs]
    refine djI_take h hov he (s.C (tZ l k)) (KC l k (tZ l k)) (h.c0 _) (fun u hu hv => h.c1 _ u (Ne.symm hu) (ovr_succ hv).1) (fun i hi => h.kc _ i hi) (by omega) (by omega) (by omega) fun i hi => ?_
    rw [hat i hi]
    constructor
    · rintro (h1 | ⟨h0, _⟩ | ⟨h0, _⟩ | ⟨h0, _⟩)
      · exact .inl h1
      all_goals omega
    · rintro (h1 | h1) <;> exact .inl h1
end Go.Proofs.Yteihildhlcggoaa
namespace Go.Proofs.Yteihildhlcggoaa
open Go Go.RowKit

/-- Hands its clock on: the own number rises. -/
def giveB (l : List Ev) (k u : Nat) : Bool := decide ((kZ l k = 4 ∨ kZ l k = 5 ∨ kZ l k = 8) ∧ tZ l k = u)
def onr (l : List Ev) (k u : Nat) : Nat := (djTo l k).C u u
theorem onr_zero (l : List Ev) (u : Nat) : onr l 0 u = 1 := by unfold onr djTo djStart; dsimp only; rw [if_pos rfl]
theorem onr_succ {l : List Ev} (hm : may l = 0) {k : Nat} (hk : k < l.length) (u : Nat) : onr l (k + 1) u = onr l k u + if giveB l k u = true then 1 else 0 := by
  have h := djI_all hm k (by omega)
  show (djStep (djTo l k) (kZ l k) (tZ l k) (oZ l k)).C u u = (djTo l k).C u u + _
  unfold giveB
  have hfn := fork_ne hm hk
  generalize djTo l k = s at *
  have c0 := h.c0; have l0 := h.l0; have v0 := h.v0
  unfold djStep
  generalize kZ l k = K at *
  generalize tZ l k = T at *
  generalize oZ l k = O at *
  have mx : ∀ X : Nat → Nat, (∀ u, X u ≤ s.C u u) → put1 s.C T (mxN (s.C T) X) u u = s.C u u := fun X hX => by
    by_cases hu : u = T
    · subst hu; rw [put1_same]; unfold mxN; have := hX u; omega
    · rw [put1_ne _ _ hu]
  have ic : put1 s.C T (incN (s.C T) T) u u = s.C u u + if T = u then 1 else 0 := by
    by_cases hu : u = T
    · subst hu; rw [put1_same, incN_same, if_pos rfl]
    · rw [put1_ne _ _ hu, if_neg (Ne.symm hu)]; rfl
  by_cases h3 : K = 3
  · rw [if_pos h3]; dsimp only; rw [mx _ (l0 O), if_neg (by simp; omega)]; rfl
  rw [if_neg h3]
  by_cases h4 : K = 4
  · rw [if_pos h4]; dsimp only; rw [ic]; subst h4; simp
  rw [if_neg h4]
  by_cases h5 : K = 5
  · rw [if_pos h5]; dsimp only
    subst h5
    have hne := hfn rfl
    by_cases hu : u = T
    · subst hu; rw [put1_same, incN_same]; simp
    · rw [put1_ne _ _ hu]
      have h0 : (if decide (((5 : Int) = 4 ∨ (5 : Int) = 5 ∨ (5 : Int) = 8) ∧ T = u) = true then 1 else 0) = 0 := by simp; exact Ne.symm hu
      rw [h0]
      by_cases ho : u = O
      · subst ho; rw [put1_same]; unfold mxN; have := c0 T u; omega
      · rw [put1_ne _ _ ho]; rfl
  rw [if_neg h5]
  by_cases h6 : K = 6
  · rw [if_pos h6]; dsimp only; rw [mx _ (c0 O), if_neg (by simp; omega)]; rfl
  rw [if_neg h6]
  by_cases h7 : K = 7
  · rw [if_pos h7]; dsimp only; rw [mx _ (v0 O), if_neg (by simp; omega)]; rfl
  rw [if_neg h7]
  by_cases h8 : K = 8
  · rw [if_pos h8]; dsimp only; rw [ic]; subst h8; simp
  rw [if_neg h8, if_neg (by simp; omega)]; rfl
theorem onr_pos {l : List Ev} (hm : may l = 0) (u : Nat) : ∀ k, k ≤ l.length → 1 ≤ onr l k u
  | 0, _ => by rw [onr_zero]; omega
  | k + 1, hk => by rw [onr_succ hm (by omega)]; have := onr_pos hm u k (by omega); omega
/-- The number of the last access of kind q of variable x by thread u. -/
def rwTo (l : List Ev) (q : Int) (x u : Nat) : Nat → Nat
  | 0 => 0
  | k + 1 => if kZ l k = q ∧ oZ l k = x ∧ tZ l k = u then onr l k u else rwTo l q x u k
theorem rwTo_own {l : List Ev} (hm : may l = 0) (q : Int) (x u : Nat) : ∀ k, k ≤ l.length → rwTo l q x u k ≤ onr l k u
  | 0, _ => Nat.zero_le _
  | k + 1, hk => by
    have h1 := onr_succ hm (show k < l.length by omega) u
    have h2 := rwTo_own hm q x u k (by omega)
    unfold rwTo
    split <;> omega
theorem rwTo_pos {l : List Ev} (hm : may l = 0) (q : Int) (x u : Nat) : ∀ k, k ≤ l.length → (0 < rwTo l q x u k ↔ ∃ i, i < k ∧ kZ l i = q ∧ oZ l i = x ∧ tZ l i = u)
  | 0, _ => ⟨fun h => by simp [rwTo] at h, fun ⟨i, h, _⟩ => by omega⟩
  | k + 1, hk => by
    have h1 := rwTo_pos hm q x u k (by omega)
    have h2 := onr_pos hm u k (by omega)
    unfold rwTo
    split
    · rename_i hc
      exact ⟨fun _ => ⟨k, by omega, hc⟩, fun _ => by omega⟩
    · rename_i hc
      rw [h1]
      constructor
      · rintro ⟨i, h3, h4⟩; exact ⟨i, by omega, h4⟩
      · rintro ⟨i, h3, h4⟩
        rcases Nat.lt_succ_iff_lt_or_eq.1 h3 with h3 | rfl
        · exact ⟨i, h3, h4⟩
        · exact absurd h4 hc
/-- At an access, what is known is what happens before. -/
theorem acc_iff {l : List Ev} (hm : may l = 0) {j i : Nat} (hj : j < l.length) (hk : kZ l j = 1 ∨ kZ l j = 2) (hij : i < j) : epo l i ≤ (djTo l j).C (tZ l j) (tZ l i) ↔ bef l i j = true := by
  rw [(djI_all hm j (by omega)).kc _ i hij, at_iff hm hj]
  constructor
  · exact .inl
  · rintro (h1 | ⟨h0, _⟩ | ⟨h0, _⟩ | ⟨h0, _⟩)
    · exact h1
    all_goals omega
theorem seen_iff {l : List Ev} (hm : may l = 0) {j : Nat} (hj : j < l.length) (hk : kZ l j = 1 ∨ kZ l j = 2) (q : Int) (x : Nat) : ∀ k, k ≤ j →
    ((∀ u, u < 6 → rwTo l q x u k ≤ (djTo l j).C (tZ l j) u) ↔ ∀ i, i < k → kZ l i = q → oZ l i = x → bef l i j = true)
  | 0, _ => ⟨fun _ i h => by omega, fun _ u _ => Nat.zero_le _⟩
  | k + 1, hkj => by
    have ih := seen_iff hm hj hk q x k (by omega)
    by_cases hc : kZ l k = q ∧ oZ l k = x
    · have hacc := acc_iff hm hj hk (show k < j by omega)
      have ht := tZ_lt hm (show k < l.length by omega)
      have hown := rwTo_own hm q x (tZ l k) k (by omega)
      have he : epo l k = onr l k (tZ l k) := rfl
      constructor
      · intro h
        have hu := h (tZ l k) ht
        unfold rwTo at hu
        rw [if_pos ⟨hc.1, hc.2, rfl⟩] at hu
        have hb := hacc.1 (by rw [he]; exact hu)
        have hall := ih.1 fun u hu6 => by
          by_cases hut : u = tZ l k
          · subst hut; omega
          · have h1 := h u hu6
            unfold rwTo at h1
            rw [if_neg (fun e => hut e.2.2.symm)] at h1
            exact h1
        intro i hi h1 h2
        rcases Nat.lt_succ_iff_lt_or_eq.1 hi with hi | rfl
        · exact hall i hi h1 h2
        · exact hb
      · intro h u hu6
        have hb := hacc.2 (h k (by omega) hc.1 hc.2)
        have hall := ih.2 (fun i hi h1 h2 => h i (by omega) h1 h2) u hu6
        unfold rwTo
        split
        · rename_i hcu
          rw [← hcu.2.2]; rw [he] at hb; exact hb
        · exact hall
    · have e : ∀ u, rwTo l q x u (k + 1) = rwTo l q x u k := fun u => by
        rw [rwTo, if_neg (fun h => hc ⟨h.1, h.2.1⟩)]
      simp only [e]
      rw [ih]
      constructor
      · intro h i hi h1 h2
        rcases Nat.lt_succ_iff_lt_or_eq.1 hi with hi | rfl
        · exact h i hi h1 h2
        · exact absurd ⟨h1, h2⟩ hc
      · intro h i hi h1 h2; exact h i (by omega) h1 h2
/-- Whether the detector finds all accesses of kind q known at an access. -/
def seenB (l : List Ev) (q : Int) (j : Nat) : Bool := (List.range 6).all fun u => decide (rwTo l q (oZ l j) u j ≤ (djTo l j).C (tZ l j) u)
theorem seenB_iff {l : List Ev} (hm : may l = 0) {j : Nat} (hj : j < l.length) (hk : kZ l j = 1 ∨ kZ l j = 2) (q : Int) : seenB l q j = true ↔ ∀ i, i < j → kZ l i = q → oZ l i = oZ l j → bef l i j = true := by
  rw [← seen_iff hm hj hk q (oZ l j) j (Nat.le_refl _)]
  unfold seenB
  simp only [List.all_eq_true, List.mem_range, decide_eq_true_eq]
/-- The kind of the detector's flag, 0 for none. -/
def djK (l : List Ev) (j : Nat) : Int := if kZ l j = 1 then (if seenB l 2 j = true then 0 else 2) else if kZ l j = 2 then (if seenB l 2 j = false then 1 else if seenB l 1 j = false then 3 else 0) else 0
/-- A race of kind q whose second is j. -/
def hasK (rs : List Rc) (j : Nat) (q : Int) : Bool := rs.any fun r => r.b == j && r.k == q
def minK (rs : List Rc) (j : Nat) : Int := if hasK rs j 1 = true then 1 else if hasK rs j 2 = true then 2 else if hasK rs j 3 = true then 3 else 0
theorem conf_k {a b : Ev} {q : Int} (hq : q ≠ 0) : conf a b = q ↔ a.o = b.o ∧ ((q = 1 ∧ a.k = 2 ∧ b.k = 2) ∨ (q = 2 ∧ a.k = 2 ∧ b.k = 1) ∨ (q = 3 ∧ a.k = 1 ∧ b.k = 2)) := by
  unfold conf
  by_cases ho : a.o = b.o
  · rw [if_neg (by simpa using ho)]
    simp only [ho, true_and]
    split
    · omega
    · split
      · omega
      · split <;> omega
  · rw [if_pos ho]
    constructor
    · intro h; exact absurd h.symm hq
    · intro h; exact absurd h.1 ho
theorem hasK_iff {l : List Ev} (hm : may l = 0) {j : Nat} (hj : j < l.length) {q : Int} (hq : q ≠ 0) : hasK (rcsA l) j q = true ↔ ∃ i, i < j ∧ oZ l i = oZ l j ∧ ((q = 1 ∧ kZ l i = 2 ∧ kZ l j = 2) ∨ (q = 2 ∧ kZ l i = 2 ∧ kZ l j = 1) ∨ (q = 3 ∧ kZ l i = 1 ∧ kZ l j = 2)) ∧ bef l i j = false := by
  unfold hasK
  simp only [List.any_eq_true, Bool.and_eq_true, beq_iff_eq]
  constructor
  · rintro ⟨r, hr, rfl, hk⟩
    obtain ⟨a, b, h1, h2, h3, _, h5, _, h7⟩ := mem_rcsA hr
    have hc := (conf_k hq).1 (h5.symm.trans hk)
    refine ⟨r.a, h3, ?_, ?_, h7⟩
    · unfold oZ; rw [eZ_at h1, eZ_at h2, hc.1]
    · unfold kZ; rw [eZ_at h1, eZ_at h2]; exact hc.2
  · rintro ⟨i, h1, h2, h3, h4⟩
    have hil : i < l.length := by omega
    have ha := eZ_get hil; have hb := eZ_get hj
    have oa := (isEv_o (eZ_ok hm hil)).1; have ob := (isEv_o (eZ_ok hm hj)).1
    have hc : conf (eZ l i) (eZ l j) = q := (conf_k hq).2 ⟨by unfold oZ at h2; omega, h3⟩
    exact ⟨_, rcsA_mem ha hb h1 (by rw [hc]; exact hq) h4, rfl, hc⟩
/-- POZNIANSKY, SCHUSTER: the flag of an event is the least kind of the races whose second it is. -/
theorem djK_min {l : List Ev} (hm : may l = 0) {j : Nat} (hj : j < l.length) : djK l j = minK (rcsA l) j := by
  have H1 := hasK_iff hm hj (q := 1) (by decide); have H2 := hasK_iff hm hj (q := 2) (by decide); have H3 := hasK_iff hm hj (q := 3) (by decide)
  unfold djK minK
  by_cases h1 : kZ l j = 1
  · have S := seenB_iff hm hj (.inl h1) 2
    have n1 : ¬ hasK (rcsA l) j 1 = true := fun h => by obtain ⟨i, _, _, h3, _⟩ := H1.1 h; omega
    have n3 : ¬ hasK (rcsA l) j 3 = true := fun h => by obtain ⟨i, _, _, h3, _⟩ := H3.1 h; omega
    rw [if_pos h1, if_neg n1, if_neg n3]
    by_cases hs : seenB l 2 j = true
    · rw [if_pos hs, if_neg fun h => ?_]
      obtain ⟨i, a1, a2, a3, a4⟩ := H2.1 h
      rw [S.1 hs i a1 (by omega) a2] at a4; cases a4
    · rw [if_neg hs, if_pos]
      refine H2.2 (Decidable.byContradiction fun hn => hs (S.2 fun i a1 a2 a3 => ?_))
      cases hb : bef l i j
      · exact absurd ⟨i, a1, a3, .inr (.inl ⟨rfl, a2, h1⟩), hb⟩ hn
      · rfl
  · rw [if_neg h1]
    by_cases h2 : kZ l j = 2
    · have S := seenB_iff hm hj (.inr h2) 2
      have T := seenB_iff hm hj (.inr h2) 1
      have n2 : ¬ hasK (rcsA l) j 2 = true := fun h => by obtain ⟨i, _, _, h3, _⟩ := H2.1 h; omega
      rw [if_pos h2, if_neg n2]
      by_cases hs : seenB l 2 j = true
      · have n1 : ¬ hasK (rcsA l) j 1 = true := fun h => by
          obtain ⟨i, a1, a2, a3, a4⟩ := H1.1 h
          rw [S.1 hs i a1 (by omega) a2] at a4; cases a4
        rw [if_neg n1, if_neg (show ¬ seenB l 2 j = false by rw [hs]; decide)]
        by_cases ht : seenB l 1 j = true
        · have n3 : ¬ hasK (rcsA l) j 3 = true := fun h => by
            obtain ⟨i, a1, a2, a3, a4⟩ := H3.1 h
            rw [T.1 ht i a1 (by omega) a2] at a4; cases a4
          rw [if_neg n3, if_neg (show ¬ seenB l 1 j = false by rw [ht]; decide)]
        · have y3 : hasK (rcsA l) j 3 = true := by
            refine H3.2 (Decidable.byContradiction fun hn => ht (T.2 fun i a1 a2 a3 => ?_))
            cases hb : bef l i j
            · exact absurd ⟨i, a1, a3, .inr (.inr ⟨rfl, a2, h2⟩), hb⟩ hn
            · rfl
          rw [if_pos y3, if_pos (show seenB l 1 j = false by simpa using ht)]
      · rw [if_pos (by simpa using hs), if_pos]
        refine H1.2 (Decidable.byContradiction fun hn => hs (S.2 fun i a1 a2 a3 => ?_))
        cases hb : bef l i j
        · exact absurd ⟨i, a1, a3, .inl ⟨rfl, a2, h2⟩, hb⟩ hn
        · rfl
    · rw [if_neg h2]
      have n1 : ¬ hasK (rcsA l) j 1 = true := fun h => by obtain ⟨i, _, _, h3, _⟩ := H1.1 h; omega
      have n2 : ¬ hasK (rcsA l) j 2 = true := fun h => by obtain ⟨i, _, _, h3, _⟩ := H2.1 h; omega
      have n3 : ¬ hasK (rcsA l) j 3 = true := fun h => by obtain ⟨i, _, _, h3, _⟩ := H3.1 h; omega
      rw [if_neg n1, if_neg n2, if_neg n3]
end Go.Proofs.Yteihildhlcggoaa
namespace Go.Proofs.Yteihildhlcggoaa
open Go Go.RowKit

/-- A block of m numbers. -/
def nsl (m : Nat) (g : Nat → Nat) : List Value := (List.range m).map fun x => .int .i64 (g x)
def ns (m : Nat) (g : Nat → Nat) : Array Value := (nsl m g).toArray
theorem nsl_length (n : Nat) (g : Nat → Nat) : (nsl n g).length = n := by simp [nsl]
theorem ns_size (n : Nat) (g : Nat → Nat) : (ns n g).size = n := by simp [ns, nsl]
theorem nsl_get {n : Nat} (g : Nat → Nat) {j : Nat} (hj : j < n) : (nsl n g)[j]? = some (.int .i64 (g j)) := by simp [nsl, hj]
theorem ns_get {n : Nat} (g : Nat → Nat) {j : Nat} (hj : j < n) : (ns n g)[j]? = some (.int .i64 (g j)) := by simpa [ns] using nsl_get g hj
theorem ns_congr {n : Nat} {g g' : Nat → Nat} (h : ∀ j, j < n → g j = g' j) : ns n g = ns n g' := by
  unfold ns nsl
  congr 1
  refine List.map_congr_left fun j hj => ?_
  rw [h j (by simpa using hj)]
def updN (g : Nat → Nat) (j v : Nat) : Nat → Nat := fun i => if i = j then v else g i
theorem ns_set (n : Nat) (g : Nat → Nat) (j v : Nat) : (ns n g).setIfInBounds j (.int .i64 v) = ns n (updN g j v) := by
  apply Array.ext_getElem?
  intro i
  rw [Array.getElem?_setIfInBounds]
  by_cases hi : i < n
  · by_cases hij : j = i
    · subst hij; rw [if_pos rfl, if_pos (by rw [ns_size]; exact hi), ns_get _ hi]; simp [updN]
    · rw [if_neg hij, ns_get _ hi, ns_get _ hi]
      simp [updN, Ne.symm hij]
  · have h1 : (ns n g)[i]? = none := Array.getElem?_eq_none (by rw [ns_size]; omega)
    have h2 : (ns n (updN g j v))[i]? = none := Array.getElem?_eq_none (by rw [ns_size]; omega)
    rw [h1, h2]
    split
    · rename_i hij; subst hij; simp [ns_size, hi]
    · rfl
theorem nsl_one (n : Nat) (g : Nat → Nat) : ∀ v ∈ nsl n g, v.oneCell' = true := by
  intro v hv
  simp only [nsl, List.mem_map] at hv
  obtain ⟨j, _, rfl⟩ := hv
  rfl
/-- The block of the counts of a list. -/
def cnt (L : List Nat) (x : Nat) : Nat := L.count x
theorem cnt_snoc (L : List Nat) (y : Nat) : cnt (L ++ [y]) = updN (cnt L) y (cnt L y + 1) := by
  funext x
  unfold cnt updN
  by_cases h : x = y
  · subst h; simp
  · rw [if_neg h, List.count_append]
    have : List.count x [y] = 0 := by simp [List.count_cons, Ne.symm h]
    rw [this]; rfl
theorem fcnt_le (L : List Nat) (x : Nat) : cnt L x ≤ L.length := List.count_le_length
theorem cnt_app (L M : List Nat) (x : Nat) : cnt (L ++ M) x = cnt L x + cnt M x := List.count_append
theorem cnt_nil (x : Nat) : cnt [] x = 0 := rfl

/-- The thread of an event. -/
def tOf (l : List Ev) (i : Nat) : Nat := match l[i]? with | some e => e.t.toNat | none => 0
theorem tOf_at {l : List Ev} {i : Nat} {e : Ev} (h : l[i]? = some e) : tOf l i = e.t.toNat := by unfold tOf; rw [h]
/-- Event i is known at event j and is of thread t. -/
def knB (l : List Ev) (j t i : Nat) : Bool := (i == j || bef l i j) && tOf l i == t
def kn (l : List Ev) (j t : Nat) : Nat := (List.range l.length).countP (knB l j t)
/-- The cells of a block of clocks that are counted up. -/
def ownK (l : List Ev) (k : Nat) : List Nat := (List.range k).map fun i => i * 6 + tOf l i
def oth (l : List Ev) (ps : List (Nat × Nat)) : List Nat := ps.map fun p => p.2 * 6 + tOf l p.1
def rowK (l : List Ev) (j i : Nat) : List Nat := ((List.range i).filter fun a => a == j || bef l a j).map fun a => j * 6 + tOf l a
def refK (l : List Ev) (j i : Nat) : List Nat := ((List.range j).flatMap fun b => rowK l b l.length) ++ rowK l j i
theorem own_succ (l : List Ev) (k : Nat) : ownK l (k + 1) = ownK l k ++ [k * 6 + tOf l k] := by simp [ownK, List.range_succ]
theorem own_len (l : List Ev) (k : Nat) : (ownK l k).length = k := by simp [ownK]
theorem oth_snoc (l : List Ev) (ps : List (Nat × Nat)) (p : Nat × Nat) : oth l (ps ++ [p]) = oth l ps ++ [p.2 * 6 + tOf l p.1] := by simp [oth]
theorem oth_len (l : List Ev) (ps : List (Nat × Nat)) : (oth l ps).length = ps.length := by simp [oth]
theorem rowK_yes {l : List Ev} {j i : Nat} (h : (i == j || bef l i j) = true) : rowK l j (i + 1) = rowK l j i ++ [j * 6 + tOf l i] := by simp [rowK, List.range_succ, h]
theorem rowK_no {l : List Ev} {j i : Nat} (h : (i == j || bef l i j) = false) : rowK l j (i + 1) = rowK l j i := by simp [rowK, List.range_succ, h]
theorem refK_yes {l : List Ev} {j i : Nat} (h : (i == j || bef l i j) = true) : refK l j (i + 1) = refK l j i ++ [j * 6 + tOf l i] := by simp [refK, rowK_yes h]
theorem refK_no {l : List Ev} {j i : Nat} (h : (i == j || bef l i j) = false) : refK l j (i + 1) = refK l j i := by simp [refK, rowK_no h]
theorem refK_next (l : List Ev) (j : Nat) : refK l (j + 1) 0 = refK l j l.length := by simp [refK, List.range_succ, rowK]
theorem rowK_len (l : List Ev) (j i : Nat) : (rowK l j i).length ≤ i := by
  unfold rowK; rw [List.length_map]; exact Nat.le_trans (List.length_filter_le _ _) (by simp)
theorem refK_len (l : List Ev) (j i : Nat) : (refK l j i).length ≤ j * l.length + i := by
  unfold refK
  rw [List.length_append]
  have h1 := rowK_len l j i
  have h2 : ((List.range j).flatMap fun b => rowK l b l.length).length ≤ j * l.length := by
    clear h1
    induction j with
    | zero => simp
    | succ j ih =>
      rw [List.range_succ, List.flatMap_append, List.length_append, Nat.succ_mul]
      have := rowK_len l j l.length
      simp only [List.flatMap_cons, List.flatMap_nil, List.append_nil]
      omega
  omega
theorem countP_one (q : Nat → Bool) (j : Nat) : ∀ n, (List.range n).countP (fun i => i == j && q i) = if j < n ∧ q j = true then 1 else 0
  | 0 => by simp
  | n + 1 => by
    rw [List.range_succ, List.countP_append, countP_one q j n]
    simp only [List.countP_cons, List.countP_nil]
    by_cases h : n = j
    · subst h
      cases hq : q n <;> simp
    · have h1 : (n == j) = false := by simpa using h
      simp only [h1, Bool.false_and, Bool.false_eq_true, if_false]
      by_cases h2 : j < n ∧ q j = true
      · rw [if_pos h2, if_pos ⟨by omega, h2.2⟩]
      · rw [if_neg h2, if_neg (fun h3 => h2 ⟨by omega, h3.2⟩)]
theorem cnt_map (f : Nat → Nat) (L : List Nat) (x : Nat) : cnt (L.map f) x = L.countP (fun a => f a == x) := by
  unfold cnt; rw [List.count, List.countP_map]; rfl
section
variable {l : List Ev} (hT : ∀ i, i < l.length → tOf l i < 6)
include hT
theorem cell_eq {i j t b : Nat} (hi : i < l.length) (ht : t < 6) : (b * 6 + tOf l i == j * 6 + t) = (b == j && tOf l i == t) := by
  have := hT i hi
  rw [Bool.eq_iff_iff]
  simp only [beq_iff_eq, Bool.and_eq_true]
  omega
theorem own_count {j t : Nat} (hj : j < l.length) (ht : t < 6) : cnt (ownK l l.length) (j * 6 + t) = if tOf l j = t then 1 else 0 := by
  unfold ownK
  rw [cnt_map, List.countP_congr (q := fun i => i == j && tOf l i == t) (fun i hi => by rw [cell_eq hT (by simpa using hi) ht]), countP_one]
  by_cases h : tOf l j = t
  · rw [if_pos h, if_pos ⟨hj, by simpa using h⟩]
  · rw [if_neg h, if_neg (fun h2 => h (by simpa using h2.2))]
theorem oth_row {i j t : Nat} (hi : i < l.length) (hj : j < l.length) (ht : t < 6) : cnt (oth l (rowTo (bef l) i l.length)) (j * 6 + t) = if (bef l i j && tOf l i == t) = true then 1 else 0 := by
  unfold oth rowTo
  rw [List.map_map, cnt_map, List.countP_filter, List.countP_congr (q := fun k => k == j && (bef l i k && tOf l i == t)) (fun k hk => by
    show (k * 6 + tOf l i == j * 6 + t && bef l i k) = true ↔ _
    rw [cell_eq hT hi ht]
    cases (k == j) <;> cases (bef l i k) <;> cases (tOf l i == t) <;> simp), countP_one]
  by_cases h : (bef l i j && tOf l i == t) = true
  · rw [if_pos h, if_pos ⟨hj, h⟩]
  · rw [if_neg h, if_neg (fun h2 => h h2.2)]
theorem oth_part {j t : Nat} (hj : j < l.length) (ht : t < 6) : ∀ i, i ≤ l.length → cnt (oth l (prs (bef l) l.length i 0)) (j * 6 + t) = (List.range i).countP (fun a => bef l a j && tOf l a == t)
  | 0, _ => by rw [prs_zero]; rfl
  | i + 1, hi => by
    rw [prs_next]
    have h1 : prs (bef l) l.length i l.length = prs (bef l) l.length i 0 ++ rowTo (bef l) i l.length := by simp [prs, rowTo]
    have h2 : oth l (prs (bef l) l.length i 0 ++ rowTo (bef l) i l.length) = oth l (prs (bef l) l.length i 0) ++ oth l (rowTo (bef l) i l.length) := by simp [oth]
    rw [h1, h2, cnt_app, oth_part hj ht i (by omega), oth_row hT (by omega) hj ht, List.range_succ, List.countP_append]
    simp only [List.countP_cons, List.countP_nil, Nat.zero_add]
theorem countP_kn (j t : Nat) (hb : bef l j j = false) : ∀ n, (List.range n).countP (knB l j t) = (if j < n ∧ tOf l j = t then 1 else 0) + (List.range n).countP (fun a => bef l a j && tOf l a == t)
  | 0 => by simp
  | n + 1 => by
    rw [List.range_succ, List.countP_append, List.countP_append, countP_kn j t hb n]
    simp only [List.countP_cons, List.countP_nil, Nat.zero_add]
    unfold knB
    by_cases h : n = j
    · subst h
      by_cases h2 : tOf l n = t
      · simp [hb, h2]; omega
      · simp [hb, h2]
    · have h1 : (n == j) = false := by simpa using h
      simp only [h1, Bool.false_or]
      by_cases h2 : j < n ∧ tOf l j = t
      · rw [if_pos h2, if_pos (show j < n + 1 ∧ tOf l j = t from ⟨by omega, h2.2⟩)]; omega
      · rw [if_neg h2, if_neg (show ¬ (j < n + 1 ∧ tOf l j = t) from fun h3 => h2 ⟨by omega, h3.2⟩)]; omega
/-- What the program counts. -/
theorem count_all {j t : Nat} (hj : j < l.length) (ht : t < 6) : cnt (ownK l l.length ++ oth l (prsA (bef l) l.length)) (j * 6 + t) = kn l j t := by
  have hb : bef l j j = false := by rw [← Bool.not_eq_true]; intro h; have := bef_lt h; omega
  unfold kn
  rw [cnt_app, own_count hT hj ht, countP_kn hT j t hb]
  show _ + cnt (oth l (prs (bef l) l.length l.length 0)) _ = _
  rw [oth_part hT hj ht _ (Nat.le_refl _)]
  by_cases h : tOf l j = t
  · rw [if_pos h, if_pos ⟨hj, h⟩]
  · rw [if_neg h, if_neg (fun h2 => h h2.2)]
theorem row_count {b j t : Nat} (ht : t < 6) : cnt (rowK l b l.length) (j * 6 + t) = if b = j then kn l j t else 0 := by
  unfold rowK
  rw [cnt_map, List.countP_filter]
  by_cases h : b = j
  · subst h
    rw [if_pos rfl]
    refine List.countP_congr fun a ha => ?_
    show (b * 6 + tOf l a == b * 6 + t && (a == b || bef l a b)) = true ↔ _
    rw [cell_eq hT (by simpa using ha) ht]
    unfold knB
    cases (a == b) <;> cases (bef l a b) <;> cases (tOf l a == t) <;> simp
  · rw [if_neg h]
    refine List.countP_eq_zero.2 fun a ha => ?_
    show ¬ (b * 6 + tOf l a == j * 6 + t && (a == b || bef l a b)) = true
    rw [cell_eq hT (by simpa using ha) ht]
    have : (b == j) = false := by simpa using h
    simp [this]
theorem ref_part {j t : Nat} (ht : t < 6) : ∀ b, cnt (refK l b 0) (j * 6 + t) = if j < b then kn l j t else 0
  | 0 => by rw [if_neg (by omega)]; rfl
  | b + 1 => by
    rw [refK_next]
    have h1 : refK l b l.length = refK l b 0 ++ rowK l b l.length := by simp [refK, rowK]
    rw [h1, cnt_app, ref_part ht b, row_count hT ht]
    by_cases h : j < b
    · rw [if_pos h, if_neg (by omega), if_pos (by omega)]; rfl
    · rw [if_neg h]
      by_cases h2 : b = j
      · rw [if_pos h2, if_pos (by omega)]; omega
      · rw [if_neg h2, if_neg (by omega)]
/-- What the reference counts. -/
theorem count_ref {j t : Nat} (hj : j < l.length) (ht : t < 6) : cnt (refK l l.length 0) (j * 6 + t) = kn l j t := by rw [ref_part hT ht, if_pos hj]
end
/-- All clocks in a row. -/
def knf (l : List Ev) (x : Nat) : Nat := kn l (x / 6) (x % 6)
theorem knf_at (l : List Ev) {j t : Nat} (ht : t < 6) : knf l (j * 6 + t) = kn l j t := by unfold knf; rw [show (j * 6 + t) / 6 = j by omega, show (j * 6 + t) % 6 = t by omega]
theorem kn_le (l : List Ev) (j t : Nat) : kn l j t ≤ l.length := by
  unfold kn; exact Nat.le_trans List.countP_le_length (by simp)
/-- A clock. -/
def kc (l : List Ev) (j : Nat) : Nat → Int := fun t => (kn l j t : Nat)
theorem may_tOf {l : List Ev} (h : may l = 0) {i : Nat} (hi : i < l.length) : tOf l i < 6 := by
  have he := List.getElem?_eq_getElem hi
  have := isEv_t (wrong_isEv (wrong_at h he))
  rw [tOf_at he]; omega
/-- A stretch of six numbers of a block. -/
theorem nsl_clk (m : Nat) (g : Nat → Nat) (w : World) (B j : Nat) (t : TypeId) (h : Box w B (ns m g) t) (hj : j * 6 + 6 ≤ m) : w.rangeAt B (j * 6) (clkl fun k => (g (j * 6 + k) : Nat)) := fun k v hv => by
  have hk : k < 6 := (List.getElem?_eq_some_iff.1 hv).1
  rw [clkl_get _ _ hk] at hv
  cases hv
  exact h.cell _ (ns_get g (by omega))
/-- Block B holds the clocks of a trace. -/
def Cks (w : World) (B n : Nat) (l : List Ev) : Prop := Box w B (ns (n * 6) (knf l)) 81
theorem Cks.row {w : World} {B n : Nat} {l : List Ev} (h : Cks w B n l) {j : Nat} (hj : j < n) : w.rangeAt B (j * 6) (clkl (kc l j)) := by
  have h1 := nsl_clk _ _ w B j _ h (by omega)
  have h2 : clk (fun k => ((knf l (j * 6 + k) : Nat) : Int)) = clk (kc l j) := clk_congr fun k hk => by rw [knf_at l hk]; rfl
  have h3 : clkl (fun k => ((knf l (j * 6 + k) : Nat) : Int)) = clkl (kc l j) := by simpa [clk] using h2
  rwa [h3] at h1
theorem Cks.cell {w : World} {B n : Nat} {l : List Ev} (h : Cks w B n l) {j t : Nat} (hj : j < n) (ht : t < 6) : w.cell? ⟨B, j * 6 + t, none⟩ = some (.int .i64 (kn l j t : Nat)) := by
  have := Box.cell h (j * 6 + t) (ns_get (knf l) (by omega))
  rwa [knf_at l ht] at this
theorem Cks.bel {w w' : World} {B n : Nat} {l : List Ev} (h : Cks w B n l) (hb : Bel w w') : Cks w' B n l := hb.box h
theorem Cks.of {w : World} {B n : Nat} {l : List Ev} {g : Nat → Nat} (h : Box w B (ns (n * 6) g) 81) (hg : ∀ j t, j < n → t < 6 → g (j * 6 + t) = kn l j t) : Cks w B n l := by
  unfold Cks
  rw [← ns_congr (g := g) (fun x hx => by
    have := hg (x / 6) (x % 6) (by omega) (by omega)
    rw [show x / 6 * 6 + x % 6 = x by omega] at this
    exact this)]
  exact h
end Go.Proofs.Yteihildhlcggoaa
namespace Go.Proofs.Yteihildhlcggoaa
open Go Go.RowKit

def srt (zs : List Int) : List Int := zs.mergeSort fun x y => decide (x ≤ y)
/-- Sorted, each once. -/
def dd (zs : List Int) : List Int := Lib.compact (srt zs)
theorem srt_len (zs : List Int) : (srt zs).length = zs.length := by simp [srt]
theorem srt_mem {zs : List Int} {x : Int} : x ∈ srt zs ↔ x ∈ zs := by simp [srt]
theorem srt_le (zs : List Int) : (srt zs).Pairwise (· ≤ ·) := by
  have h := List.pairwise_mergeSort (le := fun x y : Int => decide (x ≤ y)) (fun a b c h1 h2 => by simp only [decide_eq_true_eq] at *; omega) (fun a b => by simp only [Bool.or_eq_true, decide_eq_true_eq]; omega) zs
  exact h.imp fun h => of_decide_eq_true h
def Up (d : Array Int) : Prop := ∀ i j, i ≤ j → j < d.size → d[i]! ≤ d[j]!
theorem up_of {l : List Int} (h : l.Pairwise (· ≤ ·)) : Up l.toArray := fun i j hij hj => by
  have hj' : j < l.length := by simpa using hj
  rcases Nat.lt_or_ge i j with h1 | h1
  · have := List.pairwise_iff_getElem.1 h i j (by omega) hj' h1
    rw [getElem!_pos _ i (by simp; omega), getElem!_pos _ j (by simpa using hj')]
    simpa using this
  · obtain rfl : i = j := by omega
    exact Int.le_refl _
theorem cmp_mem {d : Array Int} : ∀ m, ∀ x, x ∈ Lib.compactUpTo d m ↔ ∃ j, j < m ∧ d[j]! = x
  | 0, x => by simp [Lib.compactUpTo]
  | m + 1, x => by
    rw [Lib.compactUpTo_succ, List.mem_append, cmp_mem m x]
    constructor
    · rintro (⟨j, hj, h⟩ | h)
      · exact ⟨j, by omega, h⟩
      · split at h
        · simp at h; exact ⟨m, by omega, h.symm⟩
        · cases h
    · rintro ⟨j, hj, h⟩
      rcases Nat.lt_succ_iff_lt_or_eq.1 hj with h1 | rfl
      · exact .inl ⟨j, h1, h⟩
      · cases hk : Lib.keeps d j
        · refine .inl ?_
          have h2 : ¬ (j = 0 ∨ d[j]! ≠ d[j - 1]!) := by simpa [Lib.keeps] using hk
          have h3 : d[j]! = d[j - 1]! := Decidable.not_not.1 fun e => h2 (.inr e)
          exact ⟨j - 1, by omega, by rw [← h3, h]⟩
        · exact .inr (by simp [h])
theorem cmp_up {d : Array Int} (hd : Up d) : ∀ m, m ≤ d.size → (Lib.compactUpTo d m).Pairwise (· < ·)
  | 0, _ => by simp [Lib.compactUpTo]
  | m + 1, hm => by
    rw [Lib.compactUpTo_succ]
    refine List.pairwise_append.2 ⟨cmp_up hd m (by omega), ?_, fun a ha b hb => ?_⟩
    · split <;> simp
    · split at hb
      · rename_i hk
        simp at hb; subst hb
        obtain ⟨j, hj, rfl⟩ := (cmp_mem m a).1 ha
        have h1 : m = 0 ∨ d[m]! ≠ d[m - 1]! := by simpa [Lib.keeps] using hk
        have h2 := hd j (m - 1) (by omega) (by omega)
        have h3 := hd (m - 1) m (by omega) (by omega)
        have h4 : d[m]! ≠ d[m - 1]! := h1.resolve_left (by omega)
        omega
      · cases hb
theorem dd_mem {zs : List Int} {x : Int} : x ∈ dd zs ↔ x ∈ zs := by
  unfold dd Lib.compact
  rw [cmp_mem, ← srt_mem]
  constructor
  · rintro ⟨j, hj, h⟩
    rw [getElem!_pos _ j (by simpa using hj)] at h
    subst h; simp
  · intro h
    obtain ⟨j, hj, he⟩ := List.mem_iff_getElem.1 h
    exact ⟨j, hj, by rw [getElem!_pos _ j (by simpa using hj)]; simpa using he⟩
theorem dd_up (zs : List Int) : (dd zs).Pairwise (· < ·) := by
  unfold dd Lib.compact
  exact cmp_up (up_of (srt_le zs)) _ (by simp)
theorem dd_len (zs : List Int) : (dd zs).length ≤ zs.length := by
  unfold dd Lib.compact Lib.compactUpTo
  rw [List.length_map]
  exact Nat.le_trans (List.length_filter_le _ _) (by simp [srt_len])
/-- Two ascending lists with the same members are one. -/
theorem up_eq : ∀ {a b : List Int}, a.Pairwise (· < ·) → b.Pairwise (· < ·) → (∀ x, x ∈ a ↔ x ∈ b) → a = b
  | [], [], _, _, _ => rfl
  | [], y :: b, _, _, h => by have := (h y).2 (by simp); cases this
  | x :: a, [], _, _, h => by have := (h x).1 (by simp); cases this
  | x :: a, y :: b, ha, hb, h => by
    have ha' := List.pairwise_cons.1 ha
    have hb' := List.pairwise_cons.1 hb
    have hxy : x = y := by
      rcases List.mem_cons.1 ((h x).1 (by simp)) with h1 | h1
      · exact h1
      · rcases List.mem_cons.1 ((h y).2 (by simp)) with h2 | h2
        · exact h2.symm
        · have := ha'.1 y h2; have := hb'.1 x h1; omega
    subst hxy
    rw [up_eq ha'.2 hb'.2 fun z => ?_]
    constructor
    · intro hz
      rcases List.mem_cons.1 ((h z).1 (by simp [hz])) with h1 | h1
      · have := ha'.1 z hz; omega
      · exact h1
    · intro hz
      rcases List.mem_cons.1 ((h z).2 (by simp [hz])) with h1 | h1
      · have := hb'.1 z hz; omega
      · exact h1
theorem up_nodup {a : List Int} (h : a.Pairwise (· < ·)) : a.Nodup := h.imp fun h => by omega
/-- Ascending by counting. -/
theorem range_up (p : Nat → Bool) (n : Nat) : (((List.range n).filter p).map fun (j : Nat) => (j : Int)).Pairwise (· < ·) := by
  refine List.Pairwise.map _ (fun a b (h : a < b) => by omega) ((List.pairwise_lt_range (n := n)).filter p)
end Go.Proofs.Yteihildhlcggoaa
namespace Go.Proofs.Yteihildhlcggoaa
open Go Go.RowKit

def ck (c : Nat → Nat) : Nat → Int := fun u => (c u : Nat)
theorem clkl_congr {a b : Nat → Int} (h : ∀ k, k < 6 → a k = b k) : clkl a = clkl b := by simpa [clk] using clk_congr h
/-- Six numbers from place o on. -/
def putR (g : Nat → Nat) (o : Nat) (c : Nat → Nat) : Nat → Nat := fun i => if o ≤ i ∧ i < o + 6 then c (i - o) else g i
theorem ns_row {w : World} {B m : Nat} {g : Nat → Nat} {t : TypeId} (h : Box w B (ns m g) t) {o : Nat} (ho : o + 6 ≤ m) {c : Nat → Nat} (hc : ∀ u, u < 6 → g (o + u) = c u) : w.rangeAt B o (clkl (ck c)) := fun k v hv => by
  have hk : k < 6 := (List.getElem?_eq_some_iff.1 hv).1
  rw [clkl_get _ _ hk] at hv
  cases hv
  have := h.cell (o + k) (ns_get g (by omega))
  rw [hc k hk] at this
  exact this
theorem setCells_six (w : World) (B o : Nat) (c : Nat → Int) : w.setCells B o (clkl c) = ((((((w.setCell ⟨B, o, none⟩ (.int .i64 (c 0))).setCell ⟨B, o + 1, none⟩ (.int .i64 (c 1))).setCell ⟨B, o + 2, none⟩ (.int .i64 (c 2))).setCell ⟨B, o + 3, none⟩ (.int .i64 (c 3))).setCell ⟨B, o + 4, none⟩ (.int .i64 (c 4))).setCell ⟨B, o + 5, none⟩ (.int .i64 (c 5))) := rfl
theorem box_six {w : World} {B m : Nat} {g : Nat → Nat} {t : TypeId} (h : Box w B (ns m g) t) (o : Nat) (c : Nat → Nat) : Box (w.setCells B o (clkl (ck c))) B (ns m (putR g o c)) t := by
  rw [setCells_six]
  have h0 := h.set o (.int .i64 (ck c 0)); unfold ck at h0; rw [ns_set] at h0
  have h1 := h0.set (o + 1) (.int .i64 (ck c 1)); unfold ck at h1; rw [ns_set] at h1
  have h2 := h1.set (o + 2) (.int .i64 (ck c 2)); unfold ck at h2; rw [ns_set] at h2
  have h3 := h2.set (o + 3) (.int .i64 (ck c 3)); unfold ck at h3; rw [ns_set] at h3
  have h4 := h3.set (o + 4) (.int .i64 (ck c 4)); unfold ck at h4; rw [ns_set] at h4
  have h5 := h4.set (o + 5) (.int .i64 (ck c 5)); unfold ck at h5; rw [ns_set] at h5
  have e : ns m (putR g o c) = ns m (updN (updN (updN (updN (updN (updN g o (c 0)) (o + 1) (c 1)) (o + 2) (c 2)) (o + 3) (c 3)) (o + 4) (c 4)) (o + 5) (c 5)) := ns_congr fun i _ => by
    unfold putR updN
    by_cases hi : o ≤ i ∧ i < o + 6
    · obtain ⟨d, rfl⟩ := Nat.exists_eq_add_of_le hi.1
      have hd : d = 0 ∨ d = 1 ∨ d = 2 ∨ d = 3 ∨ d = 4 ∨ d = 5 := by omega
      rw [if_pos hi, Nat.add_sub_cancel_left]
      rcases hd with rfl | rfl | rfl | rfl | rfl | rfl <;> simp
    · rw [if_neg hi]
      simp only [show ¬ i = o by omega, show ¬ i = o + 1 by omega, show ¬ i = o + 2 by omega, show ¬ i = o + 3 by omega, show ¬ i = o + 4 by omega, show ¬ i = o + 5 by omega, if_false]
  rw [e]
  exact h5
theorem setCells_size (B : Nat) : ∀ (vs : List Value) (o : Nat) (w : World), (w.setCells B o vs).heap.size = w.heap.size
  | [], _, _ => rfl
  | v :: r, o, w => by rw [World.setCells, setCells_size B r]; simp [World.setCell]
theorem chg_cell {X : Nat} (w : World) (k : Nat) (v : Value) : w.grownBy (w.setCell ⟨X, k, none⟩ v) (some X) := ⟨rfl, rfl, rfl, by simp [World.setCell], fun j _ hne => heap_setCell_other w _ j v (fun e => hne (by rw [e]))⟩
theorem chg_six (X : Nat) : ∀ (vs : List Value) (o : Nat) (w : World), w.grownBy (w.setCells X o vs) (some X)
  | [], _, w => World.grownBy.refl w _
  | v :: r, o, w => (chg_cell w o v).trans (chg_six X r (o + 1) _)
theorem chg_bel {w w' : World} (h : Bel w w') (row : Option Nat) : w.grownBy w' row := ⟨h.out.os, h.out.tape, h.out.output, h.size, fun k hk _ => h.out.block k hk⟩
theorem there_six {w : World} {B m : Nat} {g : Nat → Nat} {t : TypeId} (h : Box w B (ns m g) t) {o : Nat} (ho : o + 6 ≤ m) : w.there B o 6 := fun j hj => ⟨by rw [h.cell (o + j) (ns_get g (by omega))]; rfl, h.frozen _⟩

/-- The clocks as ninety numbers. -/
def gD (s : Dj) : Nat → Nat := fun i => if i < 36 then s.C (i / 6) (i % 6) else if i < 66 then s.L ((i - 36) / 6) ((i - 36) % 6) else s.V ((i - 66) / 6) ((i - 66) % 6)
theorem gD_C (s : Dj) {t u : Nat} (ht : t < 6) (hu : u < 6) : gD s (t * 6 + u) = s.C t u := by
  unfold gD; rw [if_pos (by omega), show (t * 6 + u) / 6 = t by omega, show (t * 6 + u) % 6 = u by omega]
theorem gD_L (s : Dj) {o u : Nat} (ho : o < 5) (hu : u < 6) : gD s (36 + o * 6 + u) = s.L o u := by
  unfold gD; rw [if_neg (by omega), if_pos (by omega), show (36 + o * 6 + u - 36) / 6 = o by omega, show (36 + o * 6 + u - 36) % 6 = u by omega]
theorem gD_V (s : Dj) {o u : Nat} (hu : u < 6) : gD s (66 + o * 6 + u) = s.V o u := by
  unfold gD; rw [if_neg (by omega), if_neg (by omega), show (66 + o * 6 + u - 66) / 6 = o by omega, show (66 + o * 6 + u - 66) % 6 = u by omega]
theorem putR_C (s : Dj) {t : Nat} (ht : t < 6) (c : Nat → Nat) : ns 90 (putR (gD s) (t * 6) c) = ns 90 (gD { s with C := put1 s.C t c }) := ns_congr fun i hi => by
  unfold putR gD put1
  by_cases h : i < 36
  · simp only [h, if_true]
    by_cases h2 : i / 6 = t
    · rw [if_pos (by omega), if_pos h2, show i % 6 = i - t * 6 by omega]
    · rw [if_neg (by omega), if_neg h2]
  · simp only [h, if_false]; rw [if_neg (by omega)]
theorem putR_L (s : Dj) {o : Nat} (ho : o < 5) (c : Nat → Nat) : ns 90 (putR (gD s) (36 + o * 6) c) = ns 90 (gD { s with L := put1 s.L o c }) := ns_congr fun i hi => by
  unfold putR gD put1
  by_cases h : i < 36
  · simp only [h, if_true]; rw [if_neg (by omega)]
  · simp only [h, if_false]
    by_cases h1 : i < 66
    · simp only [h1, if_true]
      by_cases h2 : (i - 36) / 6 = o
      · rw [if_pos (by omega), if_pos h2, show (i - 36) % 6 = i - (36 + o * 6) by omega]
      · rw [if_neg (by omega), if_neg h2]
    · simp only [h1, if_false]; rw [if_neg (by omega)]
theorem putR_V (s : Dj) {o : Nat} (ho : o < 4) (c : Nat → Nat) : ns 90 (putR (gD s) (66 + o * 6) c) = ns 90 (gD { s with V := put1 s.V o c }) := ns_congr fun i hi => by
  unfold putR gD put1
  by_cases h : i < 36
  · simp only [h, if_true]; rw [if_neg (by omega)]
  · simp only [h, if_false]
    by_cases h1 : i < 66
    · simp only [h1, if_true]; rw [if_neg (by omega)]
    · simp only [h1, if_false]
      by_cases h2 : (i - 66) / 6 = o
      · rw [if_pos (by omega), if_pos h2, show (i - 66) % 6 = i - (66 + o * 6) by omega]
      · rw [if_neg (by omega), if_neg h2]
theorem updN_C (s : Dj) {t : Nat} (ht : t < 6) {v : Nat} (hv : v = s.C t t + 1) : ns 90 (updN (gD s) (t * 6 + t) v) = ns 90 (gD { s with C := put1 s.C t (incN (s.C t) t) }) := ns_congr fun i hi => by
  subst hv
  unfold updN gD put1 incN
  by_cases h : i < 36
  · simp only [h, if_true]
    by_cases h2 : i / 6 = t
    · rw [if_pos h2]
      by_cases h3 : i % 6 = t
      · rw [if_pos (by omega), if_pos h3, h3]
      · rw [if_neg (by omega), if_neg h3, h2]
    · rw [if_neg (by omega), if_neg h2]
  · simp only [h, if_false]; rw [if_neg (by omega)]
/-- The variables' clocks as ninety-six numbers: of each one R, then W. -/
def gV (r v : Nat → Nat → Nat) : Nat → Nat := fun i => if i % 12 < 6 then r (i / 12) (i % 12) else v (i / 12) (i % 12 - 6)
theorem gV_R (r v : Nat → Nat → Nat) {x u : Nat} (hu : u < 6) : gV r v (x * 12 + u) = r x u := by
  unfold gV; rw [if_pos (by omega), show (x * 12 + u) / 12 = x by omega, show (x * 12 + u) % 12 = u by omega]
theorem gV_W (r v : Nat → Nat → Nat) {x u : Nat} (hu : u < 6) : gV r v (x * 12 + 6 + u) = v x u := by
  unfold gV; rw [if_neg (by omega), show (x * 12 + 6 + u) / 12 = x by omega, show (x * 12 + 6 + u) % 12 - 6 = u by omega]
def upd2 (r : Nat → Nat → Nat) (x t n : Nat) : Nat → Nat → Nat := fun y u => if y = x ∧ u = t then n else r y u
theorem updN_R (r v : Nat → Nat → Nat) {x t n : Nat} (ht : t < 6) : ns 96 (updN (gV r v) (x * 12 + t) n) = ns 96 (gV (upd2 r x t n) v) := ns_congr fun i hi => by
  unfold updN gV upd2
  by_cases h : i % 12 < 6
  · simp only [h, if_true]
    by_cases h2 : i = x * 12 + t
    · rw [if_pos h2, if_pos (by omega)]
    · rw [if_neg h2, if_neg (by omega)]
  · simp only [h, if_false]; rw [if_neg (by omega)]
theorem updN_W (r v : Nat → Nat → Nat) {x t n : Nat} (ht : t < 6) : ns 96 (updN (gV r v) (x * 12 + 6 + t) n) = ns 96 (gV r (upd2 v x t n)) := ns_congr fun i hi => by
  unfold updN gV upd2
  by_cases h : i % 12 < 6
  · simp only [h, if_true]; rw [if_neg (by omega)]
  · simp only [h, if_false]
    by_cases h2 : i = x * 12 + 6 + t
    · rw [if_pos h2, if_pos (by omega)]
    · rw [if_neg h2, if_neg (by omega)]

/-- The kind of an access's flag, 0 for none. -/
def kndA (k : Int) (W R c : Nat → Nat) : Int := if within (ck W) (ck c) = false then (if k = 2 then 1 else 2) else if k = 2 then (if within (ck R) (ck c) = false then 3 else 0) else 0
def rwF (l : List Ev) (q : Int) (k : Nat) : Nat → Nat → Nat := fun x u => rwTo l q x u k
theorem seenB_within (l : List Ev) (q : Int) (j : Nat) : seenB l q j = within (ck (rwF l q j (oZ l j))) (ck ((djTo l j).C (tZ l j))) := by
  rw [Bool.eq_iff_iff, within_iff]
  unfold seenB ck rwF
  simp only [List.all_eq_true, List.mem_range, decide_eq_true_eq]
  constructor
  · intro h k hk; have := h k hk; omega
  · intro h k hk; have := h k hk; omega
theorem kndA_djK {l : List Ev} {j : Nat} (hk : kZ l j = 1 ∨ kZ l j = 2) : kndA (kZ l j) (rwF l 2 j (oZ l j)) (rwF l 1 j (oZ l j)) ((djTo l j).C (tZ l j)) = djK l j := by
  unfold kndA djK
  rw [← seenB_within, ← seenB_within]
  rcases hk with h | h <;> rw [h] <;> cases seenB l 2 j <;> cases seenB l 1 j <;> simp
theorem djK_none {l : List Ev} {j : Nat} (h1 : kZ l j ≠ 1) (h2 : kZ l j ≠ 2) : djK l j = 0 := by unfold djK; rw [if_neg h1, if_neg h2]
theorem djK_low (l : List Ev) (j : Nat) : 0 ≤ djK l j ∧ djK l j ≤ 3 := by
  unfold djK
  repeat' split
  all_goals omega
theorem rwF_zero (l : List Ev) (q : Int) : rwF l q 0 = fun _ _ => 0 := rfl
theorem rwF_yes {l : List Ev} {q : Int} {k x t n : Nat} (hq : kZ l k = q) (ho : oZ l k = x) (ht : tZ l k = t) (hn : n = (djTo l k).C t t) : upd2 (rwF l q k) x t n = rwF l q (k + 1) := by
  funext y u
  unfold upd2 rwF
  rw [show rwTo l q y u (k + 1) = if kZ l k = q ∧ oZ l k = y ∧ tZ l k = u then onr l k u else rwTo l q y u k from rfl]
  by_cases h : y = x ∧ u = t
  · obtain ⟨rfl, rfl⟩ := h
    rw [if_pos ⟨rfl, rfl⟩, if_pos ⟨hq, ho, ht⟩, hn]; rfl
  · rw [if_neg h, if_neg (fun hh => h ⟨by omega, by omega⟩)]
theorem rwF_no {l : List Ev} {q : Int} {k : Nat} (hq : kZ l k ≠ q) : rwF l q (k + 1) = rwF l q k := by
  funext y u
  unfold rwF
  rw [rwTo, if_neg fun hh => hq hh.1]
theorem djTo_acc {l : List Ev} {k : Nat} (hk : kZ l k = 1 ∨ kZ l k = 2) : djTo l (k + 1) = djTo l k := by
  rw [djTo]
  unfold djStep
  rcases hk with h | h <;> rw [h] <;> rfl
theorem onr_le {l : List Ev} (hm : may l = 0) (u : Nat) : ∀ k, k ≤ l.length → (djTo l k).C u u ≤ k + 1
  | 0, _ => by have := onr_zero l u; unfold onr at this; omega
  | k + 1, hk => by
    have h1 := onr_succ hm (show k < l.length by omega) u
    have h2 := onr_le hm u k (by omega)
    unfold onr at h1
    rw [h1]
    split <;> omega
/-- The flags of the first k events: place, variable, kind. -/
def flT (l : List Ev) : Nat → List Ev
  | 0 => []
  | k + 1 => if djK l k = 0 then flT l k else flT l k ++ [⟨(k : Nat), (eZ l k).o, djK l k⟩]
theorem flT_yes {l : List Ev} {k : Nat} (h : djK l k ≠ 0) : flT l (k + 1) = flT l k ++ [⟨(k : Nat), (eZ l k).o, djK l k⟩] := by rw [flT, if_neg h]
theorem flT_no {l : List Ev} {k : Nat} (h : djK l k = 0) : flT l (k + 1) = flT l k := by rw [flT, if_pos h]
theorem flT_len (l : List Ev) : ∀ k, (flT l k).length ≤ k
  | 0 => Nat.le_refl _
  | k + 1 => by
    have := flT_len l k
    rw [flT]
    split
    · omega
    · rw [List.length_append]; simp; omega
/-- What Run returns. -/
def flags (l : List Ev) : List Ev := if may l = 0 then flT l l.length else []
theorem flags_ok {l : List Ev} (h : may l = 0) : flags l = flT l l.length := by unfold flags; rw [if_pos h]
theorem flags_no {l : List Ev} (h : may l ≠ 0) : flags l = [] := by unfold flags; rw [if_neg h]
theorem chg_setRow (w : World) (B : Nat) (c : Array Value) : w.grownBy (w.setRow B c) (some B) := ⟨rfl, rfl, rfl, by simp, fun k _ hne => setRow_other w B k c (fun e => hne (by rw [e]))⟩
theorem fl_info : (Try.prog.info? 33).map (fun i => (i.zero, i.size, i.bytes)) = some (some (.agg #[.int .i64 0, .int .i64 0, .int .i64 0]), 3, 24) := by kernel_rfl
end Go.Proofs.Yteihildhlcggoaa
namespace Go.Proofs.Yteihildhlcggoaa
open Go Go.RowKit

def fkS (j : Nat) (q : Int) (r : Rc) : Int := if r.b = j ∧ (q = 0 ∨ r.k < q) then r.k else q
def fk (rs : List Rc) (j : Nat) : Int := rs.foldl (fkS j) 0
theorem fk_snoc (rs : List Rc) (r : Rc) (j : Nat) : fk (rs ++ [r]) j = fkS j (fk rs j) r := by unfold fk; rw [List.foldl_append]; rfl
theorem hasK_snoc (rs : List Rc) (r : Rc) (j : Nat) (q : Int) : hasK (rs ++ [r]) j q = (hasK rs j q || (r.b == j && r.k == q)) := by unfold hasK; simp
theorem minK_low (rs : List Rc) (j : Nat) : 0 ≤ minK rs j ∧ minK rs j ≤ 3 := by
  unfold minK
  repeat' split
  all_goals omega
theorem minK_snoc (rs : List Rc) (r : Rc) (j : Nat) (hr : r.k = 1 ∨ r.k = 2 ∨ r.k = 3) : minK (rs ++ [r]) j = fkS j (minK rs j) r := by
  unfold minK fkS
  simp only [hasK_snoc]
  by_cases hb : r.b = j
  · have hb' : (r.b == j) = true := by simpa using hb
    rw [hb']
    rcases hr with h | h | h <;> rw [h] <;> cases hasK rs j 1 <;> cases hasK rs j 2 <;> cases hasK rs j 3 <;> simp [hb]
  · have hb' : (r.b == j) = false := by simpa using hb
    rw [hb']
    simp [hb]
theorem fk_min (rs : List Rc) (j : Nat) (hr : ∀ r ∈ rs, r.k = 1 ∨ r.k = 2 ∨ r.k = 3) : ∀ i, i ≤ rs.length → fk (rs.take i) j = minK (rs.take i) j
  | 0, _ => rfl
  | i + 1, hi => by
    have hlt : i < rs.length := by omega
    have e : rs.take (i + 1) = rs.take i ++ [rs[i]] := rc_ptake (List.getElem?_eq_getElem hlt)
    rw [e, fk_snoc, minK_snoc _ _ _ (hr _ (List.getElem_mem hlt)), fk_min rs j hr i (by omega)]
theorem rcsA_k {l : List Ev} {r : Rc} (h : r ∈ rcsA l) : r.k = 1 ∨ r.k = 2 ∨ r.k = 3 := by
  obtain ⟨a, b, _, _, _, _, h5, h6, _⟩ := mem_rcsA h
  rw [h5]
  unfold conf at h6 ⊢
  repeat' split
  all_goals first | omega | (rename_i hx; simp [hx] at h6) | skip
  all_goals first | exact .inl rfl | exact .inr (.inl rfl) | exact .inr (.inr rfl) | skip
theorem fk_all {l : List Ev} (hm : may l = 0) {j : Nat} (hj : j < l.length) : fk (rcs l) j = djK l j := by
  rw [rcs_ok hm, djK_min hm hj]
  have := fk_min (rcsA l) j (fun r h => rcsA_k h) _ (Nat.le_refl _)
  rwa [List.take_length] at this
/-- How often a thread has handed its clock on. -/
def gvn (l : List Ev) (k u : Nat) : Nat := onr l k u - 1
theorem gvn_zero (l : List Ev) (u : Nat) : gvn l 0 u = 0 := by unfold gvn; rw [onr_zero]
theorem gvn_len {l : List Ev} (hm : may l = 0) {k u : Nat} (hk : k ≤ l.length) : gvn l k u ≤ k := by have := onr_le hm u k hk; unfold gvn onr; omega
theorem gvn_yes {l : List Ev} (hm : may l = 0) {k t : Nat} (hk : k < l.length) (hg : kZ l k = 4 ∨ kZ l k = 5 ∨ kZ l k = 8) (ht : tZ l k = t) {n : Int} (hn : n = (gvn l k t : Nat) + 1) : clk (upd (ck (gvn l k)) t n) = clk (ck (gvn l (k + 1))) := clk_congr fun u _ => by
  unfold upd ck gvn
  rw [onr_succ hm hk]
  unfold giveB
  have h1 := onr_pos hm t k (by omega)
  by_cases h : u = t
  · subst h
    rw [if_pos rfl, if_pos (by simp [hg, ht]), hn]
    unfold gvn; omega
  · rw [if_neg h, if_neg (by simp; intro _; omega)]; rfl
theorem gvn_no {l : List Ev} (hm : may l = 0) {k : Nat} (hk : k < l.length) (hg : ¬ (kZ l k = 4 ∨ kZ l k = 5 ∨ kZ l k = 8)) : gvn l (k + 1) = gvn l k := by
  funext u
  unfold gvn
  rw [onr_succ hm hk, if_neg (by unfold giveB; simp; intro h; exact absurd h hg)]; rfl
theorem rwn_yes {l : List Ev} (hm : may l = 0) {q : Int} {k x t : Nat} (hk : k < l.length) (hq : kZ l k = q) (ho : oZ l k = x) (ht : tZ l k = t) {n : Int} (hn : n = (gvn l k t : Nat) + 1) : clk (upd (ck (rwF l q k x)) t n) = clk (ck (rwF l q (k + 1) x)) := clk_congr fun u _ => by
  have h1 := onr_pos hm t k (by omega)
  unfold upd ck rwF
  rw [show rwTo l q x u (k + 1) = if kZ l k = q ∧ oZ l k = x ∧ tZ l k = u then onr l k u else rwTo l q x u k from rfl]
  by_cases h : u = t
  · subst h
    rw [if_pos rfl, if_pos ⟨hq, ho, ht⟩, hn]
    unfold gvn; omega
  · rw [if_neg h, if_neg (fun hh => h (by omega))]
theorem rwn_no {l : List Ev} {q : Int} {k x : Nat} (h : ¬ (kZ l k = q ∧ oZ l k = x)) : rwF l q (k + 1) x = rwF l q k x := by
  funext u
  unfold rwF
  rw [rwTo, if_neg fun hh => h ⟨hh.1, hh.2.1⟩]
end Go.Proofs.Yteihildhlcggoaa
namespace Go.Proofs.Yteihildhlcggoaa
open Go Go.RowKit

theorem eZ_take {l : List Ev} {k i : Nat} (h : i < k) : eZ (l.take k) i = eZ l i := by unfold eZ; rw [List.getElem?_take, if_pos h]
theorem kZ_take {l : List Ev} {k i : Nat} (h : i < k) : kZ (l.take k) i = kZ l i := by unfold kZ; rw [eZ_take h]
theorem tZ_take {l : List Ev} {k i : Nat} (h : i < k) : tZ (l.take k) i = tZ l i := by unfold tZ; rw [eZ_take h]
theorem oZ_take {l : List Ev} {k i : Nat} (h : i < k) : oZ (l.take k) i = oZ l i := by unfold oZ; rw [eZ_take h]
theorem djTo_take {l : List Ev} {k : Nat} : ∀ j, j ≤ k → djTo (l.take k) j = djTo l j
  | 0, _ => rfl
  | j + 1, h => by rw [djTo, djTo, djTo_take j (by omega), kZ_take (by omega), tZ_take (by omega), oZ_take (by omega)]
theorem rwTo_take {l : List Ev} {k : Nat} (q : Int) (x u : Nat) : ∀ j, j ≤ k → rwTo (l.take k) q x u j = rwTo l q x u j
  | 0, _ => rfl
  | j + 1, h => by
    rw [rwTo, rwTo, rwTo_take q x u j (by omega), kZ_take (by omega), tZ_take (by omega), oZ_take (by omega)]
    unfold onr
    rw [djTo_take j (by omega)]
theorem djK_take {l : List Ev} {k j : Nat} (h : j < k) : djK (l.take k) j = djK l j := by
  have e : ∀ q, seenB (l.take k) q j = seenB l q j := fun q => by
    unfold seenB
    simp only [oZ_take h, tZ_take h, djTo_take j (Nat.le_of_lt h), fun u => rwTo_take (l := l) (k := k) q (oZ l j) u j (Nat.le_of_lt h)]
  unfold djK
  rw [e, e, kZ_take h]
theorem flT_take {l : List Ev} {k : Nat} : ∀ j, j ≤ k → flT (l.take k) j = flT l j
  | 0, _ => rfl
  | j + 1, h => by rw [flT, flT, flT_take j (by omega), djK_take (by omega), eZ_take (by omega)]
theorem flT_low {l : List Ev} {e : Ev} : ∀ {k : Nat}, e ∈ flT l k → 0 ≤ e.k ∧ e.k < k
  | 0, h => by simp [flT] at h
  | k + 1, h => by
    rw [flT] at h
    split at h
    · have := flT_low h; omega
    · rcases List.mem_append.1 h with h | h
      · have := flT_low h; omega
      · simp at h; subst h; dsimp only; omega
theorem flT_split (l : List Ev) (k : Nat) : ∀ d, ∃ r, flT l (k + d) = flT l k ++ r ∧ ∀ e ∈ r, (k : Int) ≤ e.k
  | 0 => ⟨[], by simp, by simp⟩
  | d + 1 => by
    obtain ⟨r, h1, h2⟩ := flT_split l k d
    rw [← Nat.add_assoc, flT]
    split
    · exact ⟨r, h1, h2⟩
    · refine ⟨r ++ [_], by rw [h1, List.append_assoc], fun e he => ?_⟩
      rcases List.mem_append.1 he with he | he
      · exact h2 e he
      · simp at he; subst he; dsimp only; omega
theorem fl_split {l : List Ev} {k n : Nat} (h : k ≤ n) : ∃ r, flT l n = flT l k ++ r ∧ ∀ e ∈ r, (k : Int) ≤ e.k := by
  obtain ⟨d, rfl⟩ := Nat.exists_eq_add_of_le h
  exact flT_split l k d
theorem may_takeF {l : List Ev} (h : may l = 0) (k : Nat) : may (l.take k) = 0 := by
  rw [may_iff] at h ⊢
  refine ⟨by rw [List.length_take]; omega, fun i e he => ?_⟩
  have hi : i < k := by
    have := (List.getElem?_eq_some_iff.1 he).1
    rw [List.length_take] at this; omega
  rw [List.getElem?_take, if_pos hi] at he
  rw [List.take_take, Nat.min_eq_left (Nat.le_of_lt hi)]
  exact h.2 i e he
end Go.Proofs.Yteihildhlcggoaa
namespace Go.Proofs.Yteihildhlcggoaa
open Go Go.RowKit

theorem flT_mem {l : List Ev} {e : Ev} : ∀ {k : Nat}, e ∈ flT l k ↔ ∃ j, j < k ∧ djK l j ≠ 0 ∧ e = ⟨(j : Nat), (eZ l j).o, djK l j⟩
  | 0 => ⟨fun h => by simp [flT] at h, fun ⟨j, h, _⟩ => by omega⟩
  | k + 1 => by
    rw [flT]
    split
    · rename_i h0
      rw [flT_mem]
      constructor
      · rintro ⟨j, h1, h2⟩; exact ⟨j, by omega, h2⟩
      · rintro ⟨j, h1, h2, h3⟩
        rcases Nat.lt_succ_iff_lt_or_eq.1 h1 with h1 | rfl
        · exact ⟨j, h1, h2, h3⟩
        · exact absurd h0 h2
    · rename_i h0
      rw [List.mem_append, flT_mem, List.mem_singleton]
      constructor
      · rintro (⟨j, h1, h2⟩ | rfl)
        · exact ⟨j, by omega, h2⟩
        · exact ⟨k, by omega, h0, rfl⟩
      · rintro ⟨j, h1, h2, h3⟩
        rcases Nat.lt_succ_iff_lt_or_eq.1 h1 with h1 | rfl
        · exact .inl ⟨j, h1, h2, h3⟩
        · exact .inr h3
theorem flT_up (l : List Ev) : ∀ k, ((flT l k).map (·.k)).Pairwise (· < ·)
  | 0 => by simp [flT]
  | k + 1 => by
    rw [flT]
    split
    · exact flT_up l k
    · rw [List.map_append, List.pairwise_append]
      refine ⟨flT_up l k, by simp, fun a ha b hb => ?_⟩
      obtain ⟨e, he, rfl⟩ := List.mem_map.1 ha
      simp at hb
      subst hb
      exact (flT_low he).2
def fBx (r : Rc) : Int := r.b
theorem flAt {l : List Ev} (hm : may l = 0) : (flags l).map (·.k) = dd ((rcs l).map fBx) := by
  rw [flags_ok hm, rcs_ok hm]
  refine up_eq (flT_up _ _) (dd_up _) fun x => ?_
  rw [dd_mem]
  simp only [List.mem_map]
  constructor
  · rintro ⟨e, he, rfl⟩
    obtain ⟨j, h1, h2, rfl⟩ := flT_mem.1 he
    rw [djK_min hm h1] at h2
    have h3 : hasK (rcsA l) j 1 = true ∨ hasK (rcsA l) j 2 = true ∨ hasK (rcsA l) j 3 = true := by
      unfold minK at h2
      cases g1 : hasK (rcsA l) j 1 <;> cases g2 : hasK (rcsA l) j 2 <;> cases g3 : hasK (rcsA l) j 3 <;> simp_all
    unfold hasK at h3
    simp only [List.any_eq_true, Bool.and_eq_true, beq_iff_eq] at h3
    rcases h3 with ⟨r, hr, hb, _⟩ | ⟨r, hr, hb, _⟩ | ⟨r, hr, hb, _⟩ <;> exact ⟨r, hr, by unfold fBx; rw [hb]⟩
  · rintro ⟨r, hr, rfl⟩
    obtain ⟨a, b, _, hb, _⟩ := mem_rcsA hr
    have hj : r.b < l.length := (List.getElem?_eq_some_iff.1 hb).1
    have hk := rcsA_k hr
    refine ⟨_, flT_mem.2 ⟨r.b, hj, ?_, rfl⟩, rfl⟩
    rw [djK_min hm hj]
    have h4 : hasK (rcsA l) r.b r.k = true := by
      unfold hasK
      simp only [List.any_eq_true, Bool.and_eq_true, beq_iff_eq]
      exact ⟨r, hr, rfl, rfl⟩
    unfold minK
    rcases hk with h | h | h <;> rw [h] at h4 <;> cases g1 : hasK (rcsA l) r.b 1 <;> cases g2 : hasK (rcsA l) r.b 2 <;> simp_all
theorem djK_read {l : List Ev} {j : Nat} (h : djK l j ≠ 0) : (djK l j == 2) = (kZ l j == 1) := by
  unfold djK at h ⊢
  by_cases h1 : kZ l j = 1
  · rw [if_pos h1] at h ⊢
    cases hs : seenB l 2 j
    · simp [h1]
    · rw [hs] at h; simp at h
  · rw [if_neg h1] at h ⊢
    by_cases h2 : kZ l j = 2
    · rw [if_pos h2] at h ⊢
      cases hs : seenB l 2 j
      · simp [h1]
      · cases hs1 : seenB l 1 j
        · simp [h1]
        · rw [hs, hs1] at h; simp at h
    · rw [if_neg h2] at h; exact absurd rfl h
end Go.Proofs.Yteihildhlcggoaa

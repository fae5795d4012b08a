import Derived.Lib.SlicesCompact
import Derived.Test.YtnklpifnknmdgaaGreatDoorRows
import Derived.Deep.MidRow
import Derived.Maps.AppendAt
import Derived.Test.YtnklpifnknmdgaaGreatDoorZOr
import Derived.Test.YtnklpifnknmdgaaGreatDoorZTr
import Derived.Test.YtnklpifnknmdgaaGreatDoorZGrow
set_option linter.all false
set_option maxRecDepth 100000
namespace Go.Proofs.YtnklpifnknmdgaaGreatDoor
open Go Go.RowKit

def eZ (l : List Ev) (i : Nat) : Ev := (l[i]?).getD ⟨0, 0, 0⟩
def kZ (l : List Ev) (i : Nat) : Int := (eZ l i).k
def tZ (l : List Ev) (i : Nat) : Nat := (eZ l i).t.toNat
def oZ (l : List Ev) (i : Nat) : Nat := (eZ l i).o.toNat
theorem eZ_at {l : List Ev} {i : Nat} {e : Ev} (h : l[i]? = some e) : eZ l i = e := by simp [eZ, h]
theorem eZ_get {l : List Ev} {i : Nat} (h : i < l.length) : l[i]? = some (eZ l i) := by simp [eZ, h]
theorem eZ_ok {l : List Ev} (hm : may l = 0) {i : Nat} (h : i < l.length) : isEv (eZ l i) = true := wrong_isEv (wrong_at hm (eZ_get h))
theorem tZ_lt {l : List Ev} (hm : may l = 0) {i : Nat} (h : i < l.length) : tZ l i < 6 := by
  have := isEv_t (eZ_ok hm h); unfold tZ; omega
def dirN (l : List Ev) (m k : Nat) : Prop := tZ l m = tZ l k ∨ (kZ l m = 4 ∧ kZ l k = 3 ∧ oZ l m = oZ l k) ∨ (kZ l m = 5 ∧ tZ l k = oZ l m) ∨ (kZ l k = 6 ∧ tZ l m = oZ l k) ∨ (kZ l m = 8 ∧ kZ l k = 7 ∧ oZ l m = oZ l k) ∨ (kZ l m = 5 ∧ kZ l k = 6 ∧ oZ l m = oZ l k)
theorem dirB_N {l : List Ev} (hm : may l = 0) {m k : Nat} (hk : k < l.length) : dirB l m k = true ↔ m < k ∧ dirN l m k := by
  by_cases hmk : m < k
  · have hml : m < l.length := by omega
    have ha := eZ_get hml; have hb := eZ_get hk
    have ta := isEv_t (eZ_ok hm hml); have tb := isEv_t (eZ_ok hm hk)
    have oa := (isEv_o (eZ_ok hm hml)).1; have ob := (isEv_o (eZ_ok hm hk)).1
    have e1 : (eZ l m).t = (eZ l k).t ↔ tZ l m = tZ l k := by unfold tZ; omega
    have e2 : (eZ l m).o = (eZ l k).o ↔ oZ l m = oZ l k := by unfold oZ; omega
    have e3 : (eZ l k).t = (eZ l m).o ↔ tZ l k = oZ l m := by unfold tZ oZ; omega
    have e4 : (eZ l m).t = (eZ l k).o ↔ tZ l m = oZ l k := by unfold tZ oZ; omega
    rw [dirB_at ha hb, decide_eq_true hmk, Bool.true_and]
    unfold directly dirN kZ
    simp only [Bool.or_eq_true, Bool.and_eq_true, beq_iff_eq, e1, e2, e3, e4, hmk, true_and, or_assoc]
  · constructor
    · intro h; exact absurd (dirB_lt h).1 hmk
    · intro h; exact absurd h.1 hmk
def kb (l : List Ev) (i m : Nat) : Prop := i = m ∨ bef l i m = true
theorem kb_trans {l : List Ev} {i m k : Nat} (h : kb l i m) (h2 : bef l m k = true) : bef l i k = true := by
  rcases h with rfl | h
  · exact h2
  · exact bef_trans h h2
theorem kb_le {l : List Ev} {i m : Nat} (h : kb l i m) : i ≤ m := by
  rcases h with rfl | h
  · exact Nat.le_refl _
  · have := bef_lt h; omega
theorem bef_last {l : List Ev} {j : Nat} : ∀ (d i : Nat), j - i ≤ d → bef l i j = true → ∃ m, dirB l m j = true ∧ kb l i m
  | 0, i, hd, h => by have := bef_lt h; omega
  | d + 1, i, hd, h => by
    rcases bef_step h with h1 | ⟨m, h1, h2⟩
    · exact ⟨i, h1, .inl rfl⟩
    · have := dirB_lt h1; have := bef_lt h2
      obtain ⟨p, h3, h4⟩ := bef_last d m (by omega) h2
      exact ⟨p, h3, .inr (by rcases h4 with rfl | h4
                             · exact dir_bef h1
                             · exact bef_trans (dir_bef h1) h4)⟩
theorem bef_iff {l : List Ev} (hm : may l = 0) {i j : Nat} (hj : j < l.length) : bef l i j = true ↔ ∃ m, m < j ∧ dirN l m j ∧ kb l i m := by
  constructor
  · intro h
    obtain ⟨m, h1, h2⟩ := bef_last _ i (Nat.le_refl _) h
    have := (dirB_N hm hj).1 h1
    exact ⟨m, this.1, this.2, h2⟩
  · rintro ⟨m, h1, h2, h3⟩
    exact kb_trans h3 (dir_bef ((dirB_N hm hj).2 ⟨h1, h2⟩))
structure Dj where
  C : Nat → Nat → Nat
  L : Nat → Nat → Nat
  V : Nat → Nat → Nat
def put1 {α : Type} (f : Nat → α) (i : Nat) (g : α) : Nat → α := fun j => if j = i then g else f j
def mxN (a b : Nat → Nat) : Nat → Nat := fun u => max (a u) (b u)
def incN (a : Nat → Nat) (t : Nat) : Nat → Nat := fun u => if u = t then a u + 1 else a u
theorem put1_same {α : Type} (f : Nat → α) (i : Nat) (g : α) : put1 f i g i = g := if_pos rfl
theorem put1_ne {α : Type} (f : Nat → α) {i j : Nat} (g : α) (h : j ≠ i) : put1 f i g j = f j := if_neg h
theorem incN_same (a : Nat → Nat) (t : Nat) : incN a t t = a t + 1 := if_pos rfl
theorem incN_ne (a : Nat → Nat) {t u : Nat} (h : u ≠ t) : incN a t u = a u := if_neg h
def djStart : Dj := ⟨fun t u => if t = u then 1 else 0, fun _ _ => 0, fun _ _ => 0⟩
def djStep (s : Dj) (k : Int) (t o : Nat) : Dj :=
  if k = 3 then { s with C := put1 s.C t (mxN (s.C t) (s.L o)) }
  else if k = 4 then { s with L := put1 s.L o (s.C t), C := put1 s.C t (incN (s.C t) t) }
  else if k = 5 then { s with C := put1 (put1 s.C o (mxN (s.C o) (s.C t))) t (incN (s.C t) t) }
  else if k = 6 then { s with C := put1 s.C t (mxN (s.C t) (s.C o)) }
  else if k = 7 then { s with C := put1 s.C t (mxN (s.C t) (s.V o)) }
  else if k = 8 then { s with V := put1 s.V o (mxN (s.V o) (s.C t)), C := put1 s.C t (incN (s.C t) t) }
  else s
def djTo (l : List Ev) : Nat → Dj
  | 0 => djStart
  | k + 1 => djStep (djTo l k) (kZ l k) (tZ l k) (oZ l k)
def epo (l : List Ev) (i : Nat) : Nat := (djTo l i).C (tZ l i) (tZ l i)
def KC (l : List Ev) (k t i : Nat) : Prop := ∃ m, m < k ∧ (tZ l m = t ∨ (kZ l m = 5 ∧ oZ l m = t)) ∧ kb l i m
def KL (l : List Ev) (k o i : Nat) : Prop := ∃ m, m < k ∧ (kZ l m = 4 ∧ oZ l m = o) ∧ kb l i m
def KV (l : List Ev) (k o i : Nat) : Prop := ∃ m, m < k ∧ (kZ l m = 8 ∧ oZ l m = o) ∧ kb l i m
def ovr (l : List Ev) (k u : Nat) : Prop := ∃ m, m < k ∧ kZ l m = 6 ∧ oZ l m = u
structure DjI (l : List Ev) (k : Nat) (s : Dj) : Prop where
  c0 : ∀ t u, s.C t u ≤ s.C u u
  l0 : ∀ o u, s.L o u ≤ s.C u u
  v0 : ∀ o u, s.V o u ≤ s.C u u
  c1 : ∀ t u, t ≠ u → ¬ ovr l k u → s.C t u < s.C u u
  l1 : ∀ o u, ¬ ovr l k u → s.L o u < s.C u u
  v1 : ∀ o u, ¬ ovr l k u → s.V o u < s.C u u
  kc : ∀ t i, i < k → (epo l i ≤ s.C t (tZ l i) ↔ KC l k t i)
  kl : ∀ o i, i < k → (epo l i ≤ s.L o (tZ l i) ↔ KL l k o i)
  kv : ∀ o i, i < k → (epo l i ≤ s.V o (tZ l i) ↔ KV l k o i)
theorem not_over {l : List Ev} (hm : may l = 0) {k : Nat} (hk : k < l.length) : ¬ ovr l k (tZ l k) := by
  rintro ⟨m, h1, h2, h3⟩
  have hml : m < l.length := by omega
  have ha := eZ_get hml; have hb := eZ_get hk
  have tb := isEv_t (eZ_ok hm hk)
  have oa := (isEv_o (eZ_ok hm hml)).1
  unfold oZ tZ at h3
  have := join_lt hm ha hb h2 (by omega)
  omega
theorem fork_ne {l : List Ev} (hm : may l = 0) {k : Nat} (hk : k < l.length) (h5 : kZ l k = 5) : oZ l k ≠ tZ l k := by
  intro h
  have hb := eZ_get hk
  have tb := isEv_t (eZ_ok hm hk)
  have oa := (isEv_o (eZ_ok hm hk)).1
  unfold oZ tZ at h
  have := fork_lt hm hb hb h5 (by omega)
  omega
theorem rel_chain {l : List Ev} (hm : may l = 0) {m k : Nat} (hk : k < l.length) (hmk : m < k) (h4 : kZ l m = 4) (h4' : kZ l k = 4) (ho : oZ l m = oZ l k) : bef l m k = true := by
  have ha := eZ_get (l := l) (i := m) (by omega); have hb := eZ_get hk
  have oa := (isEv_o (eZ_ok hm (show m < l.length by omega))).1; have ob := (isEv_o (eZ_ok hm hk)).1
  unfold oZ at ho
  exact lock_bef hm ha hb hmk (.inr h4) (.inr h4') (by omega)
theorem at_iff {l : List Ev} (hm : may l = 0) {k i : Nat} (hk : k < l.length) : bef l i k = true ↔ KC l k (tZ l k) i ∨ (kZ l k = 3 ∧ KL l k (oZ l k) i) ∨ (kZ l k = 6 ∧ KC l k (oZ l k) i) ∨ (kZ l k = 7 ∧ KV l k (oZ l k) i) := by
  rw [bef_iff hm hk]
  constructor
  · rintro ⟨m, h1, h2, h3⟩
    unfold dirN at h2
    rcases h2 with h | h | h | h | h | h
    · exact .inl ⟨m, h1, .inl h, h3⟩
    · exact .inr (.inl ⟨h.2.1, m, h1, ⟨h.1, h.2.2⟩, h3⟩)
    · exact .inl ⟨m, h1, .inr ⟨h.1, h.2.symm⟩, h3⟩
    · exact .inr (.inr (.inl ⟨h.1, m, h1, .inl h.2, h3⟩))
    · exact .inr (.inr (.inr ⟨h.2.1, m, h1, ⟨h.1, h.2.2⟩, h3⟩))
    · exact .inr (.inr (.inl ⟨h.2.1, m, h1, .inr ⟨h.1, h.2.2⟩, h3⟩))
  · unfold dirN
    rintro (⟨m, h1, h | h, h3⟩ | ⟨h0, m, h1, h, h3⟩ | ⟨h0, m, h1, h | h, h3⟩ | ⟨h0, m, h1, h, h3⟩)
    · exact ⟨m, h1, .inl h, h3⟩
    · exact ⟨m, h1, .inr (.inr (.inl ⟨h.1, h.2.symm⟩)), h3⟩
    · exact ⟨m, h1, .inr (.inl ⟨h.1, h0, h.2⟩), h3⟩
    · exact ⟨m, h1, .inr (.inr (.inr (.inl ⟨h0, h⟩))), h3⟩
    · exact ⟨m, h1, .inr (.inr (.inr (.inr (.inr ⟨h.1, h0, h.2⟩)))), h3⟩
    · exact ⟨m, h1, .inr (.inr (.inr (.inr (.inl ⟨h.1, h0, h.2⟩)))), h3⟩
end Go.Proofs.YtnklpifnknmdgaaGreatDoor
namespace Go.Proofs.YtnklpifnknmdgaaGreatDoor
open Go Go.RowKit

theorem le_mx {e : Nat} {a b : Nat → Nat} {u : Nat} : e ≤ mxN a b u ↔ e ≤ a u ∨ e ≤ b u := by unfold mxN; omega
theorem kc_succ {l : List Ev} {k t i : Nat} : KC l (k + 1) t i ↔ KC l k t i ∨ ((tZ l k = t ∨ (kZ l k = 5 ∧ oZ l k = t)) ∧ kb l i k) := by
  constructor
  · rintro ⟨m, h1, h2, h3⟩
    rcases Nat.lt_succ_iff_lt_or_eq.1 h1 with h | rfl
    · exact .inl ⟨m, h, h2, h3⟩
    · exact .inr ⟨h2, h3⟩
  · rintro (⟨m, h1, h2, h3⟩ | ⟨h2, h3⟩)
    · exact ⟨m, by omega, h2, h3⟩
    · exact ⟨k, by omega, h2, h3⟩
theorem kl_succ {l : List Ev} {k o i : Nat} : KL l (k + 1) o i ↔ KL l k o i ∨ ((kZ l k = 4 ∧ oZ l k = o) ∧ kb l i k) := by
  constructor
  · rintro ⟨m, h1, h2, h3⟩
    rcases Nat.lt_succ_iff_lt_or_eq.1 h1 with h | rfl
    · exact .inl ⟨m, h, h2, h3⟩
    · exact .inr ⟨h2, h3⟩
  · rintro (⟨m, h1, h2, h3⟩ | ⟨h2, h3⟩)
    · exact ⟨m, by omega, h2, h3⟩
    · exact ⟨k, by omega, h2, h3⟩
theorem kv_succ {l : List Ev} {k o i : Nat} : KV l (k + 1) o i ↔ KV l k o i ∨ ((kZ l k = 8 ∧ oZ l k = o) ∧ kb l i k) := by
  constructor
  · rintro ⟨m, h1, h2, h3⟩
    rcases Nat.lt_succ_iff_lt_or_eq.1 h1 with h | rfl
    · exact .inl ⟨m, h, h2, h3⟩
    · exact .inr ⟨h2, h3⟩
  · rintro (⟨m, h1, h2, h3⟩ | ⟨h2, h3⟩)
    · exact ⟨m, by omega, h2, h3⟩
    · exact ⟨k, by omega, h2, h3⟩
theorem ovr_succ {l : List Ev} {k u : Nat} (h : ¬ ovr l (k + 1) u) : ¬ ovr l k u ∧ ¬ (kZ l k = 6 ∧ oZ l k = u) :=
  ⟨fun ⟨m, h1, h2⟩ => h ⟨m, by omega, h2⟩, fun h2 => h ⟨k, by omega, h2⟩⟩
theorem kc_self {l : List Ev} {k t : Nat} : ¬ KC l k t k := fun ⟨_, h1, _, h3⟩ => by have := kb_le h3; omega
theorem kl_self {l : List Ev} {k o : Nat} : ¬ KL l k o k := fun ⟨_, h1, _, h3⟩ => by have := kb_le h3; omega
theorem kv_self {l : List Ev} {k o : Nat} : ¬ KV l k o k := fun ⟨_, h1, _, h3⟩ => by have := kb_le h3; omega
theorem kb_self {l : List Ev} {k : Nat} : kb l k k := .inl rfl
theorem kb_lt {l : List Ev} {i k : Nat} (h : i < k) : kb l i k ↔ bef l i k = true := ⟨fun h1 => h1.resolve_left (by omega), .inr⟩
theorem djI_start (l : List Ev) : DjI l 0 djStart where
  c0 := fun t u => by unfold djStart; dsimp only; split <;> simp
  l0 := fun _ _ => Nat.zero_le _
  v0 := fun _ _ => Nat.zero_le _
  c1 := fun t u h _ => by unfold djStart; dsimp only; rw [if_neg h, if_pos rfl]; omega
  l1 := fun _ u _ => by unfold djStart; dsimp only; rw [if_pos rfl]; omega
  v1 := fun _ u _ => by unfold djStart; dsimp only; rw [if_pos rfl]; omega
  kc := fun _ i h => by omega
  kl := fun _ i h => by omega
  kv := fun _ i h => by omega
section
variable {l : List Ev} {k : Nat} {s : Dj}
theorem djI_take (h : DjI l k s) (hov : ¬ ovr l k (tZ l k)) (he : epo l k = s.C (tZ l k) (tZ l k)) (X : Nat → Nat) (Y : Nat → Prop)
    (x0 : ∀ u, X u ≤ s.C u u) (x1 : ∀ u, u ≠ tZ l k → ¬ ovr l (k + 1) u → X u < s.C u u) (hx : ∀ i, i < k → (epo l i ≤ X (tZ l i) ↔ Y i))
    (h4 : kZ l k ≠ 4) (h5 : kZ l k ≠ 5) (h8 : kZ l k ≠ 8) (hb : ∀ i, i < k → (bef l i k = true ↔ KC l k (tZ l k) i ∨ Y i)) :
    DjI l (k + 1) { s with C := put1 s.C (tZ l k) (mxN (s.C (tZ l k)) X) } := by
  have hself : ∀ u, put1 s.C (tZ l k) (mxN (s.C (tZ l k)) X) u u = s.C u u := fun u => by
    by_cases hu : u = tZ l k
    · subst hu; rw [put1_same]; unfold mxN; have := x0 (tZ l k); omega
    · rw [put1_ne _ _ hu]
  constructor
  · intro t u
    dsimp only; rw [hself]
    by_cases ht : t = tZ l k
    · subst ht; rw [put1_same]; unfold mxN; have := h.c0 (tZ l k) u; have := x0 u; omega
    · rw [put1_ne _ _ ht]; exact h.c0 t u
  · intro o u; dsimp only; rw [hself]; exact h.l0 o u
  · intro o u; dsimp only; rw [hself]; exact h.v0 o u
  · intro t u htu hu
    dsimp only; rw [hself]
    have hu' := ovr_succ hu
    by_cases ht : t = tZ l k
    · subst ht; rw [put1_same]; unfold mxN; have := h.c1 (tZ l k) u htu hu'.1; have := x1 u (Ne.symm htu) hu; omega
    · rw [put1_ne _ _ ht]; exact h.c1 t u htu hu'.1
  · intro o u hu; dsimp only; rw [hself]; exact h.l1 o u (ovr_succ hu).1
  · intro o u hu; dsimp only; rw [hself]; exact h.v1 o u (ovr_succ hu).1
  · intro t i hi
    dsimp only
    rw [kc_succ]
    rcases Nat.lt_succ_iff_lt_or_eq.1 hi with hi | rfl
    · by_cases ht : t = tZ l k
      · subst ht
        rw [put1_same, le_mx, h.kc _ i hi, hx i hi, kb_lt hi, hb i hi]
        constructor
        · intro hh; exact .inr ⟨.inl rfl, hh⟩
        · rintro (hh | ⟨_, hh⟩)
          · exact .inl hh
          · exact hh
      · rw [put1_ne _ _ ht, h.kc _ i hi]
        exact ⟨.inl, fun hh => hh.resolve_right fun hr => hr.1.elim (fun e => ht e.symm) (fun e => h5 e.1)⟩
    · rw [he]
      by_cases ht : t = tZ l i
      · subst ht
        rw [hself]
        exact ⟨fun _ => .inr ⟨.inl rfl, kb_self⟩, fun _ => Nat.le_refl _⟩
      · rw [put1_ne _ _ ht]
        have := h.c1 t _ ht hov
        constructor
        · intro hh; omega
        · rintro (hh | ⟨hh | hh, _⟩)
          · exact absurd hh kc_self
          · exact absurd hh.symm ht
          · exact absurd hh.1 h5
  · intro o i hi
    dsimp only
    rw [kl_succ]
    rcases Nat.lt_succ_iff_lt_or_eq.1 hi with hi | rfl
    · rw [h.kl _ i hi]
      exact ⟨.inl, fun hh => hh.resolve_right fun hr => h4 hr.1.1⟩
    · rw [he]
      have := h.l1 o _ hov
      exact ⟨fun hh => by omega, fun hh => by rcases hh with hh | hh; exact absurd hh kl_self; exact absurd hh.1.1 h4⟩
  · intro o i hi
    dsimp only
    rw [kv_succ]
    rcases Nat.lt_succ_iff_lt_or_eq.1 hi with hi | rfl
    · rw [h.kv _ i hi]
      exact ⟨.inl, fun hh => hh.resolve_right fun hr => h8 hr.1.1⟩
    · rw [he]
      have := h.v1 o _ hov
      exact ⟨fun hh => by omega, fun hh => by rcases hh with hh | hh; exact absurd hh kv_self; exact absurd hh.1.1 h8⟩
end
end Go.Proofs.YtnklpifnknmdgaaGreatDoor
namespace Go.Proofs.YtnklpifnknmdgaaGreatDoor
open Go Go.RowKit

section
variable {l : List Ev} {k : Nat} {s : Dj}
theorem djI_give (hm : may l = 0) (hk : k < l.length) (h : DjI l k s) (he : epo l k = s.C (tZ l k) (tZ l k)) (s' : Dj) (hK : kZ l k = 4 ∨ kZ l k = 5 ∨ kZ l k = 8)
    (hCt : s'.C (tZ l k) = incN (s.C (tZ l k)) (tZ l k))
    (hC : ∀ t, t ≠ tZ l k → (s'.C t = s.C t ∧ ¬ (kZ l k = 5 ∧ oZ l k = t)) ∨ (kZ l k = 5 ∧ oZ l k = t ∧ s'.C t = mxN (s.C t) (s.C (tZ l k))))
    (hL : ∀ o, (s'.L o = s.L o ∧ ¬ (kZ l k = 4 ∧ oZ l k = o)) ∨ (kZ l k = 4 ∧ oZ l k = o ∧ s'.L o = s.C (tZ l k)))
    (hV : ∀ o, (s'.V o = s.V o ∧ ¬ (kZ l k = 8 ∧ oZ l k = o)) ∨ (kZ l k = 8 ∧ oZ l k = o ∧ s'.V o = mxN (s.V o) (s.C (tZ l k)))) :
    DjI l (k + 1) s' := by
  have hov := not_over hm hk
  have hb : ∀ i, bef l i k = true ↔ KC l k (tZ l k) i := fun i => by
    rw [at_iff hm hk]
    constructor
    · rintro (h1 | ⟨h1, _⟩ | ⟨h1, _⟩ | ⟨h1, _⟩)
      · exact h1
      all_goals omega
    · exact .inl
  have hf : ∀ t, kZ l k = 5 → oZ l k = t → t ≠ tZ l k := fun t h5 ho e => fork_ne hm hk h5 (ho.trans e)
  generalize hT : tZ l k = T at *
  have hA : ∀ u, s'.C u u = s.C u u + (if u = T then 1 else 0) := fun u => by
    by_cases hu : u = T
    · subst hu; rw [hCt, incN_same, if_pos rfl]
    · rw [if_neg hu]
      rcases hC u hu with ⟨e, _⟩ | ⟨_, _, e⟩
      · rw [e]; rfl
      · rw [e]; unfold mxN; have := h.c0 T u; omega
  have hge : ∀ u, s.C u u ≤ s'.C u u := fun u => by rw [hA]; omega
  have hct : ∀ u, ¬ ovr l k u → s.C T u < s'.C u u := fun u hu => by
    rw [hA]
    by_cases hu2 : u = T
    · subst hu2; rw [if_pos rfl]; omega
    · rw [if_neg hu2]; have := h.c1 T u (Ne.symm hu2) hu; omega
  constructor
  · intro t u
    by_cases ht : t = T
    · subst ht
      rw [hCt]
      by_cases hu : u = t
      · subst hu; rw [incN_same, hA, if_pos rfl]; omega
      · rw [incN_ne _ hu]; have := h.c0 t u; have := hge u; omega
    · rcases hC t ht with ⟨e, _⟩ | ⟨_, _, e⟩
      · rw [e]; have := h.c0 t u; have := hge u; omega
      · rw [e]; unfold mxN; have := h.c0 t u; have := h.c0 T u; have := hge u; omega
  · intro o u
    rcases hL o with ⟨e, _⟩ | ⟨_, _, e⟩
    · rw [e]; have := h.l0 o u; have := hge u; omega
    · rw [e]; have := h.c0 T u; have := hge u; omega
  · intro o u
    rcases hV o with ⟨e, _⟩ | ⟨_, _, e⟩
    · rw [e]; have := h.v0 o u; have := hge u; omega
    · rw [e]; unfold mxN; have := h.v0 o u; have := h.c0 T u; have := hge u; omega
  · intro t u htu hu
    have hu' := (ovr_succ hu).1
    by_cases ht : t = T
    · subst ht
      rw [hCt, incN_ne _ (Ne.symm htu)]; exact hct u hu'
    · rcases hC t ht with ⟨e, _⟩ | ⟨_, _, e⟩
      · rw [e]; have := h.c1 t u htu hu'; have := hge u; omega
      · rw [e]; unfold mxN; have := h.c1 t u htu hu'; have := hct u hu'; have := hge u; omega
  · intro o u hu
    have hu' := (ovr_succ hu).1
    rcases hL o with ⟨e, _⟩ | ⟨_, _, e⟩
    · rw [e]; have := h.l1 o u hu'; have := hge u; omega
    · rw [e]; exact hct u hu'
  · intro o u hu
    have hu' := (ovr_succ hu).1
    rcases hV o with ⟨e, _⟩ | ⟨_, _, e⟩
    · rw [e]; have := h.v1 o u hu'; have := hge u; omega
    · rw [e]; unfold mxN; have := h.v1 o u hu'; have := hct u hu'; have := hge u; omega
  · intro t i hi
    rw [kc_succ, hT]
    rcases Nat.lt_succ_iff_lt_or_eq.1 hi with hi | rfl
    · rw [kb_lt hi, hb]
      by_cases ht : t = T
      · subst ht
        rw [hCt]
        by_cases hti : tZ l i = t
        · have h1 : KC l k t i := ⟨i, hi, .inl hti, kb_self⟩
          have h2 := (h.kc t i hi).2 h1
          rw [hti] at h2 ⊢
          rw [incN_same]
          exact ⟨fun _ => .inl h1, fun _ => by omega⟩
        · rw [incN_ne _ hti, h.kc t i hi]
          exact ⟨.inl, fun hh => hh.elim id fun hr => hr.2⟩
      · rcases hC t ht with ⟨e, hn⟩ | ⟨h5, ho, e⟩
        · rw [e, h.kc t i hi]
          exact ⟨.inl, fun hh => hh.resolve_right fun hr => hr.1.elim (fun e => ht e.symm) hn⟩
        · rw [e, le_mx, h.kc t i hi, h.kc T i hi]
          exact ⟨fun hh => hh.imp id fun hr => ⟨.inr ⟨h5, ho⟩, hr⟩, fun hh => hh.imp id fun hr => hr.2⟩
    · rw [he, hT]
      by_cases ht : t = T
      · subst ht
        rw [hCt, incN_same]
        exact ⟨fun _ => .inr ⟨.inl rfl, kb_self⟩, fun _ => by omega⟩
      · rcases hC t ht with ⟨e, hn⟩ | ⟨h5, ho, e⟩
        · rw [e]
          have := h.c1 t T ht hov
          exact ⟨fun hh => by omega, fun hh => by rcases hh with hh | ⟨hh | hh, _⟩; exact absurd hh kc_self; exact absurd hh.symm ht; exact absurd hh hn⟩
        · rw [e, le_mx]
          exact ⟨fun _ => .inr ⟨.inr ⟨h5, ho⟩, kb_self⟩, fun _ => .inr (Nat.le_refl _)⟩
  · intro o i hi
    rw [kl_succ]
    rcases Nat.lt_succ_iff_lt_or_eq.1 hi with hi | rfl
    · rw [kb_lt hi, hb]
      rcases hL o with ⟨e, hn⟩ | ⟨h4, ho, e⟩
      · rw [e, h.kl o i hi]
        exact ⟨.inl, fun hh => hh.resolve_right fun hr => hn hr.1⟩
      · rw [e, h.kc T i hi]
        refine ⟨fun hh => .inr ⟨⟨h4, ho⟩, hh⟩, fun hh => hh.elim (fun hr => ?_) fun hr => hr.2⟩
        obtain ⟨m, h1, h2, h3⟩ := hr
        exact (hb i).1 (kb_trans h3 (rel_chain hm hk h1 h2.1 h4 (h2.2.trans ho.symm)))
    · rw [he, hT]
      rcases hL o with ⟨e, hn⟩ | ⟨h4, ho, e⟩
      · rw [e]
        have := h.l1 o T hov
        exact ⟨fun hh => by omega, fun hh => by rcases hh with hh | hh; exact absurd hh kl_self; exact absurd hh.1 hn⟩
      · rw [e]
        exact ⟨fun _ => .inr ⟨⟨h4, ho⟩, kb_self⟩, fun _ => Nat.le_refl _⟩
  · intro o i hi
    rw [kv_succ]
    rcases Nat.lt_succ_iff_lt_or_eq.1 hi with hi | rfl
    · rw [kb_lt hi, hb]
      rcases hV o with ⟨e, hn⟩ | ⟨h8, ho, e⟩
      · rw [e, h.kv o i hi]
        exact ⟨.inl, fun hh => hh.resolve_right fun hr => hn hr.1⟩
      · rw [e, le_mx, h.kv o i hi, h.kc T i hi]
        exact ⟨fun hh => hh.imp id fun hr => ⟨⟨h8, ho⟩, hr⟩, fun hh => hh.imp id fun hr => hr.2⟩
    · rw [he, hT]
      rcases hV o with ⟨e, hn⟩ | ⟨h8, ho, e⟩
      · rw [e]
        have := h.v1 o T hov
        exact ⟨fun hh => by omega, fun hh => by rcases hh with hh | hh; exact absurd hh kv_self; exact absurd hh.1 hn⟩
      · rw [e, le_mx]
        exact ⟨fun _ => .inr ⟨⟨h8, ho⟩, kb_self⟩, fun _ => .inr (Nat.le_refl _)⟩
end
theorem djI_all {l : List Ev} (hm : may l = 0) : ∀ k, k ≤ l.length → DjI l k (djTo l k)
  | 0, _ => djI_start l
  | k + 1, hk' => by
    have hk : k < l.length := by omega
    have h := djI_all hm k (by omega)
    have he : epo l k = (djTo l k).C (tZ l k) (tZ l k) := rfl
    have hov := not_over hm hk
    have hat := fun (i : Nat) (_ : i < k) => at_iff (i := i) hm hk
    show DjI l (k + 1) (djStep (djTo l k) (kZ l k) (tZ l k) (oZ l k))
    generalize djTo l k = s at *
    unfold djStep
    by_cases h3 : kZ l k = 3
    · rw [if_pos h3]
      refine djI_take h hov he (s.L (oZ l k)) (KL l k (oZ l k)) (h.l0 _) (fun u _ hu => h.l1 _ u (ovr_succ hu).1) (fun i hi => h.kl _ i hi) (by omega) (by omega) (by omega) fun i hi => ?_
      rw [hat i hi]
      constructor
      · rintro (h1 | ⟨_, h1⟩ | ⟨h0, _⟩ | ⟨h0, _⟩)
        · exact .inl h1
        · exact .inr h1
        all_goals omega
      · rintro (h1 | h1)
        · exact .inl h1
        · exact .inr (.inl ⟨h3, h1⟩)
    rw [if_neg h3]
    by_cases h4 : kZ l k = 4
    · rw [if_pos h4]
      refine djI_give hm hk h he _ (.inl h4) (put1_same _ _ _) (fun t ht => .inl ⟨put1_ne _ _ ht, by omega⟩) (fun o => ?_) (fun o => .inl ⟨rfl, by omega⟩)
      by_cases ho : o = oZ l k
      · subst ho; exact .inr ⟨h4, rfl, put1_same _ _ _⟩
      · exact .inl ⟨put1_ne _ _ ho, fun e => ho e.2.symm⟩
    rw [if_neg h4]
    by_cases h5 : kZ l k = 5
    · rw [if_pos h5]
      refine djI_give hm hk h he _ (.inr (.inl h5)) (put1_same _ _ _) (fun t ht => ?_) (fun o => .inl ⟨rfl, by omega⟩) (fun o => .inl ⟨rfl, by omega⟩)
      by_cases ho : t = oZ l k
      · subst ho; exact .inr ⟨h5, rfl, (put1_ne _ _ ht).trans (put1_same _ _ _)⟩
      · exact .inl ⟨(put1_ne _ _ ht).trans (put1_ne _ _ ho), fun e => ho e.2.symm⟩
    rw [if_neg h5]
    by_cases h6 : kZ l k = 6
    · rw [if_pos h6]
      refine djI_take h hov he (s.C (oZ l k)) (KC l k (oZ l k)) (h.c0 _) (fun u _ hu => h.c1 _ u (fun e => (ovr_succ hu).2 ⟨h6, e⟩) (ovr_succ hu).1) (fun i hi => h.kc _ i hi) (by omega) (by omega) (by omega) fun i hi => ?_
      rw [hat i hi]
      constructor
      · rintro (h1 | ⟨h0, _⟩ | ⟨_, h1⟩ | ⟨h0, _⟩)
        · exact .inl h1
        · omega
        · exact .inr h1
        · omega
      · rintro (h1 | h1)
        · exact .inl h1
        · exact .inr (.inr (.inl ⟨h6, h1⟩))
    rw [if_neg h6]
    by_cases h7 : kZ l k = 7
    · rw [if_pos h7]
      refine djI_take h hov he (s.V (oZ l k)) (KV l k (oZ l k)) (h.v0 _) (fun u _ hu => h.v1 _ u (ovr_succ hu).1) (fun i hi => h.kv _ i hi) (by omega) (by omega) (by omega) fun i hi => ?_
      rw [hat i hi]
      constructor
      · rintro (h1 | ⟨h0, _⟩ | ⟨h0, _⟩ | ⟨_, h1⟩)
        · exact .inl h1
        · omega
        · omega
        · exact .inr h1
      · rintro (h1 | h1)
        · exact .inl h1
        · exact .inr (.inr (.inr ⟨h7, h1⟩))
    rw [if_neg h7]
    by_cases h8 : kZ l k = 8
    · rw [if_pos h8]
      refine djI_give hm hk h he _ (.inr (.inr h8)) (put1_same _ _ _) (fun t ht => .inl ⟨put1_ne _ _ ht, by omega⟩) (fun o => .inl ⟨rfl, by omega⟩) (fun o => ?_)
      by_cases ho : o = oZ l k
      · subst ho; exact .inr ⟨h8, rfl, put1_same _ _ _⟩
      · exact .inl ⟨put1_ne _ _ ho, fun e => ho e.2.symm⟩
    rw [if_neg h8]
    have hs : ({ s with C := put1 s.C (tZ l k) (mxN (s.C (tZ l k)) (s.C (tZ l k))) } : Dj) = s := by
      have : put1 s.C (tZ l k) (mxN (s.C (tZ l k)) (s.C (tZ l k))) = s.C := by
        funext j
        by_cases hj : j = tZ l k
        · subst hj; rw [put1_same]; funext u; unfold mxN; omega
        · rw [put1_ne _ _ hj]
      rw [this]
    rw [← hs]
    refine djI_take h hov he (s.C (tZ l k)) (KC l k (tZ l k)) (h.c0 _) (fun u hu hv => h.c1 _ u (Ne.symm hu) (ovr_succ hv).1) (fun i hi => h.kc _ i hi) (by omega) (by omega) (by omega) fun i hi => ?_
    rw [hat i hi]
    constructor
    · rintro (h1 | ⟨h0, _⟩ | ⟨h0, _⟩ | ⟨h0, _⟩)
      · exact .inl h1
      all_goals omega
    · rintro (h1 | h1) <;> exact .inl h1
end Go.Proofs.YtnklpifnknmdgaaGreatDoor
namespace Go.Proofs.YtnklpifnknmdgaaGreatDoor
open Go Go.RowKit

def giveB (l : List Ev) (k u : Nat) : Bool := decide ((kZ l k = 4 ∨ kZ l k = 5 ∨ kZ l k = 8) ∧ tZ l k = u)
def onr (l : List Ev) (k u : Nat) : Nat := (djTo l k).C u u
theorem onr_zero (l : List Ev) (u : Nat) : onr l 0 u = 1 := by unfold onr djTo djStart; dsimp only; rw [if_pos rfl]
theorem onr_succ {l : List Ev} (hm : may l = 0) {k : Nat} (hk : k < l.length) (u : Nat) : onr l (k + 1) u = onr l k u + if giveB l k u = true then 1 else 0 := by
  have h := djI_all hm k (by omega)
  show (djStep (djTo l k) (kZ l k) (tZ l k) (oZ l k)).C u u = (djTo l k).C u u + _
  unfold giveB
  have hfn := fork_ne hm hk
  generalize djTo l k = s at *
  have c0 := h.c0; have l0 := h.l0; have v0 := h.v0
  unfold djStep
  generalize kZ l k = K at *
  generalize tZ l k = T at *
  generalize oZ l k = O at *
  have mx : ∀ X : Nat → Nat, (∀ u, X u ≤ s.C u u) → put1 s.C T (mxN (s.C T) X) u u = s.C u u := fun X hX => by
    by_cases hu : u = T
    · subst hu; rw [put1_same]; unfold mxN; have := hX u; omega
    · rw [put1_ne _ _ hu]
  have ic : put1 s.C T (incN (s.C T) T) u u = s.C u u + if T = u then 1 else 0 := by
    by_cases hu : u = T
    · subst hu; rw [put1_same, incN_same, if_pos rfl]
    · rw [put1_ne _ _ hu, if_neg (Ne.symm hu)]; rfl
  by_cases h3 : K = 3
  · rw [if_pos h3]; dsimp only; rw [mx _ (l0 O), if_neg (by simp; omega)]; rfl
  rw [if_neg h3]
  by_cases h4 : K = 4
  · rw [if_pos h4]; dsimp only; rw [ic]; subst h4; simp
  rw [if_neg h4]
  by_cases h5 : K = 5
  · rw [if_pos h5]; dsimp only
    subst h5
    have hne := hfn rfl
    by_cases hu : u = T
    · subst hu; rw [put1_same, incN_same]; simp
    · rw [put1_ne _ _ hu]
      have h0 : (if decide (((5 : Int) = 4 ∨ (5 : Int) = 5 ∨ (5 : Int) = 8) ∧ T = u) = true then 1 else 0) = 0 := by simp; exact Ne.symm hu
      rw [h0]
      by_cases ho : u = O
      · subst ho; rw [put1_same]; unfold mxN; have := c0 T u; omega
      · rw [put1_ne _ _ ho]; rfl
  rw [if_neg h5]
  by_cases h6 : K = 6
  · rw [if_pos h6]; dsimp only; rw [mx _ (c0 O), if_neg (by simp; omega)]; rfl
  rw [if_neg h6]
  by_cases h7 : K = 7
  · rw [if_pos h7]; dsimp only; rw [mx _ (v0 O), if_neg (by simp; omega)]; rfl
  rw [if_neg h7]
  by_cases h8 : K = 8
  · rw [if_pos h8]; dsimp only; rw [ic]; subst h8; simp
  rw [if_neg h8, if_neg (by simp; omega)]; rfl
def rwTo (l : List Ev) (q : Int) (x u : Nat) : Nat → Nat
  | 0 => 0
  | k + 1 => if kZ l k = q ∧ oZ l k = x ∧ tZ l k = u then onr l k u else rwTo l q x u k
def seenB (l : List Ev) (q : Int) (j : Nat) : Bool := (List.range 6).all fun u => decide (rwTo l q (oZ l j) u j ≤ (djTo l j).C (tZ l j) u)
def djK (l : List Ev) (j : Nat) : Int := if kZ l j = 1 then (if seenB l 2 j = true then 0 else 2) else if kZ l j = 2 then (if seenB l 2 j = false then 1 else if seenB l 1 j = false then 3 else 0) else 0
end Go.Proofs.YtnklpifnknmdgaaGreatDoor
namespace Go.Proofs.YtnklpifnknmdgaaGreatDoor
open Go Go.RowKit

def nsl (m : Nat) (g : Nat → Nat) : List Value := (List.range m).map fun x => .int .i64 (g x)
def ns (m : Nat) (g : Nat → Nat) : Array Value := (nsl m g).toArray
theorem ns_size (n : Nat) (g : Nat → Nat) : (ns n g).size = n := by simp [ns, nsl]
theorem nsl_get {n : Nat} (g : Nat → Nat) {j : Nat} (hj : j < n) : (nsl n g)[j]? = some (.int .i64 (g j)) := by simp [nsl, hj]
theorem ns_get {n : Nat} (g : Nat → Nat) {j : Nat} (hj : j < n) : (ns n g)[j]? = some (.int .i64 (g j)) := by simpa [ns] using nsl_get g hj
theorem ns_congr {n : Nat} {g g' : Nat → Nat} (h : ∀ j, j < n → g j = g' j) : ns n g = ns n g' := by
  unfold ns nsl
  congr 1
  refine List.map_congr_left fun j hj => ?_
  rw [h j (by simpa using hj)]
def updN (g : Nat → Nat) (j v : Nat) : Nat → Nat := fun i => if i = j then v else g i
theorem ns_set (n : Nat) (g : Nat → Nat) (j v : Nat) : (ns n g).setIfInBounds j (.int .i64 v) = ns n (updN g j v) := by
  apply Array.ext_getElem?
  intro i
  rw [Array.getElem?_setIfInBounds]
  by_cases hi : i < n
  · by_cases hij : j = i
    · subst hij; rw [if_pos rfl, if_pos (by rw [ns_size]; exact hi), ns_get _ hi]; simp [updN]
    · rw [if_neg hij, ns_get _ hi, ns_get _ hi]
      simp [updN, Ne.symm hij]
  · have h1 : (ns n g)[i]? = none := Array.getElem?_eq_none (by rw [ns_size]; omega)
    have h2 : (ns n (updN g j v))[i]? = none := Array.getElem?_eq_none (by rw [ns_size]; omega)
    rw [h1, h2]
    split
    · rename_i hij; subst hij; simp [ns_size, hi]
    · rfl
theorem nsl_one (n : Nat) (g : Nat → Nat) : ∀ v ∈ nsl n g, v.oneCell' = true := by
  intro v hv
  simp only [nsl, List.mem_map] at hv
  obtain ⟨j, _, rfl⟩ := hv
  rfl
def cnt (L : List Nat) (x : Nat) : Nat := L.count x
theorem cnt_snoc (L : List Nat) (y : Nat) : cnt (L ++ [y]) = updN (cnt L) y (cnt L y + 1) := by
  funext x
  unfold cnt updN
  by_cases h : x = y
  · subst h; simp
  · rw [if_neg h, List.count_append]
    have : List.count x [y] = 0 := by simp [List.count_cons, Ne.symm h]
    rw [this]; rfl
theorem fcnt_le (L : List Nat) (x : Nat) : cnt L x ≤ L.length := List.count_le_length
theorem cnt_app (L M : List Nat) (x : Nat) : cnt (L ++ M) x = cnt L x + cnt M x := List.count_append
def tOf (l : List Ev) (i : Nat) : Nat := match l[i]? with | some e => e.t.toNat | none => 0
theorem tOf_at {l : List Ev} {i : Nat} {e : Ev} (h : l[i]? = some e) : tOf l i = e.t.toNat := by unfold tOf; rw [h]
def knB (l : List Ev) (j t i : Nat) : Bool := (i == j || bef l i j) && tOf l i == t
def kn (l : List Ev) (j t : Nat) : Nat := (List.range l.length).countP (knB l j t)
def ownK (l : List Ev) (k : Nat) : List Nat := (List.range k).map fun i => i * 6 + tOf l i
def oth (l : List Ev) (ps : List (Nat × Nat)) : List Nat := ps.map fun p => p.2 * 6 + tOf l p.1
theorem own_succ (l : List Ev) (k : Nat) : ownK l (k + 1) = ownK l k ++ [k * 6 + tOf l k] := by simp [ownK, List.range_succ]
theorem own_len (l : List Ev) (k : Nat) : (ownK l k).length = k := by simp [ownK]
theorem oth_snoc (l : List Ev) (ps : List (Nat × Nat)) (p : Nat × Nat) : oth l (ps ++ [p]) = oth l ps ++ [p.2 * 6 + tOf l p.1] := by simp [oth]
theorem oth_len (l : List Ev) (ps : List (Nat × Nat)) : (oth l ps).length = ps.length := by simp [oth]
theorem countP_one (q : Nat → Bool) (j : Nat) : ∀ n, (List.range n).countP (fun i => i == j && q i) = if j < n ∧ q j = true then 1 else 0
  | 0 => by simp
  | n + 1 => by
    rw [List.range_succ, List.countP_append, countP_one q j n]
    simp only [List.countP_cons, List.countP_nil]
    by_cases h : n = j
    · subst h
      cases hq : q n <;> simp
    · have h1 : (n == j) = false := by simpa using h
      simp only [h1, Bool.false_and, Bool.false_eq_true, if_false]
      by_cases h2 : j < n ∧ q j = true
      · rw [if_pos h2, if_pos ⟨by omega, h2.2⟩]
      · rw [if_neg h2, if_neg (fun h3 => h2 ⟨by omega, h3.2⟩)]
theorem cnt_map (f : Nat → Nat) (L : List Nat) (x : Nat) : cnt (L.map f) x = L.countP (fun a => f a == x) := by
  unfold cnt; rw [List.count, List.countP_map]; rfl
section
variable {l : List Ev} (hT : ∀ i, i < l.length → tOf l i < 6)
include hT
theorem cell_eq {i j t b : Nat} (hi : i < l.length) (ht : t < 6) : (b * 6 + tOf l i == j * 6 + t) = (b == j && tOf l i == t) := by
  have := hT i hi
  rw [Bool.eq_iff_iff]
  simp only [beq_iff_eq, Bool.and_eq_true]
  omega
theorem own_count {j t : Nat} (hj : j < l.length) (ht : t < 6) : cnt (ownK l l.length) (j * 6 + t) = if tOf l j = t then 1 else 0 := by
  unfold ownK
  rw [cnt_map, List.countP_congr (q := fun i => i == j && tOf l i == t) (fun i hi => by rw [cell_eq hT (by simpa using hi) ht]), countP_one]
  by_cases h : tOf l j = t
  · rw [if_pos h, if_pos ⟨hj, by simpa using h⟩]
  · rw [if_neg h, if_neg (fun h2 => h (by simpa using h2.2))]
theorem oth_row {i j t : Nat} (hi : i < l.length) (hj : j < l.length) (ht : t < 6) : cnt (oth l (rowTo (bef l) i l.length)) (j * 6 + t) = if (bef l i j && tOf l i == t) = true then 1 else 0 := by
  unfold oth rowTo
  rw [List.map_map, cnt_map, List.countP_filter, List.countP_congr (q := fun k => k == j && (bef l i k && tOf l i == t)) (fun k hk => by
    show (k * 6 + tOf l i == j * 6 + t && bef l i k) = true ↔ _
    rw [cell_eq hT hi ht]
    cases (k == j) <;> cases (bef l i k) <;> cases (tOf l i == t) <;> simp), countP_one]
  by_cases h : (bef l i j && tOf l i == t) = true
  · rw [if_pos h, if_pos ⟨hj, h⟩]
  · rw [if_neg h, if_neg (fun h2 => h h2.2)]
theorem oth_part {j t : Nat} (hj : j < l.length) (ht : t < 6) : ∀ i, i ≤ l.length → cnt (oth l (prs (bef l) l.length i 0)) (j * 6 + t) = (List.range i).countP (fun a => bef l a j && tOf l a == t)
  | 0, _ => by rw [prs_zero]; rfl
  | i + 1, hi => by
    rw [prs_next]
    have h1 : prs (bef l) l.length i l.length = prs (bef l) l.length i 0 ++ rowTo (bef l) i l.length := by simp [prs, rowTo]
    have h2 : oth l (prs (bef l) l.length i 0 ++ rowTo (bef l) i l.length) = oth l (prs (bef l) l.length i 0) ++ oth l (rowTo (bef l) i l.length) := by simp [oth]
    rw [h1, h2, cnt_app, oth_part hj ht i (by omega), oth_row hT (by omega) hj ht, List.range_succ, List.countP_append]
    simp only [List.countP_cons, List.countP_nil, Nat.zero_add]
theorem countP_kn (j t : Nat) (hb : bef l j j = false) : ∀ n, (List.range n).countP (knB l j t) = (if j < n ∧ tOf l j = t then 1 else 0) + (List.range n).countP (fun a => bef l a j && tOf l a == t)
  | 0 => by simp
  | n + 1 => by
    rw [List.range_succ, List.countP_append, List.countP_append, countP_kn j t hb n]
    simp only [List.countP_cons, List.countP_nil, Nat.zero_add]
    unfold knB
    by_cases h : n = j
    · subst h
      by_cases h2 : tOf l n = t
      · simp [hb, h2]; omega
      · simp [hb, h2]
    · have h1 : (n == j) = false := by simpa using h
      simp only [h1, Bool.false_or]
      by_cases h2 : j < n ∧ tOf l j = t
      · rw [if_pos h2, if_pos (show j < n + 1 ∧ tOf l j = t from ⟨by omega, h2.2⟩)]; omega
      · rw [if_neg h2, if_neg (show ¬ (j < n + 1 ∧ tOf l j = t) from fun h3 => h2 ⟨by omega, h3.2⟩)]; omega
theorem count_all {j t : Nat} (hj : j < l.length) (ht : t < 6) : cnt (ownK l l.length ++ oth l (prsA (bef l) l.length)) (j * 6 + t) = kn l j t := by
  have hb : bef l j j = false := by rw [← Bool.not_eq_true]; intro h; have := bef_lt h; omega
  unfold kn
  rw [cnt_app, own_count hT hj ht, countP_kn hT j t hb]
  show _ + cnt (oth l (prs (bef l) l.length l.length 0)) _ = _
  rw [oth_part hT hj ht _ (Nat.le_refl _)]
  by_cases h : tOf l j = t
  · rw [if_pos h, if_pos ⟨hj, h⟩]
  · rw [if_neg h, if_neg (fun h2 => h h2.2)]
end
def knf (l : List Ev) (x : Nat) : Nat := kn l (x / 6) (x % 6)
theorem knf_at (l : List Ev) {j t : Nat} (ht : t < 6) : knf l (j * 6 + t) = kn l j t := by unfold knf; rw [show (j * 6 + t) / 6 = j by omega, show (j * 6 + t) % 6 = t by omega]
theorem kn_le (l : List Ev) (j t : Nat) : kn l j t ≤ l.length := by
  unfold kn; exact Nat.le_trans List.countP_le_length (by simp)
def kc (l : List Ev) (j : Nat) : Nat → Int := fun t => (kn l j t : Nat)
theorem may_tOf {l : List Ev} (h : may l = 0) {i : Nat} (hi : i < l.length) : tOf l i < 6 := by
  have he := List.getElem?_eq_getElem hi
  have := isEv_t (wrong_isEv (wrong_at h he))
  rw [tOf_at he]; omega
def Cks (w : World) (B n : Nat) (l : List Ev) : Prop := Box w B (ns (n * 6) (knf l)) 61
theorem Cks.cell {w : World} {B n : Nat} {l : List Ev} (h : Cks w B n l) {j t : Nat} (hj : j < n) (ht : t < 6) : w.cell? ⟨B, j * 6 + t, none⟩ = some (.int .i64 (kn l j t : Nat)) := by
  have := Box.cell h (j * 6 + t) (ns_get (knf l) (by omega))
  rwa [knf_at l ht] at this
theorem Cks.of {w : World} {B n : Nat} {l : List Ev} {g : Nat → Nat} (h : Box w B (ns (n * 6) g) 61) (hg : ∀ j t, j < n → t < 6 → g (j * 6 + t) = kn l j t) : Cks w B n l := by
  unfold Cks
  rw [← ns_congr (g := g) (fun x hx => by
    have := hg (x / 6) (x % 6) (by omega) (by omega)
    rw [show x / 6 * 6 + x % 6 = x by omega] at this
    exact this)]
  exact h
end Go.Proofs.YtnklpifnknmdgaaGreatDoor
namespace Go.Proofs.YtnklpifnknmdgaaGreatDoor
open Go Go.RowKit

end Go.Proofs.YtnklpifnknmdgaaGreatDoor
namespace Go.Proofs.YtnklpifnknmdgaaGreatDoor
open Go Go.RowKit

def ck (c : Nat → Nat) : Nat → Int := fun u => (c u : Nat)
def putR (g : Nat → Nat) (o : Nat) (c : Nat → Nat) : Nat → Nat := fun i => if o ≤ i ∧ i < o + 6 then c (i - o) else g i
theorem ns_row {w : World} {B m : Nat} {g : Nat → Nat} {t : TypeId} (h : Box w B (ns m g) t) {o : Nat} (ho : o + 6 ≤ m) {c : Nat → Nat} (hc : ∀ u, u < 6 → g (o + u) = c u) : w.rangeAt B o (clkl (ck c)) := fun k v hv => by
  have hk : k < 6 := (List.getElem?_eq_some_iff.1 hv).1
  rw [clkl_get _ _ hk] at hv
  cases hv
  have := h.cell (o + k) (ns_get g (by omega))
  rw [hc k hk] at this
  exact this
theorem setCells_six (w : World) (B o : Nat) (c : Nat → Int) : w.setCells B o (clkl c) = ((((((w.setCell ⟨B, o, none⟩ (.int .i64 (c 0))).setCell ⟨B, o + 1, none⟩ (.int .i64 (c 1))).setCell ⟨B, o + 2, none⟩ (.int .i64 (c 2))).setCell ⟨B, o + 3, none⟩ (.int .i64 (c 3))).setCell ⟨B, o + 4, none⟩ (.int .i64 (c 4))).setCell ⟨B, o + 5, none⟩ (.int .i64 (c 5))) := rfl
theorem box_six {w : World} {B m : Nat} {g : Nat → Nat} {t : TypeId} (h : Box w B (ns m g) t) (o : Nat) (c : Nat → Nat) : Box (w.setCells B o (clkl (ck c))) B (ns m (putR g o c)) t := by
  rw [setCells_six]
  have h0 := h.set o (.int .i64 (ck c 0)); unfold ck at h0; rw [ns_set] at h0
  have h1 := h0.set (o + 1) (.int .i64 (ck c 1)); unfold ck at h1; rw [ns_set] at h1
  have h2 := h1.set (o + 2) (.int .i64 (ck c 2)); unfold ck at h2; rw [ns_set] at h2
  have h3 := h2.set (o + 3) (.int .i64 (ck c 3)); unfold ck at h3; rw [ns_set] at h3
  have h4 := h3.set (o + 4) (.int .i64 (ck c 4)); unfold ck at h4; rw [ns_set] at h4
  have h5 := h4.set (o + 5) (.int .i64 (ck c 5)); unfold ck at h5; rw [ns_set] at h5
  have e : ns m (putR g o c) = ns m (updN (updN (updN (updN (updN (updN g o (c 0)) (o + 1) (c 1)) (o + 2) (c 2)) (o + 3) (c 3)) (o + 4) (c 4)) (o + 5) (c 5)) := ns_congr fun i _ => by
    unfold putR updN
    by_cases hi : o ≤ i ∧ i < o + 6
    · obtain ⟨d, rfl⟩ := Nat.exists_eq_add_of_le hi.1
      have hd : d = 0 ∨ d = 1 ∨ d = 2 ∨ d = 3 ∨ d = 4 ∨ d = 5 := by omega
      rw [if_pos hi, Nat.add_sub_cancel_left]
      rcases hd with rfl | rfl | rfl | rfl | rfl | rfl <;> simp
    · rw [if_neg hi]
      simp only [show ¬ i = o by omega, show ¬ i = o + 1 by omega, show ¬ i = o + 2 by omega, show ¬ i = o + 3 by omega, show ¬ i = o + 4 by omega, show ¬ i = o + 5 by omega, if_false]
  rw [e]
  exact h5
theorem chg_cell {X : Nat} (w : World) (k : Nat) (v : Value) : w.grownBy (w.setCell ⟨X, k, none⟩ v) (some X) := ⟨rfl, rfl, rfl, by simp [World.setCell], fun j _ hne => heap_setCell_other w _ j v (fun e => hne (by rw [e]))⟩
theorem chg_six (X : Nat) : ∀ (vs : List Value) (o : Nat) (w : World), w.grownBy (w.setCells X o vs) (some X)
  | [], _, w => World.grownBy.refl w _
  | v :: r, o, w => (chg_cell w o v).trans (chg_six X r (o + 1) _)
theorem chg_bel {w w' : World} (h : Bel w w') (row : Option Nat) : w.grownBy w' row := ⟨h.out.os, h.out.tape, h.out.output, h.size, fun k hk _ => h.out.block k hk⟩
theorem there_six {w : World} {B m : Nat} {g : Nat → Nat} {t : TypeId} (h : Box w B (ns m g) t) {o : Nat} (ho : o + 6 ≤ m) : w.there B o 6 := fun j hj => ⟨by rw [h.cell (o + j) (ns_get g (by omega))]; rfl, h.frozen _⟩

def gD (s : Dj) : Nat → Nat := fun i => if i < 36 then s.C (i / 6) (i % 6) else if i < 66 then s.L ((i - 36) / 6) ((i - 36) % 6) else s.V ((i - 66) / 6) ((i - 66) % 6)
theorem gD_C (s : Dj) {t u : Nat} (ht : t < 6) (hu : u < 6) : gD s (t * 6 + u) = s.C t u := by
  unfold gD; rw [if_pos (by omega), show (t * 6 + u) / 6 = t by omega, show (t * 6 + u) % 6 = u by omega]
theorem gD_L (s : Dj) {o u : Nat} (ho : o < 5) (hu : u < 6) : gD s (36 + o * 6 + u) = s.L o u := by
  unfold gD; rw [if_neg (by omega), if_pos (by omega), show (36 + o * 6 + u - 36) / 6 = o by omega, show (36 + o * 6 + u - 36) % 6 = u by omega]
theorem gD_V (s : Dj) {o u : Nat} (hu : u < 6) : gD s (66 + o * 6 + u) = s.V o u := by
  unfold gD; rw [if_neg (by omega), if_neg (by omega), show (66 + o * 6 + u - 66) / 6 = o by omega, show (66 + o * 6 + u - 66) % 6 = u by omega]
theorem putR_C (s : Dj) {t : Nat} (ht : t < 6) (c : Nat → Nat) : ns 90 (putR (gD s) (t * 6) c) = ns 90 (gD { s with C := put1 s.C t c }) := ns_congr fun i hi => by
  unfold putR gD put1
  by_cases h : i < 36
  · simp only [h, if_true]
    by_cases h2 : i / 6 = t
    · rw [if_pos (by omega), if_pos h2, show i % 6 = i - t * 6 by omega]
    · rw [if_neg (by omega), if_neg h2]
  · simp only [h, if_false]; rw [if_neg (by omega)]
theorem putR_L (s : Dj) {o : Nat} (ho : o < 5) (c : Nat → Nat) : ns 90 (putR (gD s) (36 + o * 6) c) = ns 90 (gD { s with L := put1 s.L o c }) := ns_congr fun i hi => by
  unfold putR gD put1
  by_cases h : i < 36
  · simp only [h, if_true]; rw [if_neg (by omega)]
  · simp only [h, if_false]
    by_cases h1 : i < 66
    · simp only [h1, if_true]
      by_cases h2 : (i - 36) / 6 = o
      · rw [if_pos (by omega), if_pos h2, show (i - 36) % 6 = i - (36 + o * 6) by omega]
      · rw [if_neg (by omega), if_neg h2]
    · simp only [h1, if_false]; rw [if_neg (by omega)]
theorem putR_V (s : Dj) {o : Nat} (ho : o < 4) (c : Nat → Nat) : ns 90 (putR (gD s) (66 + o * 6) c) = ns 90 (gD { s with V := put1 s.V o c }) := ns_congr fun i hi => by
  unfold putR gD put1
  by_cases h : i < 36
  · simp only [h, if_true]; rw [if_neg (by omega)]
  · simp only [h, if_false]
    by_cases h1 : i < 66
    · simp only [h1, if_true]; rw [if_neg (by omega)]
    · simp only [h1, if_false]
      by_cases h2 : (i - 66) / 6 = o
      · rw [if_pos (by omega), if_pos h2, show (i - 66) % 6 = i - (66 + o * 6) by omega]
      · rw [if_neg (by omega), if_neg h2]
theorem updN_C (s : Dj) {t : Nat} (ht : t < 6) {v : Nat} (hv : v = s.C t t + 1) : ns 90 (updN (gD s) (t * 6 + t) v) = ns 90 (gD { s with C := put1 s.C t (incN (s.C t) t) }) := ns_congr fun i hi => by
  subst hv
  unfold updN gD put1 incN
  by_cases h : i < 36
  · simp only [h, if_true]
    by_cases h2 : i / 6 = t
    · rw [if_pos h2]
      by_cases h3 : i % 6 = t
      · rw [if_pos (by omega), if_pos h3, h3]
      · rw [if_neg (by omega), if_neg h3, h2]
    · rw [if_neg (by omega), if_neg h2]
  · simp only [h, if_false]; rw [if_neg (by omega)]
def gV (r v : Nat → Nat → Nat) : Nat → Nat := fun i => if i % 12 < 6 then r (i / 12) (i % 12) else v (i / 12) (i % 12 - 6)
theorem gV_R (r v : Nat → Nat → Nat) {x u : Nat} (hu : u < 6) : gV r v (x * 12 + u) = r x u := by
  unfold gV; rw [if_pos (by omega), show (x * 12 + u) / 12 = x by omega, show (x * 12 + u) % 12 = u by omega]
theorem gV_W (r v : Nat → Nat → Nat) {x u : Nat} (hu : u < 6) : gV r v (x * 12 + 6 + u) = v x u := by
  unfold gV; rw [if_neg (by omega), show (x * 12 + 6 + u) / 12 = x by omega, show (x * 12 + 6 + u) % 12 - 6 = u by omega]
def upd2 (r : Nat → Nat → Nat) (x t n : Nat) : Nat → Nat → Nat := fun y u => if y = x ∧ u = t then n else r y u
theorem updN_R (r v : Nat → Nat → Nat) {x t n : Nat} (ht : t < 6) : ns 96 (updN (gV r v) (x * 12 + t) n) = ns 96 (gV (upd2 r x t n) v) := ns_congr fun i hi => by
  unfold updN gV upd2
  by_cases h : i % 12 < 6
  · simp only [h, if_true]
    by_cases h2 : i = x * 12 + t
    · rw [if_pos h2, if_pos (by omega)]
    · rw [if_neg h2, if_neg (by omega)]
  · simp only [h, if_false]; rw [if_neg (by omega)]
theorem updN_W (r v : Nat → Nat → Nat) {x t n : Nat} (ht : t < 6) : ns 96 (updN (gV r v) (x * 12 + 6 + t) n) = ns 96 (gV r (upd2 v x t n)) := ns_congr fun i hi => by
  unfold updN gV upd2
  by_cases h : i % 12 < 6
  · simp only [h, if_true]; rw [if_neg (by omega)]
  · simp only [h, if_false]
    by_cases h2 : i = x * 12 + 6 + t
    · rw [if_pos h2, if_pos (by omega)]
    · rw [if_neg h2, if_neg (by omega)]

def kndA (k : Int) (W R c : Nat → Nat) : Int := if within (ck W) (ck c) = false then (if k = 2 then 1 else 2) else if k = 2 then (if within (ck R) (ck c) = false then 3 else 0) else 0
def rwF (l : List Ev) (q : Int) (k : Nat) : Nat → Nat → Nat := fun x u => rwTo l q x u k
theorem seenB_within (l : List Ev) (q : Int) (j : Nat) : seenB l q j = within (ck (rwF l q j (oZ l j))) (ck ((djTo l j).C (tZ l j))) := by
  rw [Bool.eq_iff_iff, within_iff]
  unfold seenB ck rwF
  simp only [List.all_eq_true, List.mem_range, decide_eq_true_eq]
  constructor
  · intro h k hk; have := h k hk; omega
  · intro h k hk; have := h k hk; omega
theorem kndA_djK {l : List Ev} {j : Nat} (hk : kZ l j = 1 ∨ kZ l j = 2) : kndA (kZ l j) (rwF l 2 j (oZ l j)) (rwF l 1 j (oZ l j)) ((djTo l j).C (tZ l j)) = djK l j := by
  unfold kndA djK
  rw [← seenB_within, ← seenB_within]
  rcases hk with h | h <;> rw [h] <;> cases seenB l 2 j <;> cases seenB l 1 j <;> simp
theorem djK_none {l : List Ev} {j : Nat} (h1 : kZ l j ≠ 1) (h2 : kZ l j ≠ 2) : djK l j = 0 := by unfold djK; rw [if_neg h1, if_neg h2]
theorem djK_low (l : List Ev) (j : Nat) : 0 ≤ djK l j ∧ djK l j ≤ 3 := by
  unfold djK
  repeat' split
  all_goals omega
theorem rwF_zero (l : List Ev) (q : Int) : rwF l q 0 = fun _ _ => 0 := rfl
theorem rwF_yes {l : List Ev} {q : Int} {k x t n : Nat} (hq : kZ l k = q) (ho : oZ l k = x) (ht : tZ l k = t) (hn : n = (djTo l k).C t t) : upd2 (rwF l q k) x t n = rwF l q (k + 1) := by
  funext y u
  unfold upd2 rwF
  rw [show rwTo l q y u (k + 1) = if kZ l k = q ∧ oZ l k = y ∧ tZ l k = u then onr l k u else rwTo l q y u k from rfl]
  by_cases h : y = x ∧ u = t
  · obtain ⟨rfl, rfl⟩ := h
    rw [if_pos ⟨rfl, rfl⟩, if_pos ⟨hq, ho, ht⟩, hn]; rfl
  · rw [if_neg h, if_neg (fun hh => h ⟨by omega, by omega⟩)]
theorem rwF_no {l : List Ev} {q : Int} {k : Nat} (hq : kZ l k ≠ q) : rwF l q (k + 1) = rwF l q k := by
  funext y u
  unfold rwF
  rw [rwTo, if_neg fun hh => hq hh.1]
theorem djTo_acc {l : List Ev} {k : Nat} (hk : kZ l k = 1 ∨ kZ l k = 2) : djTo l (k + 1) = djTo l k := by
  rw [djTo]
  unfold djStep
  rcases hk with h | h <;> rw [h] <;> rfl
theorem onr_le {l : List Ev} (hm : may l = 0) (u : Nat) : ∀ k, k ≤ l.length → (djTo l k).C u u ≤ k + 1
  | 0, _ => by have := onr_zero l u; unfold onr at this; omega
  | k + 1, hk => by
    have h1 := onr_succ hm (show k < l.length by omega) u
    have h2 := onr_le hm u k (by omega)
    unfold onr at h1
    rw [h1]
    split <;> omega
def flT (l : List Ev) : Nat → List Ev
  | 0 => []
  | k + 1 => if djK l k = 0 then flT l k else flT l k ++ [⟨(k : Nat), (eZ l k).o, djK l k⟩]
theorem flT_yes {l : List Ev} {k : Nat} (h : djK l k ≠ 0) : flT l (k + 1) = flT l k ++ [⟨(k : Nat), (eZ l k).o, djK l k⟩] := by rw [flT, if_neg h]
theorem flT_no {l : List Ev} {k : Nat} (h : djK l k = 0) : flT l (k + 1) = flT l k := by rw [flT, if_pos h]
theorem flT_len (l : List Ev) : ∀ k, (flT l k).length ≤ k
  | 0 => Nat.le_refl _
  | k + 1 => by
    have := flT_len l k
    rw [flT]
    split
    · omega
    · rw [List.length_append]; simp; omega
def flags (l : List Ev) : List Ev := if may l = 0 then flT l l.length else []
theorem flags_ok {l : List Ev} (h : may l = 0) : flags l = flT l l.length := by unfold flags; rw [if_pos h]
theorem flags_no {l : List Ev} (h : may l ≠ 0) : flags l = [] := by unfold flags; rw [if_neg h]
theorem chg_setRow (w : World) (B : Nat) (c : Array Value) : w.grownBy (w.setRow B c) (some B) := ⟨rfl, rfl, rfl, by simp, fun k _ hne => setRow_other w B k c (fun e => hne (by rw [e]))⟩
theorem fl_info : (Tryz.prog.info? 107).map (fun i => (i.zero, i.size, i.bytes)) = some (some (.agg #[.int .i64 0, .int .i64 0, .int .i64 0]), 3, 24) := by kernel_rfl
end Go.Proofs.YtnklpifnknmdgaaGreatDoor
namespace Go.Proofs.YtnklpifnknmdgaaGreatDoor
open Go Go.RowKit

end Go.Proofs.YtnklpifnknmdgaaGreatDoor
namespace Go.Proofs.YtnklpifnknmdgaaGreatDoor
open Go Go.RowKit

end Go.Proofs.YtnklpifnknmdgaaGreatDoor
namespace Go.Proofs.YtnklpifnknmdgaaGreatDoor
open Go Go.RowKit

theorem flT_mem {l : List Ev} {e : Ev} : ∀ {k : Nat}, e ∈ flT l k ↔ ∃ j, j < k ∧ djK l j ≠ 0 ∧ e = ⟨(j : Nat), (eZ l j).o, djK l j⟩
  | 0 => ⟨fun h => by simp [flT] at h, fun ⟨j, h, _⟩ => by omega⟩
  | k + 1 => by
    rw [flT]
    split
    · rename_i h0
      rw [flT_mem]
      constructor
      · rintro ⟨j, h1, h2⟩; exact ⟨j, by omega, h2⟩
      · rintro ⟨j, h1, h2, h3⟩
        rcases Nat.lt_succ_iff_lt_or_eq.1 h1 with h1 | rfl
        · exact ⟨j, h1, h2, h3⟩
        · exact absurd h0 h2
    · rename_i h0
      rw [List.mem_append, flT_mem, List.mem_singleton]
      constructor
      · rintro (⟨j, h1, h2⟩ | rfl)
        · exact ⟨j, by omega, h2⟩
        · exact ⟨k, by omega, h0, rfl⟩
      · rintro ⟨j, h1, h2, h3⟩
        rcases Nat.lt_succ_iff_lt_or_eq.1 h1 with h1 | rfl
        · exact .inl ⟨j, h1, h2, h3⟩
        · exact .inr h3
end Go.Proofs.YtnklpifnknmdgaaGreatDoor

import Derived.Test.YtlcldcbdobgdbaaZTr
import Derived.Test.YtlcldcbdobgdbaaZPg
set_option linter.all false
set_option maxRecDepth 100000
namespace Go.Proofs.Ytlcldcbdobgdbaa
open Go Go.RowKit

def Chn (P : Nat → Nat → Bool) : List Nat → Prop
  | [] => True
  | [_] => True
  | a :: b :: r => P a b = true ∧ Chn P (b :: r)
theorem Chn.tail {P : Nat → Nat → Bool} {a : Nat} : ∀ {r : List Nat}, Chn P (a :: r) → Chn P r
  | [], _ => trivial
  | _ :: _, h => h.2
theorem chn_join {P : Nat → Nat → Bool} {b : Nat} {y : List Nat} : ∀ {x : List Nat}, Chn P (x ++ b :: y) ↔ Chn P (x ++ [b]) ∧ Chn P (b :: y)
  | [] => ⟨fun h => ⟨trivial, h⟩, fun h => h.2⟩
  | [a] => ⟨fun h => ⟨⟨h.1, trivial⟩, h.2⟩, fun h => ⟨h.1.1, h.2⟩⟩
  | a :: c :: x => by
    have ih := chn_join (P := P) (b := b) (y := y) (x := c :: x)
    constructor
    · intro h
      obtain ⟨h1, h2⟩ := ih.1 h.2
      exact ⟨⟨h.1, h1⟩, h2⟩
    · intro h
      exact ⟨h.1.1, ih.2 ⟨h.1.2, h.2⟩⟩
theorem chn_right {P : Nat → Nat → Bool} {y : List Nat} : ∀ {x : List Nat}, Chn P (x ++ y) → Chn P y
  | [], h => h
  | a :: x, h => chn_right (x := x) (Chn.tail h)
def Cyc (P : Nat → Nat → Bool) : List Nat → Prop
  | [] => False
  | a :: s => Chn P (a :: (s ++ [a]))
theorem cyc_turn {P : Nat → Nat → Bool} {x y : List Nat} {b : Nat} (h : Cyc P (x ++ b :: y)) : Cyc P (b :: (y ++ x)) := by
  cases x with
  | nil => simpa using h
  | cons a x =>
    have h1 : Chn P ((a :: x) ++ b :: (y ++ [a])) := by simpa [Cyc] using h
    obtain ⟨h2, h3⟩ := chn_join.1 h1
    show Chn P (b :: ((y ++ a :: x) ++ [b]))
    have : Chn P ((b :: y) ++ a :: (x ++ [b])) := chn_join.2 ⟨h3, h2⟩
    simpa using this
theorem cyc_short {P : Nat → Nat → Bool} {x y z : List Nat} {b : Nat} (h : Cyc P (x ++ b :: (y ++ b :: z))) : Cyc P (b :: y) := by
  have h1 := cyc_turn h
  have h2 : Chn P ((b :: y) ++ b :: (z ++ x ++ [b])) := by simpa [Cyc] using h1
  exact (chn_join.1 h2).1
theorem two_places {r : List Nat} (h : ¬ r.Nodup) : ∃ x b y z, r = x ++ b :: (y ++ b :: z) := by
  induction r with
  | nil => exact absurd List.nodup_nil h
  | cons a r ih =>
    rw [List.nodup_cons] at h
    by_cases ha : a ∈ r
    · obtain ⟨y, z, rfl⟩ := List.append_of_mem ha
      exact ⟨[], a, y, z, rfl⟩
    · obtain ⟨x, b, y, z, rfl⟩ := ih (fun h9 => h ⟨ha, h9⟩)
      exact ⟨a :: x, b, y, z, rfl⟩
def Five (P : Nat → Nat → Bool) : Prop := ∀ a b, P a b = true → a < 5 ∧ b < 5
theorem chn_five {P : Nat → Nat → Bool} (h5 : Five P) : ∀ {r : List Nat} {a : Nat}, Chn P (r ++ [a]) → ∀ k ∈ r, k < 5
  | [], _, _, _, hk => by cases hk
  | [b], a, h, k, hk => by
    obtain rfl := List.mem_singleton.1 hk
    exact (h5 _ _ h.1).1
  | b :: c :: r, a, h, k, hk => by
    rcases List.mem_cons.1 hk with rfl | hk
    · exact (h5 _ _ h.1).1
    · exact chn_five h5 (r := c :: r) (a := a) h.2 k hk
theorem cyc_five {P : Nat → Nat → Bool} (h5 : Five P) {r : List Nat} (h : Cyc P r) : ∀ k ∈ r, k < 5 := by
  cases r with
  | nil => intro k hk; cases hk
  | cons a s => exact chn_five h5 (r := a :: s) (a := a) h
theorem cyc_pos {P : Nat → Nat → Bool} {r : List Nat} (h : Cyc P r) : 0 < r.length := by
  cases r with
  | nil => exact h.elim
  | cons a s => simp
theorem nodup_five {r : List Nat} (h : r.Nodup) (h5 : ∀ k ∈ r, k < 5) : r.length ≤ 5 := by
  have := List.Nodup.length_le_of_subset h (l₂ := List.range 5) (fun k hk => List.mem_range.2 (h5 k hk))
  simpa using this
theorem cyc_least {P : Nat → Nat → Bool} : ∀ {n : Nat} {r : List Nat}, r.length ≤ n → Cyc P r → ∃ s, Cyc P s ∧ s.length ≤ r.length ∧ s.Nodup
  | 0, r, hn, h => absurd (cyc_pos h) (by omega)
  | n + 1, r, hn, h => by
    by_cases hd : r.Nodup
    · exact ⟨r, h, Nat.le_refl _, hd⟩
    · obtain ⟨x, b, y, z, rfl⟩ := two_places hd
      have hs := cyc_short h
      obtain ⟨s, h1, h2, h3⟩ := cyc_least (n := n) (by simp at hn ⊢; omega) hs
      exact ⟨s, h1, by simp at h2 ⊢; omega, h3⟩
def lx : List Nat → List Nat → Prop
  | a :: r, b :: s => a < b ∨ (a = b ∧ lx r s)
  | _, _ => False
theorem rlx_irr : ∀ {r : List Nat}, ¬ lx r r
  | [], h => h
  | a :: r, h => by
    rcases h with h | h
    · omega
    · exact rlx_irr h.2
def RingOk (P : Nat → Nat → Bool) (r : List Nat) : Prop :=
  (r = [] ∧ ∀ s, ¬ Cyc P s) ∨ (Cyc P r ∧ (∀ s, Cyc P s → r.length ≤ s.length) ∧ ∀ s, Cyc P s → s.length = r.length → ¬ lx s r)
theorem rank_chn {P : Nat → Nat → Bool} {f : Nat → Nat} (hu : ∀ a b, P a b = true → f a < f b) : ∀ {r : List Nat} {a k : Nat}, Chn P (a :: (r ++ [k])) → f a + r.length + 1 ≤ f k
  | [], a, k, h => by have := hu _ _ h.1; simp; omega
  | b :: r, a, k, h => by
    have h1 := hu _ _ h.1
    have h2 := rank_chn hu (r := r) (a := b) (k := k) h.2
    simp only [List.length_cons]; omega
theorem rank_cyc {P : Nat → Nat → Bool} {f : Nat → Nat} (hu : ∀ a b, P a b = true → f a < f b) (r : List Nat) : ¬ Cyc P r := by
  cases r with
  | nil => exact id
  | cons a s => intro h; have := rank_chn hu (r := s) (a := a) (k := a) h; omega
theorem chn_nodup {P : Nat → Nat → Bool} (hn : ∀ s, ¬ Cyc P s) {r : List Nat} (h : Chn P r) : r.Nodup := by
  apply Classical.byContradiction
  intro hd
  obtain ⟨x, b, y, z, rfl⟩ := two_places hd
  have h1 := chn_right h
  have h2 : Chn P ((b :: y) ++ b :: z) := by simpa using h1
  exact hn (b :: y) (chn_join.1 h2).1
end Go.Proofs.Ytlcldcbdobgdbaa
set_option linter.all false
set_option maxRecDepth 100000
namespace Go.Proofs.Ytlcldcbdobgdbaa
open Go Go.RowKit

def WtP (P : List (List Ev)) (s : Ps) (t : Nat) (o : Ev) : Prop := (opsP P t)[s.a t]? = some o ∧ o.k = 4 ∧ ¬ owner s.L o.t < 0
theorem wt_of {P : List (List Ev)} {s : Ps} (hj : ∀ t, ∀ o ∈ opsP P t, o.k ≠ 7) (hg : goesP P s = false) {t : Nat} (ht : t < P.length) (hb : begun s.L t = true) (hl : s.a t < (opsP P t).length) : ∃ o, WtP P s t o := by
  have ho := List.getElem?_eq_getElem hl
  generalize hq : (opsP P t)[s.a t]'hl = o at ho
  have hm : o ∈ opsP P t := hq ▸ List.getElem_mem hl
  unfold goesP at hg
  have hc := List.any_eq_false.1 hg t (List.mem_range.2 ht)
  unfold canP at hc
  rw [ho, hb, decide_eq_true ht] at hc
  simp only [Bool.true_and, Bool.not_eq_true] at hc
  unfold canO at hc
  by_cases h4 : o.k = 4
  · rw [if_pos h4, decide_eq_false_iff_not] at hc
    exact ⟨o, ho, h4, hc⟩
  · rw [if_neg h4, if_neg (hj t o hm)] at hc
    cases hc
theorem wt_next {P : List (List Ev)} {s : Ps} {Q : Nat → Nat → Bool} (h : PsR P s) (hd : HdR P s) (hj : ∀ t, ∀ o ∈ opsP P t, o.k ≠ 7) (hw : ∀ (t i : Nat) (o : Ev), (opsP P t)[i]? = some o → o.k = 4 → hldL ((opsP P t).take i) o.t = false)
    (he : ∀ t k, hldL (opsP P t) k = false) (hr : ∀ t a b, t < P.length → alP (opsP P t) a b → Q a.toNat b.toNat = true) (hg : goesP P s = false) {t : Nat} {o : Ev} (hwt : WtP P s t o) : ∃ u p, WtP P s u p ∧ Q o.t.toNat p.t.toNat = true := by
  obtain ⟨_, _, h3⟩ := hwt
  obtain ⟨u, hu⟩ := Int.eq_ofNat_of_zero_le (show 0 ≤ owner s.L o.t by omega)
  have hh := (hd u o.t).1 hu
  have ha : s.a u ≠ 0 := fun e => by rw [e] at hh; simp [hldL] at hh
  have hb : begun s.L u = true := by
    cases hq : begun s.L (u : Int)
    · exact absurd (h.idle u hq) ha
    · rfl
  have hul : u < P.length := by
    refine Classical.byContradiction fun hn => ?_
    have := h.out u (by omega)
    rw [this] at hb
    cases hb
  have hlt : s.a u < (opsP P u).length := by
    refine Classical.byContradiction fun hn => ?_
    rw [List.take_of_length_le (by omega), he] at hh
    cases hh
  obtain ⟨p, hp⟩ := wt_of hj hg hul hb hlt
  exact ⟨u, p, hp, hr u o.t p.t hul ⟨s.a u, p, hp.1, hp.2.1, rfl, hh, hw u _ p hp.1 hp.2.1⟩⟩
theorem wt_chain {P : List (List Ev)} {s : Ps} {Q : Nat → Nat → Bool} (h : PsR P s) (hd : HdR P s) (hj : ∀ t, ∀ o ∈ opsP P t, o.k ≠ 7) (hw : ∀ (t i : Nat) (o : Ev), (opsP P t)[i]? = some o → o.k = 4 → hldL ((opsP P t).take i) o.t = false)
    (he : ∀ t k, hldL (opsP P t) k = false) (hr : ∀ t a b, t < P.length → alP (opsP P t) a b → Q a.toNat b.toNat = true) (hg : goesP P s = false) {t : Nat} {o : Ev} (hwt : WtP P s t o) : ∀ n : Nat, ∃ r u p, r.length = n ∧ Chn Q (r ++ [p.t.toNat]) ∧ WtP P s u p
  | 0 => ⟨[], t, o, rfl, trivial, hwt⟩
  | n + 1 => by
    obtain ⟨r, u, p, h1, h2, h3⟩ := wt_chain h hd hj hw he hr hg hwt n
    obtain ⟨v, q, h4, h5⟩ := wt_next h hd hj hw he hr hg h3
    refine ⟨r ++ [p.t.toNat], v, q, by simp [h1], ?_, h4⟩
    rw [List.append_assoc]
    exact chn_join.2 ⟨h2, h5, trivial⟩
theorem goes_on {P : List (List Ev)} (hP : OkP P) {Q : Nat → Nat → Bool} (h5 : Five Q) (hn : ∀ r, ¬ Cyc Q r) (hj : ∀ t, ∀ o ∈ opsP P t, o.k ≠ 7) (hw : ∀ (t i : Nat) (o : Ev), (opsP P t)[i]? = some o → o.k = 4 → hldL ((opsP P t).take i) o.t = false)
    (he : ∀ t k, hldL (opsP P t) k = false) (hr : ∀ t a b, t < P.length → alP (opsP P t) a b → Q a.toNat b.toNat = true) (ts : List Int) : stuckP P (runP P ts) = false := by
  have h := runP_ok hP ts
  have hd := (gr_run P ts).hd
  generalize runP P ts = s at *
  refine Bool.eq_false_iff.2 fun hs => ?_
  unfold stuckP at hs
  simp only [Bool.and_eq_true, Bool.not_eq_true'] at hs
  obtain ⟨hdn, hg⟩ := hs
  unfold doneP at hdn
  obtain ⟨t, ht, hq⟩ := List.all_eq_false.1 hdn
  rw [List.mem_range] at ht
  simp only [Bool.or_eq_true, Bool.not_eq_true', decide_eq_true_iff, not_or, Bool.not_eq_false] at hq
  obtain ⟨o, ho⟩ := wt_of hj hg ht hq.1 (by have := h.le t; omega)
  obtain ⟨r, u, p, h1, h2, _⟩ := wt_chain h hd hj hw he hr hg ho 6
  have hnd := chn_nodup hn h2
  rw [List.nodup_append] at hnd
  have := nodup_five hnd.1 (chn_five h5 h2)
  omega
def eatO (a b : Int) : List Ev := [⟨4, a, 0⟩, ⟨4, b, 0⟩, ⟨5, b, 0⟩, ⟨5, a, 0⟩]
def eatP (a b : Int) (turned : Bool) : List (List Ev) := [⟨6, 1, 0⟩ :: eatO a b, if turned = true then eatO b a else eatO a b]
theorem eat_done : ∀ (a b : Fin 5) (u : Bool), a ≠ b → doneP (eatP a.val b.val u) (runP (eatP a.val b.val u) [0, 0, 0, 0, 0, 1, 1, 1, 1]) = true := by decide +kernel
theorem eat_stuck : ∀ a b : Fin 5, a ≠ b → stuckP (eatP a.val b.val true) (runP (eatP a.val b.val true) [0, 0, 1]) = true := by decide +kernel
theorem eat_ops (a b : Int) (t : Nat) : opsP (eatP a b false) t = if t = 0 then ⟨6, 1, 0⟩ :: eatO a b else if t = 1 then eatO a b else [] := by
  match t with
  | 0 => rfl
  | 1 => rfl
  | t + 2 => rfl
theorem eat_ok {a b : Int} (ha : 0 ≤ a ∧ a < 5) (hb : 0 ≤ b ∧ b < 5) (u : Bool) : OkP (eatP a b u) := by
  have hops : ∀ t, opsP (eatP a b u) t = if t = 0 then ⟨6, 1, 0⟩ :: eatO a b else if t = 1 then (if u = true then eatO b a else eatO a b) else [] := fun t => by
    match t with
    | 0 => rfl
    | 1 => rfl
    | t + 2 => rfl
  have hE : ∀ a b : Int, (0 ≤ a ∧ a < 5) → (0 ≤ b ∧ b < 5) → ∀ o ∈ eatO a b, isOp o = true := fun a b ha hb o ho => by
    simp only [eatO, List.mem_cons, List.not_mem_nil, or_false] at ho
    rcases ho with rfl | rfl | rfl | rfl <;> simp [isOp] <;> omega
  refine ⟨by simp [eatP], by simp [eatP], fun t => ?_, fun t o ho => ?_⟩
  · rw [hops]; repeat' split
    all_goals simp [eatO]
  · rw [hops] at ho
    repeat' split at ho
    · rcases List.mem_cons.1 ho with rfl | ho
      · rfl
      · exact hE a b ha hb o ho
    · exact hE b a hb ha o ho
    · exact hE a b ha hb o ho
    · cases ho
theorem eat_goes {a b : Int} (ha : 0 ≤ a ∧ a < 5) (hb : 0 ≤ b ∧ b < 5) (hab : a ≠ b) (ts : List Int) : stuckP (eatP a b false) (runP (eatP a b false) ts) = false := by
  refine goes_on (eat_ok ha hb false) (Q := fun x y => decide (x = a.toNat ∧ y = b.toNat)) (fun x y h => ?_) (rank_cyc (f := fun x => if x = b.toNat then 1 else 0) fun x y h => ?_) (fun t o ho => ?_) (fun t i o ho h4 => ?_) (fun t k => ?_) (fun t x y _ hq => ?_) ts
  · have := of_decide_eq_true h; omega
  · have := of_decide_eq_true h
    rw [if_neg (by omega), if_pos this.2]; omega
  · rw [eat_ops] at ho
    repeat' split at ho
    all_goals simp only [eatO, List.mem_cons, List.not_mem_nil, or_false] at ho
    · rcases ho with rfl | rfl | rfl | rfl | rfl <;> simp
    · rcases ho with rfl | rfl | rfl | rfl <;> simp
  · rw [eat_ops] at ho ⊢
    repeat' split at ho
    · rename_i e1
      subst e1
      have hi := (List.getElem?_eq_some_iff.1 ho).1
      simp only [eatO, List.length_cons, List.length_nil] at hi
      have : i = 0 ∨ i = 1 ∨ i = 2 ∨ i = 3 ∨ i = 4 := by omega
      rcases this with rfl | rfl | rfl | rfl | rfl <;> simp [eatO] at ho <;> subst ho <;> simp [eatO, hldL, hldE] at h4 ⊢
      exact Ne.symm hab
    · rename_i e1
      subst e1
      have hi := (List.getElem?_eq_some_iff.1 ho).1
      simp only [eatO, List.length_cons, List.length_nil] at hi
      have : i = 0 ∨ i = 1 ∨ i = 2 ∨ i = 3 := by omega
      rcases this with rfl | rfl | rfl | rfl <;> simp [eatO] at ho <;> subst ho <;> simp [eatO, hldL, hldE] at h4 ⊢
      exact Ne.symm hab
    · cases ho
  · rw [eat_ops]
    repeat' split
    all_goals simp only [eatO, hldL, hldE, List.foldl_cons, List.foldl_nil]
    all_goals (by_cases e1 : k = a <;> by_cases e2 : k = b <;> simp [e1, e2])
  · obtain ⟨i, o, ho, h4, hy, hx, _⟩ := hq
    rw [eat_ops] at ho hx
    repeat' split at ho
    · rename_i e1
      subst e1
      have hi := (List.getElem?_eq_some_iff.1 ho).1
      simp only [eatO, List.length_cons, List.length_nil] at hi
      have : i = 0 ∨ i = 1 ∨ i = 2 ∨ i = 3 ∨ i = 4 := by omega
      rcases this with rfl | rfl | rfl | rfl | rfl <;> simp [eatO] at ho <;> subst ho <;> simp [eatO, hldL, hldE] at h4 hx hy
      subst hx hy; simp
    · rename_i e1
      subst e1
      have hi := (List.getElem?_eq_some_iff.1 ho).1
      simp only [eatO, List.length_cons, List.length_nil] at hi
      have : i = 0 ∨ i = 1 ∨ i = 2 ∨ i = 3 := by omega
      rcases this with rfl | rfl | rfl | rfl <;> simp [eatO] at ho <;> subst ho <;> simp [eatO, hldL, hldE] at h4 hx hy
      subst hx hy; simp
    · cases ho
end Go.Proofs.Ytlcldcbdobgdbaa

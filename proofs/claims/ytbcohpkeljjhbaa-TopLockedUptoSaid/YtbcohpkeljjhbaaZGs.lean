import Derived.Test.YtbcohpkeljjhbaaZFs
import Derived.Test.YtbcohpkeljjhbaaZPrW
set_option linter.all false
set_option maxRecDepth 100000
namespace Go.Proofs.Ytbcohpkeljjhbaa
open Go Go.RowKit

structure Gd where
  st : Nat
  th : Nat
  lk : Nat → Bool
def gdStart : Gd := ⟨0, 0, fun _ => true⟩
def acB (l : List Ev) (k : Nat) : Bool := decide (kZ l k = 1 ∨ kZ l k = 2)
def hB (l : List Ev) (k q : Nat) : Bool := decide (owner (l.take k) q = (eZ l k).t)
def gdStep (g : Gd) (k : Int) (t : Nat) (h : Nat → Bool) : Gd :=
  if g.st = 0 then ⟨1, t, g.lk⟩
  else if g.st = 1 ∧ g.th = t then g
  else ⟨if k = 2 ∨ g.st = 3 then 3 else 2, g.th, fun q => g.lk q && h q⟩
def gdTo (l : List Ev) (x : Nat) : Nat → Gd
  | 0 => gdStart
  | k + 1 => if acB l k = true ∧ oZ l k = x then gdStep (gdTo l x k) (kZ l k) (tZ l k) (hB l k) else gdTo l x k
def emp (p : Nat → Bool) : Bool := (List.range 5).all fun q => !p q
theorem emp_no {p : Nat → Bool} {q : Nat} (hq : q < 5) (h : p q = true) : emp p = false := by
  unfold emp
  rw [← Bool.not_eq_true, List.all_eq_true]
  intro h9
  have := h9 q (List.mem_range.2 hq)
  rw [h] at this; cases this
def wn (l : List Ev) (k : Nat) : Bool := acB l k && (decide ((gdTo l (oZ l k) (k + 1)).st = 3) && emp (gdTo l (oZ l k) (k + 1)).lk)
def wl (l : List Ev) : Nat → List Ev
  | 0 => []
  | k + 1 => if wn l k = true then wl l k ++ [⟨(k : Nat), (eZ l k).o, 0⟩] else wl l k
theorem wl_no {l : List Ev} {k : Nat} (h : wn l k = false) : wl l (k + 1) = wl l k := by rw [wl, if_neg (by rw [h]; simp)]
def comTo (l : List Ev) (x : Nat) : Nat → Nat → Bool
  | 0 => fun _ => true
  | k + 1 => if acB l k = true ∧ oZ l k = x then fun q => comTo l x k q && hB l k q else comTo l x k
theorem com_down (l : List Ev) (x : Nat) {q i : Nat} : ∀ {k : Nat}, i ≤ k → comTo l x k q = true → comTo l x i q = true
  | 0, h, hc => by obtain rfl : i = 0 := by omega
                   exact hc
  | k + 1, h, hc => by
    by_cases e : i = k + 1
    · subst e; exact hc
    · refine com_down l x (show i ≤ k by omega) ?_
      rw [comTo] at hc
      split at hc
      · rw [Bool.and_eq_true] at hc; exact hc.1
      · exact hc
theorem com_keep (l : List Ev) (x : Nat) {q : Nat} : ∀ k, comTo l x k q = true → (gdTo l x k).lk q = true
  | 0, _ => rfl
  | k + 1, hc => by
    have ih := com_keep l x (q := q) k
    rw [comTo] at hc
    rw [gdTo]
    by_cases h : acB l k = true ∧ oZ l k = x
    · rw [if_pos h] at hc ⊢
      rw [Bool.and_eq_true] at hc
      have h1 := ih hc.1
      unfold gdStep
      split
      · exact h1
      · split
        · exact h1
        · show ((gdTo l x k).lk q && hB l k q) = true
          rw [h1, hc.2]; rfl
    · rw [if_neg h] at hc ⊢
      exact ih hc
theorem wn_common {l : List Ev} {x q n k : Nat} (hq : q < 5) (hk : k < n) (hc : comTo l x n q = true) (ho : oZ l k = x) : wn l k = false := by
  have h1 := com_keep l x (k + 1) (com_down l x (show k + 1 ≤ n by omega) hc)
  unfold wn
  rw [ho, emp_no hq h1, Bool.and_false, Bool.and_false]
end Go.Proofs.Ytbcohpkeljjhbaa
set_option linter.all false
set_option maxRecDepth 100000
namespace Go.Proofs.Ytbcohpkeljjhbaa
open Go Go.RowKit

section
variable {l : List Ev} (hm : may l = 0) (h : ∀ i j, i < j → j < l.length → kZ l i = 1 → kZ l j = 1 → oZ l i = oZ l j → bef l i j = true)
include hm h
theorem ord_kn {x k : Nat} (hk : k < l.length) (ho : oZ l k = x) (h1 : kZ l k = 1) : (fsTo l x k).rn ≤ cZ l k (fsTo l x k).rt := by
  rcases (fsI_all l x k).r with ⟨_, e⟩ | ⟨i, g1, g2, g3, g4, g5⟩
  · rw [e]; exact Nat.zero_le _
  · rw [g4, g5]; exact (acc_iff hm hk (.inl h1) g1).2 (h i k g1 hk g2 h1 (by rw [g3, ho]))
theorem ord_many (x : Nat) : ∀ k, k ≤ l.length → (fsTo l x k).many = false
  | 0, _ => rfl
  | k + 1, hk' => by
    have hk : k < l.length := by omega
    have ih := ord_many x k (by omega)
    rw [fsTo]
    split
    · rename_i ho
      unfold fsStep
      split
      · rename_i h1
        have hkn := ord_kn hm h hk ho h1
        split
        · exact ih
        · unfold fsR
          rw [if_neg (by rw [ih]; simp), if_pos hkn]
          exact ih
      · split
        · split
          · exact ih
          · rfl
        · exact ih
    · exact ih
theorem slT_ord : ∀ k, k ≤ l.length → slT l k = 0
  | 0, _ => rfl
  | k + 1, hk' => by
    have hk : k < l.length := by omega
    rw [slT, slT_ord k (by omega)]
    unfold fsSl
    split
    · rename_i h1
      split
      · rfl
      · rw [if_neg (by rw [ord_many hm h _ k (by omega)]; simp), if_pos (ord_kn hm h hk rfl h1)]
    · rfl
end
theorem unl_befZ {l : List Ev} (hm : may l = 0) {q : Int} (hu : UnL q l) {i j : Nat} (hij : i < j) (hj : j < l.length) (ka : kZ l i = 1 ∨ kZ l i = 2) (kb : kZ l j = 1 ∨ kZ l j = 2) : bef l i j = true := by
  have ha := List.getElem?_eq_getElem (show i < l.length by omega)
  have hb := List.getElem?_eq_getElem hj
  unfold kZ at ka kb
  rw [eZ_at ha] at ka
  rw [eZ_at hb] at kb
  exact unl_bef hm hu ha hb hij (by omega) (by omega)
theorem unl_slow {l : List Ev} (hm : may l = 0) {q : Int} (hu : UnL q l) : slT l l.length = 0 :=
  slT_ord hm (fun _ _ hij hj h1 h2 _ => unl_befZ hm hu hij hj (.inl h1) (.inl h2)) _ (Nat.le_refl _)
theorem free_flags {l : List Ev} (hm : may l = 0) (h : rcsA l = []) : fflags l = [] := by
  rw [fflags_ok hm]
  refine gl_nil_iff.2 fun j hj => Classical.byContradiction fun hn => ?_
  have := fk_true hm hj hn
  rw [h] at this
  cases this
theorem com_of {l : List Ev} {x q : Nat} : ∀ k, (∀ j, j < k → acB l j = true → hB l j q = true) → comTo l x k q = true
  | 0, _ => rfl
  | k + 1, h => by
    have ih := com_of (x := x) k fun j hj => h j (by omega)
    rw [comTo]
    split
    · rename_i hc
      show (comTo l x k q && hB l k q) = true
      rw [ih, h k (by omega) hc.1]; rfl
    · exact ih
theorem unl_warns {l : List Ev} {q : Nat} (hq : q < 5) (hu : UnL q l) : ∀ k, k ≤ l.length → wl l k = []
  | 0, _ => rfl
  | k + 1, hk => by
    rw [wl_no (wn_common hq (show k < l.length by omega) (com_of l.length fun j hj ha => ?_) rfl)]
    · exact unl_warns hq hu k (by omega)
    · have hj' := List.getElem?_eq_getElem hj
      have hkk := of_decide_eq_true ha
      unfold kZ at hkk
      unfold hB
      rw [eZ_at hj'] at hkk ⊢
      exact decide_eq_true (hu j _ hj' (by omega))
def lkE (o : Ev) : List Ev := if o.k = 4 ∨ o.k = 5 then [] else if o.k = 1 ∨ o.k = 2 then [⟨4, 0, 0⟩, o, ⟨5, 0, 0⟩] else [o]
def lkP (P : List (List Ev)) : List (List Ev) := P.map fun ops => (ops.flatMap lkE).take 12
theorem lk_held : ∀ (ops : List Ev) (h : Int → Bool) (i : Nat) (o : Ev), (ops.flatMap lkE)[i]? = some o → (o.k = 1 ∨ o.k = 2) → ((ops.flatMap lkE).take i).foldl hldE h 0 = true
  | [], _, _, _, ho, _ => by simp at ho
  | p :: ops, h, i, o, ho, hk => by
    rw [List.flatMap_cons] at ho ⊢
    by_cases h4 : p.k = 4 ∨ p.k = 5
    · have e : lkE p = [] := if_pos h4
      rw [e, List.nil_append] at ho ⊢
      exact lk_held ops h i o ho hk
    · by_cases h1 : p.k = 1 ∨ p.k = 2
      · have e : lkE p = [⟨4, 0, 0⟩, p, ⟨5, 0, 0⟩] := by unfold lkE; rw [if_neg h4, if_pos h1]
        rw [e] at ho ⊢
        match i, ho with
        | 0, ho => simp at ho; subst ho; simp at hk
        | 1, _ => simp [hldE]
        | 2, ho => simp at ho; subst ho; simp at hk
        | i + 3, ho =>
          simp only [List.cons_append, List.nil_append, List.getElem?_cons_succ, List.take_succ_cons, List.foldl_cons] at ho ⊢
          exact lk_held ops _ i o ho hk
      · have e : lkE p = [p] := by unfold lkE; rw [if_neg h4, if_neg h1]
        rw [e] at ho ⊢
        match i, ho with
        | 0, ho => simp at ho; subst ho; exact absurd hk h1
        | i + 1, ho =>
          simp only [List.cons_append, List.nil_append, List.getElem?_cons_succ, List.take_succ_cons, List.foldl_cons] at ho ⊢
          exact lk_held ops _ i o ho hk
theorem lk_ops (P : List (List Ev)) (t : Nat) : opsP (lkP P) t = ((opsP P t).flatMap lkE).take 12 := by
  unfold opsP lkP
  rw [List.getD_eq_getElem?_getD, List.getD_eq_getElem?_getD, List.getElem?_map]
  cases P[t]? <;> rfl
theorem lk_hld (P : List (List Ev)) {t i : Nat} {o : Ev} (ho : (opsP (lkP P) t)[i]? = some o) (hk : o.k = 1 ∨ o.k = 2) : hldL ((opsP (lkP P) t).take i) 0 = true := by
  rw [lk_ops] at ho ⊢
  rw [List.getElem?_take] at ho
  split at ho
  · rename_i hi
    rw [List.take_take, Nat.min_eq_left (by omega)]
    exact lk_held _ _ i o ho hk
  · cases ho
theorem unl_picks {P : List (List Ev)} {q : Int} (hP : ∀ {t i : Nat} {o : Ev}, (opsP P t)[i]? = some o → (o.k = 1 ∨ o.k = 2) → hldL ((opsP P t).take i) q = true) : ∀ (ts : List Int) {s : Ps}, GrR P s → UnL q s.L → UnL q (ts.foldl (pickP P) s).L
  | [], _, _, h => h
  | t :: ts, s, hg, h => by
    refine unl_picks hP ts (gr_pick hg t) ?_
    unfold pickP
    split
    · rename_i hc
      obtain ⟨_, _, o, h3, _⟩ := can_op hc.2
      rw [step_op h3]
      refine gd_step h fun h0 h2 => (hg.hd _ q).2 (hP h3 ?_)
      rcases kind_cases P s t.toNat o with g | ⟨_, g⟩ | ⟨_, g⟩ | ⟨g, _⟩ | ⟨g, _⟩ | ⟨g, _⟩ | ⟨g, _⟩ | ⟨g, _⟩ | ⟨g, _⟩ <;> omega
    · exact h
theorem lkd_run (P : List (List Ev)) (ts : List Int) : UnL 0 (runP (lkP P) ts).L :=
  unl_picks (lk_hld P) ts (gr_run (lkP P) []) fun i e h => by simp [runP, ps0] at h
theorem lk_top {P : List (List Ev)} (hP : OkP (lkP P)) (ts : List Int) : may (runP (lkP P) ts).L = 0 ∧ rcsA (runP (lkP P) ts).L = [] ∧ fflags (runP (lkP P) ts).L = [] ∧ wl (runP (lkP P) ts).L (runP (lkP P) ts).L.length = [] ∧ slT (runP (lkP P) ts).L (runP (lkP P) ts).L.length = 0 := by
  have hm := (runP_ok hP ts).may hP
  have hu := lkd_run P ts
  have hf := guarded_free hm hu
  exact ⟨hm, hf, free_flags hm hf, unl_warns (q := 0) (by omega) hu _ (Nat.le_refl _), unl_slow hm hu⟩
end Go.Proofs.Ytbcohpkeljjhbaa

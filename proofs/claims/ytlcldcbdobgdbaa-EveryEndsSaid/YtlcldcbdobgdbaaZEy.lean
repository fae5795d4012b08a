import Derived.Test.YtlcldcbdobgdbaaZEr
import Derived.Test.YtlcldcbdobgdbaaZPg
set_option linter.all false
set_option maxRecDepth 100000
namespace Go.Proofs.Ytlcldcbdobgdbaa
open Go Go.RowKit

def take1 (t : Int) : List Ev → Option (Ev × List Ev)
  | [] => none
  | x :: r => if x.t = t then some (x, r) else match take1 t r with
    | none => none
    | some (e, q) => if dep x e = true then none else some (e, x :: q)
theorem take1_hit {t : Int} {x : Ev} (h : x.t = t) (r : List Ev) : take1 t (x :: r) = some (x, r) := by rw [take1, if_pos h]
theorem take1_none {t : Int} {x : Ev} {r : List Ev} (h : ¬ x.t = t) (hr : take1 t r = none) : take1 t (x :: r) = none := by rw [take1, if_neg h, hr]
theorem take1_dep {t : Int} {x e : Ev} {r q : List Ev} (h : ¬ x.t = t) (hr : take1 t r = some (e, q)) (hd : dep x e = true) : take1 t (x :: r) = none := by rw [take1, if_neg h, hr]; exact if_pos hd
theorem take1_go {t : Int} {x e : Ev} {r q : List Ev} (h : ¬ x.t = t) (hr : take1 t r = some (e, q)) (hd : dep x e = false) : take1 t (x :: r) = some (e, x :: q) := by rw [take1, if_neg h, hr]; exact if_neg (by rw [hd]; simp)
theorem take1_form {t : Int} : ∀ {l : List Ev} {e : Ev} {r : List Ev}, take1 t l = some (e, r) → e.t = t ∧ ∃ p q, l = p ++ e :: q ∧ r = p ++ q ∧ ∀ x ∈ p, dep x e = false
  | [], _, _, h => by cases h
  | x :: l, e, r, h => by
    by_cases hx : x.t = t
    · rw [take1_hit hx] at h
      cases h
      exact ⟨hx, [], l, rfl, rfl, fun _ g => by cases g⟩
    · cases hr : take1 t l with
      | none => rw [take1_none hx hr] at h; cases h
      | some er =>
        obtain ⟨e', q⟩ := er
        cases hd : dep x e'
        · rw [take1_go hx hr hd] at h
          cases h
          obtain ⟨h1, p, q', rfl, rfl, h2⟩ := take1_form hr
          refine ⟨h1, x :: p, q', rfl, rfl, fun y hy => ?_⟩
          rcases List.mem_cons.1 hy with rfl | hy
          · exact hd
          · exact h2 y hy
        · rw [take1_dep hx hr hd] at h; cases h
theorem take1_at {t : Int} {e : Ev} {q : List Ev} (ht : e.t = t) : ∀ {p : List Ev}, (∀ x ∈ p, dep x e = false) → take1 t (p ++ e :: q) = some (e, p ++ q)
  | [], _ => take1_hit ht _
  | x :: p, h => take1_go (fun g => dep_thread (h x (List.mem_cons_self ..)) (g.trans ht.symm)) (take1_at ht (p := p) fun y hy => h y (List.mem_cons_of_mem _ hy)) (h x (List.mem_cons_self ..))
theorem take1_swap {t : Int} {l m : List Ev} (h : Sw l m) : ∀ {e : Ev} {r : List Ev}, take1 t l = some (e, r) → ∃ r', take1 t m = some (e, r') ∧ (r = r' ∨ Sw r r') := by
  induction h with
  | @here a b q hd =>
    intro e r hl
    have hd' : dep b a = false := by rw [dep_symm]; exact hd
    have hne := dep_thread hd
    by_cases ha : a.t = t
    · rw [take1_hit ha] at hl
      cases hl
      exact ⟨_, take1_go (fun g => hne (ha.trans g.symm)) (take1_hit ha _) hd', .inl rfl⟩
    · by_cases hb : b.t = t
      · rw [take1_go ha (take1_hit hb _) hd] at hl
        cases hl
        exact ⟨_, take1_hit hb _, .inl rfl⟩
      · cases hq : take1 t q with
        | none => rw [take1_none ha (take1_none hb hq)] at hl; cases hl
        | some er =>
          obtain ⟨e', q'⟩ := er
          cases h1 : dep b e'
          · cases h2 : dep a e'
            · rw [take1_go ha (take1_go hb hq h1) h2] at hl
              cases hl
              exact ⟨_, take1_go hb (take1_go ha hq h2) h1, .inr (.here _ hd)⟩
            · rw [take1_dep ha (take1_go hb hq h1) h2] at hl; cases hl
          · rw [take1_none ha (take1_dep hb hq h1)] at hl; cases hl
  | @there l m x hs ih =>
    intro e r hl
    by_cases hx : x.t = t
    · rw [take1_hit hx] at hl
      cases hl
      exact ⟨_, take1_hit hx _, .inr hs⟩
    · cases hr : take1 t l with
      | none => rw [take1_none hx hr] at hl; cases hl
      | some er =>
        obtain ⟨e', q⟩ := er
        cases hd : dep x e'
        · rw [take1_go hx hr hd] at hl
          cases hl
          obtain ⟨r', h1, h2⟩ := ih hr
          exact ⟨_, take1_go hx h1 hd, h2.imp (fun g => by rw [g]) fun g => .there x g⟩
        · rw [take1_dep hx hr hd] at hl; cases hl
theorem take1_swap_none {t : Int} {l m : List Ev} (h : Sw l m) (hn : take1 t l = none) : take1 t m = none := by
  cases hm : take1 t m with
  | none => rfl
  | some er =>
    obtain ⟨r', h1, _⟩ := take1_swap h.symm (e := er.1) (r := er.2) hm
    rw [hn] at h1; cases h1
def pick (l : List Ev) : Option (Ev × List Ev) := (List.range 6).findSome? fun (t : Nat) => take1 t l
theorem some_range {α : Type} {g : Nat → Option α} {n k : Nat} {r : α} (hk : k < n) (h : ∀ j, j < k → g j = none) (hr : g k = some r) : (List.range n).findSome? g = some r := by
  induction n with
  | zero => omega
  | succ n ih =>
    rw [List.range_succ, List.findSome?_append]
    by_cases h9 : k < n
    · rw [ih h9]; rfl
    · obtain rfl : k = n := by omega
      have : (List.range k).findSome? g = none := by
        rw [List.findSome?_eq_none_iff]
        intro j hj
        exact h j (List.mem_range.1 hj)
      rw [this]
      simp [hr]
theorem range_some {α : Type} {g : Nat → Option α} {n : Nat} {r : α} (h : (List.range n).findSome? g = some r) : ∃ k, k < n ∧ g k = some r ∧ ∀ j, j < k → g j = none := by
  induction n with
  | zero => simp at h
  | succ n ih =>
    rw [List.range_succ, List.findSome?_append] at h
    cases h9 : (List.range n).findSome? g with
    | some y =>
      rw [h9] at h
      obtain ⟨k, h1, h2, h3⟩ := ih (by rw [h9]; simpa using h)
      exact ⟨k, by omega, h2, h3⟩
    | none =>
      rw [h9] at h
      rw [List.findSome?_eq_none_iff] at h9
      exact ⟨n, by omega, by simpa using h, fun j hj => h9 j (List.mem_range.2 hj)⟩
theorem pick_iff {l : List Ev} {e : Ev} {r : List Ev} : pick l = some (e, r) ↔ ∃ t : Nat, t < 6 ∧ take1 t l = some (e, r) ∧ ∀ j : Nat, j < t → take1 j l = none :=
  ⟨fun h => range_some h, fun ⟨_, h1, h2, h3⟩ => some_range h1 h3 h2⟩
theorem pick_swap {l m : List Ev} (h : Sw l m) {e : Ev} {r : List Ev} (hl : pick l = some (e, r)) : ∃ r', pick m = some (e, r') ∧ (r = r' ∨ Sw r r') := by
  obtain ⟨t, h1, h2, h3⟩ := pick_iff.1 hl
  obtain ⟨r', h4, h5⟩ := take1_swap h h2
  exact ⟨r', pick_iff.2 ⟨t, h1, h4, fun j hj => take1_swap_none h (h3 j hj)⟩, h5⟩
theorem pick_swap_none {l m : List Ev} (h : Sw l m) (hn : pick l = none) : pick m = none := by
  cases hm : pick m with
  | none => rfl
  | some er =>
    obtain ⟨r', h1, _⟩ := pick_swap h.symm (e := er.1) (r := er.2) hm
    rw [hn] at h1; cases h1
theorem pick_some {l : List Ev} (hf : Fit l) (hl : l ≠ []) : ∃ e r, pick l = some (e, r) := by
  cases l with
  | nil => exact absurd rfl hl
  | cons x l =>
    have hx := hf x (List.mem_cons_self ..)
    obtain ⟨t, ht⟩ := Int.eq_ofNat_of_zero_le hx.1
    cases hp : pick (x :: l) with
    | some er => exact ⟨er.1, er.2, rfl⟩
    | none =>
      unfold pick at hp
      rw [List.findSome?_eq_none_iff] at hp
      have := hp t (List.mem_range.2 (by omega))
      rw [take1_hit ht] at this
      cases this
theorem pick_form {l : List Ev} {e : Ev} {r : List Ev} (h : pick l = some (e, r)) : ∃ p q, l = p ++ e :: q ∧ r = p ++ q ∧ ∀ x ∈ p, dep x e = false := by
  obtain ⟨_, _, h1, _⟩ := pick_iff.1 h
  exact (take1_form h1).2
def least : Nat → List Ev → List Ev
  | 0, _ => []
  | n + 1, l => match pick l with
    | none => []
    | some (e, r) => e :: least n r
theorem least_cons {n : Nat} {l : List Ev} {e : Ev} {r : List Ev} (h : pick l = some (e, r)) : least (n + 1) l = e :: least n r := by rw [least, h]
theorem least_swap : ∀ {n : Nat} {l m : List Ev}, Sw l m → least n l = least n m
  | 0, _, _, _ => rfl
  | n + 1, l, m, h => by
    cases hp : pick l with
    | none => rw [least, least, hp, pick_swap_none h hp]
    | some er =>
      obtain ⟨r', h1, h2⟩ := pick_swap h (e := er.1) (r := er.2) hp
      rw [least_cons (e := er.1) (r := er.2) hp, least_cons h1]
      rcases h2 with h2 | h2
      · rw [h2]
      · rw [least_swap h2]
def leastL (l : List Ev) : List Ev := least l.length l
theorem pick_len {l : List Ev} {e : Ev} {r : List Ev} (h : pick l = some (e, r)) : l.length = r.length + 1 := by
  obtain ⟨p, q, rfl, rfl, _⟩ := pick_form h
  simp; omega
theorem pick_fit {l : List Ev} {e : Ev} {r : List Ev} (h : pick l = some (e, r)) (hf : Fit l) : Fit r := by
  obtain ⟨p, q, rfl, rfl, _⟩ := pick_form h
  exact fun x hx => hf x (by
    rcases List.mem_append.1 hx with hx | hx
    · exact List.mem_append.2 (.inl hx)
    · exact List.mem_append.2 (.inr (List.mem_cons_of_mem _ hx)))
theorem least_eqv : ∀ {n : Nat} {l : List Ev}, Fit l → l.length = n → Eqv l (least n l)
  | 0, l, _, hn => by obtain rfl := List.eq_nil_of_length_eq_zero hn; exact .refl _
  | n + 1, l, hf, hn => by
    obtain ⟨e, r, hp⟩ := pick_some hf (fun g => by subst g; simp at hn)
    rw [least_cons hp]
    have hr := pick_fit hp hf
    have hl := pick_len hp
    obtain ⟨p, q, rfl, rfl, hd⟩ := pick_form hp
    exact (eqv_front hd).trans ((least_eqv (n := n) hr (by omega)).cons e)
theorem leastL_eqv {l : List Ev} (hf : Fit l) : Eqv l (leastL l) := least_eqv hf rfl
theorem eqv_least {l m : List Ev} (h : Eqv l m) : leastL l = leastL m := by
  induction h with
  | refl => rfl
  | step _ s ih => rw [ih]; unfold leastL; rw [s.length]; exact least_swap s
theorem eqv_iff {l m : List Ev} (hl : Fit l) (hm : Fit m) : Eqv l m ↔ leastL l = leastL m :=
  ⟨eqv_least, fun h => (leastL_eqv hl).trans (h ▸ (leastL_eqv hm).symm)⟩
theorem leastL_len {l : List Ev} (hf : Fit l) : (leastL l).length = l.length := (leastL_eqv hf).length.symm
theorem leastL_may {l : List Ev} (h : may l = 0) : may (leastL l) = 0 := (leastL_eqv (may_fit h)).may h

end Go.Proofs.Ytlcldcbdobgdbaa
namespace Go.Proofs.Ytlcldcbdobgdbaa
open Go Go.RowKit

end Go.Proofs.Ytlcldcbdobgdbaa
namespace Go.Proofs.Ytlcldcbdobgdbaa
open Go Go.RowKit

end Go.Proofs.Ytlcldcbdobgdbaa
namespace Go.Proofs.Ytlcldcbdobgdbaa
open Go Go.RowKit

end Go.Proofs.Ytlcldcbdobgdbaa
namespace Go.Proofs.Ytlcldcbdobgdbaa
open Go Go.RowKit

end Go.Proofs.Ytlcldcbdobgdbaa
namespace Go.Proofs.Ytlcldcbdobgdbaa
open Go Go.RowKit

end Go.Proofs.Ytlcldcbdobgdbaa
namespace Go.Proofs.Ytlcldcbdobgdbaa
open Go Go.RowKit

end Go.Proofs.Ytlcldcbdobgdbaa
set_option linter.all false
set_option maxRecDepth 100000
namespace Go.Proofs.Ytlcldcbdobgdbaa
open Go Go.RowKit

def FrP (P : List (List Ev)) : Prop := ∀ t, ∀ o ∈ opsP P t, o.k = 1 ∨ o.k = 2 ∨ o.k = 3 ∨ o.k = 6 ∨ o.k = 7
section
variable {P : List (List Ev)} (hf : FrP P)
include hf
end
def goS (P : List (List Ev)) (s : Ps) (w : List Nat) : Ps := w.foldl (stepP P) s
def VlP (P : List (List Ev)) : Ps → List Nat → Prop
  | _, [] => True
  | s, t :: w => canP P s t = true ∧ VlP P (stepP P s t) w
theorem step_pick {P : List (List Ev)} {s : Ps} {t : Nat} (h : canP P s t = true) : pickP P s (t : Int) = stepP P s t := by
  unfold pickP
  rw [if_pos ⟨by omega, by rw [Int.toNat_natCast]; exact h⟩, Int.toNat_natCast]
theorem go_run {P : List (List Ev)} : ∀ (w : List Nat) (s : Ps), VlP P s w → (w.map fun (t : Nat) => (t : Int)).foldl (pickP P) s = goS P s w
  | [], _, _ => rfl
  | t :: w, s, h => by
    rw [List.map_cons, List.foldl_cons, step_pick h.1]
    exact go_run w _ h.2
def lftP (P : List (List Ev)) (s : Ps) : Nat := ((opsP P 0).length - s.a 0) + ((opsP P 1).length - s.a 1) + ((opsP P 2).length - s.a 2) + ((opsP P 3).length - s.a 3) + ((opsP P 4).length - s.a 4) + ((opsP P 5).length - s.a 5)
theorem lft_step {P : List (List Ev)} (hP : OkP P) {s : Ps} {t : Nat} (hc : canP P s t = true) : lftP P (stepP P s t) + 1 = lftP P s := by
  obtain ⟨ht, _, o, ho, _⟩ := can_op hc
  have hlt : s.a t < (opsP P t).length := (List.getElem?_eq_some_iff.1 ho).1
  have h6 := hP.six
  rw [step_op ho]
  unfold lftP stepO
  simp only [upF]
  have : t = 0 ∨ t = 1 ∨ t = 2 ∨ t = 3 ∨ t = 4 ∨ t = 5 := by omega
  rcases this with rfl | rfl | rfl | rfl | rfl | rfl <;> simp <;> omega
def effP (P : List (List Ev)) : Ps → List Int → List Nat
  | _, [] => []
  | s, t :: ts => if 0 ≤ t ∧ canP P s t.toNat = true then t.toNat :: effP P (stepP P s t.toNat) ts else effP P s ts
theorem eff_vl {P : List (List Ev)} : ∀ (ts : List Int) (s : Ps), VlP P s (effP P s ts) ∧ goS P s (effP P s ts) = ts.foldl (pickP P) s
  | [], _ => ⟨trivial, rfl⟩
  | t :: ts, s => by
    unfold effP
    rw [List.foldl_cons]
    by_cases h : 0 ≤ t ∧ canP P s t.toNat = true
    · rw [if_pos h, show pickP P s t = stepP P s t.toNat by unfold pickP; rw [if_pos h]]
      exact ⟨⟨h.2, (eff_vl ts _).1⟩, (eff_vl ts _).2⟩
    · rw [if_neg h, show pickP P s t = s by unfold pickP; rw [if_neg h]]
      exact eff_vl ts s
end Go.Proofs.Ytlcldcbdobgdbaa

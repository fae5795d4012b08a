import Derived.Test.YticnponenkfneaaZSw
import Derived.Test.YticnponenkfneaaZEr
import Derived.Test.YticnponenkfneaaZPg
set_option linter.all false
set_option maxRecDepth 100000
namespace Go.Proofs.Yticnponenkfneaa
open Go Go.RowKit

def take1 (t : Int) : List Ev → Option (Ev × List Ev)
  | [] => none
  | x :: r => if x.t = t then some (x, r) else match take1 t r with
    | none => none
    | some (e, q) => if dep x e = true then none else some (e, x :: q)
theorem take1_hit {t : Int} {x : Ev} (h : x.t = t) (r : List Ev) : take1 t (x :: r) = some (x, r) := by rw [take1, if_pos h]
theorem take1_none {t : Int} {x : Ev} {r : List Ev} (h : ¬ x.t = t) (hr : take1 t r = none) : take1 t (x :: r) = none := by rw [take1, if_neg h, hr]
theorem take1_dep {t : Int} {x e : Ev} {r q : List Ev} (h : ¬ x.t = t) (hr : take1 t r = some (e, q)) (hd : dep x e = true) : take1 t (x :: r) = none := by rw [take1, if_neg h, hr]; exact if_pos hd
theorem take1_go {t : Int} {x e : Ev} {r q : List Ev} (h : ¬ x.t = t) (hr : take1 t r = some (e, q)) (hd : dep x e = false) : take1 t (x :: r) = some (e, x :: q) := by rw [take1, if_neg h, hr]; exact if_neg (by rw [hd]; simp)
theorem take1_form {t : Int} : ∀ {l : List Ev} {e : Ev} {r : List Ev}, take1 t l = some (e, r) → e.t = t ∧ ∃ p q, l = p ++ e :: q ∧ r = p ++ q ∧ ∀ x ∈ p, dep x e = false
  | [], _, _, h => by cases h
  | x :: l, e, r, h => by
    by_cases hx : x.t = t
    · rw [take1_hit hx] at h
      cases h
      exact ⟨hx, [], l, rfl, rfl, fun _ g => by cases g⟩
    · cases hr : take1 t l with
      | none => rw [take1_none hx hr] at h; cases h
      | some er =>
        obtain ⟨e', q⟩ := er
        cases hd : dep x e'
        · rw [take1_go hx hr hd] at h
          cases h
          obtain ⟨h1, p, q', rfl, rfl, h2⟩ := take1_form hr
          refine ⟨h1, x :: p, q', rfl, rfl, fun y hy => ?_⟩
          rcases List.mem_cons.1 hy with rfl | hy
          · exact hd
          · exact h2 y hy
        · rw [take1_dep hx hr hd] at h; cases h
theorem take1_at {t : Int} {e : Ev} {q : List Ev} (ht : e.t = t) : ∀ {p : List Ev}, (∀ x ∈ p, dep x e = false) → take1 t (p ++ e :: q) = some (e, p ++ q)
  | [], _ => take1_hit ht _
  | x :: p, h => take1_go (fun g => dep_thread (h x (List.mem_cons_self ..)) (g.trans ht.symm)) (take1_at ht (p := p) fun y hy => h y (List.mem_cons_of_mem _ hy)) (h x (List.mem_cons_self ..))
theorem take1_swap {t : Int} {l m : List Ev} (h : Sw l m) : ∀ {e : Ev} {r : List Ev}, take1 t l = some (e, r) → ∃ r', take1 t m = some (e, r') ∧ (r = r' ∨ Sw r r') := by
  induction h with
  | @here a b q hd =>
    intro e r hl
    have hd' : dep b a = false := by rw [dep_symm]; exact hd
    have hne := dep_thread hd
    by_cases ha : a.t = t
    · rw [take1_hit ha] at hl
      cases hl
      exact ⟨_, take1_go (fun g => hne (ha.trans g.symm)) (take1_hit ha _) hd', .inl rfl⟩
    · by_cases hb : b.t = t
      · rw [take1_go ha (take1_hit hb _) hd] at hl
        cases hl
        exact ⟨_, take1_hit hb _, .inl rfl⟩
      · cases hq : take1 t q with
        | none => rw [take1_none ha (take1_none hb hq)] at hl; cases hl
        | some er =>
          obtain ⟨e', q'⟩ := er
          cases h1 : dep b e'
          · cases h2 : dep a e'
            · rw [take1_go ha (take1_go hb hq h1) h2] at hl
              cases hl
              exact ⟨_, take1_go hb (take1_go ha hq h2) h1, .inr (.here _ hd)⟩
            · rw [take1_dep ha (take1_go hb hq h1) h2] at hl; cases hl
          · rw [take1_none ha (take1_dep hb hq h1)] at hl; cases hl
  | @there l m x hs ih =>
    intro e r hl
    by_cases hx : x.t = t
    · rw [take1_hit hx] at hl
      cases hl
      exact ⟨_, take1_hit hx _, .inr hs⟩
    · cases hr : take1 t l with
      | none => rw [take1_none hx hr] at hl; cases hl
      | some er =>
        obtain ⟨e', q⟩ := er
        cases hd : dep x e'
        · rw [take1_go hx hr hd] at hl
          cases hl
          obtain ⟨r', h1, h2⟩ := ih hr
          exact ⟨_, take1_go hx h1 hd, h2.imp (fun g => by rw [g]) fun g => .there x g⟩
        · rw [take1_dep hx hr hd] at hl; cases hl
theorem take1_swap_none {t : Int} {l m : List Ev} (h : Sw l m) (hn : take1 t l = none) : take1 t m = none := by
  cases hm : take1 t m with
  | none => rfl
  | some er =>
    obtain ⟨r', h1, _⟩ := take1_swap h.symm (e := er.1) (r := er.2) hm
    rw [hn] at h1; cases h1
def pick (l : List Ev) : Option (Ev × List Ev) := (List.range 6).findSome? fun (t : Nat) => take1 t l
theorem some_range {α : Type} {g : Nat → Option α} {n k : Nat} {r : α} (hk : k < n) (h : ∀ j, j < k → g j = none) (hr : g k = some r) : (List.range n).findSome? g = some r := by
  induction n with
  | zero => omega
  | succ n ih =>
    rw [List.range_succ, List.findSome?_append]
    by_cases h9 : k < n
    · rw [ih h9]; rfl
    · obtain rfl : k = n := by omega
      have : (List.range k).findSome? g = none := by
        rw [List.findSome?_eq_none_iff]
        intro j hj
        exact h j (List.mem_range.1 hj)
      rw [this]
      simp [hr]
theorem range_some {α : Type} {g : Nat → Option α} {n : Nat} {r : α} (h : (List.range n).findSome? g = some r) : ∃ k, k < n ∧ g k = some r ∧ ∀ j, j < k → g j = none := by
  induction n with
  | zero => simp at h
  | succ n ih =>
    rw [List.range_succ, List.findSome?_append] at h
    cases h9 : (List.range n).findSome? g with
    | some y =>
      rw [h9] at h
      obtain ⟨k, h1, h2, h3⟩ := ih (by rw [h9]; simpa using h)
      exact ⟨k, by omega, h2, h3⟩
    | none =>
      rw [h9] at h
      rw [List.findSome?_eq_none_iff] at h9
      exact ⟨n, by omega, by simpa using h, fun j hj => h9 j (List.mem_range.2 hj)⟩
theorem pick_iff {l : List Ev} {e : Ev} {r : List Ev} : pick l = some (e, r) ↔ ∃ t : Nat, t < 6 ∧ take1 t l = some (e, r) ∧ ∀ j : Nat, j < t → take1 j l = none :=
  ⟨fun h => range_some h, fun ⟨_, h1, h2, h3⟩ => some_range h1 h3 h2⟩
theorem pick_swap {l m : List Ev} (h : Sw l m) {e : Ev} {r : List Ev} (hl : pick l = some (e, r)) : ∃ r', pick m = some (e, r') ∧ (r = r' ∨ Sw r r') := by
  obtain ⟨t, h1, h2, h3⟩ := pick_iff.1 hl
  obtain ⟨r', h4, h5⟩ := take1_swap h h2
  exact ⟨r', pick_iff.2 ⟨t, h1, h4, fun j hj => take1_swap_none h (h3 j hj)⟩, h5⟩
theorem pick_swap_none {l m : List Ev} (h : Sw l m) (hn : pick l = none) : pick m = none := by
  cases hm : pick m with
  | none => rfl
  | some er =>
    obtain ⟨r', h1, _⟩ := pick_swap h.symm (e := er.1) (r := er.2) hm
    rw [hn] at h1; cases h1
theorem pick_some {l : List Ev} (hf : Fit l) (hl : l ≠ []) : ∃ e r, pick l = some (e, r) := by
  cases l with
  | nil => exact absurd rfl hl
  | cons x l =>
    have hx := hf x (List.mem_cons_self ..)
    obtain ⟨t, ht⟩ := Int.eq_ofNat_of_zero_le hx.1
    cases hp : pick (x :: l) with
    | some er => exact ⟨er.1, er.2, rfl⟩
    | none =>
      unfold pick at hp
      rw [List.findSome?_eq_none_iff] at hp
      have := hp t (List.mem_range.2 (by omega))
      rw [take1_hit ht] at this
      cases this
theorem pick_form {l : List Ev} {e : Ev} {r : List Ev} (h : pick l = some (e, r)) : ∃ p q, l = p ++ e :: q ∧ r = p ++ q ∧ ∀ x ∈ p, dep x e = false := by
  obtain ⟨_, _, h1, _⟩ := pick_iff.1 h
  exact (take1_form h1).2
def least : Nat → List Ev → List Ev
  | 0, _ => []
  | n + 1, l => match pick l with
    | none => []
    | some (e, r) => e :: least n r
theorem least_cons {n : Nat} {l : List Ev} {e : Ev} {r : List Ev} (h : pick l = some (e, r)) : least (n + 1) l = e :: least n r := by rw [least, h]
theorem least_swap : ∀ {n : Nat} {l m : List Ev}, Sw l m → least n l = least n m
  | 0, _, _, _ => rfl
  | n + 1, l, m, h => by
    cases hp : pick l with
    | none => rw [least, least, hp, pick_swap_none h hp]
    | some er =>
      obtain ⟨r', h1, h2⟩ := pick_swap h (e := er.1) (r := er.2) hp
      rw [least_cons (e := er.1) (r := er.2) hp, least_cons h1]
      rcases h2 with h2 | h2
      · rw [h2]
      · rw [least_swap h2]
def leastL (l : List Ev) : List Ev := least l.length l
theorem pick_len {l : List Ev} {e : Ev} {r : List Ev} (h : pick l = some (e, r)) : l.length = r.length + 1 := by
  obtain ⟨p, q, rfl, rfl, _⟩ := pick_form h
  simp; omega
theorem pick_fit {l : List Ev} {e : Ev} {r : List Ev} (h : pick l = some (e, r)) (hf : Fit l) : Fit r := by
  obtain ⟨p, q, rfl, rfl, _⟩ := pick_form h
  exact fun x hx => hf x (by
    rcases List.mem_append.1 hx with hx | hx
    · exact List.mem_append.2 (.inl hx)
    · exact List.mem_append.2 (.inr (List.mem_cons_of_mem _ hx)))
theorem least_eqv : ∀ {n : Nat} {l : List Ev}, Fit l → l.length = n → Eqv l (least n l)
  | 0, l, _, hn => by obtain rfl := List.eq_nil_of_length_eq_zero hn; exact .refl _
  | n + 1, l, hf, hn => by
    obtain ⟨e, r, hp⟩ := pick_some hf (fun g => by subst g; simp at hn)
    rw [least_cons hp]
    have hr := pick_fit hp hf
    have hl := pick_len hp
    obtain ⟨p, q, rfl, rfl, hd⟩ := pick_form hp
    exact (eqv_front hd).trans ((least_eqv (n := n) hr (by omega)).cons e)
theorem leastL_eqv {l : List Ev} (hf : Fit l) : Eqv l (leastL l) := least_eqv hf rfl
theorem eqv_least {l m : List Ev} (h : Eqv l m) : leastL l = leastL m := by
  induction h with
  | refl => rfl
  | step _ s ih => rw [ih]; unfold leastL; rw [s.length]; exact least_swap s
theorem eqv_iff {l m : List Ev} (hl : Fit l) (hm : Fit m) : Eqv l m ↔ leastL l = leastL m :=
  ⟨eqv_least, fun h => (leastL_eqv hl).trans (h ▸ (leastL_eqv hm).symm)⟩
theorem leastL_len {l : List Ev} (hf : Fit l) : (leastL l).length = l.length := (leastL_eqv hf).length.symm
theorem leastL_may {l : List Ev} (h : may l = 0) : may (leastL l) = 0 := (leastL_eqv (may_fit h)).may h

end Go.Proofs.Yticnponenkfneaa
namespace Go.Proofs.Yticnponenkfneaa
open Go Go.RowKit

def tr (i k : Nat) : Nat := if k = i then i + 1 else if k = i + 1 then i else k
theorem tr_tr (i k : Nat) : tr i (tr i k) = k := by
  unfold tr
  by_cases h1 : k = i
  · rw [if_pos h1, if_neg (by omega), if_pos rfl, h1]
  · rw [if_neg h1]
    by_cases h2 : k = i + 1
    · rw [if_pos h2, if_pos rfl, h2]
    · rw [if_neg h2, if_neg h1, if_neg h2]
theorem tr_inj {i x y : Nat} (h : tr i x = tr i y) : x = y := by rw [← tr_tr i x, h, tr_tr]
theorem tr_lt {i x y : Nat} (h : x < y) (hn : ¬ (x = i ∧ y = i + 1)) : tr i x < tr i y := by
  unfold tr
  repeat' split
  all_goals omega
structure SwAt (i : Nat) (l m : List Ev) : Prop where
  at_ : ∃ p a b q, p.length = i ∧ l = p ++ a :: b :: q ∧ m = p ++ b :: a :: q ∧ dep a b = false
theorem SwAt.sw {i : Nat} {l m : List Ev} (h : SwAt i l m) : Sw l m := by
  obtain ⟨p, a, b, q, _, rfl, rfl, hd⟩ := h.at_
  exact Sw.at_ hd p q
theorem SwAt.symm {i : Nat} {l m : List Ev} (h : SwAt i l m) : SwAt i m l := by
  obtain ⟨p, a, b, q, h1, h2, h3, hd⟩ := h.at_
  exact ⟨p, b, a, q, h1, h3, h2, by rw [dep_symm]; exact hd⟩
theorem SwAt.lt {i : Nat} {l m : List Ev} (h : SwAt i l m) : i + 1 < l.length := by
  obtain ⟨p, a, b, q, h1, rfl, _, _⟩ := h.at_
  simp; omega
theorem SwAt.get {i : Nat} {l m : List Ev} (h : SwAt i l m) (k : Nat) : m[tr i k]? = l[k]? := by
  obtain ⟨p, a, b, q, h1, rfl, rfl, _⟩ := h.at_
  subst h1
  unfold tr
  by_cases h1 : k = p.length
  · subst h1
    rw [if_pos rfl, List.getElem?_append_right (by omega), List.getElem?_append_right (by omega)]
    simp
  · rw [if_neg h1]
    by_cases h2 : k = p.length + 1
    · subst h2
      rw [if_pos rfl, List.getElem?_append_right (by omega), List.getElem?_append_right (by omega)]
      simp
    · rw [if_neg h2]
      by_cases h3 : k < p.length
      · rw [List.getElem?_append_left h3, List.getElem?_append_left h3]
      · rw [List.getElem?_append_right (by omega), List.getElem?_append_right (by omega)]
        obtain ⟨d, hd⟩ := Nat.exists_eq_add_of_le (show p.length + 2 ≤ k by omega)
        have : k - p.length = d + 2 := by omega
        rw [this]
        simp
theorem SwAt.dep {i : Nat} {l m : List Ev} (h : SwAt i l m) {a b : Ev} (ha : l[i]? = some a) (hb : l[i + 1]? = some b) : dep a b = false := by
  obtain ⟨p, a', b', q, h1, rfl, rfl, hd⟩ := h.at_
  subst h1
  rw [List.getElem?_append_right (by omega)] at ha hb
  simp at ha hb
  subst ha; subst hb
  exact hd
theorem SwAt.dir {i : Nat} {l m : List Ev} (h : SwAt i l m) {x y : Nat} (hx : dirB l x y = true) : dirB m (tr i x) (tr i y) = true := by
  obtain ⟨a, b, ha, hb, hlt, hd⟩ := dirB_iff.1 hx
  refine dirB_iff.2 ⟨a, b, by rw [h.get]; exact ha, by rw [h.get]; exact hb, tr_lt hlt fun ⟨e1, e2⟩ => ?_, hd⟩
  subst e1; subst e2
  have := directly_dep hd
  rw [h.dep ha hb] at this
  cases this
theorem SwAt.bef1 {i : Nat} {l m : List Ev} (h : SwAt i l m) : ∀ (n x y : Nat), l.length - x ≤ n → bef l x y = true → bef m (tr i x) (tr i y) = true
  | 0, x, y, hn, hb => by have := bef_lt hb; omega
  | n + 1, x, y, hn, hb => by
    rcases bef_step hb with hd | ⟨z, hd, hz⟩
    · exact dir_bef (h.dir hd)
    · have := dirB_lt hd
      exact bef_trans (dir_bef (h.dir hd)) (h.bef1 n z y (by omega) hz)
theorem SwAt.bef {i : Nat} {l m : List Ev} (h : SwAt i l m) (x y : Nat) : bef m (tr i x) (tr i y) = bef l x y := by
  rw [Bool.eq_iff_iff]
  constructor
  · intro hb
    have := h.symm.bef1 _ _ _ (Nat.le_refl _) hb
    rwa [tr_tr, tr_tr] at this
  · exact h.bef1 _ _ _ (Nat.le_refl _)
theorem SwAt.evZ {i : Nat} {l m : List Ev} (h : SwAt i l m) (k : Nat) : evZ m (tr i k) = evZ l k := by unfold Proofs.Yticnponenkfneaa.evZ; rw [h.get]
theorem SwAt.rac1 {i : Nat} {l m : List Ev} (h : SwAt i l m) {x y : Nat} (hy : y < l.length) (hr : racB l x y = true) : racB m (tr i x) (tr i y) = true := by
  unfold racB at hr ⊢
  rw [h.evZ, h.evZ, h.bef]
  simp only [Bool.and_eq_true, decide_eq_true_iff] at hr ⊢
  refine ⟨tr_lt hr.1 fun ⟨e1, e2⟩ => ?_, hr.2⟩
  subst e1; subst e2
  have h1 := conf_dep hr.2.1
  have h9 := h.lt
  have ha : l[x]? = some (Proofs.Yticnponenkfneaa.evZ l x) := by unfold Proofs.Yticnponenkfneaa.evZ; rw [List.getElem?_eq_getElem (by omega)]; rfl
  have hb : l[x + 1]? = some (Proofs.Yticnponenkfneaa.evZ l (x + 1)) := by unfold Proofs.Yticnponenkfneaa.evZ; rw [List.getElem?_eq_getElem (by omega)]; rfl
  rw [h.dep ha hb] at h1
  cases h1
theorem SwAt.tr_len {i : Nat} {l m : List Ev} (h : SwAt i l m) {k : Nat} (hk : k < l.length) : tr i k < m.length := by
  have h1 := h.lt
  have h2 := h.sw.length
  unfold tr
  repeat' split
  all_goals omega
theorem SwAt.rac {i : Nat} {l m : List Ev} (h : SwAt i l m) {x y : Nat} (hy : y < l.length) : racB m (tr i x) (tr i y) = racB l x y := by
  rw [Bool.eq_iff_iff]
  constructor
  · intro hr
    have := h.symm.rac1 (h.tr_len hy) hr
    rwa [tr_tr, tr_tr] at this
  · exact h.rac1 hy
def trp (i : Nat) (p : Nat × Nat) : Nat × Nat := (tr i p.1, tr i p.2)
theorem trp_len {i n : Nat} {R S : Nat → Nat → Bool} (hn : i + 1 < n) (h : ∀ x y, x < n → y < n → R x y = true → S (tr i x) (tr i y) = true) : (prsA R n).length ≤ (prsA S n).length := by
  have hnd : ((prsA R n).map (trp i)).Nodup := by
    rw [List.nodup_iff_pairwise_ne, List.pairwise_map]
    refine List.Pairwise.imp (fun {a b} hab he => hab ?_) (prsA_nodup R n)
    have h1 := congrArg Prod.fst he
    have h2 := congrArg Prod.snd he
    exact Prod.ext (tr_inj h1) (tr_inj h2)
  have hlt : ∀ k, k < n → tr i k < n := fun k hk => by
    unfold tr
    repeat' split
    all_goals omega
  have := List.Nodup.length_le_of_subset hnd (l₂ := prsA S n) fun p hp => by
    obtain ⟨⟨x, y⟩, hx, rfl⟩ := List.mem_map.1 hp
    obtain ⟨h1, h2, h3⟩ := mem_prsA.1 hx
    exact mem_prsA.2 ⟨hlt _ h1, hlt _ h2, h x y h1 h2 h3⟩
  rwa [List.length_map] at this
theorem SwAt.rac_len {i : Nat} {l m : List Ev} (h : SwAt i l m) : (rcsA m).length = (rcsA l).length := by
  have hl := h.sw.length
  unfold rcsA
  rw [List.length_map, List.length_map]
  apply Nat.le_antisymm
  · rw [← hl]
    exact trp_len h.lt fun x y _ hy hr => by rw [h.symm.rac (by rw [← hl]; exact hy)]; exact hr
  · rw [← hl]
    exact trp_len h.lt fun x y _ hy hr => by rw [h.rac hy]; exact hr
end Go.Proofs.Yticnponenkfneaa
namespace Go.Proofs.Yticnponenkfneaa
open Go Go.RowKit

def cntT (l : List Ev) (t : Int) : Nat := (l.filter fun e => e.t == t).length
theorem cntT_append (l m : List Ev) (t : Int) : cntT (l ++ m) t = cntT l t + cntT m t := by unfold cntT; rw [List.filter_append, List.length_append]
theorem cntT_one (e : Ev) (t : Int) : cntT [e] t = if e.t = t then 1 else 0 := by
  unfold cntT
  by_cases h : e.t = t <;> simp [h]
theorem cntT_cons (e : Ev) (l : List Ev) (t : Int) : cntT (e :: l) t = (if e.t = t then 1 else 0) + cntT l t := by
  rw [← cntT_one, ← cntT_append]; rfl
def nameN (l : List Ev) (k : Nat) : Nat × Nat := ((evZ l k).t.toNat, cntT (l.take k) (evZ l k).t)
theorem SwAt.name {i : Nat} {l m : List Ev} (h : SwAt i l m) (k : Nat) : nameN m (tr i k) = nameN l k := by
  unfold nameN
  rw [h.evZ]
  congr 1
  obtain ⟨p, a, b, q, rfl, rfl, rfl, hd⟩ := h.at_
  have hne := dep_thread hd
  unfold tr
  by_cases h1 : k = p.length
  · subst h1
    have e1 : Proofs.Yticnponenkfneaa.evZ (p ++ a :: b :: q) p.length = a := evZ_at (by simp)
    rw [if_pos rfl, e1]
    have e2 : (p ++ b :: a :: q).take (p.length + 1) = p ++ [b] := by rw [List.take_length_add_append]; rfl
    have e3 : (p ++ a :: b :: q).take p.length = p := by simp
    rw [e2, e3, cntT_append, cntT_one, if_neg (Ne.symm hne)]
    rfl
  · rw [if_neg h1]
    by_cases h2 : k = p.length + 1
    · subst h2
      have e1 : Proofs.Yticnponenkfneaa.evZ (p ++ a :: b :: q) (p.length + 1) = b := evZ_at (by simp)
      rw [if_pos rfl, e1]
      have e2 : (p ++ a :: b :: q).take (p.length + 1) = p ++ [a] := by rw [List.take_length_add_append]; rfl
      have e3 : (p ++ b :: a :: q).take p.length = p := by simp
      rw [e2, e3, cntT_append, cntT_one, if_neg hne]
      rfl
    · rw [if_neg h2]
      by_cases h3 : k < p.length
      · rw [List.take_append_of_le_length (by omega), List.take_append_of_le_length (by omega)]
      · obtain ⟨d, rfl⟩ : ∃ d, k = p.length + (d + 2) := ⟨k - p.length - 2, by omega⟩
        have e2 : ∀ x y : Ev, (p ++ x :: y :: q).take (p.length + (d + 2)) = p ++ x :: y :: q.take d := fun x y => by
          rw [List.take_length_add_append]; rfl
        rw [e2, e2, cntT_append, cntT_append, cntT_cons, cntT_cons, cntT_cons, cntT_cons]
        omega
def rk (l : List Ev) : List ((Nat × Nat) × (Nat × Nat)) := (rcs l).map fun r => (nameN l r.a, nameN l r.b)
theorem rcs_step {i : Nat} {l r : List Ev} (h : SwAt i l r) {x : Rc} (hx : x ∈ rcsA l) : (⟨tr i x.a, tr i x.b, x.v, x.k⟩ : Rc) ∈ rcsA r := by
  unfold rcsA at hx
  obtain ⟨⟨a, b⟩, hp, rfl⟩ := List.mem_map.1 hx
  obtain ⟨h1, h2, h3⟩ := mem_prsA.1 hp
  refine List.mem_map.2 ⟨(tr i a, tr i b), mem_prsA.2 ⟨h.tr_len h1, h.tr_len h2, ?_⟩, ?_⟩
  · show racB r (tr i a) (tr i b) = true
    rw [h.rac h2]; exact h3
  · unfold rcOf
    simp only [h.evZ]
theorem rk_step {i : Nat} {l m : List Ev} (h : SwAt i l m) (hm : may l = 0) {k : (Nat × Nat) × (Nat × Nat)} (hk : k ∈ rk l) : k ∈ rk m := by
  unfold rk at *
  rw [rcs_ok hm] at hk
  rw [rcs_ok (h.sw.may hm)]
  obtain ⟨r, hr, rfl⟩ := List.mem_map.1 hk
  exact List.mem_map.2 ⟨_, rcs_step h hr, by rw [h.name, h.name]⟩
theorem rk_len {i : Nat} {l m : List Ev} (h : SwAt i l m) (hm : may l = 0) : (rk m).length = (rk l).length := by
  unfold rk
  rw [List.length_map, List.length_map, rcs_ok hm, rcs_ok (h.sw.may hm), h.rac_len]
theorem rk_eqv {l m : List Ev} (h : Eqv l m) (hm : may l = 0) : (∀ k, k ∈ rk l → k ∈ rk m) ∧ (rk m).length = (rk l).length := by
  induction h with
  | refl => exact ⟨fun _ h => h, rfl⟩
  | step h1 h2 ih =>
    obtain ⟨p, a, b, q, e1, e2, hd⟩ := h2.form
    have hat : SwAt p.length _ _ := ⟨p, a, b, q, rfl, e1, e2, hd⟩
    have hm' := h1.may hm
    exact ⟨fun k hk => rk_step hat hm' (ih.1 k hk), (rk_len hat hm').trans ih.2⟩
end Go.Proofs.Yticnponenkfneaa
namespace Go.Proofs.Yticnponenkfneaa
open Go Go.RowKit

end Go.Proofs.Yticnponenkfneaa
namespace Go.Proofs.Yticnponenkfneaa
open Go Go.RowKit

end Go.Proofs.Yticnponenkfneaa
namespace Go.Proofs.Yticnponenkfneaa
open Go Go.RowKit

end Go.Proofs.Yticnponenkfneaa
namespace Go.Proofs.Yticnponenkfneaa
open Go Go.RowKit

end Go.Proofs.Yticnponenkfneaa

import Derived.Test.YtjddahidkodieaaZEr
import Derived.Test.YtjddahidkodieaaZPg
set_option linter.all false
set_option maxRecDepth 100000
namespace Go.Proofs.Ytjddahidkodieaa
open Go Go.RowKit

def take1 (t : Int) : List Ev → Option (Ev × List Ev)
  | [] => none
  | x :: r => if x.t = t then some (x, r) else match take1 t r with
    | none => none
    | some (e, q) => if dep x e = true then none else some (e, x :: q)
theorem take1_hit {t : Int} {x : Ev} (h : x.t = t) (r : List Ev) : take1 t (x :: r) = some (x, r) := by rw [take1, if_pos h]
theorem take1_none {t : Int} {x : Ev} {r : List Ev} (h : ¬ x.t = t) (hr : take1 t r = none) : take1 t (x :: r) = none := by rw [take1, if_neg h, hr]
theorem take1_dep {t : Int} {x e : Ev} {r q : List Ev} (h : ¬ x.t = t) (hr : take1 t r = some (e, q)) (hd : dep x e = true) : take1 t (x :: r) = none := by rw [take1, if_neg h, hr]; exact if_pos hd
theorem take1_go {t : Int} {x e : Ev} {r q : List Ev} (h : ¬ x.t = t) (hr : take1 t r = some (e, q)) (hd : dep x e = false) : take1 t (x :: r) = some (e, x :: q) := by rw [take1, if_neg h, hr]; exact if_neg (by rw [hd]; simp)
theorem take1_form {t : Int} : ∀ {l : List Ev} {e : Ev} {r : List Ev}, take1 t l = some (e, r) → e.t = t ∧ ∃ p q, l = p ++ e :: q ∧ r = p ++ q ∧ ∀ x ∈ p, dep x e = false
  | [], _, _, h => by cases h
  | x :: l, e, r, h => by
    by_cases hx : x.t = t
    · rw [take1_hit hx] at h
      cases h
      exact ⟨hx, [], l, rfl, rfl, fun _ g => by cases g⟩
    · cases hr : take1 t l with
      | none => rw [take1_none hx hr] at h; cases h
      | some er =>
        obtain ⟨e', q⟩ := er
        cases hd : dep x e'
        · rw [take1_go hx hr hd] at h
          cases h
          obtain ⟨h1, p, q', rfl, rfl, h2⟩ := take1_form hr
          refine ⟨h1, x :: p, q', rfl, rfl, fun y hy => ?_⟩
          rcases List.mem_cons.1 hy with rfl | hy
          · exact hd
          · exact h2 y hy
        · rw [take1_dep hx hr hd] at h; cases h
theorem take1_at {t : Int} {e : Ev} {q : List Ev} (ht : e.t = t) : ∀ {p : List Ev}, (∀ x ∈ p, dep x e = false) → take1 t (p ++ e :: q) = some (e, p ++ q)
  | [], _ => take1_hit ht _
  | x :: p, h => take1_go (fun g => dep_thread (h x (List.mem_cons_self ..)) (g.trans ht.symm)) (take1_at ht (p := p) fun y hy => h y (List.mem_cons_of_mem _ hy)) (h x (List.mem_cons_self ..))
theorem take1_swap {t : Int} {l m : List Ev} (h : Sw l m) : ∀ {e : Ev} {r : List Ev}, take1 t l = some (e, r) → ∃ r', take1 t m = some (e, r') ∧ (r = r' ∨ Sw r r') := by
  induction h with
  | @here a b q hd =>
    intro e r hl
    have hd' : dep b a = false := by rw [dep_symm]; exact hd
    have hne := dep_thread hd
    by_cases ha : a.t = t
    · rw [take1_hit ha] at hl
      cases hl
      exact ⟨_, take1_go (fun g => hne (ha.trans g.symm)) (take1_hit ha _) hd', .inl rfl⟩
    · by_cases hb : b.t = t
      · rw [take1_go ha (take1_hit hb _) hd] at hl
        cases hl
        exact ⟨_, take1_hit hb _, .inl rfl⟩
      · cases hq : take1 t q with
        | none => rw [take1_none ha (take1_none hb hq)] at hl; cases hl
        | some er =>
          obtain ⟨e', q'⟩ := er
          cases h1 : dep b e'
          · cases h2 : dep a e'
            · rw [take1_go ha (take1_go hb hq h1) h2] at hl
              cases hl
              exact ⟨_, take1_go hb (take1_go ha hq h2) h1, .inr (.here _ hd)⟩
            · rw [take1_dep ha (take1_go hb hq h1) h2] at hl; cases hl
          · rw [take1_none ha (take1_dep hb hq h1)] at hl; cases hl
  | @there l m x hs ih =>
    intro e r hl
    by_cases hx : x.t = t
    · rw [take1_hit hx] at hl
      cases hl
      exact ⟨_, take1_hit hx _, .inr hs⟩
    · cases hr : take1 t l with
      | none => rw [take1_none hx hr] at hl; cases hl
      | some er =>
        obtain ⟨e', q⟩ := er
        cases hd : dep x e'
        · rw [take1_go hx hr hd] at hl
          cases hl
          obtain ⟨r', h1, h2⟩ := ih hr
          exact ⟨_, take1_go hx h1 hd, h2.imp (fun g => by rw [g]) fun g => .there x g⟩
        · rw [take1_dep hx hr hd] at hl; cases hl
theorem take1_swap_none {t : Int} {l m : List Ev} (h : Sw l m) (hn : take1 t l = none) : take1 t m = none := by
  cases hm : take1 t m with
  | none => rfl
  | some er =>
    obtain ⟨r', h1, _⟩ := take1_swap h.symm (e := er.1) (r := er.2) hm
    rw [hn] at h1; cases h1
def pick (l : List Ev) : Option (Ev × List Ev) := (List.range 6).findSome? fun (t : Nat) => take1 t l
theorem some_range {α : Type} {g : Nat → Option α} {n k : Nat} {r : α} (hk : k < n) (h : ∀ j, j < k → g j = none) (hr : g k = some r) : (List.range n).findSome? g = some r := by
  induction n with
  | zero => omega
  | succ n ih =>
    rw [List.range_succ, List.findSome?_append]
    by_cases h9 : k < n
    · rw [ih h9]; rfl
    · obtain rfl : k = n := by omega
      have : (List.range k).findSome? g = none := by
        rw [List.findSome?_eq_none_iff]
        intro j hj
        exact h j (List.mem_range.1 hj)
      rw [this]
      simp [hr]
theorem range_some {α : Type} {g : Nat → Option α} {n : Nat} {r : α} (h : (List.range n).findSome? g = some r) : ∃ k, k < n ∧ g k = some r ∧ ∀ j, j < k → g j = none := by
  induction n with
  | zero => simp at h
  | succ n ih =>
    rw [List.range_succ, List.findSome?_append] at h
    cases h9 : (List.range n).findSome? g with
    | some y =>
      rw [h9] at h
      obtain ⟨k, h1, h2, h3⟩ := ih (by rw [h9]; simpa using h)
      exact ⟨k, by omega, h2, h3⟩
    | none =>
      rw [h9] at h
      rw [List.findSome?_eq_none_iff] at h9
      exact ⟨n, by omega, by simpa using h, fun j hj => h9 j (List.mem_range.2 hj)⟩
theorem pick_iff {l : List Ev} {e : Ev} {r : List Ev} : pick l = some (e, r) ↔ ∃ t : Nat, t < 6 ∧ take1 t l = some (e, r) ∧ ∀ j : Nat, j < t → take1 j l = none :=
  ⟨fun h => range_some h, fun ⟨_, h1, h2, h3⟩ => some_range h1 h3 h2⟩
theorem pick_swap {l m : List Ev} (h : Sw l m) {e : Ev} {r : List Ev} (hl : pick l = some (e, r)) : ∃ r', pick m = some (e, r') ∧ (r = r' ∨ Sw r r') := by
  obtain ⟨t, h1, h2, h3⟩ := pick_iff.1 hl
  obtain ⟨r', h4, h5⟩ := take1_swap h h2
  exact ⟨r', pick_iff.2 ⟨t, h1, h4, fun j hj => take1_swap_none h (h3 j hj)⟩, h5⟩
theorem pick_swap_none {l m : List Ev} (h : Sw l m) (hn : pick l = none) : pick m = none := by
  cases hm : pick m with
  | none => rfl
  | some er =>
    obtain ⟨r', h1, _⟩ := pick_swap h.symm (e := er.1) (r := er.2) hm
    rw [hn] at h1; cases h1
theorem pick_some {l : List Ev} (hf : Fit l) (hl : l ≠ []) : ∃ e r, pick l = some (e, r) := by
  cases l with
  | nil => exact absurd rfl hl
  | cons x l =>
    have hx := hf x (List.mem_cons_self ..)
    obtain ⟨t, ht⟩ := Int.eq_ofNat_of_zero_le hx.1
    cases hp : pick (x :: l) with
    | some er => exact ⟨er.1, er.2, rfl⟩
    | none =>
      unfold pick at hp
      rw [List.findSome?_eq_none_iff] at hp
      have := hp t (List.mem_range.2 (by omega))
      rw [take1_hit ht] at this
      cases this
theorem pick_form {l : List Ev} {e : Ev} {r : List Ev} (h : pick l = some (e, r)) : ∃ p q, l = p ++ e :: q ∧ r = p ++ q ∧ ∀ x ∈ p, dep x e = false := by
  obtain ⟨_, _, h1, _⟩ := pick_iff.1 h
  exact (take1_form h1).2
def least : Nat → List Ev → List Ev
  | 0, _ => []
  | n + 1, l => match pick l with
    | none => []
    | some (e, r) => e :: least n r
theorem least_cons {n : Nat} {l : List Ev} {e : Ev} {r : List Ev} (h : pick l = some (e, r)) : least (n + 1) l = e :: least n r := by rw [least, h]
theorem least_swap : ∀ {n : Nat} {l m : List Ev}, Sw l m → least n l = least n m
  | 0, _, _, _ => rfl
  | n + 1, l, m, h => by
    cases hp : pick l with
    | none => rw [least, least, hp, pick_swap_none h hp]
    | some er =>
      obtain ⟨r', h1, h2⟩ := pick_swap h (e := er.1) (r := er.2) hp
      rw [least_cons (e := er.1) (r := er.2) hp, least_cons h1]
      rcases h2 with h2 | h2
      · rw [h2]
      · rw [least_swap h2]
def leastL (l : List Ev) : List Ev := least l.length l
theorem pick_len {l : List Ev} {e : Ev} {r : List Ev} (h : pick l = some (e, r)) : l.length = r.length + 1 := by
  obtain ⟨p, q, rfl, rfl, _⟩ := pick_form h
  simp; omega
theorem pick_fit {l : List Ev} {e : Ev} {r : List Ev} (h : pick l = some (e, r)) (hf : Fit l) : Fit r := by
  obtain ⟨p, q, rfl, rfl, _⟩ := pick_form h
  exact fun x hx => hf x (by
    rcases List.mem_append.1 hx with hx | hx
    · exact List.mem_append.2 (.inl hx)
    · exact List.mem_append.2 (.inr (List.mem_cons_of_mem _ hx)))
theorem least_eqv : ∀ {n : Nat} {l : List Ev}, Fit l → l.length = n → Eqv l (least n l)
  | 0, l, _, hn => by obtain rfl := List.eq_nil_of_length_eq_zero hn; exact .refl _
  | n + 1, l, hf, hn => by
    obtain ⟨e, r, hp⟩ := pick_some hf (fun g => by subst g; simp at hn)
    rw [least_cons hp]
    have hr := pick_fit hp hf
    have hl := pick_len hp
    obtain ⟨p, q, rfl, rfl, hd⟩ := pick_form hp
    exact (eqv_front hd).trans ((least_eqv (n := n) hr (by omega)).cons e)
theorem leastL_eqv {l : List Ev} (hf : Fit l) : Eqv l (leastL l) := least_eqv hf rfl
theorem eqv_least {l m : List Ev} (h : Eqv l m) : leastL l = leastL m := by
  induction h with
  | refl => rfl
  | step _ s ih => rw [ih]; unfold leastL; rw [s.length]; exact least_swap s
theorem eqv_iff {l m : List Ev} (hl : Fit l) (hm : Fit m) : Eqv l m ↔ leastL l = leastL m :=
  ⟨eqv_least, fun h => (leastL_eqv hl).trans (h ▸ (leastL_eqv hm).symm)⟩
end Go.Proofs.Ytjddahidkodieaa
namespace Go.Proofs.Ytjddahidkodieaa
open Go Go.RowKit

def tr (i k : Nat) : Nat := if k = i then i + 1 else if k = i + 1 then i else k
theorem tr_tr (i k : Nat) : tr i (tr i k) = k := by
  unfold tr
  by_cases h1 : k = i
  · rw [if_pos h1, if_neg (by omega), if_pos rfl, h1]
  · rw [if_neg h1]
    by_cases h2 : k = i + 1
    · rw [if_pos h2, if_pos rfl, h2]
    · rw [if_neg h2, if_neg h1, if_neg h2]
theorem tr_inj {i x y : Nat} (h : tr i x = tr i y) : x = y := by rw [← tr_tr i x, h, tr_tr]
theorem tr_lt {i x y : Nat} (h : x < y) (hn : ¬ (x = i ∧ y = i + 1)) : tr i x < tr i y := by
  unfold tr
  repeat' split
  all_goals omega
structure SwAt (i : Nat) (l m : List Ev) : Prop where
  at_ : ∃ p a b q, p.length = i ∧ l = p ++ a :: b :: q ∧ m = p ++ b :: a :: q ∧ dep a b = false
theorem SwAt.sw {i : Nat} {l m : List Ev} (h : SwAt i l m) : Sw l m := by
  obtain ⟨p, a, b, q, _, rfl, rfl, hd⟩ := h.at_
  exact Sw.at_ hd p q
theorem SwAt.symm {i : Nat} {l m : List Ev} (h : SwAt i l m) : SwAt i m l := by
  obtain ⟨p, a, b, q, h1, h2, h3, hd⟩ := h.at_
  exact ⟨p, b, a, q, h1, h3, h2, by rw [dep_symm]; exact hd⟩
theorem SwAt.lt {i : Nat} {l m : List Ev} (h : SwAt i l m) : i + 1 < l.length := by
  obtain ⟨p, a, b, q, h1, rfl, _, _⟩ := h.at_
  simp; omega
theorem SwAt.get {i : Nat} {l m : List Ev} (h : SwAt i l m) (k : Nat) : m[tr i k]? = l[k]? := by
  obtain ⟨p, a, b, q, h1, rfl, rfl, _⟩ := h.at_
  subst h1
  unfold tr
  by_cases h1 : k = p.length
  · subst h1
    rw [if_pos rfl, List.getElem?_append_right (by omega), List.getElem?_append_right (by omega)]
    simp
  · rw [if_neg h1]
    by_cases h2 : k = p.length + 1
    · subst h2
      rw [if_pos rfl, List.getElem?_append_right (by omega), List.getElem?_append_right (by omega)]
      simp
    · rw [if_neg h2]
      by_cases h3 : k < p.length
      · rw [List.getElem?_append_left h3, List.getElem?_append_left h3]
      · rw [List.getElem?_append_right (by omega), List.getElem?_append_right (by omega)]
        obtain ⟨d, hd⟩ := Nat.exists_eq_add_of_le (show p.length + 2 ≤ k by omega)
        have : k - p.length = d + 2 := by omega
        rw [this]
        simp
theorem SwAt.dep {i : Nat} {l m : List Ev} (h : SwAt i l m) {a b : Ev} (ha : l[i]? = some a) (hb : l[i + 1]? = some b) : dep a b = false := by
  obtain ⟨p, a', b', q, h1, rfl, rfl, hd⟩ := h.at_
  subst h1
  rw [List.getElem?_append_right (by omega)] at ha hb
  simp at ha hb
  subst ha; subst hb
  exact hd
theorem SwAt.dir {i : Nat} {l m : List Ev} (h : SwAt i l m) {x y : Nat} (hx : dirB l x y = true) : dirB m (tr i x) (tr i y) = true := by
  obtain ⟨a, b, ha, hb, hlt, hd⟩ := dirB_iff.1 hx
  refine dirB_iff.2 ⟨a, b, by rw [h.get]; exact ha, by rw [h.get]; exact hb, tr_lt hlt fun ⟨e1, e2⟩ => ?_, hd⟩
  subst e1; subst e2
  have := directly_dep hd
  rw [h.dep ha hb] at this
  cases this
theorem SwAt.bef1 {i : Nat} {l m : List Ev} (h : SwAt i l m) : ∀ (n x y : Nat), l.length - x ≤ n → bef l x y = true → bef m (tr i x) (tr i y) = true
  | 0, x, y, hn, hb => by have := bef_lt hb; omega
  | n + 1, x, y, hn, hb => by
    rcases bef_step hb with hd | ⟨z, hd, hz⟩
    · exact dir_bef (h.dir hd)
    · have := dirB_lt hd
      exact bef_trans (dir_bef (h.dir hd)) (h.bef1 n z y (by omega) hz)
theorem SwAt.bef {i : Nat} {l m : List Ev} (h : SwAt i l m) (x y : Nat) : bef m (tr i x) (tr i y) = bef l x y := by
  rw [Bool.eq_iff_iff]
  constructor
  · intro hb
    have := h.symm.bef1 _ _ _ (Nat.le_refl _) hb
    rwa [tr_tr, tr_tr] at this
  · exact h.bef1 _ _ _ (Nat.le_refl _)
theorem SwAt.evZ {i : Nat} {l m : List Ev} (h : SwAt i l m) (k : Nat) : evZ m (tr i k) = evZ l k := by unfold Proofs.Ytjddahidkodieaa.evZ; rw [h.get]
theorem SwAt.rac1 {i : Nat} {l m : List Ev} (h : SwAt i l m) {x y : Nat} (hy : y < l.length) (hr : racB l x y = true) : racB m (tr i x) (tr i y) = true := by
  unfold racB at hr ⊢
  rw [h.evZ, h.evZ, h.bef]
  simp only [Bool.and_eq_true, decide_eq_true_iff] at hr ⊢
  refine ⟨tr_lt hr.1 fun ⟨e1, e2⟩ => ?_, hr.2⟩
  subst e1; subst e2
  have h1 := conf_dep hr.2.1
  have h9 := h.lt
  have ha : l[x]? = some (Proofs.Ytjddahidkodieaa.evZ l x) := by unfold Proofs.Ytjddahidkodieaa.evZ; rw [List.getElem?_eq_getElem (by omega)]; rfl
  have hb : l[x + 1]? = some (Proofs.Ytjddahidkodieaa.evZ l (x + 1)) := by unfold Proofs.Ytjddahidkodieaa.evZ; rw [List.getElem?_eq_getElem (by omega)]; rfl
  rw [h.dep ha hb] at h1
  cases h1
theorem SwAt.tr_len {i : Nat} {l m : List Ev} (h : SwAt i l m) {k : Nat} (hk : k < l.length) : tr i k < m.length := by
  have h1 := h.lt
  have h2 := h.sw.length
  unfold tr
  repeat' split
  all_goals omega
theorem SwAt.rac {i : Nat} {l m : List Ev} (h : SwAt i l m) {x y : Nat} (hy : y < l.length) : racB m (tr i x) (tr i y) = racB l x y := by
  rw [Bool.eq_iff_iff]
  constructor
  · intro hr
    have := h.symm.rac1 (h.tr_len hy) hr
    rwa [tr_tr, tr_tr] at this
  · exact h.rac1 hy
def trp (i : Nat) (p : Nat × Nat) : Nat × Nat := (tr i p.1, tr i p.2)
theorem trp_len {i n : Nat} {R S : Nat → Nat → Bool} (hn : i + 1 < n) (h : ∀ x y, x < n → y < n → R x y = true → S (tr i x) (tr i y) = true) : (prsA R n).length ≤ (prsA S n).length := by
  have hnd : ((prsA R n).map (trp i)).Nodup := by
    rw [List.nodup_iff_pairwise_ne, List.pairwise_map]
    refine List.Pairwise.imp (fun {a b} hab he => hab ?_) (prsA_nodup R n)
    have h1 := congrArg Prod.fst he
    have h2 := congrArg Prod.snd he
    exact Prod.ext (tr_inj h1) (tr_inj h2)
  have hlt : ∀ k, k < n → tr i k < n := fun k hk => by
    unfold tr
    repeat' split
    all_goals omega
  have := List.Nodup.length_le_of_subset hnd (l₂ := prsA S n) fun p hp => by
    obtain ⟨⟨x, y⟩, hx, rfl⟩ := List.mem_map.1 hp
    obtain ⟨h1, h2, h3⟩ := mem_prsA.1 hx
    exact mem_prsA.2 ⟨hlt _ h1, hlt _ h2, h x y h1 h2 h3⟩
  rwa [List.length_map] at this
theorem SwAt.rac_len {i : Nat} {l m : List Ev} (h : SwAt i l m) : (rcsA m).length = (rcsA l).length := by
  have hl := h.sw.length
  unfold rcsA
  rw [List.length_map, List.length_map]
  apply Nat.le_antisymm
  · rw [← hl]
    exact trp_len h.lt fun x y _ hy hr => by rw [h.symm.rac (by rw [← hl]; exact hy)]; exact hr
  · rw [← hl]
    exact trp_len h.lt fun x y _ hy hr => by rw [h.rac hy]; exact hr
end Go.Proofs.Ytjddahidkodieaa
namespace Go.Proofs.Ytjddahidkodieaa
open Go Go.RowKit

def cntT (l : List Ev) (t : Int) : Nat := (l.filter fun e => e.t == t).length
theorem cntT_append (l m : List Ev) (t : Int) : cntT (l ++ m) t = cntT l t + cntT m t := by unfold cntT; rw [List.filter_append, List.length_append]
theorem cntT_one (e : Ev) (t : Int) : cntT [e] t = if e.t = t then 1 else 0 := by
  unfold cntT
  by_cases h : e.t = t <;> simp [h]
theorem cntT_cons (e : Ev) (l : List Ev) (t : Int) : cntT (e :: l) t = (if e.t = t then 1 else 0) + cntT l t := by
  rw [← cntT_one, ← cntT_append]; rfl
def nameN (l : List Ev) (k : Nat) : Nat × Nat := ((evZ l k).t.toNat, cntT (l.take k) (evZ l k).t)
theorem SwAt.name {i : Nat} {l m : List Ev} (h : SwAt i l m) (k : Nat) : nameN m (tr i k) = nameN l k := by
  unfold nameN
  rw [h.evZ]
  congr 1
  obtain ⟨p, a, b, q, rfl, rfl, rfl, hd⟩ := h.at_
  have hne := dep_thread hd
  unfold tr
  by_cases h1 : k = p.length
  · subst h1
    have e1 : Proofs.Ytjddahidkodieaa.evZ (p ++ a :: b :: q) p.length = a := evZ_at (by simp)
    rw [if_pos rfl, e1]
    have e2 : (p ++ b :: a :: q).take (p.length + 1) = p ++ [b] := by rw [List.take_length_add_append]; rfl
    have e3 : (p ++ a :: b :: q).take p.length = p := by simp
    rw [e2, e3, cntT_append, cntT_one, if_neg (Ne.symm hne)]
    rfl
  · rw [if_neg h1]
    by_cases h2 : k = p.length + 1
    · subst h2
      have e1 : Proofs.Ytjddahidkodieaa.evZ (p ++ a :: b :: q) (p.length + 1) = b := evZ_at (by simp)
      rw [if_pos rfl, e1]
      have e2 : (p ++ a :: b :: q).take (p.length + 1) = p ++ [a] := by rw [List.take_length_add_append]; rfl
      have e3 : (p ++ b :: a :: q).take p.length = p := by simp
      rw [e2, e3, cntT_append, cntT_one, if_neg hne]
      rfl
    · rw [if_neg h2]
      by_cases h3 : k < p.length
      · rw [List.take_append_of_le_length (by omega), List.take_append_of_le_length (by omega)]
      · obtain ⟨d, rfl⟩ : ∃ d, k = p.length + (d + 2) := ⟨k - p.length - 2, by omega⟩
        have e2 : ∀ x y : Ev, (p ++ x :: y :: q).take (p.length + (d + 2)) = p ++ x :: y :: q.take d := fun x y => by
          rw [List.take_length_add_append]; rfl
        rw [e2, e2, cntT_append, cntT_append, cntT_cons, cntT_cons, cntT_cons, cntT_cons]
        omega
def rk (l : List Ev) : List ((Nat × Nat) × (Nat × Nat)) := (rcs l).map fun r => (nameN l r.a, nameN l r.b)
theorem rcs_step {i : Nat} {l r : List Ev} (h : SwAt i l r) {x : Rc} (hx : x ∈ rcsA l) : (⟨tr i x.a, tr i x.b, x.v, x.k⟩ : Rc) ∈ rcsA r := by
  unfold rcsA at hx
  obtain ⟨⟨a, b⟩, hp, rfl⟩ := List.mem_map.1 hx
  obtain ⟨h1, h2, h3⟩ := mem_prsA.1 hp
  refine List.mem_map.2 ⟨(tr i a, tr i b), mem_prsA.2 ⟨h.tr_len h1, h.tr_len h2, ?_⟩, ?_⟩
  · show racB r (tr i a) (tr i b) = true
    rw [h.rac h2]; exact h3
  · unfold rcOf
    simp only [h.evZ]
theorem rk_step {i : Nat} {l m : List Ev} (h : SwAt i l m) (hm : may l = 0) {k : (Nat × Nat) × (Nat × Nat)} (hk : k ∈ rk l) : k ∈ rk m := by
  unfold rk at *
  rw [rcs_ok hm] at hk
  rw [rcs_ok (h.sw.may hm)]
  obtain ⟨r, hr, rfl⟩ := List.mem_map.1 hk
  exact List.mem_map.2 ⟨_, rcs_step h hr, by rw [h.name, h.name]⟩
theorem rk_len {i : Nat} {l m : List Ev} (h : SwAt i l m) (hm : may l = 0) : (rk m).length = (rk l).length := by
  unfold rk
  rw [List.length_map, List.length_map, rcs_ok hm, rcs_ok (h.sw.may hm), h.rac_len]
theorem rk_eqv {l m : List Ev} (h : Eqv l m) (hm : may l = 0) : (∀ k, k ∈ rk l → k ∈ rk m) ∧ (rk m).length = (rk l).length := by
  induction h with
  | refl => exact ⟨fun _ h => h, rfl⟩
  | step h1 h2 ih =>
    obtain ⟨p, a, b, q, e1, e2, hd⟩ := h2.form
    have hat : SwAt p.length _ _ := ⟨p, a, b, q, rfl, e1, e2, hd⟩
    have hm' := h1.may hm
    exact ⟨fun k hk => rk_step hat hm' (ih.1 k hk), (rk_len hat hm').trans ih.2⟩
end Go.Proofs.Ytjddahidkodieaa
namespace Go.Proofs.Ytjddahidkodieaa
open Go Go.RowKit

end Go.Proofs.Ytjddahidkodieaa
namespace Go.Proofs.Ytjddahidkodieaa
open Go Go.RowKit

abbrev Tg : Type := Ev × Nat
def tag (l : List Ev) : List Tg := l.foldl (fun q e => q ++ [(e, cntT (q.map Prod.fst) e.t)]) []
theorem tag_map : ∀ (l : List Ev) (q : List Tg), (l.foldl (fun q e => q ++ [(e, cntT (q.map Prod.fst) e.t)]) q).map Prod.fst = q.map Prod.fst ++ l
  | [], q => by simp
  | e :: l, q => by rw [List.foldl_cons, tag_map l]; simp
theorem tag_fst (l : List Ev) : (tag l).map Prod.fst = l := by unfold tag; rw [tag_map]; rfl
theorem tag_snoc (l : List Ev) (e : Ev) : tag (l ++ [e]) = tag l ++ [(e, cntT l e.t)] := by
  have h := tag_fst l
  unfold tag at h ⊢
  rw [List.foldl_append, List.foldl_cons, List.foldl_nil, h]
theorem snoc_ind {α : Type} {C : List α → Prop} (h0 : C []) (h1 : ∀ l e, C l → C (l ++ [e])) (l : List α) : C l := by
  have key : ∀ r : List α, C r.reverse := fun r => by
    induction r with
    | nil => exact h0
    | cons e r ih => rw [List.reverse_cons]; exact h1 _ _ ih
  have := key l.reverse
  rwa [List.reverse_reverse] at this
theorem cntT_snoc (l : List Ev) (e : Ev) (t : Int) : cntT (l ++ [e]) t = cntT l t + if e.t = t then 1 else 0 := by rw [cntT_append, cntT_one]
theorem tag_lt (l : List Ev) : ∀ x ∈ tag l, x.2 < cntT l x.1.t := by
  refine snoc_ind (C := fun l => ∀ x ∈ tag l, x.2 < cntT l x.1.t) (fun x h => by cases h) (fun l e ih x hx => ?_) l
  rw [tag_snoc, List.mem_append, List.mem_singleton] at hx
  rw [cntT_snoc]
  rcases hx with hx | rfl
  · have := ih x hx; omega
  · simp
theorem tag_nodup (l : List Ev) : (tag l).Nodup := by
  refine snoc_ind (C := fun l => (tag l).Nodup) List.nodup_nil (fun l e ih => ?_) l
  rw [tag_snoc, List.nodup_append]
  refine ⟨ih, by simp, fun x hx y hy hxy => ?_⟩
  rw [List.mem_singleton] at hy
  subst hxy hy
  have := tag_lt l _ hx
  exact Nat.lt_irrefl _ this
def prT (t : Int) (l : List Ev) : List Ev := l.filter fun x => x.t == t
theorem cntT_prT (t : Int) (l : List Ev) : cntT (prT t l) t = cntT l t := by unfold cntT prT; rw [List.filter_filter]; simp
theorem tag_prT (t : Int) (l : List Ev) : (tag l).filter (fun x => x.1.t == t) = tag (prT t l) := by
  refine snoc_ind (C := fun l => (tag l).filter (fun x => x.1.t == t) = tag (prT t l)) rfl (fun l e ih => ?_) l
  rw [tag_snoc, List.filter_append, ih]
  unfold prT at ih ⊢
  rw [List.filter_append]
  by_cases he : e.t = t
  · have h1 : [e].filter (fun x => x.t == t) = [e] := by simp [he]
    have h2 : [(e, cntT l e.t)].filter (fun x : Tg => x.1.t == t) = [(e, cntT l e.t)] := by simp [he]
    rw [h1, h2, tag_snoc, he]
    have := cntT_prT t l
    unfold prT at this
    rw [this]
  · have h1 : [e].filter (fun x => x.t == t) = [] := by simp [he]
    have h2 : [(e, cntT l e.t)].filter (fun x : Tg => x.1.t == t) = [] := by simp [he]
    rw [h1, h2, List.append_nil, List.append_nil]
theorem tag_same : ∀ {u v : List Tg}, u.map Prod.fst = v.map Prod.fst → (∀ t, u.filter (fun x => x.1.t == t) = v.filter (fun x => x.1.t == t)) → u = v
  | [], [], _, _ => rfl
  | [], y :: v, h, _ => by simp at h
  | x :: u, [], h, _ => by simp at h
  | x :: u, y :: v, h, hp => by
    simp only [List.map_cons, List.cons.injEq] at h
    have h1 := hp x.1.t
    rw [List.filter_cons_of_pos (by simp), List.filter_cons_of_pos (by rw [h.1]; simp)] at h1
    obtain ⟨rfl, _⟩ := List.cons.inj h1
    rw [tag_same h.2 fun t => by
      have h2 := hp t
      by_cases ht : (x.1.t == t) = true
      · rw [List.filter_cons_of_pos (p := fun x : Tg => x.1.t == t) ht, List.filter_cons_of_pos (p := fun x : Tg => x.1.t == t) ht] at h2; exact (List.cons.inj h2).2
      · rw [List.filter_cons_of_neg (p := fun x : Tg => x.1.t == t) ht, List.filter_cons_of_neg (p := fun x : Tg => x.1.t == t) ht] at h2; exact h2]
def Bf (L : List Tg) (x y : Tg) : Prop := [x, y].Sublist L
theorem bf_filter {L : List Tg} {x y : Tg} (p : Tg → Bool) (hx : p x = true) (hy : p y = true) : Bf (L.filter p) x y ↔ Bf L x y := by
  unfold Bf
  constructor
  · exact fun h => h.trans List.filter_sublist
  · intro h
    have := h.filter p
    rwa [List.filter_cons_of_pos hx, List.filter_cons_of_pos hy, List.filter_nil] at this
theorem bf_mem {L : List Tg} {x y : Tg} (h : Bf L x y) : x ∈ L ∧ y ∈ L := ⟨h.subset (by simp), h.subset (by simp)⟩
theorem bf_split {L : List Tg} {x y : Tg} (h : Bf L x y) : ∃ a b c, L = a ++ x :: b ++ y :: c := by
  unfold Bf at h
  induction L with
  | nil => cases h
  | cons z L ih =>
    cases h with
    | cons _ h => obtain ⟨a, b, c, rfl⟩ := ih h; exact ⟨z :: a, b, c, rfl⟩
    | cons_cons _ h =>
      obtain ⟨b, c, rfl⟩ := List.append_of_mem (List.singleton_sublist.1 h)
      exact ⟨[], b, c, rfl⟩
theorem bf_of {a b c : List Tg} {x y : Tg} : Bf (a ++ x :: b ++ y :: c) x y := by
  unfold Bf
  rw [List.append_assoc]
  refine List.Sublist.trans ?_ (List.sublist_append_right a _)
  rw [List.cons_append]
  refine List.Sublist.cons_cons _ ?_
  refine List.Sublist.trans ?_ (List.sublist_append_right b _)
  exact List.singleton_sublist.2 (List.mem_cons_self ..)
theorem bf_anti {L : List Tg} (hn : L.Nodup) {x y : Tg} (h : Bf L x y) : ¬ Bf L y x := fun k => by
  obtain ⟨a, b, c, rfl⟩ := bf_split h
  have h1 : y ∉ a ∧ x ∉ b ++ y :: c := by
    rw [List.append_assoc, List.nodup_append] at hn
    obtain ⟨_, hn2, hn3⟩ := hn
    refine ⟨fun g => hn3 y g y (by simp) rfl, ?_⟩
    rw [List.cons_append, List.nodup_cons] at hn2
    exact hn2.1
  have hxy : x ≠ y := fun e => h1.2 (by rw [e]; simp)
  unfold Bf at k
  rw [List.append_assoc, List.cons_append] at k
  have key : ∀ (a : List Tg), y ∉ a → ¬ [y, x].Sublist (a ++ x :: (b ++ y :: c)) := fun a => by
    induction a with
    | nil =>
      intro _ k
      rw [List.nil_append] at k
      cases k with
      | cons _ k => exact h1.2 (k.subset (by simp))
      | cons_cons _ k => exact hxy rfl
    | cons z a ih =>
      intro hz k
      rw [List.cons_append] at k
      cases k with
      | cons _ k => exact ih (fun g => hz (List.mem_cons_of_mem _ g)) k
      | cons_cons _ k => exact hz (List.mem_cons_self ..)
  exact key a h1.1 k
theorem bf_total {L : List Tg} {x y : Tg} (hx : x ∈ L) (hy : y ∈ L) (hne : x ≠ y) : Bf L x y ∨ Bf L y x := by
  obtain ⟨a, b, rfl⟩ := List.append_of_mem hx
  rcases List.mem_append.1 hy with h | h
  · obtain ⟨c, d, rfl⟩ := List.append_of_mem h
    refine .inr ?_
    have := bf_of (a := c) (b := d) (c := b) (x := y) (y := x)
    exact this
  · rcases List.mem_cons.1 h with h | h
    · exact absurd h.symm hne
    · obtain ⟨c, d, rfl⟩ := List.append_of_mem h
      refine .inl ?_
      have := bf_of (a := a) (b := c) (c := d) (x := x) (y := y)
      rwa [List.append_assoc, List.cons_append] at this
theorem bf_trans {L : List Tg} (hn : L.Nodup) {x y z : Tg} (h : Bf L x y) (k : Bf L y z) : Bf L x z := by
  have hx := (bf_mem h).1
  have hz := (bf_mem k).2
  by_cases e : x = z
  · subst e; exact absurd k (bf_anti hn h)
  · rcases bf_total hx hz e with g | g
    · exact g
    · exfalso
      -- z before x before y before z
      obtain ⟨a, b, c, rfl⟩ := bf_split g
      have hy : y ∈ c := by
        have hyL := (bf_mem h).2
        obtain ⟨a', b', c', e'⟩ := bf_split h
        rcases List.mem_append.1 hyL with q | q
        · exfalso
          -- y ahead of x: against the order
          have : Bf (a ++ z :: b ++ x :: c) y x := by
            obtain ⟨u, v, e2⟩ := List.append_of_mem q
            rw [e2]
            exact bf_of
          exact bf_anti hn h this
        · rcases List.mem_cons.1 q with q | q
          · subst q; exact absurd h (bf_anti hn h)
          · exact q
      obtain ⟨u, v, rfl⟩ := List.append_of_mem hy
      have : Bf (a ++ z :: b ++ x :: (u ++ y :: v)) z y := by
        have := bf_of (a := a) (b := b ++ x :: u) (c := v) (x := z) (y := y)
        simpa using this
      exact bf_anti hn k this
theorem tag_eqv : ∀ {L M : List Tg}, L.Nodup → M.Nodup → (∀ x, x ∈ L ↔ x ∈ M) → (∀ x y : Tg, dep x.1 y.1 = true → Bf L x y → Bf M x y) → Eqv (L.map Prod.fst) (M.map Prod.fst)
  | [], M, _, _, hm, _ => by
    have : M = [] := by
      cases M with
      | nil => rfl
      | cons y M => exact absurd ((hm y).2 (List.mem_cons_self ..)) List.not_mem_nil
    rw [this]; exact .refl _
  | e :: L, M, hL, hM, hm, ho => by
    obtain ⟨p, q, rfl⟩ := List.append_of_mem ((hm e).1 (List.mem_cons_self ..))
    rw [List.nodup_cons] at hL
    have hM' := hM
    rw [List.nodup_append, List.nodup_cons] at hM
    obtain ⟨np, ⟨nq1, nq⟩, npq⟩ := hM
    have hind : ∀ x ∈ p.map Prod.fst, dep x e.1 = false := fun x hx => by
      obtain ⟨x', hx', rfl⟩ := List.mem_map.1 hx
      cases hd : dep x'.1 e.1
      · rfl
      · exfalso
        have hxe : x' ≠ e := fun g => npq x' hx' e (List.mem_cons_self ..) g
        have hxL : x' ∈ L := by
          rcases List.mem_cons.1 ((hm x').2 (List.mem_append.2 (.inl hx'))) with g | g
          · exact absurd g hxe
          · exact g
        have h1 : Bf (e :: L) e x' := List.Sublist.cons_cons _ (List.singleton_sublist.2 hxL)
        have h2 := ho e x' (by rw [dep_symm]; exact hd) h1
        obtain ⟨u, v, rfl⟩ := List.append_of_mem hx'
        exact bf_anti hM' h2 bf_of
    have hn2 : (p ++ q).Nodup := by
      rw [List.nodup_append]
      exact ⟨np, nq, fun x hx y hy => npq x hx y (List.mem_cons_of_mem _ hy)⟩
    have hm2 : ∀ x, x ∈ L ↔ x ∈ p ++ q := fun x => by
      have h1 := hm x
      rw [List.mem_cons, List.mem_append, List.mem_cons] at h1
      rw [List.mem_append]
      by_cases g : x = e
      · subst g
        exact ⟨fun k => absurd k hL.1, fun k => by rcases k with k | k; exact absurd rfl (npq x k x (List.mem_cons_self ..)); exact absurd k nq1⟩
      · simpa [g] using h1
    have ho2 : ∀ x y : Tg, dep x.1 y.1 = true → Bf L x y → Bf (p ++ q) x y := fun x y hd hb => by
      have h1 := ho x y hd (List.Sublist.cons _ hb)
      have hx : x ≠ e := fun g => hL.1 (g ▸ (bf_mem hb).1)
      have hy : y ≠ e := fun g => hL.1 (g ▸ (bf_mem hb).2)
      have h2 := (bf_filter (L := p ++ e :: q) (fun z => decide (z ≠ e)) (by simpa using hx) (by simpa using hy)).2 h1
      have h3 : (p ++ e :: q).filter (fun z => decide (z ≠ e)) = p ++ q := by
        rw [List.filter_append, List.filter_cons_of_neg (by simp), List.filter_eq_self.2 (fun z hz => by simpa using fun g => npq z hz e (List.mem_cons_self ..) g), List.filter_eq_self.2 (fun z hz => by simpa using fun g : z = e => nq1 (g ▸ hz))]
      rwa [h3] at h2
    have ih := tag_eqv hL.2 hn2 hm2 ho2
    rw [List.map_append] at ih
    rw [List.map_cons, List.map_append, List.map_cons]
    exact (Eqv.cons e.1 ih).trans (eqv_front hind).symm
end Go.Proofs.Ytjddahidkodieaa
namespace Go.Proofs.Ytjddahidkodieaa
open Go Go.RowKit

theorem did_take {l : List Ev} {j : Nat} {k o : Int} (h : did (l.take j) k o = true) : ∃ i e, i < j ∧ l[i]? = some e ∧ e.k = k ∧ e.o = o := by
  unfold did at h
  obtain ⟨e, he, hk⟩ := List.any_eq_true.1 h
  obtain ⟨i, hi⟩ := List.getElem?_of_mem he
  rw [List.getElem?_take] at hi
  split at hi
  · rename_i hij
    rw [decide_eq_true_iff] at hk
    exact ⟨i, e, hij, hi, hk.1, hk.2⟩
  · cases hi
theorem did_at {l : List Ev} {i j : Nat} {e : Ev} (hi : i < j) (he : l[i]? = some e) : did (l.take j) e.k e.o = true := by
  unfold did
  refine List.any_eq_true.2 ⟨e, ?_, by simp⟩
  exact List.mem_of_getElem? (by rw [List.getElem?_take, if_pos hi]; exact he)
theorem begun_of {l : List Ev} {o : Int} (h : begun l o = true) (h0 : o ≠ 0) : did l 5 o = true := by
  unfold begun at h
  rw [Bool.or_eq_true, decide_eq_true_iff] at h
  rcases h with h | h
  · exact absurd h h0
  · exact h
theorem did_begun {l : List Ev} {o : Int} (h : did l 5 o = true) : begun l o = true := by unfold begun; rw [h, Bool.or_true]
theorem right_begun {p : List Ev} {e : Ev} (h : wrong p e = 0) : begun p e.t = true ∧ did p 6 e.t = false := by
  have h0 := wrong_isEv h
  unfold wrong at h
  rw [if_neg (by rw [h0]; simp)] at h
  by_cases c1 : begun p e.t = false ∨ did p 6 e.t = true
  · rw [if_pos c1] at h; cases h
  · constructor
    · cases hq : begun p e.t
      · exact absurd (.inl hq) c1
      · rfl
    · cases hq : did p 6 e.t
      · rfl
      · exact absurd (.inr hq) c1
theorem right_fork {p : List Ev} {e : Ev} (h : wrong p e = 0) (hk : e.k = 5) : begun p e.o = false ∧ e.o ≠ 0 := by
  have h0 := wrong_isEv h
  obtain ⟨b1, b2⟩ := right_begun h
  unfold wrong at h
  rw [if_neg (by rw [h0]; simp), if_neg (by rw [b1, b2]; simp), if_neg (by omega), if_neg (by omega), if_pos hk] at h
  cases hq : begun p e.o
  · refine ⟨rfl, fun g => ?_⟩
    rw [g] at hq
    unfold begun at hq
    simp at hq
  · rw [if_pos hq] at h; cases h
theorem right_join {p : List Ev} {e : Ev} (h : wrong p e = 0) (hk : e.k = 6) : begun p e.o = true ∧ e.o ≠ e.t := by
  have h0 := wrong_isEv h
  obtain ⟨b1, b2⟩ := right_begun h
  unfold wrong at h
  rw [if_neg (by rw [h0]; simp), if_neg (by rw [b1, b2]; simp), if_neg (by omega), if_neg (by omega), if_neg (by omega), if_pos hk] at h
  by_cases c : begun p e.o = false ∨ e.o = e.t
  · rw [if_pos c] at h; cases h
  · constructor
    · cases hq : begun p e.o
      · exact absurd (.inl hq) c
      · rfl
    · exact fun g => c (.inr g)
theorem forks_first {l : List Ev} (hm : may l = 0) {i j : Nat} {u y : Ev} (hu : l[i]? = some u) (hy : l[j]? = some y) (hk : u.k = 5) (ht : y.t = u.o) : i < j := by
  obtain ⟨f1, f2⟩ := right_fork (wrong_at hm hu) hk
  have h1 := (right_begun (wrong_at hm hy)).1
  rw [ht] at h1
  obtain ⟨i', e, g1, g2, g3, g4⟩ := did_take (begun_of h1 f2)
  rcases Nat.lt_or_ge i j with h | h
  · exact h
  · have := did_begun (o := e.o) (by have := did_at (j := i) (by omega) g2; rwa [g3] at this)
    rw [g4, f1] at this; cases this
theorem join_last {l : List Ev} (hm : may l = 0) {i j : Nat} {u y : Ev} (hu : l[i]? = some u) (hy : l[j]? = some y) (hk : u.k = 6) (ht : y.t = u.o) : j < i := by
  obtain ⟨_, f2⟩ := right_join (wrong_at hm hu) hk
  rcases Nat.lt_trichotomy i j with h | h | h
  · have h1 := (right_begun (wrong_at hm hy)).2
    have := did_at h hu
    rw [hk, ← ht, h1] at this; cases this
  · subst h; rw [hu] at hy; cases hy; exact absurd ht.symm f2
  · exact h
theorem fork_one {l : List Ev} (hm : may l = 0) {i j : Nat} {u y : Ev} (hu : l[i]? = some u) (hy : l[j]? = some y) (hk : u.k = 5) (hk2 : y.k = 5) (ho : u.o = y.o) : i = j := by
  have key : ∀ {i j : Nat} {u y : Ev}, l[i]? = some u → l[j]? = some y → u.k = 5 → y.k = 5 → u.o = y.o → ¬ i < j := fun {i j u y} hu hy hk hk2 ho hij => by
    have h1 := (right_fork (wrong_at hm hy) hk2).1
    have := did_begun (o := u.o) (by have := did_at hij hu; rwa [hk] at this)
    rw [ho, h1] at this; cases this
  have h1 := key hu hy hk hk2 ho
  have h2 := key hy hu hk2 hk ho.symm
  omega
theorem fork_join {l : List Ev} (hm : may l = 0) {i j : Nat} {u y : Ev} (hu : l[i]? = some u) (hy : l[j]? = some y) (hk : u.k = 5) (hk2 : y.k = 6) (ho : u.o = y.o) : i < j := by
  have f2 := (right_fork (wrong_at hm hu) hk).2
  have h1 := (right_join (wrong_at hm hy) hk2).1
  rw [← ho] at h1
  obtain ⟨i', e, g1, g2, g3, g4⟩ := did_take (begun_of h1 f2)
  have := fork_one hm hu g2 hk g3 g4.symm
  omega
theorem tag_len (l : List Ev) : (tag l).length = l.length := by have := congrArg List.length (tag_fst l); rwa [List.length_map] at this
theorem tag_at {l : List Ev} {i : Nat} {x : Tg} (h : (tag l)[i]? = some x) : l[i]? = some x.1 := by
  have := congrArg (fun q : List Ev => q[i]?) (tag_fst l)
  simp only [List.getElem?_map, h, Option.map_some] at this
  exact this.symm
theorem tag_of {l : List Ev} {i : Nat} {e : Ev} (h : l[i]? = some e) : ∃ x, (tag l)[i]? = some x ∧ x.1 = e := by
  have hi : i < (tag l).length := by rw [tag_len]; exact (List.getElem?_eq_some_iff.1 h).1
  have h1 := List.getElem?_eq_getElem hi
  refine ⟨_, h1, ?_⟩
  have := tag_at h1
  rw [h] at this
  exact (Option.some.inj this).symm
theorem bf_at {L : List Tg} {x y : Tg} (h : Bf L x y) : ∃ i j : Nat, i < j ∧ L[i]? = some x ∧ L[j]? = some y := by
  obtain ⟨a, b, c, rfl⟩ := bf_split h
  refine ⟨a.length, a.length + 1 + b.length, by omega, ?_, ?_⟩
  · rw [List.append_assoc, List.getElem?_append_right (Nat.le_refl _)]; simp
  · rw [List.getElem?_append_right (by simp; omega)]
    simp only [List.length_append, List.length_cons]
    rw [show a.length + 1 + b.length - (a.length + (b.length + 1)) = 0 by omega]
    rfl
theorem at_bf {L : List Tg} {i j : Nat} {x y : Tg} (hij : i < j) (hx : L[i]? = some x) (hy : L[j]? = some y) : Bf L x y := by
  obtain ⟨hi, ex⟩ := List.getElem?_eq_some_iff.1 hx
  have e1 : L = L.take i ++ x :: L.drop (i + 1) := by rw [← ex, List.getElem_cons_drop, List.take_append_drop]
  have hy' : (L.drop (i + 1))[j - (i + 1)]? = some y := by rw [List.getElem?_drop, show i + 1 + (j - (i + 1)) = j by omega]; exact hy
  obtain ⟨b, c, e2⟩ := List.append_of_mem (List.mem_of_getElem? hy')
  rw [e1, e2]
  have := bf_of (a := L.take i) (b := b) (c := c) (x := x) (y := y)
  rwa [List.append_assoc, List.cons_append] at this
def acqB (o : Int) (x : Ev) : Bool := decide (x.k = 3) && decide (x.o = o)
def lckB (o : Int) (x : Ev) : Bool := decide (x.k = 3 ∨ x.k = 4) && decide (x.o = o)
def sigB (o : Int) (x : Ev) : Bool := decide (x.k = 7 ∨ x.k = 8) && decide (x.o = o)
theorem same_order {l m : List Ev} (hp : ∀ t, prT t l = prT t m) (p : Ev → Bool) (h : l.filter p = m.filter p) {x y : Tg} (hx : p x.1 = true) (hy : p y.1 = true) (hb : Bf (tag l) x y) : Bf (tag m) x y := by
  have key : (tag l).filter (fun z => p z.1) = (tag m).filter (fun z => p z.1) := by
    refine tag_same ?_ fun t => ?_
    · have e : ∀ q : List Ev, ((tag q).filter (fun z => p z.1)).map Prod.fst = q.filter p := fun q => by
        have := List.filter_map (f := Prod.fst) (p := p) (l := tag q)
        rw [tag_fst] at this
        exact this.symm
      rw [e, e, h]
    · have e : ∀ q : List Ev, ((tag q).filter (fun z => p z.1)).filter (fun x => x.1.t == t) = (tag (prT t q)).filter (fun z => p z.1) := fun q => by
        rw [← tag_prT, List.filter_filter, List.filter_filter]
        congr 1
        funext z
        exact Bool.and_comm _ _
      rw [e, e, hp]
  have h1 := (bf_filter (L := tag l) (fun z => p z.1) hx hy).2 hb
  rw [key] at h1
  exact (bf_filter (L := tag m) (fun z => p z.1) hx hy).1 h1
theorem same_thread {l m : List Ev} (hp : ∀ t, prT t l = prT t m) {x y : Tg} (h : x.1.t = y.1.t) (hb : Bf (tag l) x y) : Bf (tag m) x y := by
  have h1 := (bf_filter (L := tag l) (fun z => z.1.t == x.1.t) (by simp) (by simp [h])).2 hb
  rw [tag_prT, hp, ← tag_prT] at h1
  exact (bf_filter (L := tag m) (fun z => z.1.t == x.1.t) (by simp) (by simp [h])).1 h1
theorem same_mem {l m : List Ev} (hp : ∀ t, prT t l = prT t m) {x : Tg} (h : x ∈ tag l) : x ∈ tag m := by
  have h1 : x ∈ (tag l).filter (fun z => z.1.t == x.1.t) := List.mem_filter.2 ⟨h, by simp⟩
  rw [tag_prT, hp, ← tag_prT] at h1
  exact (List.mem_filter.1 h1).1
theorem forced {m : List Ev} (hm : may m = 0) {x y : Tg} (hx : x ∈ tag m) (hy : y ∈ tag m) (h : ∀ i j : Nat, m[i]? = some x.1 → m[j]? = some y.1 → i < j) : Bf (tag m) x y := by
  obtain ⟨i, hi⟩ := List.getElem?_of_mem hx
  obtain ⟨j, hj⟩ := List.getElem?_of_mem hy
  exact at_bf (h i j (tag_at hi) (tag_at hj)) hi hj
theorem sync_order {l m : List Ev} (hl : may l = 0) (hm : may m = 0) (hp : ∀ t, prT t l = prT t m) (hlk : ∀ o, l.filter (lckB o) = m.filter (lckB o)) (hsg : ∀ o, l.filter (sigB o) = m.filter (sigB o)) {x y : Tg} (hb : Bf (tag l) x y)
    (hd : x.1.t = y.1.t ∨ pr2 3 4 x.1 y.1 = true ∨ pr2 7 8 x.1 y.1 = true ∨ (pr2 5 6 x.1 y.1 = true ∧ x.1.k + y.1.k < 12) ∨ tch x.1 y.1 = true ∨ tch y.1 x.1 = true) : Bf (tag m) x y := by
  obtain ⟨mx, my⟩ := bf_mem hb
  have mx' := same_mem hp mx
  have my' := same_mem hp my
  obtain ⟨i, j, hij, hi, hj⟩ := bf_at hb
  have ei := tag_at hi
  have ej := tag_at hj
  rcases hd with h | h | h | ⟨h, h12⟩ | h | h
  · exact same_thread hp h hb
  · unfold pr2 at h
    simp only [Bool.and_eq_true, Bool.or_eq_true, beq_iff_eq] at h
    exact same_order hp (lckB x.1.o) (hlk _) (by unfold lckB; simp; exact h.1.1) (by unfold lckB; simp; exact ⟨h.1.2, h.2.symm⟩) hb
  · unfold pr2 at h
    simp only [Bool.and_eq_true, Bool.or_eq_true, beq_iff_eq] at h
    exact same_order hp (sigB x.1.o) (hsg _) (by unfold sigB; simp; exact h.1.1) (by unfold sigB; simp; exact ⟨h.1.2, h.2.symm⟩) hb
  · unfold pr2 at h
    simp only [Bool.and_eq_true, Bool.or_eq_true, beq_iff_eq] at h
    obtain ⟨⟨h1, h2⟩, h3⟩ := h
    rcases h1 with h1 | h1 <;> rcases h2 with h2 | h2
    · have := fork_one hl ei ej h1 h2 h3; omega
    · exact forced hm mx' my' fun a b ha hb => fork_join hm ha hb h1 h2 h3
    · have := fork_join hl ej ei h2 h1 h3.symm; omega
    · omega
  · unfold tch at h
    simp only [Bool.and_eq_true, Bool.or_eq_true, beq_iff_eq] at h
    rcases h.1 with h1 | h1
    · exact forced hm mx' my' fun a b ha hb => forks_first hm ha hb h1 h.2.symm
    · have := join_last hl ei ej h1 h.2.symm; omega
  · unfold tch at h
    simp only [Bool.and_eq_true, Bool.or_eq_true, beq_iff_eq] at h
    rcases h.1 with h1 | h1
    · have := forks_first hl ej ei h1 h.2.symm; omega
    · exact forced hm mx' my' fun a b ha hb => join_last hm hb ha h1 h.2.symm
theorem dir_sync {a b : Ev} (h : directly a b = true) : a.t = b.t ∨ pr2 3 4 a b = true ∨ pr2 7 8 a b = true ∨ (pr2 5 6 a b = true ∧ a.k + b.k < 12) ∨ tch a b = true ∨ tch b a = true := by
  unfold directly at h
  unfold pr2 tch
  simp only [Bool.or_eq_true, Bool.and_eq_true, beq_iff_eq] at h ⊢
  omega
theorem bef_order {l m : List Ev} (hl : may l = 0) (hm : may m = 0) (hp : ∀ t, prT t l = prT t m) (hlk : ∀ o, l.filter (lckB o) = m.filter (lckB o)) (hsg : ∀ o, l.filter (sigB o) = m.filter (sigB o)) :
    ∀ (k : Nat) {i j : Nat} {x y : Tg}, thr l k i j = true → (tag l)[i]? = some x → (tag l)[j]? = some y → Bf (tag m) x y
  | 0, i, j, x, y, h, hx, hy => by
    obtain ⟨a, b, h1, h2, h3, h4⟩ := dirB_iff.1 h
    have e1 := tag_at hx
    have e2 := tag_at hy
    rw [h1] at e1
    rw [h2] at e2
    cases e1; cases e2
    exact sync_order hl hm hp hlk hsg (at_bf h3 hx hy) (dir_sync h4)
  | k + 1, i, j, x, y, h, hx, hy => by
    simp only [thr, Bool.or_eq_true, Bool.and_eq_true] at h
    rcases h with h | ⟨h1, h2⟩
    · exact bef_order hl hm hp hlk hsg k h hx hy
    · have hk := (thr_lt _ h1).2
      obtain ⟨z, hz, _⟩ := tag_of (l := l) (i := k) (List.getElem?_eq_getElem hk)
      exact bf_trans (tag_nodup m) (bef_order hl hm hp hlk hsg k h1 hx hz) (bef_order hl hm hp hlk hsg k h2 hz hy)
theorem free_eqv {l m : List Ev} (hl : may l = 0) (hm : may m = 0) (hp : ∀ t, prT t l = prT t m) (hlk : ∀ o, l.filter (lckB o) = m.filter (lckB o)) (hsg : ∀ o, l.filter (sigB o) = m.filter (sigB o)) (hr : rcsA l = []) : Eqv l m := by
  have h := tag_eqv (tag_nodup l) (tag_nodup m) (fun x => ⟨same_mem hp, same_mem fun t => (hp t).symm⟩) fun x y hd hb => by
    unfold dep at hd
    simp only [Bool.or_eq_true, Bool.and_eq_true, beq_iff_eq, decide_eq_true_iff] at hd
    by_cases hc : pr2 1 2 x.1 y.1 = true ∧ 2 < x.1.k + y.1.k
    · obtain ⟨i, j, hij, hi, hj⟩ := bf_at hb
      have ei := tag_at hi
      have ej := tag_at hj
      have hconf : conf (evZ l i) (evZ l j) ≠ 0 := by
        rw [evZ_at ei, evZ_at ej]
        obtain ⟨h1, h2⟩ := hc
        unfold pr2 at h1
        simp only [Bool.and_eq_true, Bool.or_eq_true, beq_iff_eq] at h1
        unfold conf
        rw [if_neg (by omega)]
        repeat' split
        all_goals omega
      have hbf : bef l i j = true := by
        cases hq : bef l i j
        · exfalso
          have : racB l i j = true := by
            unfold racB
            simp only [Bool.and_eq_true, decide_eq_true_iff, hq]
            exact ⟨hij, hconf, rfl⟩
          exact (rc_ex.2 ⟨i, j, (List.getElem?_eq_some_iff.1 ei).1, (List.getElem?_eq_some_iff.1 ej).1, this⟩) hr
        · rfl
      exact bef_order hl hm hp hlk hsg _ hbf hi hj
    · refine sync_order hl hm hp hlk hsg hb ?_
      rcases hd with (((((h | h) | h) | h) | h) | h) | h
      · exact .inl h
      · exact absurd h hc
      · exact .inr (.inl h)
      · exact .inr (.inr (.inl h.1))
      · exact .inr (.inr (.inr (.inl h)))
      · exact .inr (.inr (.inr (.inr (.inl h))))
      · exact .inr (.inr (.inr (.inr (.inr h))))
  rwa [tag_fst, tag_fst] at h
end Go.Proofs.Ytjddahidkodieaa
namespace Go.Proofs.Ytjddahidkodieaa
open Go Go.RowKit

def expL (l : List Ev) : List Ev := l.flatMap fun a => [a, ⟨4, a.t, a.o⟩]
theorem expL_snoc (l : List Ev) (a : Ev) : expL (l ++ [a]) = expL l ++ [a, ⟨4, a.t, a.o⟩] := by unfold expL; rw [List.flatMap_append]; rfl
structure LkR (o : Int) (p : List Ev) : Prop where
  ge : -1 ≤ owner p o
  free : owner p o < 0 → p.filter (lckB o) = expL (p.filter (acqB o))
  held : 0 ≤ owner p o → p.filter (lckB o) ++ [⟨4, owner p o, o⟩] = expL (p.filter (acqB o))
theorem lk_step {o : Int} {p : List Ev} {e : Ev} (hw : wrong p e = 0) (h : LkR o p) : LkR o (p ++ [e]) := by
  have h0 := wrong_isEv hw
  have ht0 : 0 ≤ e.t := (isEv_t h0).1
  obtain ⟨b1, b2⟩ := right_begun hw
  unfold wrong at hw
  rw [if_neg (by rw [h0]; simp), if_neg (by rw [b1, b2]; simp)] at hw
  by_cases h3 : e.k = 3 ∧ e.o = o
  · rw [if_pos h3.1, h3.2] at hw
    have hf : ¬ 0 ≤ owner p o := fun g => by rw [if_pos g] at hw; cases hw
    have ho : owner (p ++ [e]) o = e.t := by rw [owner_snoc]; unfold ownB; rw [if_neg (by omega), if_pos ⟨h3.2, h3.1⟩]
    have f1 : [e].filter (lckB o) = [e] := by simp [lckB, h3.1, h3.2]
    have f2 : [e].filter (acqB o) = [e] := by simp [acqB, h3.1, h3.2]
    refine ⟨by omega, fun g => by omega, fun _ => ?_⟩
    rw [ho, List.filter_append, List.filter_append, f1, f2, expL_snoc, h.free (by omega), List.append_assoc, ← h3.2]
    rfl
  · by_cases h4 : e.k = 4 ∧ e.o = o
    · rw [if_neg (by omega), if_pos h4.1, h4.2] at hw
      have hq : owner p o = e.t := by
        by_cases g : owner p o = e.t
        · exact g
        · rw [if_neg g] at hw; cases hw
      have ho : owner (p ++ [e]) o = -1 := by rw [owner_snoc]; unfold ownB; rw [if_pos ⟨h4.2, h4.1⟩]
      have f1 : [e].filter (lckB o) = [e] := by simp [lckB, h4.1, h4.2]
      have f2 : [e].filter (acqB o) = [] := by simp [acqB, h4.1]
      have he : e = ⟨4, owner p o, o⟩ := by
        obtain ⟨k, t, q⟩ := e
        simp only at h4 hq
        rw [h4.1, h4.2, hq]
      refine ⟨by omega, fun _ => ?_, fun g => by omega⟩
      rw [List.filter_append, List.filter_append, f1, f2, List.append_nil, ← h.held (by omega), he]
    · have ho : owner (p ++ [e]) o = owner p o := by rw [owner_snoc]; unfold ownB; rw [if_neg (fun g => h4 ⟨g.2, g.1⟩), if_neg (fun g => h3 ⟨g.2, g.1⟩)]
      have f1 : [e].filter (lckB o) = [] := by
        rw [List.filter_eq_nil_iff]
        intro z hz
        rw [List.mem_singleton] at hz
        subst hz
        unfold lckB
        simp only [Bool.and_eq_true, decide_eq_true_iff]
        rintro ⟨g | g, g2⟩
        · exact h3 ⟨g, g2⟩
        · exact h4 ⟨g, g2⟩
      have f2 : [e].filter (acqB o) = [] := by
        rw [List.filter_eq_nil_iff]
        intro z hz
        rw [List.mem_singleton] at hz
        subst hz
        unfold acqB
        simp only [Bool.and_eq_true, decide_eq_true_iff]
        exact fun g => h3 g
      refine ⟨by rw [ho]; exact h.ge, fun g => ?_, fun g => ?_⟩
      · rw [List.filter_append, List.filter_append, f1, f2, List.append_nil, List.append_nil]; rw [ho] at g; exact h.free g
      · rw [List.filter_append, List.filter_append, f1, f2, List.append_nil, List.append_nil, ho]; rw [ho] at g; exact h.held g
theorem lk_all {o : Int} : ∀ {q p : List Ev}, good p q → LkR o p → LkR o (p ++ q)
  | [], p, _, h => by rw [List.append_nil]; exact h
  | e :: q, p, hg, h => by
    have := lk_all (q := q) (p := p ++ [e]) hg.2 (lk_step hg.1 h)
    rwa [List.append_assoc] at this
theorem lk_run {l : List Ev} (hm : may l = 0) (o : Int) : LkR o l := by
  have := lk_all (o := o) (may_good.1 hm).2 ⟨by rw [owner_nil]; omega, fun _ => rfl, fun g => by rw [owner_nil] at g; omega⟩
  rwa [List.nil_append] at this
theorem prj_prT (t : Nat) (l : List Ev) : prj t l = prT (t : Int) l := rfl
theorem acq_lck {l m : List Ev} (hl : may l = 0) (hm : may m = 0) (hp : ∀ t, prT t l = prT t m) (hac : ∀ o, l.filter (acqB o) = m.filter (acqB o)) (o : Int) : l.filter (lckB o) = m.filter (lckB o) := by
  have k1 := lk_run hl o
  have k2 := lk_run hm o
  have how : ∀ t : Nat, owner l o = (t : Int) ↔ owner m o = (t : Int) := fun t => by
    rw [own_prj (may_good.1 hl).2 t o, own_prj (may_good.1 hm).2 t o, prj_prT, prj_prT, hp]
  rcases Int.lt_or_le (owner l o) 0 with g | g
  · rcases Int.lt_or_le (owner m o) 0 with g2 | g2
    · rw [k1.free g, k2.free g2, hac]
    · have := (how (owner m o).toNat).2 (by omega); omega
  · have h2 := (how (owner l o).toNat).1 (by omega)
    have e : owner m o = owner l o := by omega
    have h3 := k1.held g
    have h4 := k2.held (by omega)
    rw [hac, ← h4, e] at h3
    exact List.append_cancel_right h3
def FbR (P : List (List Ev)) (s : Ps) : Prop := ∀ (t j : Nat) (o : Ev), j < s.a t → (opsP P t)[j]? = some o → o.k = 6 → o.t < P.length → begun s.L o.t = true
theorem fb_pick {P : List (List Ev)} {s : Ps} (h : FbR P s) (t : Int) : FbR P (pickP P s t) := by
  unfold pickP
  split
  · rename_i hc
    obtain ⟨_, _, o, h3, _⟩ := can_op hc.2
    rw [step_op h3]
    intro u j y hj hy hk ht
    show begun (s.L ++ evO P s t.toNat o) y.t = true
    have hj' : j < upF s.a t.toNat (s.a t.toNat + 1) u := hj
    by_cases e : u = t.toNat
    · subst e
      rw [upF_at] at hj'
      by_cases ej : j = s.a t.toNat
      · subst ej
        rw [h3] at hy
        cases hy
        by_cases hb : begun s.L o.t = true
        · exact begun_app hb
        · have hkk : kindO P s t.toNat o = 5 := by
            unfold kindO
            rw [hk]
            have : o.t < P.length ∧ begun s.L o.t = false := ⟨ht, by simpa using hb⟩
            simp [this]
          unfold evO
          rw [hkk, if_neg (by decide), begun_snoc]
          simp
      · exact begun_app (h _ j y (by omega) hy hk ht)
    · rw [upF_ne _ _ e] at hj'
      exact begun_app (h u j y hj' hy hk ht)
  · exact h
theorem fb_picks {P : List (List Ev)} : ∀ (ts : List Int) {s : Ps}, FbR P s → FbR P (ts.foldl (pickP P) s)
  | [], _, h => h
  | t :: ts, _, h => fb_picks ts (fb_pick h t)
theorem fb_run (P : List (List Ev)) (ts : List Int) : FbR P (runP P ts) := fb_picks ts fun t j o h => absurd h (Nat.not_lt_zero j)
theorem tlF_fork {F : Int → Bool} {t : Nat} (ops : List Ev) : ∀ x ∈ tlF F t ops, x.k = 5 → ∃ o ∈ ops, o.k = 6 ∧ o.t = x.o := by
  refine snoc_ind (C := fun ops => ∀ x ∈ tlF F t ops, x.k = 5 → ∃ o ∈ ops, o.k = 6 ∧ o.t = x.o) (fun x h => by cases h) (fun l e ih x hx hk => ?_) ops
  rw [tlF_snoc, List.mem_append] at hx
  rcases hx with hx | hx
  · obtain ⟨o, h1, h2⟩ := ih x hx hk
    exact ⟨o, List.mem_append.2 (.inl h1), h2⟩
  · refine ⟨e, List.mem_append.2 (.inr (List.mem_singleton.2 rfl)), ?_⟩
    unfold emt at hx
    by_cases h3 : e.k = 3
    · rw [if_pos h3] at hx; cases hx
    · rw [if_neg h3] at hx
      by_cases h5 : e.k = 5
      · rw [if_pos h5] at hx
        split at hx
        · rw [List.mem_singleton] at hx; subst hx; cases hk
        · cases hx
      · rw [if_neg h5] at hx
        by_cases h6 : e.k = 6
        · rw [if_pos h6] at hx
          split at hx
          · rw [List.mem_singleton] at hx; subst hx; exact ⟨h6, rfl⟩
          · cases hx
        · rw [if_neg h6, List.mem_singleton] at hx
          subst hx
          exfalso
          simp only at hk
          unfold kOf at hk
          repeat' split at hk
          all_goals omega
theorem done_at {P : List (List Ev)} {s : Ps} (hd : doneP P s = true) {t : Nat} (ht : t < P.length) (hb : begun s.L (t : Int) = true) : s.a t = (opsP P t).length := by
  have h := List.all_eq_true.1 hd t (List.mem_range.2 ht)
  rw [hb] at h
  simpa using h
theorem begun0' (l : List Ev) : begun l 0 = true := by unfold begun; simp
theorem forks_one {P : List (List Ev)} (hP : OkP P) {s r : Ps} (k1 : PsR P s) (k2 : PsR P r) (hd : doneP P s = true) (hf : ∀ u ∈ s.L, u.k = 5 → u ∈ r.L) (fb : FbR P s) (tl : TlR P r.L r) {i : Nat} {u : Ev} (hu : r.L[i]? = some u) (hk : u.k = 5) (hb : begun s.L u.t = true) : u ∈ s.L := by
  have m2 := k2.may hP
  have hmem := List.mem_of_getElem? hu
  have hft := may_fit m2 u hmem
  obtain ⟨f1, f2⟩ := right_fork (wrong_at m2 hu) hk
  have hut : ((u.t.toNat : Nat) : Int) = u.t := by omega
  have htl : u.t.toNat < P.length := by
    rcases Nat.lt_or_ge u.t.toNat P.length with g | g
    · exact g
    · have := k1.out u.t.toNat g; rw [hut, hb] at this; cases this
  have hin : u ∈ prj u.t.toNat r.L := List.mem_filter.2 ⟨hmem, by simp [hut]⟩
  rw [tl u.t.toNat] at hin
  obtain ⟨o, h1, h2, h3⟩ := tlF_fork _ u hin hk
  obtain ⟨j, hj⟩ := List.getElem?_of_mem (List.mem_of_mem_take h1)
  have hjl := (List.getElem?_eq_some_iff.1 hj).1
  have hdone := done_at hd htl (by rw [hut]; exact hb)
  have hob : begun r.L u.o = true := did_mem (t := u.t) (by
    have : u = ⟨5, u.t, u.o⟩ := by obtain ⟨a, b, c⟩ := u; simp only at hk; rw [hk]
    rw [← this]; exact hmem)
  have hol : u.o < P.length := by
    rcases Int.lt_or_le u.o P.length with g | g
    · exact g
    · have h5 := k2.out u.o.toNat (by omega)
      rw [show ((u.o.toNat : Nat) : Int) = u.o by omega, hob] at h5
      cases h5
  have hbo := fb u.t.toNat j o (by rw [hdone]; exact hjl) hj h2 (by rw [h3]; exact hol)
  rw [h3] at hbo
  have hdid := begun_of hbo f2
  unfold did at hdid
  obtain ⟨e, he, hek⟩ := List.any_eq_true.1 hdid
  rw [decide_eq_true_iff] at hek
  obtain ⟨i2, hi2⟩ := List.getElem?_of_mem (hf e he hek.1)
  have := fork_one m2 hi2 hu hek.1 hk hek.2
  subst this
  rw [hu] at hi2
  cases hi2
  exact he
theorem forks_back {P : List (List Ev)} (hP : OkP P) {ts us : List Int} (hd : doneP P (runP P ts) = true) (hf : ∀ u ∈ (runP P ts).L, u.k = 5 → u ∈ (runP P us).L) : ∀ (n i : Nat) (u : Ev), i ≤ n → (runP P us).L[i]? = some u → u.k = 5 → u ∈ (runP P ts).L := by
  have k1 := runP_ok hP ts
  have k2 := runP_ok hP us
  have m2 := k2.may hP
  have fb := fb_run P ts
  have tl := tl_run hP us
  intro n
  induction n with
  | zero =>
    intro i u hi hu hk
    obtain rfl : i = 0 := by omega
    have h1 := (right_begun (wrong_at m2 hu)).1
    rw [List.take_zero] at h1
    exact forks_one hP k1 k2 hd hf fb tl hu hk (by unfold begun did at h1; simp at h1; rw [h1]; exact begun0' _)
  | succ n ih =>
    intro i u hi hu hk
    have h1 := (right_begun (wrong_at m2 hu)).1
    refine forks_one hP k1 k2 hd hf fb tl hu hk ?_
    by_cases h0 : u.t = 0
    · rw [h0]; exact begun0' _
    · obtain ⟨i', e, g1, g2, g3, g4⟩ := did_take (begun_of h1 h0)
      have := ih i' e (by omega) g2 g3
      rw [← g4]
      have h9 : (⟨5, e.t, e.o⟩ : Ev) ∈ (runP P ts).L := by
        have : e = ⟨5, e.t, e.o⟩ := by obtain ⟨a, b, c⟩ := e; simp only at g3; rw [g3]
        rw [← this]; assumption
      exact did_mem h9
theorem forkF_same {l m : List Ev} (h1 : ∀ u ∈ l, u.k = 5 → u ∈ m) (h2 : ∀ u ∈ m, u.k = 5 → u ∈ l) (t : Nat) : forkF l t = forkF m t := by
  funext o
  unfold forkF
  rw [Bool.eq_iff_iff, decide_eq_true_iff, decide_eq_true_iff]
  exact ⟨fun h => h1 _ h rfl, fun h => h2 _ h rfl⟩
theorem runs_prj {P : List (List Ev)} (hP : OkP P) {ts us : List Int} (hd : doneP P (runP P ts) = true) (hd2 : doneP P (runP P us) = true) (hf : ∀ u ∈ (runP P ts).L, u.k = 5 → u ∈ (runP P us).L) (t : Int) : prT t (runP P ts).L = prT t (runP P us).L := by
  have k1 := runP_ok hP ts
  have k2 := runP_ok hP us
  have hb : ∀ u ∈ (runP P us).L, u.k = 5 → u ∈ (runP P ts).L := fun u hu hk => by
    obtain ⟨i, hi⟩ := List.getElem?_of_mem hu
    exact forks_back hP hd hf i i u (Nat.le_refl _) hi hk
  rcases Int.lt_or_le t 0 with g | g
  · have e : ∀ q : List Ev, Fit q → prT t q = [] := fun q hq => by
      unfold prT
      rw [List.filter_eq_nil_iff]
      intro x hx
      have := (hq x hx).1
      simp; omega
    rw [e _ (may_fit (k1.may hP)), e _ (may_fit (k2.may hP))]
  · obtain ⟨n, rfl⟩ := Int.eq_ofNat_of_zero_le g
    have t1 := tl_run hP ts n
    have t2 := tl_run hP us n
    have hbeg : begun (runP P ts).L (n : Int) = begun (runP P us).L (n : Int) := by
      unfold begun did
      congr 1
      rw [Bool.eq_iff_iff, List.any_eq_true, List.any_eq_true]
      constructor
      · rintro ⟨x, hx, hk⟩
        exact ⟨x, hf x hx (by rw [decide_eq_true_iff] at hk; exact hk.1), hk⟩
      · rintro ⟨x, hx, hk⟩
        exact ⟨x, hb x hx (by rw [decide_eq_true_iff] at hk; exact hk.1), hk⟩
    have ha : (runP P ts).a n = (runP P us).a n := by
      cases hq : begun (runP P ts).L (n : Int)
      · rw [k1.idle n hq, k2.idle n (by rw [← hbeg]; exact hq)]
      · rcases Nat.lt_or_ge n P.length with h | h
        · rw [done_at hd h hq, done_at hd2 h (by rw [← hbeg]; exact hq)]
        · have := k1.out n h; rw [hq] at this; cases this
    show prj n _ = prj n _
    rw [t1, t2, ha, forkF_same hf hb]
theorem top_free {P : List (List Ev)} (hP : OkP P) {ts us : List Int} (hd : doneP P (runP P ts) = true) (hd2 : doneP P (runP P us) = true) (hr : rcs (runP P ts).L = []) (hac : ∀ o, (runP P ts).L.filter (acqB o) = (runP P us).L.filter (acqB o)) (hsg : ∀ o, (runP P ts).L.filter (sigB o) = (runP P us).L.filter (sigB o))
    (hf : ∀ u ∈ (runP P ts).L, u.k = 5 → u ∈ (runP P us).L) : Eqv (runP P ts).L (runP P us).L := by
  have m1 := (runP_ok hP ts).may hP
  have m2 := (runP_ok hP us).may hP
  have hp := runs_prj hP hd hd2 hf
  exact free_eqv m1 m2 hp (acq_lck m1 m2 hp hac) hsg (by rwa [rcs_ok m1] at hr)
end Go.Proofs.Ytjddahidkodieaa

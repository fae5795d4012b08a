/- Plain facts: a swap changes nothing of what is ahead of what, nor of what races. No program in sight. -/
import Derived.Test.YtmdpegljpdjfoaaSw
set_option linter.all false
set_option maxRecDepth 100000
namespace Go.Proofs.Ytmdpegljpdjfoaa
open Go Go.RowKit

/-- Where an event stands behind the swap at i. -/
def tr (i k : Nat) : Nat := if k = i then i + 1 else if k = i + 1 then i else k
theorem tr_tr (i k : Nat) : tr i (tr i k) = k := by
  unfold tr
  by_cases h1 : k = i
  · rw [if_pos h1, if_neg (by omega), if_pos rfl, h1]
  · rw [if_neg h1]
    by_cases h2 : k = i + 1
    · rw [if_pos h2, if_pos rfl, h2]
    · rw [if_neg h2, if_neg h1, if_neg h2]
theorem tr_inj {i x y : Nat} (h : tr i x = tr i y) : x = y := by rw [← tr_tr i x, h, tr_tr]
theorem tr_lt {i x y : Nat} (h : x < y) (hn : ¬ (x = i ∧ y = i + 1)) : tr i x < tr i y := by
  unfold tr
  repeat' split
  all_goals omega
structure SwAt (i : Nat) (l m : List Ev) : Prop where
  at_ : ∃ p a b q, p.length = i ∧ l = p ++ a :: b :: q ∧ m = p ++ b :: a :: q ∧ dep a b = false
theorem SwAt.sw {i : Nat} {l m : List Ev} (h : SwAt i l m) : Sw l m := by
  obtain ⟨p, a, b, q, _, rfl, rfl, hd⟩ := h.at_
  exact Sw.at_ hd p q
theorem SwAt.symm {i : Nat} {l m : List Ev} (h : SwAt i l m) : SwAt i m l := by
  obtain ⟨p, a, b, q, h1, h2, h3, hd⟩ := h.at_
  exact ⟨p, b, a, q, h1, h3, h2, by rw [dep_symm]; exact hd⟩
theorem SwAt.lt {i : Nat} {l m : List Ev} (h : SwAt i l m) : i + 1 < l.length := by
  obtain ⟨p, a, b, q, h1, rfl, _, _⟩ := h.at_
  simp; omega
theorem SwAt.get {i : Nat} {l m : List Ev} (h : SwAt i l m) (k : Nat) : m[tr i k]? = l[k]? := by
  obtain ⟨p, a, b, q, h1, rfl, rfl, _⟩ := h.at_
  subst h1
  unfold tr
  by_cases h1 : k = p.length
  · subst h1
    rw [if_pos rfl, List.getElem?_append_right (by omega), List.getElem?_append_right (by omega)]
    simp
  · rw [if_neg h1]
    by_cases h2 : k = p.length + 1
    · subst h2
      rw [if_pos rfl, List.getElem?_append_right (by omega), List.getElem?_append_right (by omega)]
      simp
    · rw [if_neg h2]
      by_cases h3 : k < p.length
      · rw [List.getElem?_append_left h3, List.getElem?_append_left h3]
      · rw [List.getElem?_append_right (by omega), List.getElem?_append_right (by omega)]
        obtain ⟨d, hd⟩ := Nat.exists_eq_add_of_le (show p.length + 2 ≤ k by omega)
        have : k - p.length = d + 2 := by omega
        rw [this]
        simp
theorem SwAt.dep {i : Nat} {l m : List Ev} (h : SwAt i l m) {a b : Ev} (ha : l[i]? = some a) (hb : l[i + 1]? = some b) : dep a b = false := by
  obtain ⟨p, a', b', q, h1, rfl, rfl, hd⟩ := h.at_
  subst h1
  rw [List.getElem?_append_right (by omega)] at ha hb
  simp at ha hb
  subst ha; subst hb
  exact hd
theorem SwAt.dir {i : Nat} {l m : List Ev} (h : SwAt i l m) {x y : Nat} (hx : dirB l x y = true) : dirB m (tr i x) (tr i y) = true := by
  obtain ⟨a, b, ha, hb, hlt, hd⟩ := dirB_iff.1 hx
  refine dirB_iff.2 ⟨a, b, by rw [h.get]; exact ha, by rw [h.get]; exact hb, tr_lt hlt fun ⟨e1, e2⟩ => ?_, hd⟩
  subst e1; subst e2
  have := directly_dep hd
  rw [h.dep ha hb] at this
  cases this
theorem SwAt.bef1 {i : Nat} {l m : List Ev} (h : SwAt i l m) : ∀ (n x y : Nat), l.length - x ≤ n → bef l x y = true → bef m (tr i x) (tr i y) = true
  | 0, x, y, hn, hb => by have := bef_lt hb; omega
  | n + 1, x, y, hn, hb => by
    rcases bef_step hb with hd | ⟨z, hd, hz⟩
    · exact dir_bef (h.dir hd)
    · have := dirB_lt hd
      exact bef_trans (dir_bef (h.dir hd)) (h.bef1 n z y (by omega) hz)
/-- MAZURKIEWICZ, LAMPORT. -/
theorem SwAt.bef {i : Nat} {l m : List Ev} (h : SwAt i l m) (x y : Nat) : bef m (tr i x) (tr i y) = bef l x y := by
  rw [Bool.eq_iff_iff]
  constructor
  · intro hb
    have := h.symm.bef1 _ _ _ (Nat.le_refl _) hb
    rwa [tr_tr, tr_tr] at this
  · exact h.bef1 _ _ _ (Nat.le_refl _)
theorem SwAt.evZ {i : Nat} {l m : List Ev} (h : SwAt i l m) (k : Nat) : evZ m (tr i k) = evZ l k := by unfold Proofs.Ytmdpegljpdjfoaa.evZ; rw [h.get]
theorem SwAt.rac1 {i : Nat} {l m : List Ev} (h : SwAt i l m) {x y : Nat} (hy : y < l.length) (hr : racB l x y = true) : racB m (tr i x) (tr i y) = true := by
  unfold racB at hr ⊢
  rw [h.evZ, h.evZ, h.bef]
  simp only [Bool.and_eq_true, decide_eq_true_iff] at hr ⊢
  refine ⟨tr_lt hr.1 fun ⟨e1, e2⟩ => ?_, hr.2⟩
  subst e1; subst e2
  have h1 := conf_dep hr.2.1
  have h9 := h.lt
  have ha : l[x]? = some (Proofs.Ytmdpegljpdjfoaa.evZ l x) := by unfold Proofs.Ytmdpegljpdjfoaa.evZ; rw [List.getElem?_eq_getElem (by omega)]; rfl
  have hb : l[x + 1]? = some (Proofs.Ytmdpegljpdjfoaa.evZ l (x + 1)) := by unfold Proofs.Ytmdpegljpdjfoaa.evZ; rw [List.getElem?_eq_getElem (by omega)]; rfl
  rw [h.dep ha hb] at h1
  cases h1
theorem SwAt.tr_len {i : Nat} {l m : List Ev} (h : SwAt i l m) {k : Nat} (hk : k < l.length) : tr i k < m.length := by
  have h1 := h.lt
  have h2 := h.sw.length
  unfold tr
  repeat' split
  all_goals omega
theorem SwAt.rac {i : Nat} {l m : List Ev} (h : SwAt i l m) {x y : Nat} (hy : y < l.length) : racB m (tr i x) (tr i y) = racB l x y := by
  rw [Bool.eq_iff_iff]
  constructor
  · intro hr
    have := h.symm.rac1 (h.tr_len hy) hr
    rwa [tr_tr, tr_tr] at this
  · exact h.rac1 hy
/-- Pairs of a relation that is carried over by tr: as many. -/
def trp (i : Nat) (p : Nat × Nat) : Nat × Nat := (tr i p.1, tr i p.2)
theorem trp_len {i n : Nat} {R S : Nat → Nat → Bool} (hn : i + 1 < n) (h : ∀ x y, x < n → y < n → R x y = true → S (tr i x) (tr i y) = true) : (prsA R n).length ≤ (prsA S n).length := by
  have hnd : ((prsA R n).map (trp i)).Nodup := by
    rw [List.nodup_iff_pairwise_ne, List.pairwise_map]
    refine List.Pairwise.imp (fun {a b} hab he => hab ?_) (prsA_nodup R n)
    have h1 := congrArg Prod.fst he
    have h2 := congrArg Prod.snd he
    exact Prod.ext (tr_inj h1) (tr_inj h2)
  have hlt : ∀ k, k < n → tr i k < n := fun k hk => by
    unfold tr
    repeat' split
    all_goals omega
  have := List.Nodup.length_le_of_subset hnd (l₂ := prsA S n) fun p hp => by
    obtain ⟨⟨x, y⟩, hx, rfl⟩ := List.mem_map.1 hp
    obtain ⟨h1, h2, h3⟩ := mem_prsA.1 hx
    exact mem_prsA.2 ⟨hlt _ h1, hlt _ h2, h x y h1 h2 h3⟩
  rwa [List.length_map] at this
theorem SwAt.bef_len {i : Nat} {l m : List Ev} (h : SwAt i l m) : (prsA (Proofs.Ytmdpegljpdjfoaa.bef m) m.length).length = (prsA (Proofs.Ytmdpegljpdjfoaa.bef l) l.length).length := by
  have hl := h.sw.length
  apply Nat.le_antisymm
  · rw [← hl]
    exact trp_len h.lt fun x y _ _ hr => by rw [h.symm.bef]; exact hr
  · rw [← hl]
    exact trp_len h.lt fun x y _ _ hr => by rw [h.bef]; exact hr
theorem SwAt.rac_len {i : Nat} {l m : List Ev} (h : SwAt i l m) : (rcsA m).length = (rcsA l).length := by
  have hl := h.sw.length
  unfold rcsA
  rw [List.length_map, List.length_map]
  apply Nat.le_antisymm
  · rw [← hl]
    exact trp_len h.lt fun x y _ hy hr => by rw [h.symm.rac (by rw [← hl]; exact hy)]; exact hr
  · rw [← hl]
    exact trp_len h.lt fun x y _ hy hr => by rw [h.rac hy]; exact hr
end Go.Proofs.Ytmdpegljpdjfoaa

/- Plain facts: events named by their thread and their place in it; races between names, and what swaps leave of them. -/
import Derived.Test.YtgolbhhlbbgnlaaSb
set_option linter.all false
set_option maxRecDepth 100000
namespace Go.Proofs.Ytgolbhhlbbgnlaa
open Go Go.RowKit

/-- How many events are of thread t. -/
def cntT (l : List Ev) (t : Int) : Nat := (l.filter fun e => e.t == t).length
theorem cntT_append (l m : List Ev) (t : Int) : cntT (l ++ m) t = cntT l t + cntT m t := by unfold cntT; rw [List.filter_append, List.length_append]
theorem cntT_one (e : Ev) (t : Int) : cntT [e] t = if e.t = t then 1 else 0 := by
  unfold cntT
  by_cases h : e.t = t <;> simp [h]
theorem cntT_cons (e : Ev) (l : List Ev) (t : Int) : cntT (e :: l) t = (if e.t = t then 1 else 0) + cntT l t := by
  rw [← cntT_one, ← cntT_append]; rfl
theorem cntT_le (l : List Ev) (t : Int) : cntT l t ≤ l.length := List.length_filter_le _ _
/-- The name of event k. -/
def nameN (l : List Ev) (k : Nat) : Nat × Nat := ((evZ l k).t.toNat, cntT (l.take k) (evZ l k).t)
theorem SwAt.name {i : Nat} {l m : List Ev} (h : SwAt i l m) (k : Nat) : nameN m (tr i k) = nameN l k := by
  unfold nameN
  rw [h.evZ]
  congr 1
  obtain ⟨p, a, b, q, rfl, rfl, rfl, hd⟩ := h.at_
  have hne := dep_thread hd
  unfold tr
  by_cases h1 : k = p.length
  · subst h1
    have e1 : Proofs.Ytgolbhhlbbgnlaa.evZ (p ++ a :: b :: q) p.length = a := evZ_at (by simp)
    rw [if_pos rfl, e1]
    have e2 : (p ++ b :: a :: q).take (p.length + 1) = p ++ [b] := by rw [List.take_length_add_append]; rfl
    have e3 : (p ++ a :: b :: q).take p.length = p := by simp
    rw [e2, e3, cntT_append, cntT_one, if_neg (Ne.symm hne)]
    rfl
  · rw [if_neg h1]
    by_cases h2 : k = p.length + 1
    · subst h2
      have e1 : Proofs.Ytgolbhhlbbgnlaa.evZ (p ++ a :: b :: q) (p.length + 1) = b := evZ_at (by simp)
      rw [if_pos rfl, e1]
      have e2 : (p ++ a :: b :: q).take (p.length + 1) = p ++ [a] := by rw [List.take_length_add_append]; rfl
      have e3 : (p ++ b :: a :: q).take p.length = p := by simp
      rw [e2, e3, cntT_append, cntT_one, if_neg hne]
      rfl
    · rw [if_neg h2]
      by_cases h3 : k < p.length
      · rw [List.take_append_of_le_length (by omega), List.take_append_of_le_length (by omega)]
      · obtain ⟨d, rfl⟩ : ∃ d, k = p.length + (d + 2) := ⟨k - p.length - 2, by omega⟩
        have e2 : ∀ x y : Ev, (p ++ x :: y :: q).take (p.length + (d + 2)) = p ++ x :: y :: q.take d := fun x y => by
          rw [List.take_length_add_append]; rfl
        rw [e2, e2, cntT_append, cntT_append, cntT_cons, cntT_cons, cntT_cons, cntT_cons]
        omega
theorem nameN_lt {l : List Ev} {x y : Nat} (hx : x < y) (hy : y < l.length) (ht : (evZ l x).t = (evZ l y).t) : cntT (l.take x) (evZ l x).t < cntT (l.take y) (evZ l y).t := by
  have hxl : x < l.length := by omega
  have h1 : l.take y = l.take x ++ (evZ l x :: (l.take y).drop (x + 1)) := by
    have e1 := (List.take_append_drop x (l.take y)).symm
    rw [List.take_take, show min x y = x by omega] at e1
    have hlt : x < (l.take y).length := by rw [List.length_take]; omega
    rw [List.drop_eq_getElem_cons hlt, List.getElem_take] at e1
    have e2 : evZ l x = l[x] := evZ_at (List.getElem?_eq_getElem hxl)
    rw [e2]; exact e1
  rw [← ht, h1, cntT_append, cntT_cons, if_pos rfl]
  omega
theorem nameN_inj {l : List Ev} (hf : Fit l) {x y : Nat} (hx : x < l.length) (hy : y < l.length) (h : nameN l x = nameN l y) : x = y := by
  unfold nameN at h
  rw [Prod.mk.injEq] at h
  have fx := hf _ (show evZ l x ∈ l by rw [evZ_at (List.getElem?_eq_getElem hx)]; exact List.getElem_mem hx)
  have fy := hf _ (show evZ l y ∈ l by rw [evZ_at (List.getElem?_eq_getElem hy)]; exact List.getElem_mem hy)
  have ht : (evZ l x).t = (evZ l y).t := by omega
  rcases Nat.lt_trichotomy x y with h1 | h1 | h1
  · have := nameN_lt h1 hy ht; omega
  · exact h1
  · have := nameN_lt h1 hx ht.symm; omega
/-- The races, each as two names. -/
def rk (l : List Ev) : List ((Nat × Nat) × (Nat × Nat)) := (rcs l).map fun r => (nameN l r.a, nameN l r.b)
theorem rk_nodup {l : List Ev} (hm : may l = 0) : (rk l).Nodup := by
  unfold rk
  rw [rcs_ok hm]
  unfold rcsA
  rw [List.map_map, List.Nodup, List.pairwise_map]
  refine (prsA_nodup (racB l) l.length).imp_of_mem ?_
  intro p q hp hq hne he
  obtain ⟨p1, p2, _⟩ := mem_prsA.1 hp
  obtain ⟨q1, q2, _⟩ := mem_prsA.1 hq
  simp only [Function.comp, rcOf, Prod.mk.injEq] at he
  exact hne (Prod.ext (nameN_inj (may_fit hm) p1 q1 he.1) (nameN_inj (may_fit hm) p2 q2 he.2))
theorem rcs_step {i : Nat} {l r : List Ev} (h : SwAt i l r) {x : Rc} (hx : x ∈ rcsA l) : (⟨tr i x.a, tr i x.b, x.v, x.k⟩ : Rc) ∈ rcsA r := by
  unfold rcsA at hx
  obtain ⟨⟨a, b⟩, hp, rfl⟩ := List.mem_map.1 hx
  obtain ⟨h1, h2, h3⟩ := mem_prsA.1 hp
  refine List.mem_map.2 ⟨(tr i a, tr i b), mem_prsA.2 ⟨h.tr_len h1, h.tr_len h2, ?_⟩, ?_⟩
  · show racB r (tr i a) (tr i b) = true
    rw [h.rac h2]; exact h3
  · unfold rcOf
    simp only [h.evZ]
theorem rk_step {i : Nat} {l m : List Ev} (h : SwAt i l m) (hm : may l = 0) {k : (Nat × Nat) × (Nat × Nat)} (hk : k ∈ rk l) : k ∈ rk m := by
  unfold rk at *
  rw [rcs_ok hm] at hk
  rw [rcs_ok (h.sw.may hm)]
  obtain ⟨r, hr, rfl⟩ := List.mem_map.1 hk
  exact List.mem_map.2 ⟨_, rcs_step h hr, by rw [h.name, h.name]⟩
theorem rk_len {i : Nat} {l m : List Ev} (h : SwAt i l m) (hm : may l = 0) : (rk m).length = (rk l).length := by
  unfold rk
  rw [List.length_map, List.length_map, rcs_ok hm, rcs_ok (h.sw.may hm), h.rac_len]
theorem rk_eqv {l m : List Ev} (h : Eqv l m) (hm : may l = 0) : (∀ k, k ∈ rk l → k ∈ rk m) ∧ (rk m).length = (rk l).length := by
  induction h with
  | refl => exact ⟨fun _ h => h, rfl⟩
  | step h1 h2 ih =>
    obtain ⟨p, a, b, q, e1, e2, hd⟩ := h2.form
    have hat : SwAt p.length _ _ := ⟨p, a, b, q, rfl, e1, e2, hd⟩
    have hm' := h1.may hm
    exact ⟨fun k hk => rk_step hat hm' (ih.1 k hk), (rk_len hat hm').trans ih.2⟩
end Go.Proofs.Ytgolbhhlbbgnlaa

/- Plain facts: the reference's Full: the least kind of a race, as a fold; own numbers counted. -/
import Derived.Test.YtipjgcklnceohaaFl
set_option linter.all false
set_option maxRecDepth 100000
namespace Go.Proofs.Ytipjgcklnceohaa
open Go Go.RowKit

def fkS (j : Nat) (q : Int) (r : Rc) : Int := if r.b = j ∧ (q = 0 ∨ r.k < q) then r.k else q
def fk (rs : List Rc) (j : Nat) : Int := rs.foldl (fkS j) 0
theorem fk_snoc (rs : List Rc) (r : Rc) (j : Nat) : fk (rs ++ [r]) j = fkS j (fk rs j) r := by unfold fk; rw [List.foldl_append]; rfl
theorem hasK_snoc (rs : List Rc) (r : Rc) (j : Nat) (q : Int) : hasK (rs ++ [r]) j q = (hasK rs j q || (r.b == j && r.k == q)) := by unfold hasK; simp
theorem minK_low (rs : List Rc) (j : Nat) : 0 ≤ minK rs j ∧ minK rs j ≤ 3 := by
  unfold minK
  repeat' split
  all_goals omega
theorem minK_snoc (rs : List Rc) (r : Rc) (j : Nat) (hr : r.k = 1 ∨ r.k = 2 ∨ r.k = 3) : minK (rs ++ [r]) j = fkS j (minK rs j) r := by
  unfold minK fkS
  simp only [hasK_snoc]
  by_cases hb : r.b = j
  · have hb' : (r.b == j) = true := by simpa using hb
    rw [hb']
    rcases hr with h | h | h <;> rw [h] <;> cases hasK rs j 1 <;> cases hasK rs j 2 <;> cases hasK rs j 3 <;> simp [hb]
  · have hb' : (r.b == j) = false := by simpa using hb
    rw [hb']
    simp [hb]
theorem fk_min (rs : List Rc) (j : Nat) (hr : ∀ r ∈ rs, r.k = 1 ∨ r.k = 2 ∨ r.k = 3) : ∀ i, i ≤ rs.length → fk (rs.take i) j = minK (rs.take i) j
  | 0, _ => rfl
  | i + 1, hi => by
    have hlt : i < rs.length := by omega
    have e : rs.take (i + 1) = rs.take i ++ [rs[i]] := rc_ptake (List.getElem?_eq_getElem hlt)
    rw [e, fk_snoc, minK_snoc _ _ _ (hr _ (List.getElem_mem hlt)), fk_min rs j hr i (by omega)]
theorem rcsA_k {l : List Ev} {r : Rc} (h : r ∈ rcsA l) : r.k = 1 ∨ r.k = 2 ∨ r.k = 3 := by
  obtain ⟨a, b, _, _, _, _, h5, h6, _⟩ := mem_rcsA h
  rw [h5]
  unfold conf at h6 ⊢
  repeat' split
  all_goals first | omega | (rename_i hx; simp [hx] at h6) | skip
  all_goals first | exact .inl rfl | exact .inr (.inl rfl) | exact .inr (.inr rfl) | skip
theorem fk_all {l : List Ev} (hm : may l = 0) {j : Nat} (hj : j < l.length) : fk (rcs l) j = djK l j := by
  rw [rcs_ok hm, djK_min hm hj]
  have := fk_min (rcsA l) j (fun r h => rcsA_k h) _ (Nat.le_refl _)
  rwa [List.take_length] at this
/-- How often a thread has handed its clock on. -/
def gvn (l : List Ev) (k u : Nat) : Nat := onr l k u - 1
theorem gvn_zero (l : List Ev) (u : Nat) : gvn l 0 u = 0 := by unfold gvn; rw [onr_zero]
theorem gvn_len {l : List Ev} (hm : may l = 0) {k u : Nat} (hk : k ≤ l.length) : gvn l k u ≤ k := by have := onr_le hm u k hk; unfold gvn onr; omega
theorem gvn_yes {l : List Ev} (hm : may l = 0) {k t : Nat} (hk : k < l.length) (hg : kZ l k = 4 ∨ kZ l k = 5 ∨ kZ l k = 8) (ht : tZ l k = t) {n : Int} (hn : n = (gvn l k t : Nat) + 1) : clk (upd (ck (gvn l k)) t n) = clk (ck (gvn l (k + 1))) := clk_congr fun u _ => by
  unfold upd ck gvn
  rw [onr_succ hm hk]
  unfold giveB
  have h1 := onr_pos hm t k (by omega)
  by_cases h : u = t
  · subst h
    rw [if_pos rfl, if_pos (by simp [hg, ht]), hn]
    unfold gvn; omega
  · rw [if_neg h, if_neg (by simp; intro _; omega)]; rfl
theorem gvn_no {l : List Ev} (hm : may l = 0) {k : Nat} (hk : k < l.length) (hg : ¬ (kZ l k = 4 ∨ kZ l k = 5 ∨ kZ l k = 8)) : gvn l (k + 1) = gvn l k := by
  funext u
  unfold gvn
  rw [onr_succ hm hk, if_neg (by unfold giveB; simp; intro h; exact absurd h hg)]; rfl
theorem rwn_yes {l : List Ev} (hm : may l = 0) {q : Int} {k x t : Nat} (hk : k < l.length) (hq : kZ l k = q) (ho : oZ l k = x) (ht : tZ l k = t) {n : Int} (hn : n = (gvn l k t : Nat) + 1) : clk (upd (ck (rwF l q k x)) t n) = clk (ck (rwF l q (k + 1) x)) := clk_congr fun u _ => by
  have h1 := onr_pos hm t k (by omega)
  unfold upd ck rwF
  rw [show rwTo l q x u (k + 1) = if kZ l k = q ∧ oZ l k = x ∧ tZ l k = u then onr l k u else rwTo l q x u k from rfl]
  by_cases h : u = t
  · subst h
    rw [if_pos rfl, if_pos ⟨hq, ho, ht⟩, hn]
    unfold gvn; omega
  · rw [if_neg h, if_neg (fun hh => h (by omega))]
theorem rwn_no {l : List Ev} {q : Int} {k x : Nat} (h : ¬ (kZ l k = q ∧ oZ l k = x)) : rwF l q (k + 1) x = rwF l q k x := by
  funext u
  unfold rwF
  rw [rwTo, if_neg fun hh => h ⟨hh.1, hh.2.1⟩]
end Go.Proofs.Ytipjgcklnceohaa

import Derived.Test.YticnponenkfneaaZSw
set_option linter.all false
set_option maxRecDepth 100000
namespace Go.Proofs.Yticnponenkfneaa
open Go Go.RowKit

def upI (i k : Nat) : Nat := if k < i then k else k + 1
def dnI (i k : Nat) : Nat := if i < k then k - 1 else k
theorem er_get (l : List Ev) (i k : Nat) : (l.eraseIdx i)[k]? = l[upI i k]? := by
  rw [List.getElem?_eraseIdx]
  unfold upI
  split <;> rfl
theorem up_dn {i k : Nat} (h : k ≠ i) : upI i (dnI i k) = k := by
  unfold upI dnI
  repeat' split
  all_goals omega
theorem up_lt {i x y : Nat} (h : x < y) : upI i x < upI i y := by
  unfold upI
  repeat' split
  all_goals omega
theorem dn_lt {i x y : Nat} (hx : x ≠ i) (hy : y ≠ i) (h : x < y) : dnI i x < dnI i y := by
  unfold dnI
  repeat' split
  all_goals omega
theorem er_len {l : List Ev} {i : Nat} (h : i < l.length) : (l.eraseIdx i).length + 1 = l.length := by
  rw [List.length_eraseIdx_of_lt h]; omega
theorem er_dir {l : List Ev} {i x y : Nat} (h : dirB (l.eraseIdx i) x y = true) : dirB l (upI i x) (upI i y) = true := by
  rw [dirB_iff] at h ⊢
  obtain ⟨a, b, h1, h2, h3, h4⟩ := h
  exact ⟨a, b, by rw [← er_get]; exact h1, by rw [← er_get]; exact h2, up_lt h3, h4⟩
theorem er_thr {l : List Ev} {i : Nat} : ∀ (k : Nat) {x y : Nat}, thr (l.eraseIdx i) k x y = true → bef l (upI i x) (upI i y) = true
  | 0, _, _, h => dir_bef (er_dir h)
  | k + 1, x, y, h => by
    simp only [thr, Bool.or_eq_true, Bool.and_eq_true] at h
    rcases h with h | ⟨h1, h2⟩
    · exact er_thr k h
    · exact bef_trans (er_thr k h1) (er_thr k h2)
theorem er_bef {l : List Ev} {i x y : Nat} (h : bef (l.eraseIdx i) x y = true) : bef l (upI i x) (upI i y) = true := er_thr _ h
theorem er_evZ {l : List Ev} {i k : Nat} (h : k ≠ i) : evZ (l.eraseIdx i) (dnI i k) = evZ l k := by
  unfold evZ
  rw [er_get, up_dn h]
theorem er_rac {l : List Ev} {i x y : Nat} (hx : x ≠ i) (hy : y ≠ i) (h : racB l x y = true) : racB (l.eraseIdx i) (dnI i x) (dnI i y) = true := by
  unfold racB at h ⊢
  simp only [Bool.and_eq_true, decide_eq_true_iff, Bool.not_eq_true'] at h ⊢
  refine ⟨dn_lt hx hy h.1, by rw [er_evZ hx, er_evZ hy]; exact h.2.1, ?_⟩
  cases hb : bef (l.eraseIdx i) (dnI i x) (dnI i y)
  · rfl
  · have := er_bef hb
    rw [up_dn hx, up_dn hy, h.2.2] at this
    cases this
theorem wrong_mono {P P' : List Ev} {f : Ev} (hb : ∀ t, begun P t = begun P' t) (hd : ∀ t, did P' 6 t = true → did P 6 t = true) (ho : f.k = 3 ∨ f.k = 4 → owner P f.o = owner P' f.o) (h : wrong P f = 0) : wrong P' f = 0 := by
  have h0 := wrong_isEv h
  unfold wrong at h ⊢
  rw [if_neg (by rw [h0]; simp)] at h ⊢
  by_cases c1 : begun P f.t = false ∨ did P 6 f.t = true
  · rw [if_pos c1] at h; cases h
  · have c2 : ¬ (begun P' f.t = false ∨ did P' 6 f.t = true) := fun g => c1 (g.imp (fun g => (hb _).trans g) (fun g => hd _ g))
    rw [if_neg c1] at h
    rw [if_neg c2]
    by_cases k3 : f.k = 3
    · rw [if_pos k3] at h ⊢
      rw [← ho (.inl k3)]; exact h
    · rw [if_neg k3] at h ⊢
      by_cases k4 : f.k = 4
      · rw [if_pos k4] at h ⊢
        rw [← ho (.inr k4)]; exact h
      · rw [if_neg k4] at h ⊢
        rw [← hb]; exact h
theorem did_mid (p r : List Ev) (e : Ev) (k o : Int) : did (p ++ e :: r) k o = (did (p ++ r) k o || decide (e.k = k ∧ e.o = o)) := by
  unfold did
  simp only [List.any_append, List.any_cons]
  cases (p.any fun e => decide (e.k = k ∧ e.o = o)) <;> cases (r.any fun e => decide (e.k = k ∧ e.o = o)) <;> simp
theorem begun_mid {e : Ev} (h : e.k ≠ 5) (p r : List Ev) (t : Int) : begun (p ++ e :: r) t = begun (p ++ r) t := by
  unfold begun
  rw [did_mid, decide_eq_false (fun g : e.k = 5 ∧ e.o = t => h g.1), Bool.or_false]
theorem owner_mid {e : Ev} {k : Int} (h : ¬ (e.o = k ∧ (e.k = 3 ∨ e.k = 4))) (p r : List Ev) : owner (p ++ e :: r) k = owner (p ++ r) k := by
  unfold owner
  rw [List.foldl_append, List.foldl_append, List.foldl_cons, ownB_none h]
theorem good_less {p : List Ev} {e : Ev} : ∀ {q r : List Ev}, (∀ f ∈ q, ∀ r, wrong (p ++ e :: r) f = 0 → wrong (p ++ r) f = 0) → good (p ++ e :: r) q → good (p ++ r) q
  | [], _, _, _ => trivial
  | f :: q, r, h, hg => by
    refine ⟨h f (List.mem_cons_self ..) r hg.1, ?_⟩
    have h2 := hg.2
    rw [List.append_assoc, List.cons_append] at h2
    rw [List.append_assoc]
    exact good_less (fun g hg' => h g (List.mem_cons_of_mem _ hg')) h2
theorem split_er {l : List Ev} {i : Nat} {e : Ev} (h : l[i]? = some e) : l = l.take i ++ e :: l.drop (i + 1) ∧ l.eraseIdx i = l.take i ++ l.drop (i + 1) := by
  obtain ⟨h1, h2⟩ := List.getElem?_eq_some_iff.1 h
  exact ⟨by rw [← h2, List.getElem_cons_drop, List.take_append_drop], List.eraseIdx_eq_take_drop_succ ..⟩
theorem may_er {l : List Ev} {i : Nat} {e : Ev} (hm : may l = 0) (he : l[i]? = some e) (hk : e.k ≠ 5) (hl : e.k = 3 ∨ e.k = 4 → ∀ f ∈ l.drop (i + 1), (f.k = 3 ∨ f.k = 4) → f.o ≠ e.o) : may (l.eraseIdx i) = 0 := by
  obtain ⟨h1, h2⟩ := split_er he
  rw [may_good] at hm ⊢
  refine ⟨Nat.le_trans (List.length_eraseIdx_le ..) hm.1, ?_⟩
  have hg := hm.2
  rw [h1] at hg
  rw [h2]
  rw [good_app] at hg ⊢
  obtain ⟨g1, _, g3⟩ := hg
  rw [List.nil_append] at g3
  refine ⟨g1, ?_⟩
  rw [List.nil_append]
  have := good_less (p := l.take i) (e := e) (q := l.drop (i + 1)) (r := []) (fun f hf r hw => ?_) g3
  · rwa [List.append_nil] at this
  · refine wrong_mono (begun_mid hk _ _) (fun t ht => ?_) (fun hf34 => owner_mid (fun hg => ?_) _ _) hw
    · rw [did_mid, ht]; rfl
    · exact hl hg.2 f hf hf34 hg.1.symm
def Ok (l : List Ev) : Prop := may l = 0 ∧ rcs l ≠ []
theorem rc_ex {l : List Ev} : rcsA l ≠ [] ↔ ∃ a b, a < l.length ∧ b < l.length ∧ racB l a b = true := by
  unfold rcsA
  constructor
  · intro h
    obtain ⟨p, hp⟩ := List.exists_mem_of_ne_nil _ (fun e => h (by rw [e]; rfl) : prsA (racB l) l.length ≠ [])
    exact ⟨p.1, p.2, mem_prsA.1 hp⟩
  · rintro ⟨a, b, h1, h2, h3⟩ e
    have : (a, b) ∈ prsA (racB l) l.length := mem_prsA.2 ⟨h1, h2, h3⟩
    rw [List.map_eq_nil_iff.1 e] at this
    cases this
theorem ok_iff {l : List Ev} : Ok l ↔ may l = 0 ∧ ∃ a b, a < l.length ∧ b < l.length ∧ racB l a b = true := by
  unfold Ok
  constructor
  · rintro ⟨h1, h2⟩; rw [rcs_ok h1, rc_ex] at h2; exact ⟨h1, h2⟩
  · rintro ⟨h1, h2⟩; exact ⟨h1, by rw [rcs_ok h1, rc_ex]; exact h2⟩
inductive Red : List Ev → Nat → List Ev → Prop
  | done {l : List Ev} {i : Nat} : (∀ j, j < l.length → ¬ Ok (l.eraseIdx j)) → Red l i l
  | rem {l : List Ev} {i : Nat} {m : List Ev} : i < l.length → Ok (l.eraseIdx i) → Red (l.eraseIdx i) i m → Red l i m
  | skip {l : List Ev} {i : Nat} {m : List Ev} : i < l.length → ¬ Ok (l.eraseIdx i) → Red l (i + 1) m → Red l i m
  | wrap {l : List Ev} {i : Nat} {m : List Ev} : l.length ≤ i → Red l 0 m → Red l i m
def Bare (l : List Ev) : Prop := ∀ j, j < l.length → ¬ Ok (l.eraseIdx j)
theorem Red.bare {l : List Ev} {i : Nat} {m : List Ev} (h : Red l i m) : Bare m := by
  induction h with
  | done h => exact h
  | rem _ _ _ ih => exact ih
  | skip _ _ _ ih => exact ih
  | wrap _ _ ih => exact ih
theorem Red.ok {l : List Ev} {i : Nat} {m : List Ev} (h : Red l i m) (ho : Ok l) : Ok m := by
  induction h with
  | done => exact ho
  | rem _ h2 _ ih => exact ih h2
  | skip _ _ _ ih => exact ih ho
  | wrap _ _ ih => exact ih ho
end Go.Proofs.Yticnponenkfneaa

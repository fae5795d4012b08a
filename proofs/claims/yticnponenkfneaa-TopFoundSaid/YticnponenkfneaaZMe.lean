import Derived.Test.YticnponenkfneaaZEc
set_option linter.all false
set_option maxRecDepth 100000
namespace Go.Proofs.Yticnponenkfneaa
open Go Go.RowKit

open Classical in
noncomputable def mdf {κ σ : Type} (kids : List Nat → List Nat) (K : List Nat → κ) (vis : σ → List Nat → σ × Bool) : Nat → List κ × σ → List Nat → List κ × σ
  | 0, st, _ => st
  | n + 1, st, w => if K w ∈ st.1 then st else if (vis st.2 w).2 = true then (kids w).foldl (fun st t => mdf kids K vis n st (w ++ [t])) (st.1 ++ [K w], (vis st.2 w).1) else (st.1 ++ [K w], (vis st.2 w).1)
structure MdH {κ σ : Type} (kids : List Nat → List Nat) (K : List Nat → κ) (vis : σ → List Nat → σ × Bool) (G : List Nat → Prop) (N : σ → List Nat → Prop) (J : σ → Prop) : Prop where
  kid : ∀ w t, G (w ++ [t]) ↔ G w ∧ t ∈ kids w
  ord : ∀ w, (kids w).Pairwise (· < ·)
  klen : ∀ v w, G v → G w → K v = K w → v.length = w.length
  kext : ∀ v w t, G v → G w → K v = K w → G (v ++ [t]) → G (w ++ [t]) ∧ K (v ++ [t]) = K (w ++ [t])
  nkey : ∀ s v w, G v → G w → K v = K w → N s v → N s w
  per : ∀ s v u, N s v → G u → N (vis s u).1 v
  own : ∀ s w, G w → N (vis s w).1 w
  cut : ∀ s w x, G (w ++ x) → (vis s w).2 = false → N (vis s w).1 (w ++ x)
  good : ∀ s w, G w → J s → (∀ v, G v → lxL v w → N s v) → J (vis s w).1
theorem lx_kid : ∀ {w v : List Nat} {t : Nat}, lxL v (w ++ [t]) → lxL v w ∨ v = w ∨ ∃ u x, u < t ∧ v = w ++ u :: x
  | [], [], _, _ => .inr (.inl rfl)
  | [], a :: x, t, h => by
    rcases h with h | ⟨_, h⟩
    · exact .inr (.inr ⟨a, x, h, rfl⟩)
    · cases x <;> exact h.elim
  | b :: w, [], _, _ => .inl trivial
  | b :: w, a :: x, t, h => by
    rcases h with h | ⟨rfl, h⟩
    · exact .inl (.inl h)
    · rcases lx_kid h with h | rfl | ⟨u, y, h1, rfl⟩
      · exact .inl (.inr ⟨rfl, h⟩)
      · exact .inr (.inl rfl)
      · exact .inr (.inr ⟨u, y, h1, rfl⟩)
section
variable {κ σ : Type} {kids : List Nat → List Nat} {K : List Nat → κ} {vis : σ → List Nat → σ × Bool} {G : List Nat → Prop} {N : σ → List Nat → Prop} {J : σ → Prop}
theorem MdH.pre (H : MdH kids K vis G N J) : ∀ (b a : List Nat), G (a ++ b) → G a
  | [], a, h => by rwa [List.append_nil] at h
  | t :: b, a, h => by
    rw [show a ++ t :: b = (a ++ [t]) ++ b by simp] at h
    exact ((H.kid a t).1 (MdH.pre H b _ h)).1
theorem MdH.kext_all (H : MdH kids K vis G N J) : ∀ (x v w : List Nat), G v → G w → K v = K w → G (v ++ x) → G (w ++ x) ∧ K (v ++ x) = K (w ++ x)
  | [], v, w, _, hw, hk, _ => by rw [List.append_nil, List.append_nil]; exact ⟨hw, hk⟩
  | t :: x, v, w, hv, hw, hk, h => by
    rw [show v ++ t :: x = (v ++ [t]) ++ x by simp] at h ⊢
    rw [show w ++ t :: x = (w ++ [t]) ++ x by simp]
    have hvt := H.pre x _ h
    obtain ⟨g1, g2⟩ := H.kext v w t hv hw hk hvt
    exact MdH.kext_all H x _ _ hvt g1 g2 h
def MdV (K : List Nat → κ) (G : List Nat → Prop) (N : σ → List Nat → Prop) (V : List κ) (s : σ) (m : Nat) : Prop := ∀ v, G v → m ≤ v.length → K v ∈ V → ∀ x, G (v ++ x) → N s (v ++ x)
theorem MdV.per {V : List κ} {s s' : σ} {m : Nat} (h : MdV K G N V s m) (hp : ∀ v, N s v → N s' v) : MdV K G N V s' m := fun v hv hm hk x hx => hp _ (h v hv hm hk x hx)
structure MdP (K : List Nat → κ) (G : List Nat → Prop) (N : σ → List Nat → Prop) (J : σ → Prop) (V : List κ) (s : σ) (w : List Nat) (r : List κ × σ) : Prop where
  good : J r.2
  per : ∀ v, N s v → N r.2 v
  all : ∀ x, G (w ++ x) → N r.2 (w ++ x)
  met : MdV K G N r.1 r.2 w.length
  new : ∀ k ∈ r.1, k ∈ V ∨ ∃ u, G u ∧ w.length ≤ u.length ∧ K u = k
theorem MdH.same (H : MdH kids K vis G N J) {V : List κ} {s : σ} {w : List Nat} (hw : G w) (hV : MdV K G N V s w.length) (hall : ∀ x, G (w ++ x) → N s (w ++ x)) {v : List Nat} (hv : G v) (hk : K v ∈ V ++ [K w]) (hm : w.length ≤ v.length) (x : List Nat) (hx : G (v ++ x)) : N s (v ++ x) := by
  rcases List.mem_append.1 hk with hk | hk
  · exact hV v hv hm hk x hx
  · have hk := List.mem_singleton.1 hk
    obtain ⟨g1, g2⟩ := H.kext_all x v w hv hw hk hx
    exact H.nkey s _ _ g1 hx g2.symm (hall x g1)
theorem mdf_ok (H : MdH kids K vis G N J) : ∀ (n : Nat) (V : List κ) (s : σ) (w : List Nat), (∀ x, G (w ++ x) → x.length < n) → G w → J s → (∀ v, G v → lxL v w → N s v) → MdV K G N V s w.length → MdP K G N J V s w (mdf kids K vis n (V, s) w)
  | 0, V, s, w, hn, hw, _, _, _ => by
    have := hn [] (by rwa [List.append_nil])
    exact absurd this (Nat.not_lt_zero _)
  | n + 1, V, s, w, hn, hw, hJ, hlx, hV => by
    unfold mdf
    split
    · rename_i hk
      exact ⟨hJ, fun _ h => h, hV w hw (Nat.le_refl _) hk, hV, fun k h => .inl h⟩
    · have hper : ∀ v, N s v → N (vis s w).1 v := fun v h => H.per s v w h hw
      have hJ' := H.good s w hw hJ hlx
      have hown := H.own s w hw
      split
      · generalize hs' : (vis s w).1 = s' at hper hJ' hown ⊢
        have hVn : MdV K G N (V ++ [K w]) s' (w.length + 1) := fun v hv hm hk x hx => by
          rcases List.mem_append.1 hk with hk | hk
          · exact hper _ (hV v hv (by omega) hk x hx)
          · have := H.klen v w hv hw (List.mem_singleton.1 hk)
            omega
        have loop : ∀ (ts pre : List Nat) (st : List κ × σ), kids w = pre ++ ts → J st.2 → (∀ v, N s' v → N st.2 v) → (∀ u ∈ pre, ∀ x, G (w ++ u :: x) → N st.2 (w ++ u :: x)) → MdV K G N st.1 st.2 (w.length + 1) →
            (∀ k ∈ st.1, k ∈ V ++ [K w] ∨ ∃ u, G u ∧ w.length + 1 ≤ u.length ∧ K u = k) →
            ∃ st', ts.foldl (fun st t => mdf kids K vis n st (w ++ [t])) st = st' ∧ J st'.2 ∧ (∀ v, N s' v → N st'.2 v) ∧ (∀ u ∈ kids w, ∀ x, G (w ++ u :: x) → N st'.2 (w ++ u :: x)) ∧ MdV K G N st'.1 st'.2 (w.length + 1) ∧
              (∀ k ∈ st'.1, k ∈ V ++ [K w] ∨ ∃ u, G u ∧ w.length + 1 ≤ u.length ∧ K u = k) := by
          intro ts
          induction ts with
          | nil =>
            intro pre st hk h1 h2 h3 h4 h5
            rw [List.append_nil] at hk
            exact ⟨st, rfl, h1, h2, by rw [hk]; exact h3, h4, h5⟩
          | cons t ts ih =>
            intro pre st hk h1 h2 h3 h4 h5
            have htk : t ∈ kids w := by rw [hk]; simp
            have hG : G (w ++ [t]) := (H.kid w t).2 ⟨hw, htk⟩
            have hlen : (w ++ [t]).length = w.length + 1 := by simp
            have hlt : ∀ u ∈ kids w, u < t → u ∈ pre := fun u hu hut => by
              rw [hk] at hu
              rcases List.mem_append.1 hu with hu | hu
              · exact hu
              · have ho := H.ord w
                rw [hk] at ho
                have h2 := (List.pairwise_append.1 ho).2.1
                rcases List.mem_cons.1 hu with rfl | hu
                · omega
                · have := (List.pairwise_cons.1 h2).1 u hu; omega
            have ok := mdf_ok H n st.1 st.2 (w ++ [t]) (fun x hx => by
                rw [List.append_assoc] at hx
                have := hn _ hx
                simp at this; omega) hG h1 (fun v hv hl => by
                rcases lx_kid hl with hl | rfl | ⟨u, x, hu, rfl⟩
                · exact h2 _ (hper _ (hlx v hv hl))
                · exact h2 _ hown
                · have hku : u ∈ kids w := ((H.kid w u).1 (H.pre x _ (by rw [List.append_assoc]; exact hv))).2
                  exact h3 u (hlt u hku hu) x hv) (by rw [hlen]; exact h4)
            rw [List.foldl_cons]
            refine ih (pre ++ [t]) _ (by rw [hk]; simp) ok.good (fun v h => ok.per v (h2 v h)) (fun u hu x hx => ?_) (by rw [← hlen]; exact ok.met) (fun k hk' => ?_)
            · rcases List.mem_append.1 hu with hu | hu
              · exact ok.per _ (h3 u hu x hx)
              · obtain rfl := List.mem_singleton.1 hu
                have := ok.all x (by rw [List.append_assoc]; exact hx)
                rw [List.append_assoc] at this
                exact this
            · rcases ok.new k hk' with h | ⟨u, g1, g2, g3⟩
              · exact h5 k h
              · exact .inr ⟨u, g1, by rw [hlen] at g2; exact g2, g3⟩
        obtain ⟨r, hr, r1, r2, r3, r4, r5⟩ := loop (kids w) [] (V ++ [K w], s') rfl hJ' (fun _ h => h) (fun u hu => by cases hu) hVn (fun k hk => .inl hk)
        rw [hr]
        have hall : ∀ x, G (w ++ x) → N r.2 (w ++ x) := fun x hx => by
          cases x with
          | nil => rw [List.append_nil]; exact r2 _ hown
          | cons u x => exact r3 u ((H.kid w u).1 (H.pre x _ (by rw [List.append_assoc]; exact hx))).2 x hx
        refine ⟨r1, fun v h => r2 v (hper v h), hall, fun v hv hm hk x hx => ?_, fun k hk => ?_⟩
        · by_cases hm' : w.length + 1 ≤ v.length
          · exact r4 v hv hm' hk x hx
          · rcases r5 _ hk with h | ⟨u, g1, g2, g3⟩
            · exact H.same hw (hV.per fun v h => r2 v (hper v h)) hall hv h hm x hx
            · have := H.klen u v g1 hv g3; omega
        · rcases r5 k hk with h | ⟨u, g1, g2, g3⟩
          · rcases List.mem_append.1 h with h | h
            · exact .inl h
            · exact .inr ⟨w, hw, Nat.le_refl _, (List.mem_singleton.1 h).symm⟩
          · exact .inr ⟨u, g1, by omega, g3⟩
      · rename_i hb
        have hb' : (vis s w).2 = false := by simpa using hb
        have hall : ∀ x, G (w ++ x) → N (vis s w).1 (w ++ x) := fun x hx => H.cut s w x hx hb'
        refine ⟨hJ', hper, hall, fun v hv hm hk x hx => H.same hw (hV.per hper) hall hv hk hm x hx, fun k hk => ?_⟩
        rcases List.mem_append.1 hk with h | h
        · exact .inl h
        · exact .inr ⟨w, hw, Nat.le_refl _, (List.mem_singleton.1 h).symm⟩
end

structure Kq (s r : Ps) : Prop where
  a : s.a = r.a
  eq : Eqv s.L r.L
  mem : s.mem = r.mem
  vol : s.vol = r.vol
  has : s.has = r.has
theorem eqv_app {l m x : List Ev} (h : Eqv l m) : Eqv (l ++ x) (m ++ x) := by
  have sw : ∀ {l m : List Ev}, Sw l m → Sw (l ++ x) (m ++ x) := fun {l m} h => by
    obtain ⟨p, a, b, q, rfl, rfl, hd⟩ := h.form
    rw [List.append_assoc, List.append_assoc]
    exact Sw.at_ hd p (q ++ x)
  induction h with
  | refl => exact .refl _
  | step _ h2 ih => exact .step ih (sw h2)
section
variable {P : List (List Ev)} {s r : Ps}
theorem Kq.can (h : Kq s r) (t : Nat) : canP P s t = canP P r t := by
  unfold canP canO
  rw [h.a, eqv_begun h.eq]
  simp only [eqv_begun h.eq, h.eq.owner]
theorem Kq.kind (h : Kq s r) (t : Nat) (o : Ev) : kindO P s t o = kindO P r t o := by
  unfold kindO
  rw [h.eq.owner, eqv_begun h.eq]
theorem Kq.step (h : Kq s r) (t : Nat) : Kq (stepP P s t) (stepP P r t) := by
  unfold stepP
  rw [h.a]
  split
  · exact h
  · rename_i o _
    refine ⟨?_, ?_, ?_, ?_, ?_⟩
    · show upF s.a t (s.a t + 1) = upF r.a t (r.a t + 1)
      rw [h.a]
    · show Eqv (s.L ++ evO P s t o) (r.L ++ evO P r t o)
      rw [show evO P r t o = evO P s t o by unfold evO; rw [h.kind]]
      exact eqv_app h.eq
    · show memO s t o = memO r t o
      unfold memO; rw [h.mem, h.has]
    · show volO s t o = volO r t o
      unfold volO; rw [h.vol, h.has]
    · show hasO s t o = hasO r t o
      unfold hasO; rw [h.mem, h.vol, h.has]
theorem Kq.race (h : Kq s r) (hm : may s.L = 0) : rcs s.L = [] ↔ rcs r.L = [] := by
  have hl := (rk_eqv h.eq hm).2
  unfold rk at hl
  rw [List.length_map, List.length_map] at hl
  constructor
  · intro e; rw [e] at hl; exact List.eq_nil_of_length_eq_zero hl
  · intro e; rw [e] at hl; exact List.eq_nil_of_length_eq_zero hl.symm
end
theorem kq_of {P : List (List Ev)} (hP : OkP P) {v w : List Nat} (hv : VlP P ps0 v) (hw : VlP P ps0 w) (ha : ∀ t, t < 6 → (goS P ps0 v).a t = (goS P ps0 w).a t) (hl : leastL (goS P ps0 v).L = leastL (goS P ps0 w).L) : Kq (goS P ps0 v) (goS P ps0 w) := by
  rw [← run_pks hv, ← run_pks hw] at *
  have s1 := sim_run hP (pks v)
  have s2 := sim_run hP (pks w)
  have k1 := runP_ok hP (pks v)
  have k2 := runP_ok hP (pks w)
  have he := (eqv_iff (may_fit (k1.may hP)) (may_fit (k2.may hP))).2 hl
  have hr := rep_eqv (P := P) (may_fit (k1.may hP)) he
  rw [← hr] at s2
  have haa : ∀ t, (runP P (pks v)).a t = (runP P (pks w)).a t := fun t => by
    by_cases ht : t < 6
    · exact ha t ht
    · have := hP.six
      rw [k1.idle t (k1.out t (by omega)), k2.idle t (k2.out t (by omega))]
  exact ⟨funext haa, he, s1.mem.trans s2.mem.symm, s1.vol.trans s2.vol.symm, funext fun t => by rw [s1.has t, s2.has t, haa t]⟩
end Go.Proofs.Yticnponenkfneaa

/- The reference's Ring and Rank are a ring and ranks. -/
import Derived.Test.YtjindfkomnjceaaRfK
set_option linter.all false
set_option maxRecDepth 100000
namespace Go.Proofs.Ytjindfkomnjceaa

theorem rlx_asym : ∀ {r s : List Nat}, lx r s → lx s r → False
  | [], s, h, h' => by cases s <;> simp [lx] at h h'
  | _ :: _, [], h, h' => by simp [lx] at h h'
  | a :: r, b :: s, h, h' => by
    simp only [lx] at h h'
    rcases h with h | ⟨rfl, h⟩
    · rcases h' with h' | ⟨rfl, h'⟩ <;> omega
    · rcases h' with h' | ⟨_, h'⟩
      · omega
      · exact rlx_asym h h'
theorem at0_cons (a : Nat) (r : List Nat) (i : Nat) : at0 (a :: r) (i + 1) = at0 r i := rfl
theorem chn_iff {P : Nat → Nat → Bool} : ∀ {r : List Nat}, Chn P r ↔ ∀ i, i + 1 < r.length → P (at0 r i) (at0 r (i + 1)) = true
  | [] => ⟨fun _ i h => by simp at h, fun _ => trivial⟩
  | [a] => ⟨fun _ i h => by simp at h, fun _ => trivial⟩
  | a :: b :: r => by
    constructor
    · rintro ⟨h1, h2⟩ i hi
      cases i with
      | zero => exact h1
      | succ i =>
        rw [at0_cons, at0_cons]
        exact chn_iff.1 h2 i (by simpa using hi)
    · intro h
      refine ⟨h 0 (by simp), chn_iff.2 fun i hi => ?_⟩
      have := h (i + 1) (by simpa using hi)
      rwa [at0_cons, at0_cons] at this
theorem isCh_iff {P : Nat → Nat → Bool} {r : List Nat} : isCh P r = true ↔ Chn P r := by
  rw [chn_iff]
  unfold isCh isC
  rw [List.all_eq_true]
  exact ⟨fun h i hi => h i (List.mem_range.2 (by omega)), fun h i hi => h i (by have := List.mem_range.1 hi; omega)⟩
theorem at0_left {r : List Nat} {i a : Nat} (h : i < r.length) : at0 (r ++ [a]) i = at0 r i := by
  unfold at0; rw [List.getElem?_append_left h]
theorem at0_end {r : List Nat} {a : Nat} : at0 (r ++ [a]) r.length = a := by
  unfold at0; simp
theorem cyc_iff {P : Nat → Nat → Bool} {r : List Nat} (hr : 0 < r.length) : Cyc P r ↔ isR P r r.length = true := by
  cases r with
  | nil => simp at hr
  | cons a r =>
    show Chn P ((a :: r) ++ [a]) ↔ _
    rw [chn_iff]
    unfold isR
    rw [List.all_eq_true]
    constructor
    · intro h i hi
      have hi := List.mem_range.1 hi
      have h9 := h i (by rw [List.length_append]; simp; simpa using hi)
      rw [at0_left hi] at h9
      rcases Nat.lt_or_ge (i + 1) (a :: r).length with h1 | h1
      · rw [at0_left h1] at h9
        rw [Nat.mod_eq_of_lt h1]; exact h9
      · have h2 : i + 1 = (a :: r).length := by omega
        rw [h2, at0_end] at h9
        rw [h2, Nat.mod_self]; exact h9
    · intro h i hi
      rw [List.length_append] at hi
      have hi' : i < (a :: r).length := by simpa using hi
      have h9 := h i (List.mem_range.2 hi')
      rw [at0_left hi']
      rcases Nat.lt_or_ge (i + 1) (a :: r).length with h1 | h1
      · rw [Nat.mod_eq_of_lt h1] at h9
        rw [at0_left h1]; exact h9
      · have h2 : i + 1 = (a :: r).length := by omega
        rw [h2, Nat.mod_self] at h9
        rw [h2, at0_end]; exact h9
theorem noR_cyc {P : Nat → Nat → Bool} (h5 : Five P) {m : Nat} (h : noR P m) {s : List Nat} (hs : Cyc P s) (hm : s.length < m) : False := by
  obtain ⟨t, h1, h2, h3⟩ := cyc_least (Nat.le_refl _) hs
  have hp := cyc_pos h1
  have hmem : t ∈ rowsL t.length := rows_mem.2 ⟨rfl, h3, cyc_five h5 h1⟩
  have := h t.length hp (by omega) t hmem
  rw [(cyc_iff hp).1 h1] at this
  cases this
theorem ringR_ok {P : Nat → Nat → Bool} (h5 : Five P) {r : List Nat} (h : RingR P r) : RingOk P r := by
  rcases h with ⟨rfl, h⟩ | ⟨m, i, h1, h2, hq, hc, hn, ht⟩
  · refine .inl ⟨rfl, fun s hs => ?_⟩
    obtain ⟨t, k1, k2, k3⟩ := cyc_least (Nat.le_refl _) hs
    exact noR_cyc h5 h k1 (by have := nodup_five k3 (cyc_five h5 k1); omega)
  · obtain ⟨hl, hnd, hr5⟩ := rows_mem.1 (List.mem_of_getElem? hq)
    have hcyc : Cyc P r := (cyc_iff (by omega)).2 (by rw [hl]; exact hc)
    have hmin : ∀ s, Cyc P s → r.length ≤ s.length := fun s hs => by
      rcases Nat.lt_or_ge s.length m with hlt | hge
      · exact (noR_cyc h5 hn hs hlt).elim
      · omega
    refine .inr ⟨hcyc, hmin, fun s hs hsl hlx => ?_⟩
    have hsn : s.Nodup := least_nodup hs fun t ht => by rw [hsl]; exact hmin t ht
    have hsm : s ∈ rowsL m := rows_mem.2 ⟨by omega, hsn, cyc_five h5 hs⟩
    obtain ⟨j, hj⟩ := List.getElem?_of_mem hsm
    obtain ⟨hj1, hj2⟩ := List.getElem?_eq_some_iff.1 hj
    obtain ⟨hi1, hi2⟩ := List.getElem?_eq_some_iff.1 hq
    rcases Nat.lt_trichotomy j i with hji | hji | hji
    · have hmem : s ∈ (rowsL m).take i := List.mem_of_getElem? (i := j) (by rw [List.getElem?_take, if_pos hji]; exact hj)
      have := ht s hmem
      rw [show m = s.length by omega, (cyc_iff (by omega)).1 hs] at this
      cases this
    · subst hji
      rw [hj2] at hi2; subst hi2
      exact rlx_irr hlx
    · have := List.pairwise_iff_getElem.1 (rows_up m) i j hi1 hj1 hji
      rw [hi2, hj2] at this
      exact rlx_asym this hlx
theorem rkR_ok {P : Nat → Nat → Bool} (h5 : Five P) (hn : ∀ s, ¬ Cyc P s) {f : Nat → Nat} (h : RkR P (allL 5 0) f) : RankOk P f := by
  refine rank_of_most (fun k => ?_) fun x k hx => ?_
  · rcases h.some k with h0 | ⟨s, _, hc, hk, hl⟩
    · exact ⟨[], by rw [h0]; rfl, trivial⟩
    · have hne : s ≠ [] := fun e => by subst e; simp at hl
      obtain ⟨x, b, rfl⟩ : ∃ x b, s = x ++ [b] := ⟨s.dropLast, s.getLast hne, (List.dropLast_concat_getLast hne).symm⟩
      have hx : x.length = f k := by simpa using hl
      have hb : b = k := by
        unfold lastL at hk
        rw [show (x ++ [b]).length - 1 = x.length by simp, at0_end] at hk
        exact hk
      subst hb
      exact ⟨x, hx, isCh_iff.1 hc⟩
  · rcases Nat.eq_zero_or_pos x.length with h0 | h0
    · omega
    · have hnd := chn_nodup hn hx
      have hk5 : k < 5 := by
        have h9 := chn_iff.1 hx (x.length - 1) (by simp; omega)
        rw [show x.length - 1 + 1 = x.length by omega, at0_end] at h9
        exact (h5 _ _ h9).2
      have h5x : ∀ j ∈ x ++ [k], j < 5 := fun j hj => by
        rcases List.mem_append.1 hj with hj | hj
        · exact chn_five h5 hx j hj
        · obtain rfl := List.mem_singleton.1 hj; exact hk5
      have hlen := nodup_five hnd h5x
      have hmem : x ++ [k] ∈ allL 5 0 := by
        unfold allL
        refine List.mem_append.2 (.inl (List.mem_flatMap.2 ⟨x.length, List.mem_range.2 (by simp at hlen; omega), ?_⟩))
        exact rows_mem.2 ⟨by simp, hnd, h5x⟩
      have h9 := h.all _ hmem (isCh_iff.2 hx)
      have h8 : lastL (x ++ [k]) = k := by
        unfold lastL
        rw [show (x ++ [k]).length - 1 = x.length by simp, at0_end]
      rw [h8] at h9
      simp at h9
      exact h9
theorem pq_five {l : List (Int × Int)} (h : l.any qbad = false) : Five (Pq l) := by
  intro a b hab
  have hm : (((a : Nat) : Int), ((b : Nat) : Int)) ∈ l := of_decide_eq_true hab
  have h9 := List.any_eq_false.1 h _ hm
  simp [qbad, outs] at h9
  omega
end Go.Proofs.Ytjindfkomnjceaa

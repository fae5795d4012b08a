import Derived.Test.YtlcldcbdobgdbaaYSo
import Derived.Test.YtlcldcbdobgdbaaYSwT
set_option linter.all false
set_option maxRecDepth 100000
namespace Go.Proofs.Ytlcldcbdobgdbaa
open Go Go.RowKit

open Classical in
noncomputable def ddpF (p : En) : List En → List En
  | [] => []
  | y :: l => if enA p = enA y then ddpF y l else y :: ddpF y l
noncomputable def ddp : List En → List En
  | [] => []
  | x :: l => x :: ddpF x l
open Classical in
theorem ddpF_snoc (y : En) : ∀ (l : List En) (p : En), ddpF p (l ++ [y]) = ddpF p l ++ (if enA (l.getLastD p) = enA y then [] else [y])
  | [], p => by
    by_cases h : enA p = enA y <;> simp [ddpF, h]
  | x :: l, p => by
    have ih := ddpF_snoc y l x
    simp only [List.cons_append]
    unfold ddpF
    rw [ih]
    have hl : (x :: l).getLastD p = l.getLastD x := by cases l <;> rfl
    rw [hl]
    split
    · rfl
    · rfl
open Classical in
theorem ddp_snoc {L : List En} {i : Nat} (h : i + 1 < L.length) : ddp (L.take (i + 2)) = ddp (L.take (i + 1)) ++ (if enA (L[i]'(by omega)) = enA L[i + 1] then [] else [L[i + 1]]) := by
  cases L with
  | nil => simp at h
  | cons x l =>
    rw [List.take_succ_eq_append_getElem (l := x :: l) (i := i + 1) h]
    have e1 : (x :: l).take (i + 1) = x :: l.take i := rfl
    rw [e1]
    show x :: ddpF x (l.take i ++ [_]) = x :: ddpF x (l.take i) ++ _
    rw [ddpF_snoc]
    have e2 : (l.take i).getLastD x = (x :: l)[i] := by
      cases i with
      | zero => rfl
      | succ i =>
        have hi : i < l.length := by simp at h; omega
        rw [List.take_succ_eq_append_getElem hi, List.getLastD_concat]
        rfl
    rw [e2]
    rfl
theorem ddp_one {L : List En} (h : 0 < L.length) : ddp (L.take 1) = L.take 1 := by
  cases L with
  | nil => simp at h
  | cons x l => rfl
theorem ddpF_mem {a : Array Value} : ∀ {l : List En} {p : En}, (a = enA p ∨ a ∈ (ddpF p l).map enA) ↔ (a = enA p ∨ a ∈ l.map enA)
  | [], p => by simp [ddpF]
  | y :: l, p => by
    have ih := ddpF_mem (a := a) (l := l) (p := y)
    unfold ddpF
    split
    · rename_i he
      rw [List.map_cons, List.mem_cons, ← ih, ← he]
      constructor
      · rintro (h | h)
        · exact .inl h
        · exact .inr (.inr h)
      · rintro (h | h | h)
        · exact .inl h
        · exact .inl h
        · exact .inr h
    · rw [List.map_cons, List.mem_cons, ih, List.map_cons, List.mem_cons]
theorem ddp_mem {a : Array Value} {L : List En} : a ∈ (ddp L).map enA ↔ a ∈ L.map enA := by
  cases L with
  | nil => rfl
  | cons x l =>
    show a ∈ (x :: ddpF x l).map enA ↔ _
    rw [List.map_cons, List.mem_cons, List.map_cons, List.mem_cons]
    exact ddpF_mem
theorem ddpF_sorted : ∀ {l : List En} {p : En}, (p :: l).Pairwise (fun x y => ¬ ltI (enK (enA y)) (enK (enA x))) → (∀ x ∈ p :: l, ∀ y ∈ p :: l, enK (enA x) = enK (enA y) → enA x = enA y) → (p :: ddpF p l).Pairwise fun x y => ltI (enK (enA x)) (enK (enA y))
  | [], p, _, _ => by unfold ddpF; exact List.pairwise_singleton _ _
  | y :: l, p, h, hk => by
    obtain ⟨h1, h2⟩ := List.pairwise_cons.1 h
    have ih := ddpF_sorted (l := l) (p := y) h2 (fun a ha b hb => hk a (List.mem_cons_of_mem _ ha) b (List.mem_cons_of_mem _ hb))
    obtain ⟨i1, i2⟩ := List.pairwise_cons.1 ih
    unfold ddpF
    split
    · rename_i he
      refine List.pairwise_cons.2 ⟨fun b hb => ?_, i2⟩
      rw [he]; exact i1 b hb
    · rename_i hne
      have hpy : ltI (enK (enA p)) (enK (enA y)) := by
        rcases ltI_tot (enK (enA p)) (enK (enA y)) with g | g | g
        · exact g
        · exact absurd (hk p (by simp) y (by simp) g) hne
        · exact absurd g (h1 y (by simp))
      refine List.pairwise_cons.2 ⟨fun b hb => ?_, ih⟩
      rcases List.mem_cons.1 hb with rfl | hb
      · exact hpy
      · exact ltI_trans hpy (i1 b hb)
theorem ddp_sorted {L : List En} (h : L.Pairwise (fun x y => ¬ ltI (enK (enA y)) (enK (enA x)))) (hk : ∀ x ∈ L, ∀ y ∈ L, enK (enA x) = enK (enA y) → enA x = enA y) : (ddp L).Pairwise fun x y => ltI (enK (enA x)) (enK (enA y)) := by
  cases L with
  | nil => exact List.Pairwise.nil
  | cons x l => exact ddpF_sorted h hk

section
variable {w : World} {base g n cap : Nat} {e : TypeId} {L : List En}
theorem own_enE (h : w.ownsRow base e 20 (.slice (some ⟨g, 0, none⟩) n cap) n (enRow L)) : L.length = n := by
  have := h.1; rw [row_len] at this; omega
theorem own_cell20 (h : w.ownsRow base e 20 (.slice (some ⟨g, 0, none⟩) n cap) n (enRow L)) {t : Nat} (ht : t < n * 20) : w.cell? ⟨g, t, none⟩ = (enRow L)[t]? ∧ w.frozen? ⟨g, t, none⟩ = false := by
  rcases h.2 with ⟨h1, _⟩ | ⟨g', cap', cur, h1, h2, h3, h4, h5, h6, h7⟩
  · cases h1
  · cases h1
    have hbx : Box w g cur e := h3
    obtain ⟨u, hu⟩ : ∃ u, (enRow L)[t]? = some u := ⟨_, List.getElem?_eq_getElem (by rw [h.1]; exact ht)⟩
    refine ⟨?_, hbx.frozen t⟩
    rw [hu]
    refine hbx.cell t ?_
    rw [← h7, List.getElem?_take_of_lt ht] at hu
    rw [← Array.getElem?_toList]; exact hu
theorem row_k {L : List En} {k j : Nat} (hk : k < L.length) (hj : j < 20) : (enRow L)[k * 20 + j]? = (enE L[k])[j]? := by
  rw [row_at (by omega), show (k * 20 + j) / 20 = k by omega, show (k * 20 + j) % 20 = j by omega, List.getElem?_eq_getElem hk]
  rfl
theorem own_range (h : w.ownsRow base e 20 (.slice (some ⟨g, 0, none⟩) n cap) n (enRow L)) {k : Nat} (hk : k < L.length) : w.rangeAt g (k * 20) (enE L[k]) := fun j v hv => by
  have hj : j < 20 := by have := (List.getElem?_eq_some_iff.1 hv).1; rw [enE_len] at this; exact this
  have hl := own_enE h
  rw [(own_cell20 h (t := k * 20 + j) (by omega)).1, row_k hk hj, hv]
theorem own_there (h : w.ownsRow base e 20 (.slice (some ⟨g, 0, none⟩) n cap) n (enRow L)) {k m : Nat} (hm : k * 20 + m ≤ n * 20) : w.there g (k * 20) m := fun j hj => by
  obtain ⟨h1, h2⟩ := own_cell20 h (t := k * 20 + j) (by omega)
  refine ⟨?_, h2⟩
  rw [h1, List.getElem?_eq_getElem (by rw [h.1]; omega)]
  rfl
theorem own_setE (h : w.ownsRow base e 20 (.slice (some ⟨g, 0, none⟩) n cap) n (enRow L)) {k : Nat} (hk : k < L.length) (x : En) : (w.setCells g (k * 20) (enE x)).ownsRow base e 20 (.slice (some ⟨g, 0, none⟩) n cap) n (enRow (L.set k x)) := by
  have hl := own_enE h
  rcases h.2 with ⟨h1, _⟩ | ⟨g', cap', cur, h1, h2, h3, h4, h5, h6, h7⟩
  · cases h1
  · cases h1
    have hbx : Box w g cur e := h3
    refine ⟨by rw [row_len]; simp [hl], .inr ⟨g, cap, _, rfl, h2, hbx.setL (enE x) (k * 20), h4, h5, by rw [setL_size]; exact h6, ?_⟩⟩
    apply List.ext_getElem?
    intro t
    by_cases ht : t < n * 20
    · rw [List.getElem?_take_of_lt ht, Array.getElem?_toList]
      have hq : t / 20 < L.length := by omega
      by_cases hin : k * 20 ≤ t ∧ t < k * 20 + 20
      · have e1 : t = k * 20 + (t - k * 20) := by omega
        have hj : t - k * 20 < 20 := by omega
        rw [e1, setL_in (enE x) cur (k * 20) (t - k * 20) ((enE x)[t - k * 20]'(by rw [enE_len]; exact hj)) (List.getElem?_eq_getElem _) (by rw [enE_len, h6]; have := Nat.mul_le_mul_right 20 h4; omega)]
        rw [row_k (L := L.set k x) (by simp; exact hk) hj]
        simp
      · rw [setL_out _ _ _ _ (by rw [enE_len]; omega)]
        have h9 : (enRow L)[t]? = (enRow (L.set k x))[t]? := by
          rw [row_at (by omega), row_at (by simp; omega)]
          have : t / 20 ≠ k := by omega
          rw [List.getElem?_set_ne (by omega)]
        rw [← h9, ← h7, List.getElem?_take_of_lt ht, Array.getElem?_toList]
    · rw [List.getElem?_take_eq_none (by omega), List.getElem?_eq_none (by rw [row_len]; simp; omega)]
theorem own_clear (h : w.ownsRow base e 20 (.slice (some ⟨g, 0, none⟩) n cap) n (enRow L)) {k : Nat} (hk : k ≤ n) (vs : List Value) : (w.setCells g (k * 20) vs).ownsRow base e 20 (.slice (some ⟨g, 0, none⟩) k cap) k (enRow (L.take k)) := by
  have hl := own_enE h
  rcases h.2 with ⟨h1, _⟩ | ⟨g', cap', cur, h1, h2, h3, h4, h5, h6, h7⟩
  · cases h1
  · cases h1
    have hbx : Box w g cur e := h3
    refine ⟨by rw [row_len, List.length_take, hl, Nat.min_eq_left hk], .inr ⟨g, cap, _, rfl, h2, hbx.setL vs (k * 20), by omega, h5, by rw [setL_size]; exact h6, ?_⟩⟩
    apply List.ext_getElem?
    intro t
    by_cases ht : t < k * 20
    · rw [List.getElem?_take_of_lt ht, Array.getElem?_toList, setL_out _ _ _ _ (by omega)]
      rw [row_at (by rw [List.length_take, hl, Nat.min_eq_left hk]; exact ht), List.getElem?_take_of_lt (by omega), ← row_at (by omega), ← h7, List.getElem?_take_of_lt (by omega), Array.getElem?_toList]
    · rw [List.getElem?_take_eq_none (by omega), List.getElem?_eq_none (by rw [row_len, List.length_take, hl, Nat.min_eq_left hk]; omega)]
end
theorem run_clear20 {P : Program} (t e : TypeId) (i : TypeInfo) (ht : P.underlying t = some (.slice e)) (hi : P.info? e = some i) (hz : i.zero = some (.agg z20)) (ty : TypeId) (w : World) (g o k c : Nat) (hk : 0 < k) (hth : w.there g o (k * 20)) :
    ∃ vs, (Builtin.clear_ #[t] ty #[.slice (some ⟨g, o, none⟩) k c]).run P w = .ok (.tuple #[]) (w.setCells g o vs) := by
  have hsz : z20.size = 20 := rfl
  have hl : (Builtin.zeroCells z20 k).toList.length = k * 20 := by unfold Builtin.zeroCells; simp [hsz]
  have hst := run_storeCells_cells (P := P) g o (Builtin.zeroCells z20 k).toList 0 w (fun j hj => by rw [hl] at hj; exact (hth j hj).1) (fun j hj => by rw [hl] at hj; exact (hth j hj).2) (fun v hv => by
    unfold Builtin.zeroCells at hv
    simp only [Array.toList_map, List.mem_map] at hv
    obtain ⟨i, _, rfl⟩ := hv
    have hm : i % z20.size < z20.size := Nat.mod_lt _ (by rw [hsz]; omega)
    rw [getElem!_pos z20 _ hm]
    have := Array.all_eq_true.1 z20_all (i % z20.size) hm
    exact this)
  refine ⟨(Builtin.zeroCells z20 k).toList, ?_⟩
  obtain ⟨k', rfl⟩ : ∃ k', k = k' + 1 := ⟨k - 1, by omega⟩
  simp only [Nat.add_zero] at hst
  simp [Builtin.clear_, Sem.run_bind, run_underlying ht, typeInfo, hi, zeroValue, hz, Value.cells, hst, Result.andThen]
end Go.Proofs.Ytlcldcbdobgdbaa

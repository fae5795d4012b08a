import Derived.Test.YtnklpifnknmdgaaGreatDoorZEqS
set_option linter.all false
set_option maxRecDepth 100000
namespace Go.Proofs.YtnklpifnknmdgaaGreatDoor
open Go Go.RowKit

theorem WS.take {w : World} {A : Option Addr} {n k : Nat} {xs : List Wd} (h : WS w A n xs) (hk : k ≤ n) : WS w A k (xs.take k) :=
  ⟨by rw [List.length_take, h.1]; omega, fun h0 => by
    obtain ⟨b, off, hA, hlt, hr⟩ := h.2 (by omega)
    refine ⟨b, off, hA, hlt, fun i x hx => hr i x ?_⟩
    rw [List.getElem?_take] at hx
    split at hx
    · exact hx
    · cases hx⟩
theorem WS.drop {w : World} {b off n : Nat} {xs : List Wd} (k : Nat) (h : WS w (some ⟨b, off, none⟩) n xs) : WS w (some ⟨b, off + k, none⟩) (n - k) (xs.drop k) :=
  ⟨by rw [List.length_drop, h.1], fun h0 => by
    obtain ⟨b', off', hA, hlt, hr⟩ := h.2 (by omega)
    cases hA
    refine ⟨b, off + k, rfl, hlt, fun i x hx => ?_⟩
    rw [Nat.add_assoc]
    exact hr (k + i) x (by rwa [List.getElem?_drop] at hx)⟩
theorem WS.src {w : World} {A : Option Addr} {n : Nat} {xs : List Wd} (h : WS w A n xs) : Src w A n (sts xs) := by
  by_cases h0 : 0 < n
  · obtain ⟨b, off, rfl, _, hr⟩ := h.2 h0
    refine .inr ⟨_, rfl, fun j u hu => ?_⟩
    rw [sts, List.getElem?_map] at hu
    obtain ⟨x, hx, rfl⟩ := Option.map_eq_some_iff.1 hu
    have := hr j x hx
    have ha : (⟨b, off, none⟩ : Addr).add j = ⟨b, off + j, none⟩ := by unfold Addr.add; split <;> simp_all
    rw [ha]
    exact this
  · obtain rfl : n = 0 := by omega
    obtain rfl : xs = [] := List.length_eq_zero_iff.1 h.1
    cases A with
    | none => exact .inl ⟨rfl, rfl, rfl⟩
    | some ad => exact .inr ⟨ad, rfl, fun j u hu => by cases hu⟩
theorem sts_one (xs : List Wd) : ∀ u ∈ sts xs, u.oneCell' = true := fun u hu => by
  obtain ⟨x, _, rfl⟩ := List.mem_map.1 hu
  rfl
theorem runE_app {a b : List Wd} (h : runE (a ++ b) = 0) : runE a = 0 ∧ runE b = 0 := by
  obtain ⟨h1, h2⟩ := runE_ok h
  rw [List.length_append] at h1
  exact ⟨runE_zero (by omega) fun x hx => h2 x (List.mem_append_left _ hx), runE_zero (by omega) fun x hx => h2 x (List.mem_append_right _ hx)⟩
theorem runT_ok {a : List Wd} (h : runE a = 0) : runT a = outW [] (a.map wordsL) := by unfold runT; rw [if_pos h]
theorem runT_len {a : List Wd} (h : runE a = 0) : (runT a).length = a.length := by rw [runT_ok h, outW_length, List.length_map]
theorem runT_app {a b : List Wd} (h : runE (a ++ b) = 0) : ∃ r, runT (a ++ b) = runT a ++ r ∧ r.length = b.length := by
  obtain ⟨h1, _⟩ := runE_app h
  refine ⟨outW (endT [] (a.map wordsL)) (b.map wordsL), ?_, by rw [outW_length, List.length_map]⟩
  rw [runT_ok h, runT_ok h1, List.map_append, outW_append]
theorem runT_bad {a : List Wd} (h : runE a ≠ 0) : runT a = [] ∧ runE a = 2 := by
  refine ⟨by unfold runT; rw [if_neg h], ?_⟩
  unfold runE at h ⊢
  split
  · rfl
  · rename_i h1; rw [if_neg h1] at h; exact absurd rfl h
abbrev clrW : Wd := [99, 108, 101, 97, 114]
theorem ans_clear (l : List Ev) : ans l (wordsL clrW) = .ok [111, 107] [] := by
  have hw : wordsL clrW = [clrW] := by decide +kernel
  have hc : cmdOf (nameW [clrW]) = some (1, 11) := by decide +kernel
  rw [hw]
  unfold ans
  rw [hc]
  rfl
theorem runT_clear {a b : List Wd} (h : runE (a ++ [clrW] ++ b) = 0) : runT (a ++ [clrW] ++ b) = runT a ++ [[111, 107]] ++ runT b := by
  obtain ⟨h1, h2⟩ := runE_app h
  obtain ⟨h3, _⟩ := runE_app h1
  rw [runT_ok h, runT_ok h3, runT_ok h2, List.map_append, List.map_append, outW_append, outW_append, endT_append]
  simp only [List.map_cons, List.map_nil, outW, endT, ans_clear, Ans.out, Ans.next]
abbrev fiveL : List Wd := [[116, 48, 32, 102, 111, 114, 107, 32, 116, 49], [116, 48, 32, 119, 114, 105, 116, 101, 32, 120, 48], [116, 49, 32, 119, 114, 105, 116, 101, 32, 120, 48], [114, 97, 99, 101, 115], [119, 104, 97, 116]]
abbrev fiveO : List Wd := [[111, 107], [111, 107], [111, 107], [49, 45, 50], [101, 114, 114, 111, 114, 32, 51]]
theorem ans_tell {l : List Ev} {ws : List Wd} {e : Ev} (hc : cmdOf (nameW ws) = some (3, 0)) (hl : ws.length = 3) (ht : tellE ws = (e, 0)) (hk : (check (l ++ [e])).2 = 0) : ans l ws = .ok [111, 107] (l ++ [e]) := by
  unfold ans
  rw [hc]
  simp only
  rw [if_pos hl]
  show tellR l ws = _
  unfold tellR
  rw [ht]
  simp only
  rw [if_neg (by simp), if_neg (fun h => h hk)]
theorem run_five : runT fiveL = fiveO ∧ runE fiveL = 0 := by
  have h0 : runE fiveL = 0 := by decide
  refine ⟨?_, h0⟩
  rw [runT_ok h0]
  have hw : fiveL.map wordsL = [[[116, 48], [102, 111, 114, 107], [116, 49]], [[116, 48], [119, 114, 105, 116, 101], [120, 48]], [[116, 49], [119, 114, 105, 116, 101], [120, 48]], [[114, 97, 99, 101, 115]], [[119, 104, 97, 116]]] := by decide +kernel
  rw [hw]
  have a0 : ans [] [[116, 48], [102, 111, 114, 107], [116, 49]] = .ok [111, 107] [⟨5, 0, 1⟩] := ans_tell (by decide +kernel) rfl (by decide +kernel) (by decide +kernel)
  have a1 : ans [⟨5, 0, 1⟩] [[116, 48], [119, 114, 105, 116, 101], [120, 48]] = .ok [111, 107] [⟨5, 0, 1⟩, ⟨2, 0, 0⟩] := ans_tell (by decide +kernel) rfl (by decide +kernel) (by decide +kernel)
  have a2 : ans [⟨5, 0, 1⟩, ⟨2, 0, 0⟩] [[116, 49], [119, 114, 105, 116, 101], [120, 48]] = .ok [111, 107] [⟨5, 0, 1⟩, ⟨2, 0, 0⟩, ⟨2, 1, 0⟩] := ans_tell (by decide +kernel) rfl (by decide +kernel) (by decide +kernel)
  have hr : (rcs [⟨5, 0, 1⟩, ⟨2, 0, 0⟩, ⟨2, 1, 0⟩]).map rcT = [[49, 45, 50]] := by decide +kernel
  have a3 : ans [⟨5, 0, 1⟩, ⟨2, 0, 0⟩, ⟨2, 1, 0⟩] [[114, 97, 99, 101, 115]] = .ok [49, 45, 50] [⟨5, 0, 1⟩, ⟨2, 0, 0⟩, ⟨2, 1, 0⟩] := by
    unfold ans
    rw [show cmdOf (nameW [[114, 97, 99, 101, 115]]) = some (1, 1) by decide +kernel]
    simp only
    refine (if_pos rfl).trans ?_
    show Ans.ok (prt ((rcs [⟨5, 0, 1⟩, ⟨2, 0, 0⟩, ⟨2, 1, 0⟩]).map rcT)) _ = _
    rw [hr]
    rfl
  have a4 : ans [⟨5, 0, 1⟩, ⟨2, 0, 0⟩, ⟨2, 1, 0⟩] [[119, 104, 97, 116]] = .err 3 := by
    unfold ans
    rw [show cmdOf (nameW [[119, 104, 97, 116]]) = none by decide +kernel]
  simp only [outW, a0, a1, a2, a3, a4, Ans.next, Ans.out]
  decide +kernel
end Go.Proofs.YtnklpifnknmdgaaGreatDoor

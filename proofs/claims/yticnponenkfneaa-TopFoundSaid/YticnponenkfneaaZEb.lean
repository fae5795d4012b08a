import Derived.Laws.MakeOwn
import Derived.Test.YticnponenkfneaaZAppend
import Derived.Test.YticnponenkfneaaZEc
import Derived.Test.YticnponenkfneaaZVr
import Derived.Test.YticnponenkfneaaZFo
import Derived.Test.YticnponenkfneaaZEr
set_option linter.all false
set_option maxRecDepth 100000
namespace Go.Proofs.Yticnponenkfneaa
open Go Go.RowKit

end Go.Proofs.Yticnponenkfneaa
set_option linter.all false
set_option maxRecDepth 100000
namespace Go.Proofs.Yticnponenkfneaa
open Go Go.RowKit

theorem row_cells {w : World} {base : Nat} {e : TypeId} {v : Value} {n : Nat} {xs : List Value} {size : Nat} (h : w.ownsRow base e size v n xs) (h0 : 0 < n) : ∃ g cap, v = .slice (some ⟨g, 0, none⟩) n cap ∧ base ≤ g ∧ n ≤ cap ∧ cap ≤ maxLen ∧ ∀ t u, xs[t]? = some u → w.cell? ⟨g, t, none⟩ = some u := by
  rcases h.2 with ⟨_, h1⟩ | ⟨g, cap, cur, rfl, h2, h3, h4, h5, h6, h7⟩
  · omega
  · refine ⟨g, cap, rfl, h2, h4, h5, fun t u hu => ?_⟩
    have hbx : Box w g cur e := h3
    refine hbx.cell t ?_
    have ht : t < n * size := by have := (List.getElem?_eq_some_iff.1 hu).1; rw [h.1] at this; exact this
    rw [← h7, List.getElem?_take_of_lt ht] at hu
    rw [← Array.getElem?_toList]; exact hu
theorem row_si {w : World} {base n : Nat} {v : Value} {l : List Int} (h : w.ownsRow base 3 1 v n (intq l)) : ∃ A c, v = .slice A n c ∧ SI w A n l ∧ n ≤ c ∧ c ≤ maxLen := by
  have hl : l.length = n := by have := h.1; simp [intq] at this; omega
  rcases h.2 with ⟨rfl, rfl⟩ | ⟨g, cap, cur, rfl, hg, hb, hn, hc, hs, ht⟩
  · exact ⟨none, 0, rfl, ⟨hl, fun h => absurd h (by omega)⟩, by omega, by omega⟩
  · refine ⟨_, cap, rfl, ⟨hl, fun _ => ⟨g, 0, rfl, fun i hi => ?_⟩⟩, hn, hc⟩
    have hbx : Box w g cur 3 := hb
    rw [Nat.zero_add]
    refine hbx.cell i ?_
    have h1 : (intq l)[i]? = some (.int .i64 (l[i]?.getD 0)) := by unfold intq; rw [List.getElem?_map, List.getElem?_eq_getElem (by omega)]; rfl
    rw [← ht, List.getElem?_take, if_pos (by omega)] at h1
    simpa using h1
theorem evC_tot {P : List (List Ev)} (h : evC P = 0) : totP P ≤ 10 := by
  unfold evC at h
  unfold totP
  split at h
  · contradiction
  · split at h
    · omega
    · omega
theorem runB_way {P : List (List Ev)} {ws : List Nat} {x : Array Value} {l : List Ev} {c : Int} (h0 : evC P = 0) (hv : VlP P ps0 ws) (h : RunB P (pks ws) x l c) : x = endP P (goS P ps0 ws) ∧ l = (goS P ps0 ws).L ∧ c = 0 := by
  have hP := evC_ok h0
  have hl : (pks ws).length ≤ 100 := by
    have h1 := vl_tot hP hv
    have h2 := evC_tot h0
    unfold pks; rw [List.length_map]; omega
  rcases h with ⟨h1, _⟩ | ⟨_, h1, _⟩ | ⟨_, _, h3, h4, h5⟩
  · exact absurd (chk_ok.2 hP) h1
  · omega
  · rw [run_pks hv] at h3 h4; exact ⟨h3, h4, h5⟩
end Go.Proofs.Yticnponenkfneaa
set_option linter.all false
set_option maxRecDepth 100000
namespace Go.Proofs.Yticnponenkfneaa
open Go Go.RowKit

theorem dn_len {l : List Ev} {i x : Nat} (hi : i < l.length) (hx : x < l.length) (h : x ≠ i) : dnI i x < (l.eraseIdx i).length := by
  have := er_len hi
  unfold dnI
  split <;> omega
theorem er_ok {l : List Ev} {i a b : Nat} (hi : i < l.length) (ha : a ≠ i) (hb : b ≠ i) (hbl : b < l.length) (hr : racB l a b = true) (hm : may (l.eraseIdx i) = 0) : Ok (l.eraseIdx i) := by
  have hab : a < b := by
    unfold racB at hr
    simp only [Bool.and_eq_true, decide_eq_true_iff] at hr
    exact hr.1
  exact ok_iff.2 ⟨hm, dnI i a, dnI i b, dn_len hi (by omega) ha, dn_len hi hbl hb, er_rac ha hb hr⟩
theorem rac_parts {l : List Ev} {a b : Nat} (hr : racB l a b = true) : a < b ∧ conf (evZ l a) (evZ l b) ≠ 0 := by
  unfold racB at hr
  simp only [Bool.and_eq_true, decide_eq_true_iff] at hr
  exact ⟨hr.1, hr.2.1⟩
theorem bare_lock {m : List Ev} {a b : Nat} (hm : may m = 0) (hB : Bare m) (hbl : b < m.length) (hr : racB m a b = true) (ka : (evZ m a).k ≤ 2) (kb : (evZ m b).k ≤ 2) : ∀ (n i : Nat) (e : Ev), m.length - i ≤ n → m[i]? = some e → (e.k = 3 ∨ e.k = 4) → False
  | 0, i, e, h, he, _ => by have := (List.getElem?_eq_some_iff.1 he).1; omega
  | n + 1, i, e, h, he, hk => by
    have hi := (List.getElem?_eq_some_iff.1 he).1
    by_cases hx : ∃ f ∈ m.drop (i + 1), (f.k = 3 ∨ f.k = 4) ∧ f.o = e.o
    · obtain ⟨f, hf, hfk, _⟩ := hx
      obtain ⟨j, hj⟩ := List.getElem?_of_mem hf
      rw [List.getElem?_drop] at hj
      exact bare_lock hm hB hbl hr ka kb n (i + 1 + j) f (by omega) hj hfk
    · have hne : ∀ x, (evZ m x).k ≤ 2 → x ≠ i := fun x hx e1 => by
        rw [e1, evZ_at he] at hx; omega
      exact hB i hi (er_ok hi (hne a ka) (hne b kb) hbl hr (may_er hm he (by omega) fun _ f hf hfk ho => hx ⟨f, hf, hfk, ho⟩))
structure BareF (m : List Ev) (a b : Nat) : Prop where
  lt : a < b
  le : b < m.length
  rac : racB m a b = true
  ka : (evZ m a).k ≤ 2
  kb : (evZ m b).k ≤ 2
  frk : ∀ i e, m[i]? = some e → i ≠ a → i ≠ b → e.k = 5
theorem bare_form {m : List Ev} (ho : Ok m) (hB : Bare m) : ∃ a b, BareF m a b := by
  obtain ⟨hm, a, b, hal, hbl, hr⟩ := ok_iff.1 ho
  obtain ⟨hlt, hc⟩ := rac_parts hr
  obtain ⟨_, h1, h2, _⟩ := conf_bin (l := m) hc
  have ka : (evZ m a).k ≤ 2 := by omega
  have kb : (evZ m b).k ≤ 2 := by omega
  refine ⟨a, b, hlt, hbl, hr, ka, kb, fun i e he hia hib => ?_⟩
  have hi := (List.getElem?_eq_some_iff.1 he).1
  rcases Classical.em (e.k = 5) with h5 | h5
  · exact h5
  · exfalso
    by_cases h34 : e.k = 3 ∨ e.k = 4
    · exact bare_lock hm hB hbl hr ka kb _ i e (Nat.le_refl _) he h34
    · exact hB i hi (er_ok hi (fun h => hia h.symm) (fun h => hib h.symm) hbl hr (may_er hm he h5 fun h => absurd h h34))
end Go.Proofs.Yticnponenkfneaa

import Derived.Test.YtlcldcbdobgdbaaZEd
import Derived.Test.YtlcldcbdobgdbaaZFo
set_option linter.all false
set_option maxRecDepth 100000
namespace Go.Proofs.Ytlcldcbdobgdbaa
open Go Go.RowKit

theorem row_slice {w : World} {base n size : Nat} {e : TypeId} {v : Value} {xs : List Value} (h : w.ownsRow base e size v n xs) : ∃ A c, v = .slice A n c ∧ n ≤ c ∧ c ≤ maxLen := by
  rcases h.2 with ⟨rfl, rfl⟩ | ⟨g, cap, cur, rfl, _, _, hc, hm, _⟩
  · exact ⟨none, 0, rfl, Nat.le_refl _, Nat.zero_le _⟩
  · exact ⟨_, cap, rfl, hc, hm⟩
theorem row_si {w : World} {base n : Nat} {v : Value} {l : List Int} (h : w.ownsRow base 3 1 v n (intq l)) : ∃ A c, v = .slice A n c ∧ SI w A n l ∧ n ≤ c ∧ c ≤ maxLen := by
  have hl : l.length = n := by have := h.1; simp [intq] at this; omega
  rcases h.2 with ⟨rfl, rfl⟩ | ⟨g, cap, cur, rfl, hg, hb, hn, hc, hs, ht⟩
  · exact ⟨none, 0, rfl, ⟨hl, fun h => absurd h (by omega)⟩, by omega, by omega⟩
  · refine ⟨_, cap, rfl, ⟨hl, fun _ => ⟨g, 0, rfl, fun i hi => ?_⟩⟩, hn, hc⟩
    have hbx : Box w g cur 3 := hb
    rw [Nat.zero_add]
    refine hbx.cell i ?_
    have h1 : (intq l)[i]? = some (.int .i64 (l[i]?.getD 0)) := by unfold intq; rw [List.getElem?_map, List.getElem?_eq_getElem (by omega)]; rfl
    rw [← ht, List.getElem?_take, if_pos (by omega)] at h1
    simpa using h1
theorem evC_tot {P : List (List Ev)} (h : evC P = 0) : totP P ≤ 10 := by
  unfold evC at h
  unfold totP
  split at h
  · contradiction
  · split at h
    · omega
    · omega
theorem runB_way {P : List (List Ev)} {ws : List Nat} {x : Array Value} {l : List Ev} {c : Int} (h0 : evC P = 0) (hv : VlP P ps0 ws) (h : RunB P (pks ws) x l c) : x = endP P (goS P ps0 ws) ∧ l = (goS P ps0 ws).L ∧ c = 0 := by
  have hP := evC_ok h0
  have hl : (pks ws).length ≤ 100 := by
    have h1 := vl_tot hP hv
    have h2 := evC_tot h0
    unfold pks; rw [List.length_map]; omega
  rcases h with ⟨h1, _⟩ | ⟨_, h1, _⟩ | ⟨_, _, h3, h4, h5⟩
  · exact absurd (chk_ok.2 hP) h1
  · omega
  · rw [run_pks hv] at h3 h4; exact ⟨h3, h4, h5⟩
theorem end_ds {P : List (List Ev)} {y : En} (h : IsEnd P (enA y)) : (y.d == y.k) = false := by
  obtain ⟨ts, hg, he⟩ := h
  have h1 : (enA y)[18]? = some (.bool y.d) := rfl
  have h2 : (enA y)[19]? = some (.bool y.k) := rfl
  rw [he] at h1 h2
  have e1 : (endP P (runP P ts))[18]? = some (.bool (doneP P (runP P ts))) := rfl
  have e2 : (endP P (runP P ts))[19]? = some (.bool (stuckP P (runP P ts))) := rfl
  rw [e1] at h1; rw [e2] at h2
  have h1 : doneP P (runP P ts) = y.d := by simpa using h1
  have h2 : stuckP P (runP P ts) = y.k := by simpa using h2
  rw [← h1, ← h2]
  unfold stuckP
  rw [hg]
  cases doneP P (runP P ts) <;> rfl
theorem neqG_step {P : Program} {ops : Array Oper} {rest : List Oper} {o : Oper} {a : Act} {w : World} {Q : Exit → Act → World → Prop} (t t2 : TypeId) (x y : Operand) (ho : o.op = .binOp .neq t x y t2) (hw : Region.wanted o (yielded ops a.tmps) = true) {u v : Array Value} {b : Value} (hx : a.eval x = .agg u) (hy : a.eval y = .agg v)
    (hq : P.eqGuardType P.depth t = false) (hr : (binOp .neq t (.agg u) (.agg v)).run P w = .ok b w) (h : wpList P ops Q rest (a.put o.dst b) w) : wpList P ops Q (o :: rest) a w := by
  refine BigFrame.wpList_want hw fun _ hK => ?_
  unfold Oper.wp execOp
  have he : (eqGuard .neq t x y (.agg u) (.agg v)).run P w = .ok () w := by simp [eqGuard, Sem.run_bind, hq]
  simp [ho, hx, hy, Sem.run_bind, he, hr]
  exact hK _ _ h
theorem neq_self (y : En) (w : World) : (binOp .neq 33 (.agg (enA y)) (.agg (enA y))).run Try.prog w = .ok (.bool false) w := by
  obtain ⟨b, _, h2, h3⟩ := eq_en y y
  rw [h2 w, h3.2 rfl]; rfl
theorem enA_v (y : En) : EnV (enA y) := .of _ _ _ _ _
theorem enA_f (y : En) : EnF (enA y) := ⟨_, _, _, _, _, rfl⟩
end Go.Proofs.Ytlcldcbdobgdbaa

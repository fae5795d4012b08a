import Derived.Laws.MakeOwn
import Derived.Test.YtlcldcbdobgdbaaYKeepTw
import Derived.Test.YtlcldcbdobgdbaaYCi
import Derived.Test.YtlcldcbdobgdbaaYOrder
import Derived.Test.YtlcldcbdobgdbaaYVr
import Derived.Test.YtlcldcbdobgdbaaYFo
import Derived.Test.YtlcldcbdobgdbaaYRest
set_option linter.all false
set_option maxRecDepth 100000
namespace Go.Proofs.Ytlcldcbdobgdbaa
open Go Go.RowKit

end Go.Proofs.Ytlcldcbdobgdbaa
set_option linter.all false
set_option maxRecDepth 100000
namespace Go.Proofs.Ytlcldcbdobgdbaa
open Go Go.RowKit

end Go.Proofs.Ytlcldcbdobgdbaa
set_option linter.all false
set_option maxRecDepth 100000
namespace Go.Proofs.Ytlcldcbdobgdbaa
open Go Go.RowKit

theorem row_slice {w : World} {base n size : Nat} {e : TypeId} {v : Value} {xs : List Value} (h : w.ownsRow base e size v n xs) : ∃ A c, v = .slice A n c ∧ n ≤ c ∧ c ≤ maxLen := by
  rcases h.2 with ⟨rfl, rfl⟩ | ⟨g, cap, cur, rfl, _, _, hc, hm, _⟩
  · exact ⟨none, 0, rfl, Nat.le_refl _, Nat.zero_le _⟩
  · exact ⟨_, cap, rfl, hc, hm⟩
end Go.Proofs.Ytlcldcbdobgdbaa
set_option linter.all false
set_option maxRecDepth 100000
namespace Go.Proofs.Ytlcldcbdobgdbaa
open Go Go.RowKit

def fldS {σ : Type} (vis : σ → List Nat → σ × Bool) : List (List Nat) → σ → σ × Bool
  | [], s => (s, true)
  | w :: l, s => if (vis s w).2 = true then fldS vis l (vis s w).1 else ((vis s w).1, false)
theorem fldS_app {σ : Type} {vis : σ → List Nat → σ × Bool} : ∀ (l m : List (List Nat)) (s : σ), fldS vis (l ++ m) s = if (fldS vis l s).2 = true then fldS vis m (fldS vis l s).1 else ((fldS vis l s).1, false)
  | [], m, s => (if_pos rfl).symm
  | w :: l, m, s => by
    rw [List.cons_append]
    by_cases h : (vis s w).2 = true
    · rw [fldS, fldS, if_pos h, if_pos h, fldS_app l m]
    · rw [fldS, fldS, if_neg h, if_neg h]
      exact (if_neg (by simp)).symm
theorem fldS_yes {σ : Type} {vis : σ → List Nat → σ × Bool} {l : List (List Nat)} {m : List (List Nat)} {s : σ} (h : (fldS vis l s).2 = true) : fldS vis (l ++ m) s = fldS vis m (fldS vis l s).1 := by rw [fldS_app, if_pos h]
theorem fldS_cut {σ : Type} {vis : σ → List Nat → σ × Bool} {l : List (List Nat)} {m : List (List Nat)} {s : σ} (h : (fldS vis l s).2 = false) : fldS vis (l ++ m) s = fldS vis l s := by
  rw [fldS_app, if_neg (by rw [h]; simp), ← h]
def runW (P : List (List Ev)) (n : Nat) (ws : List Nat) : List (List Nat) := (rnsP P n (goS P ps0 ws)).map (ws ++ ·)
def upW (P : List (List Ev)) (n : Nat) (ws : List Nat) (i : Nat) : List (List Nat) := ((List.range i).filter (canP P (goS P ps0 ws))).flatMap fun t => runW P n (ws ++ [t])
theorem runW_succ (P : List (List Ev)) (n : Nat) (ws : List Nat) : runW P (n + 1) ws = ws :: upW P n ws P.length := by
  unfold runW upW
  simp only [rnsP, List.map_cons, List.append_nil, List.map_flatMap, List.map_map]
  congr 1
  refine congrArg (List.flatMap · _) (funext fun t => ?_)
  unfold runW
  rw [go_snoc]
  refine List.map_congr_left fun x _ => ?_
  simp
theorem upW_zero (P : List (List Ev)) (n : Nat) (ws : List Nat) : upW P n ws 0 = [] := rfl
theorem upW_yes {P : List (List Ev)} {n : Nat} {ws : List Nat} {i : Nat} (h : canP P (goS P ps0 ws) i = true) : upW P n ws (i + 1) = upW P n ws i ++ runW P n (ws ++ [i]) := by
  unfold upW
  rw [List.range_succ, List.filter_append, List.flatMap_append]
  simp [h]
theorem upW_no {P : List (List Ev)} {n : Nat} {ws : List Nat} {i : Nat} (h : canP P (goS P ps0 ws) i = false) : upW P n ws (i + 1) = upW P n ws i := by
  unfold upW
  rw [List.range_succ, List.filter_append, List.flatMap_append]
  simp [h]
theorem upW_split {P : List (List Ev)} {n : Nat} {ws : List Nat} {i k : Nat} (h : i ≤ k) : ∃ m, upW P n ws k = upW P n ws i ++ m := by
  induction k with
  | zero => obtain rfl : i = 0 := by omega
            exact ⟨[], by simp⟩
  | succ k ih =>
    rcases Nat.lt_or_ge k i with g | g
    · obtain rfl : i = k + 1 := by omega
      exact ⟨[], by simp⟩
    · obtain ⟨m, hm⟩ := ih g
      cases hc : canP P (goS P ps0 ws) k
      · exact ⟨m, by rw [upW_no hc, hm]⟩
      · exact ⟨m ++ runW P n (ws ++ [k]), by rw [upW_yes hc, hm, List.append_assoc]⟩
theorem runW_mem {P : List (List Ev)} (hP : OkP P) {n : Nat} (hn : totP P ≤ n) {w : List Nat} : w ∈ runW P n [] ↔ VlP P ps0 w := by
  unfold runW
  simp only [List.nil_append, List.map_id']
  show w ∈ rnsP P n ps0 ↔ _
  rw [mem_rns]
  exact ⟨fun h => h.1, fun h => ⟨h, Nat.le_trans (vl_tot hP h) hn⟩⟩
theorem runW_lx (P : List (List Ev)) (n : Nat) : (runW P n []).Pairwise lxL := by
  unfold runW
  simp only [List.nil_append, List.map_id']
  exact rns_sorted _ _
open Classical in
def visQ (P : List (List Ev)) (s : Option (List Nat)) (w : List Nat) : Option (List Nat) × Bool := (bestL (racing P) s [w], true)
theorem fld_races (P : List (List Ev)) : ∀ (l : List (List Nat)) (b : Option (List Nat)), fldS (visQ P) l b = (bestL (racing P) b l, true)
  | [], _ => rfl
  | w :: l, b => by
    have e : fldS (visQ P) (w :: l) b = fldS (visQ P) l (bestL (racing P) b [w]) := if_pos rfl
    rw [e, fld_races P l]
    rfl
theorem wf_races {P : List (List Ev)} (hP : OkP P) {n : Nat} (hn : totP P ≤ n) : (∀ b, (fldS (visQ P) (runW P n []) none).1 = some b → IsBest P b) ∧ ((fldS (visQ P) (runW P n []) none).1 = none → ∀ ts, rcs (runP P ts).L = []) := by
  rw [fld_races]
  obtain ⟨h1, h2⟩ := best_all (runW_lx P n) (p := racing P)
  refine ⟨fun b hb => ?_, fun hz => no_best fun v hv => ?_⟩
  · obtain ⟨q1, q2, q3⟩ := h1 b hb
    exact ⟨(runW_mem hP hn).1 q1, racing_iff.1 q2, fun v hv hr => q3 v ((runW_mem hP hn).2 hv) (racing_iff.2 hr)⟩
  · have := h2 hz v ((runW_mem hP hn).2 hv)
    refine Classical.byContradiction fun hne => ?_
    rw [racing_iff.2 hne] at this
    cases this
end Go.Proofs.Ytlcldcbdobgdbaa

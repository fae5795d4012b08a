import Derived.Test.YtlcldcbdobgdbaaZCp
set_option linter.all false
set_option maxRecDepth 100000
namespace Go.Proofs.Ytlcldcbdobgdbaa
open Go Go.RowKit

def fldS {σ : Type} (vis : σ → List Nat → σ × Bool) : List (List Nat) → σ → σ × Bool
  | [], s => (s, true)
  | w :: l, s => if (vis s w).2 = true then fldS vis l (vis s w).1 else ((vis s w).1, false)
theorem fldS_app {σ : Type} {vis : σ → List Nat → σ × Bool} : ∀ (l m : List (List Nat)) (s : σ), fldS vis (l ++ m) s = if (fldS vis l s).2 = true then fldS vis m (fldS vis l s).1 else ((fldS vis l s).1, false)
  | [], m, s => (if_pos rfl).symm
  | w :: l, m, s => by
    rw [List.cons_append]
    by_cases h : (vis s w).2 = true
    · rw [fldS, fldS, if_pos h, if_pos h, fldS_app l m]
    · rw [fldS, fldS, if_neg h, if_neg h]
      exact (if_neg (by simp)).symm
theorem fldS_yes {σ : Type} {vis : σ → List Nat → σ × Bool} {l : List (List Nat)} {m : List (List Nat)} {s : σ} (h : (fldS vis l s).2 = true) : fldS vis (l ++ m) s = fldS vis m (fldS vis l s).1 := by rw [fldS_app, if_pos h]
theorem fldS_cut {σ : Type} {vis : σ → List Nat → σ × Bool} {l : List (List Nat)} {m : List (List Nat)} {s : σ} (h : (fldS vis l s).2 = false) : fldS vis (l ++ m) s = fldS vis l s := by
  rw [fldS_app, if_neg (by rw [h]; simp), ← h]
def runW (P : List (List Ev)) (n : Nat) (ws : List Nat) : List (List Nat) := (rnsP P n (goS P ps0 ws)).map (ws ++ ·)
def upW (P : List (List Ev)) (n : Nat) (ws : List Nat) (i : Nat) : List (List Nat) := ((List.range i).filter (canP P (goS P ps0 ws))).flatMap fun t => runW P n (ws ++ [t])
theorem runW_succ (P : List (List Ev)) (n : Nat) (ws : List Nat) : runW P (n + 1) ws = ws :: upW P n ws P.length := by
  unfold runW upW
  simp only [rnsP, List.map_cons, List.append_nil, List.map_flatMap, List.map_map]
  congr 1
  refine congrArg (List.flatMap · _) (funext fun t => ?_)
  unfold runW
  rw [go_snoc]
  refine List.map_congr_left fun x _ => ?_
  simp
theorem upW_zero (P : List (List Ev)) (n : Nat) (ws : List Nat) : upW P n ws 0 = [] := rfl
theorem upW_yes {P : List (List Ev)} {n : Nat} {ws : List Nat} {i : Nat} (h : canP P (goS P ps0 ws) i = true) : upW P n ws (i + 1) = upW P n ws i ++ runW P n (ws ++ [i]) := by
  unfold upW
  rw [List.range_succ, List.filter_append, List.flatMap_append]
  simp [h]
theorem upW_no {P : List (List Ev)} {n : Nat} {ws : List Nat} {i : Nat} (h : canP P (goS P ps0 ws) i = false) : upW P n ws (i + 1) = upW P n ws i := by
  unfold upW
  rw [List.range_succ, List.filter_append, List.flatMap_append]
  simp [h]
theorem upW_split {P : List (List Ev)} {n : Nat} {ws : List Nat} {i k : Nat} (h : i ≤ k) : ∃ m, upW P n ws k = upW P n ws i ++ m := by
  induction k with
  | zero => obtain rfl : i = 0 := by omega
            exact ⟨[], by simp⟩
  | succ k ih =>
    rcases Nat.lt_or_ge k i with g | g
    · obtain rfl : i = k + 1 := by omega
      exact ⟨[], by simp⟩
    · obtain ⟨m, hm⟩ := ih g
      cases hc : canP P (goS P ps0 ws) k
      · exact ⟨m, by rw [upW_no hc, hm]⟩
      · exact ⟨m ++ runW P n (ws ++ [k]), by rw [upW_yes hc, hm, List.append_assoc]⟩
theorem flat_len {α β : Type} {f : α → List β} {c : Nat} (h : ∀ a, (f a).length ≤ c) : ∀ l : List α, (l.flatMap f).length ≤ l.length * c
  | [] => by simp
  | a :: l => by
    have h1 := flat_len h l
    have h2 := h a
    rw [List.flatMap_cons, List.length_append, List.length_cons, Nat.succ_mul]
    omega
theorem rns_len {P : List (List Ev)} (h6 : P.length ≤ 6) : ∀ (n : Nat) (s : Ps), (rnsP P n s).length ≤ 7 ^ n
  | 0, _ => by simp [rnsP]
  | n + 1, s => by
    have h1 : (((List.range P.length).filter (canP P s)).flatMap fun t => (rnsP P n (stepP P s t)).map (t :: ·)).length ≤ ((List.range P.length).filter (canP P s)).length * 7 ^ n :=
      flat_len (fun t => by rw [List.length_map]; exact rns_len h6 n _) _
    have h2 : ((List.range P.length).filter (canP P s)).length ≤ 6 := Nat.le_trans (List.length_filter_le _ _) (by rw [List.length_range]; exact h6)
    have h3 := Nat.mul_le_mul_right (7 ^ n) h2
    have h4 : 0 < 7 ^ n := Nat.pow_pos (by omega)
    have h5 : 7 ^ (n + 1) = 7 ^ n * 7 := Nat.pow_succ ..
    simp only [rnsP, List.length_cons]
    omega
theorem runW_mem {P : List (List Ev)} (hP : OkP P) {n : Nat} (hn : totP P ≤ n) {w : List Nat} : w ∈ runW P n [] ↔ VlP P ps0 w := by
  unfold runW
  simp only [List.nil_append, List.map_id']
  show w ∈ rnsP P n ps0 ↔ _
  rw [mem_rns]
  exact ⟨fun h => h.1, fun h => ⟨h, Nat.le_trans (vl_tot hP h) hn⟩⟩
theorem runW_lx (P : List (List Ev)) (n : Nat) : (runW P n []).Pairwise lxL := by
  unfold runW
  simp only [List.nil_append, List.map_id']
  exact rns_sorted _ _
theorem isEnd_vl {P : List (List Ev)} {x : Array Value} : IsEnd P x ↔ ∃ w, VlP P ps0 w ∧ overW P w = true ∧ endW P w = x := by
  constructor
  · rintro ⟨ts, h1, rfl⟩
    obtain ⟨v, e⟩ := eff_vl (P := P) ts ps0
    have e' : goS P ps0 (effP P ps0 ts) = runP P ts := e
    refine ⟨_, v, ?_, ?_⟩
    · unfold overW; rw [e', h1]; rfl
    · unfold endW; rw [e']
  · rintro ⟨w, h1, h2, rfl⟩
    refine ⟨pks w, ?_, ?_⟩
    · rw [run_pks h1]; simpa [overW] using h2
    · rw [run_pks h1]; rfl
open Classical in
noncomputable def visA (P : List (List Ev)) (s : List (Array Value)) (w : List Nat) : List (Array Value) × Bool := (if overW P w = true ∧ endW P w ∉ s then s ++ [endW P w] else s, true)
theorem fld_ends (P : List (List Ev)) : ∀ (l : List (List Nat)) (s : List (Array Value)), s.Pairwise (· ≠ ·) →
    (fldS (visA P) l s).1.Pairwise (· ≠ ·) ∧ (∀ x, x ∈ (fldS (visA P) l s).1 ↔ x ∈ s ∨ ∃ w ∈ l, overW P w = true ∧ endW P w = x) ∧ (fldS (visA P) l s).1.length ≤ s.length + l.length
  | [], s, h => ⟨h, fun x => by simp [fldS], Nat.le_refl _⟩
  | w :: l, s, h => by
    have hs : ((visA P) s w).1.Pairwise (· ≠ ·) ∧ (∀ x, x ∈ (visA P s w).1 ↔ x ∈ s ∨ (overW P w = true ∧ endW P w = x)) ∧ (visA P s w).1.length ≤ s.length + 1 := by
      unfold visA
      by_cases g : overW P w = true ∧ endW P w ∉ s
      · simp only [if_pos g]
        refine ⟨List.pairwise_append.2 ⟨h, List.pairwise_singleton _ _, fun a ha b hb => ?_⟩, fun x => ?_, by simp⟩
        · rw [List.mem_singleton.1 hb]
          exact fun e => g.2 (e ▸ ha)
        · rw [List.mem_append, List.mem_singleton]
          exact or_congr Iff.rfl ⟨fun e => ⟨g.1, e.symm⟩, fun e => e.2.symm⟩
      · simp only [if_neg g]
        refine ⟨h, fun x => ⟨.inl, ?_⟩, Nat.le_succ _⟩
        rintro (e | ⟨e1, rfl⟩)
        · exact e
        · exact Classical.byContradiction fun hn => g ⟨e1, hn⟩
    obtain ⟨g1, g2, g3⟩ := fld_ends P l _ hs.1
    have e : fldS (visA P) (w :: l) s = fldS (visA P) l (visA P s w).1 := if_pos rfl
    rw [e]
    refine ⟨g1, fun x => ?_, ?_⟩
    · rw [g2, hs.2.1]
      constructor
      · rintro ((q | q) | ⟨v, hv, q⟩)
        · exact .inl q
        · exact .inr ⟨w, List.mem_cons_self .., q⟩
        · exact .inr ⟨v, List.mem_cons_of_mem _ hv, q⟩
      · rintro (q | ⟨v, hv, q⟩)
        · exact .inl (.inl q)
        · rcases List.mem_cons.1 hv with rfl | hv
          · exact .inl (.inr q)
          · exact .inr ⟨v, hv, q⟩
    · have := hs.2.2
      rw [List.length_cons]
      omega
theorem wf_ends {P : List (List Ev)} (hP : OkP P) {n : Nat} (hn : totP P ≤ n) : (fldS (visA P) (runW P n []) []).1.Pairwise (· ≠ ·) ∧ (∀ x, x ∈ (fldS (visA P) (runW P n []) []).1 ↔ IsEnd P x) ∧ (fldS (visA P) (runW P n []) []).1.length ≤ 7 ^ n := by
  obtain ⟨h1, h2, h3⟩ := fld_ends P (runW P n []) [] List.Pairwise.nil
  refine ⟨h1, fun x => ?_, ?_⟩
  · rw [h2, isEnd_vl]
    simp only [List.not_mem_nil, false_or]
    exact exists_congr fun w => and_congr (runW_mem hP hn) Iff.rfl
  · refine Nat.le_trans h3 ?_
    rw [List.length_nil, Nat.zero_add]
    unfold runW
    rw [List.length_map]
    exact rns_len hP.six n _
theorem fld_way (P : List (List Ev)) (x : Array Value) : ∀ l : List (List Nat), (∀ b, (fldS (visW P x) l none).1 = some b → b ∈ l ∧ (overW P b = true ∧ endW P b = x) ∧ (l.Pairwise lxL → ∀ v ∈ l, overW P v = true ∧ endW P v = x → v = b ∨ lxL b v)) ∧ ((fldS (visW P x) l none).1 = none → ∀ v ∈ l, ¬ (overW P v = true ∧ endW P v = x))
  | [] => ⟨fun b h => (by cases h), fun _ v hv => (by cases hv)⟩
  | w :: l => by
    obtain ⟨g1, g2⟩ := fld_way P x l
    by_cases h : overW P w = true ∧ endW P w = x
    · have e : visW P x none w = (some w, false) := if_pos ⟨rfl, h⟩
      have e2 : fldS (visW P x) (w :: l) none = (some w, false) := by unfold fldS; rw [e]; rfl
      rw [e2]
      refine ⟨fun b hb => ?_, fun hn => by cases hn⟩
      obtain rfl := Option.some.inj hb
      refine ⟨List.mem_cons_self .., h, fun hp v hv _ => ?_⟩
      rcases List.mem_cons.1 hv with rfl | hv
      · exact .inl rfl
      · exact .inr ((List.pairwise_cons.1 hp).1 v hv)
    · have e : visW P x none w = (none, true) := if_neg fun g => h g.2
      have e2 : fldS (visW P x) (w :: l) none = fldS (visW P x) l none := by conv => { lhs; unfold fldS }; rw [e]; rfl
      rw [e2]
      refine ⟨fun b hb => ?_, fun hn v hv => ?_⟩
      · obtain ⟨q1, q2, q3⟩ := g1 b hb
        refine ⟨List.mem_cons_of_mem _ q1, q2, fun hp v hv hh => ?_⟩
        rcases List.mem_cons.1 hv with rfl | hv
        · exact absurd hh h
        · exact q3 (List.pairwise_cons.1 hp).2 v hv hh
      · rcases List.mem_cons.1 hv with rfl | hv
        · exact h
        · exact g2 hn v hv
theorem wf_way {P : List (List Ev)} (hP : OkP P) {n : Nat} (hn : totP P ≤ n) (x : Array Value) : (∀ b, (fldS (visW P x) (runW P n []) none).1 = some b → IsWay P x b) ∧ ((fldS (visW P x) (runW P n []) none).1 = none → ¬ IsEnd P x) := by
  obtain ⟨h1, h2⟩ := fld_way P x (runW P n [])
  refine ⟨fun b hb => ?_, fun hz hx => ?_⟩
  · obtain ⟨q1, q2, q3⟩ := h1 b hb
    refine ⟨(runW_mem hP hn).1 q1, by simpa [overW] using q2.1, q2.2, fun v hv g1 g2 => q3 (runW_lx P n) v ((runW_mem hP hn).2 hv) ⟨by simpa [overW] using g1, g2⟩⟩
  · obtain ⟨w, hw, g1, g2⟩ := isEnd_vl.1 hx
    exact h2 hz w ((runW_mem hP hn).2 hw) ⟨g1, g2⟩
end Go.Proofs.Ytlcldcbdobgdbaa

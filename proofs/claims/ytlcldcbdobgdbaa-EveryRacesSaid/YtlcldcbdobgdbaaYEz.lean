import Derived.Test.YtlcldcbdobgdbaaYPg
import Derived.Test.YtlcldcbdobgdbaaYSl
import Derived.Test.YtlcldcbdobgdbaaYPp
set_option linter.all false
set_option maxRecDepth 100000
namespace Go.Proofs.Ytlcldcbdobgdbaa
open Go Go.RowKit

def FrP (P : List (List Ev)) : Prop := ∀ t, ∀ o ∈ opsP P t, o.k = 1 ∨ o.k = 2 ∨ o.k = 3 ∨ o.k = 6 ∨ o.k = 7
section
variable {P : List (List Ev)} (hf : FrP P)
include hf
end
def goS (P : List (List Ev)) (s : Ps) (w : List Nat) : Ps := w.foldl (stepP P) s
def VlP (P : List (List Ev)) : Ps → List Nat → Prop
  | _, [] => True
  | s, t :: w => canP P s t = true ∧ VlP P (stepP P s t) w
theorem step_pick {P : List (List Ev)} {s : Ps} {t : Nat} (h : canP P s t = true) : pickP P s (t : Int) = stepP P s t := by
  unfold pickP
  rw [if_pos ⟨by omega, by rw [Int.toNat_natCast]; exact h⟩, Int.toNat_natCast]
theorem go_run {P : List (List Ev)} : ∀ (w : List Nat) (s : Ps), VlP P s w → (w.map fun (t : Nat) => (t : Int)).foldl (pickP P) s = goS P s w
  | [], _, _ => rfl
  | t :: w, s, h => by
    rw [List.map_cons, List.foldl_cons, step_pick h.1]
    exact go_run w _ h.2
def lftP (P : List (List Ev)) (s : Ps) : Nat := ((opsP P 0).length - s.a 0) + ((opsP P 1).length - s.a 1) + ((opsP P 2).length - s.a 2) + ((opsP P 3).length - s.a 3) + ((opsP P 4).length - s.a 4) + ((opsP P 5).length - s.a 5)
theorem lft_step {P : List (List Ev)} (hP : OkP P) {s : Ps} {t : Nat} (hc : canP P s t = true) : lftP P (stepP P s t) + 1 = lftP P s := by
  obtain ⟨ht, _, o, ho, _⟩ := can_op hc
  have hlt : s.a t < (opsP P t).length := (List.getElem?_eq_some_iff.1 ho).1
  have h6 := hP.six
  rw [step_op ho]
  unfold lftP stepO
  simp only [upF]
  have : t = 0 ∨ t = 1 ∨ t = 2 ∨ t = 3 ∨ t = 4 ∨ t = 5 := by omega
  rcases this with rfl | rfl | rfl | rfl | rfl | rfl <;> simp <;> omega
def effP (P : List (List Ev)) : Ps → List Int → List Nat
  | _, [] => []
  | s, t :: ts => if 0 ≤ t ∧ canP P s t.toNat = true then t.toNat :: effP P (stepP P s t.toNat) ts else effP P s ts
theorem eff_vl {P : List (List Ev)} : ∀ (ts : List Int) (s : Ps), VlP P s (effP P s ts) ∧ goS P s (effP P s ts) = ts.foldl (pickP P) s
  | [], _ => ⟨trivial, rfl⟩
  | t :: ts, s => by
    unfold effP
    rw [List.foldl_cons]
    by_cases h : 0 ≤ t ∧ canP P s t.toNat = true
    · rw [if_pos h, show pickP P s t = stepP P s t.toNat by unfold pickP; rw [if_pos h]]
      exact ⟨⟨h.2, (eff_vl ts _).1⟩, (eff_vl ts _).2⟩
    · rw [if_neg h, show pickP P s t = s by unfold pickP; rw [if_neg h]]
      exact eff_vl ts s
end Go.Proofs.Ytlcldcbdobgdbaa
set_option linter.all false
set_option maxRecDepth 100000
namespace Go.Proofs.Ytlcldcbdobgdbaa
open Go Go.RowKit

def rnsP (P : List (List Ev)) : Nat → Ps → List (List Nat)
  | 0, _ => [[]]
  | n + 1, s => [] :: ((List.range P.length).filter (canP P s)).flatMap fun t => (rnsP P n (stepP P s t)).map (t :: ·)
theorem mem_rns {P : List (List Ev)} : ∀ {n : Nat} {s : Ps} {w : List Nat}, w ∈ rnsP P n s ↔ VlP P s w ∧ w.length ≤ n
  | 0, s, w => by
    simp only [rnsP, List.mem_singleton]
    constructor
    · rintro rfl; exact ⟨trivial, Nat.le_refl _⟩
    · intro h; exact List.eq_nil_of_length_eq_zero (by omega)
  | n + 1, s, w => by
    simp only [rnsP, List.mem_cons, List.mem_flatMap, List.mem_filter, List.mem_range, List.mem_map]
    constructor
    · rintro (rfl | ⟨t, ⟨ht, hc⟩, v, hv, rfl⟩)
      · exact ⟨trivial, Nat.zero_le _⟩
      · have h := mem_rns.1 hv
        exact ⟨⟨hc, h.1⟩, by rw [List.length_cons]; omega⟩
    · intro h
      cases w with
      | nil => exact .inl rfl
      | cons t v =>
        refine .inr ⟨t, ⟨(can_op h.1.1).1, h.1.1⟩, v, mem_rns.2 ⟨h.1.2, ?_⟩, rfl⟩
        have := h.2
        rw [List.length_cons] at this
        omega
theorem vl_len {P : List (List Ev)} (hP : OkP P) : ∀ {w : List Nat} {s : Ps}, VlP P s w → w.length + lftP P (goS P s w) = lftP P s
  | [], _, _ => Nat.zero_add _
  | t :: w, s, h => by
    have h1 := lft_step hP h.1
    have h2 := vl_len hP h.2
    rw [List.length_cons]
    show w.length + 1 + lftP P (goS P (stepP P s t) w) = _
    omega
def pks (w : List Nat) : List Int := w.map fun (t : Nat) => (t : Int)
theorem run_pks {P : List (List Ev)} {w : List Nat} (h : VlP P ps0 w) : runP P (pks w) = goS P ps0 w := go_run w ps0 h
theorem vl_app {P : List (List Ev)} : ∀ {w v : List Nat} {s : Ps}, VlP P s (w ++ v) ↔ VlP P s w ∧ VlP P (goS P s w) v
  | [], v, s => ⟨fun h => ⟨trivial, h⟩, fun h => h.2⟩
  | t :: w, v, s => by
    show (canP P s t = true ∧ VlP P (stepP P s t) (w ++ v)) ↔ (canP P s t = true ∧ VlP P (stepP P s t) w) ∧ VlP P (goS P (stepP P s t) w) v
    rw [vl_app, and_assoc]
def lxL : List Nat → List Nat → Prop
  | [], [] => False
  | [], _ :: _ => True
  | _ :: _, [] => False
  | a :: x, b :: y => a < b ∨ (a = b ∧ lxL x y)
theorem lx_asym : ∀ {x y : List Nat}, lxL x y → ¬ lxL y x
  | [], [] => fun h => h.elim
  | [], _ :: _ => fun _ g => g
  | _ :: _, [] => fun h => h.elim
  | a :: x, b :: y => fun h g => by
    rcases h with h | ⟨h, h'⟩ <;> rcases g with g | ⟨g, g'⟩
    · omega
    · omega
    · omega
    · exact lx_asym h' g'
theorem lx_tot : ∀ (x y : List Nat), lxL x y ∨ x = y ∨ lxL y x
  | [], [] => .inr (.inl rfl)
  | [], _ :: _ => .inl trivial
  | _ :: _, [] => .inr (.inr trivial)
  | a :: x, b :: y => by
    rcases Nat.lt_trichotomy a b with h | rfl | h
    · exact .inl (.inl h)
    · rcases lx_tot x y with g | rfl | g
      · exact .inl (.inr ⟨rfl, g⟩)
      · exact .inr (.inl rfl)
      · exact .inr (.inr (.inr ⟨rfl, g⟩))
    · exact .inr (.inr (.inl h))
theorem rns_sorted {P : List (List Ev)} : ∀ (n : Nat) (s : Ps), (rnsP P n s).Pairwise lxL
  | 0, _ => List.pairwise_singleton _ _
  | n + 1, s => by
    simp only [rnsP]
    refine List.pairwise_cons.2 ⟨fun w hw => ?_, List.pairwise_flatMap.2 ⟨fun t _ => ?_, ?_⟩⟩
    · obtain ⟨t, _, hw⟩ := List.mem_flatMap.1 hw
      obtain ⟨v, _, rfl⟩ := List.mem_map.1 hw
      trivial
    · exact List.pairwise_map.2 ((rns_sorted n _).imp fun h => .inr ⟨rfl, h⟩)
    · refine (List.pairwise_lt_range.filter _).imp fun {a b} hab x hx y hy => ?_
      obtain ⟨v, _, rfl⟩ := List.mem_map.1 hx
      obtain ⟨u, _, rfl⟩ := List.mem_map.1 hy
      exact .inl hab
def btL (w v : List Nat) : Prop := w.length < v.length ∨ (w.length = v.length ∧ lxL w v)
theorem bt_uniq {w v : List Nat} (h : w = v ∨ btL w v) (k : v = w ∨ btL v w) : w = v := by
  rcases h with h | h
  · exact h
  · rcases k with k | k
    · exact k.symm
    · exfalso
      rcases h with h | ⟨h, h'⟩ <;> rcases k with k | ⟨k, k'⟩
      · omega
      · omega
      · omega
      · exact lx_asym h' k'
def bestL (p : List Nat → Bool) : Option (List Nat) → List (List Nat) → Option (List Nat)
  | b, [] => b
  | b, w :: l => bestL p (if p w = true ∧ (∀ v, b = some v → w.length < v.length) then some w else b) l
theorem best_ok {p : List Nat → Bool} : ∀ {l m : List (List Nat)} {b : Option (List Nat)}, (m ++ l).Pairwise lxL → (∀ w, b = some w → w ∈ m ∧ p w = true ∧ ∀ v ∈ m, p v = true → v = w ∨ btL w v) → (b = none → ∀ v ∈ m, p v = false) →
    (∀ w, bestL p b l = some w → w ∈ m ++ l ∧ p w = true ∧ ∀ v ∈ m ++ l, p v = true → v = w ∨ btL w v) ∧ (bestL p b l = none → ∀ v ∈ m ++ l, p v = false)
  | [], m, b, _, h1, h2 => by rw [List.append_nil]; exact ⟨h1, h2⟩
  | x :: l, m, b, hs, h1, h2 => by
    have hap : m ++ x :: l = (m ++ [x]) ++ l := by simp
    unfold bestL
    rw [hap] at hs ⊢
    have hlt : ∀ v ∈ m, lxL v x := fun v hv => ((List.pairwise_append.1 (List.pairwise_append.1 hs).1).2.2 v hv x (List.mem_singleton.2 rfl))
    refine best_ok hs (fun w hw => ?_) (fun hn v hv => ?_)
    · split at hw
      · rename_i hc
        obtain rfl := Option.some.inj hw
        refine ⟨List.mem_append_right _ (List.mem_singleton.2 rfl), hc.1, fun v hv hpv => ?_⟩
        rcases List.mem_append.1 hv with hv | hv
        · cases hb : b with
          | none => have := h2 hb v hv; rw [this] at hpv; cases hpv
          | some u =>
            have hu := h1 u hb
            have hxu := hc.2 u hb
            rcases hu.2.2 v hv hpv with rfl | hbt
            · exact .inr (.inl hxu)
            · rcases hbt with hbt | ⟨hbt, _⟩
              · exact .inr (.inl (by omega))
              · exact .inr (.inl (by omega))
        · exact .inl (List.mem_singleton.1 hv)
      · rename_i hc
        obtain ⟨g1, g2, g3⟩ := h1 w hw
        refine ⟨List.mem_append_left _ g1, g2, fun v hv hpv => ?_⟩
        rcases List.mem_append.1 hv with hv | hv
        · exact g3 v hv hpv
        · obtain rfl := List.mem_singleton.1 hv
          have hle : ¬ v.length < w.length := fun hh => hc ⟨hpv, fun u hu => by rw [hw] at hu; obtain rfl := Option.some.inj hu; exact hh⟩
          rcases Nat.lt_or_ge w.length v.length with q | q
          · exact .inr (.inl q)
          · exact .inr (.inr ⟨by omega, hlt w g1⟩)
    · split at hn
      · cases hn
      · rename_i hc
        rcases List.mem_append.1 hv with hv | hv
        · exact h2 hn v hv
        · obtain rfl := List.mem_singleton.1 hv
          cases hp : p v
          · rfl
          · exact absurd ⟨hp, fun u hu => by rw [hn] at hu; cases hu⟩ hc
theorem best_all {p : List Nat → Bool} {l : List (List Nat)} (hs : l.Pairwise lxL) : (∀ w, bestL p none l = some w → w ∈ l ∧ p w = true ∧ ∀ v ∈ l, p v = true → v = w ∨ btL w v) ∧ (bestL p none l = none → ∀ v ∈ l, p v = false) :=
  best_ok (m := []) (b := none) hs (fun w h => by cases h) (fun _ v hv => by cases hv)
end Go.Proofs.Ytlcldcbdobgdbaa
set_option linter.all false
set_option maxRecDepth 100000
namespace Go.Proofs.Ytlcldcbdobgdbaa
open Go Go.RowKit

def IsEnd (P : List (List Ev)) (x : Array Value) : Prop := ∃ ts, goesP P (runP P ts) = false ∧ x = endP P (runP P ts)
theorem goes_end {P : List (List Ev)} {s : Ps} : goesP P s = false ↔ (doneP P s = true ∨ stuckP P s = true) := by
  unfold stuckP
  cases hd : doneP P s
  · cases hg : goesP P s <;> simp
  · rw [done_goes hd]; simp
def racing (P : List (List Ev)) (w : List Nat) : Bool := !(rcs (goS P ps0 w).L).isEmpty
theorem racing_iff {P : List (List Ev)} {w : List Nat} : racing P w = true ↔ rcs (goS P ps0 w).L ≠ [] := by unfold racing; cases rcs (goS P ps0 w).L <;> simp
end Go.Proofs.Ytlcldcbdobgdbaa

import Derived.KernelRfl
import Derived.Test.YtlcldcbdobgdbaaZHv
import Derived.Test.YtlcldcbdobgdbaaZSl
import Derived.Test.YtlcldcbdobgdbaaZPg
set_option linter.all false
set_option maxRecDepth 100000
namespace Go.Proofs.Ytlcldcbdobgdbaa
open Go Go.RowKit

theorem free_goes {P : List (List Ev)} (hP : OkP P) (h4 : ∀ t, ∀ o ∈ opsP P t, o.k ≠ 4) (h7 : ∀ t, ∀ o ∈ opsP P t, o.k ≠ 7) (ts : List Int) : stuckP P (runP P ts) = false := by
  have h := runP_ok hP ts
  generalize runP P ts = s at *
  refine Bool.eq_false_iff.2 fun hs => ?_
  unfold stuckP at hs
  simp only [Bool.and_eq_true, Bool.not_eq_true'] at hs
  obtain ⟨hdn, hg⟩ := hs
  unfold doneP at hdn
  obtain ⟨t, ht, hq⟩ := List.all_eq_false.1 hdn
  rw [List.mem_range] at ht
  simp only [Bool.or_eq_true, Bool.not_eq_true', decide_eq_true_iff, not_or, Bool.not_eq_false] at hq
  obtain ⟨o, ho, hk, _⟩ := wt_of h7 hg ht hq.1 (by have := h.le t; omega)
  exact h4 t o (List.mem_of_getElem? ho) hk
def loO (n : Int) : List Ev := [⟨1, 0, 0⟩, ⟨3, 0, n⟩, ⟨2, 0, 0⟩]
def loP (x y : Int) : List (List Ev) := [[⟨6, 1, 0⟩, ⟨6, 2, 0⟩], loO x, loO y]
theorem lo_ops (x y : Int) (t : Nat) : opsP (loP x y) t = if t = 0 then [⟨6, 1, 0⟩, ⟨6, 2, 0⟩] else if t = 1 then loO x else if t = 2 then loO y else [] := by
  match t with
  | 0 => rfl
  | 1 => rfl
  | 2 => rfl
  | t + 3 => rfl
theorem lo_ok {x y : Int} (hx : 1 ≤ x ∧ x ≤ 100) (hy : 1 ≤ y ∧ y ≤ 100) : OkP (loP x y) := by
  refine ⟨by simp [loP], by simp [loP], fun t => ?_, fun t o ho => ?_⟩
  · rw [lo_ops]; repeat' split
    all_goals simp [loO]
  · rw [lo_ops] at ho
    repeat' split at ho
    all_goals simp only [loO, List.mem_cons, List.not_mem_nil, or_false] at ho
    · rcases ho with rfl | rfl <;> rfl
    · rcases ho with rfl | rfl | rfl <;> simp [isOp] <;> omega
    · rcases ho with rfl | rfl | rfl <;> simp [isOp] <;> omega
structure LoS (x y : Int) (a b : Nat) (m h k : Int) : Prop where
  a3 : a ≤ 3
  b3 : b ≤ 3
  m0 : a < 3 → b < 3 → m = 0
  mx : a = 3 → b < 3 → m = x
  my : a < 3 → b = 3 → m = y
  ms : a = 3 → b = 3 → m = x ∨ m = y ∨ m = x + y
  h1 : a = 1 → h = 0 ∨ (b = 3 ∧ h = y)
  h2 : a = 2 → h = x ∨ (b = 3 ∧ h = x + y)
  k1 : b = 1 → k = 0 ∨ (a = 3 ∧ k = x)
  k2 : b = 2 → k = y ∨ (a = 3 ∧ k = x + y)
theorem LoS.turn {x y : Int} {a b : Nat} {m h k : Int} (g : LoS x y a b m h k) : LoS y x b a m k h := by
  obtain ⟨g0, g1, g2, g3, g4, g5, g6, g7, g8, g9⟩ := g
  refine ⟨g1, g0, fun p q => g2 q p, fun p q => g4 q p, fun p q => g3 q p, fun p q => ?_, g8, fun p => ?_, g6, fun p => ?_⟩
  · have := g5 q p; omega
  · have := g9 p; omega
  · have := g7 p; omega
theorem LoS.load {x y : Int} {b : Nat} {m h k : Int} (g : LoS x y 0 b m h k) : LoS x y 1 b m m k := by
  obtain ⟨g0, g1, g2, g3, g4, g5, g6, g7, g8, g9⟩ := g
  have hb : b < 3 ∨ b = 3 := by omega
  refine ⟨by omega, g1, fun p q => g2 (by omega) q, by omega, fun p q => g4 (by omega) q, by omega, fun _ => ?_, by omega, fun p => ?_, fun p => ?_⟩
  · rcases hb with q | q
    · exact .inl (g2 (by omega) q)
    · exact .inr ⟨q, g4 (by omega) q⟩
  · exact (g8 p).imp id fun q => by omega
  · exact (g9 p).imp id fun q => by omega
theorem LoS.add {x y : Int} {b : Nat} {m h k : Int} (g : LoS x y 1 b m h k) : LoS x y 2 b m (h + x) k := by
  obtain ⟨g0, g1, g2, g3, g4, g5, g6, g7, g8, g9⟩ := g
  refine ⟨by omega, g1, fun p q => g2 (by omega) q, by omega, fun p q => g4 (by omega) q, by omega, by omega, fun _ => ?_, fun p => ?_, fun p => ?_⟩
  · rcases g6 rfl with q | ⟨q, r⟩
    · exact .inl (by omega)
    · exact .inr ⟨q, by omega⟩
  · exact (g8 p).imp id fun q => by omega
  · exact (g9 p).imp id fun q => by omega
theorem LoS.store {x y : Int} {b : Nat} {m h k : Int} (g : LoS x y 2 b m h k) : LoS x y 3 b h h k := by
  obtain ⟨g0, g1, g2, g3, g4, g5, g6, g7, g8, g9⟩ := g
  refine ⟨by omega, g1, by omega, fun _ q => ?_, by omega, fun _ q => ?_, by omega, by omega, fun p => ?_, fun p => ?_⟩
  · rcases g7 rfl with r | ⟨r, _⟩
    · exact r
    · omega
  · rcases g7 rfl with r | ⟨_, r⟩
    · exact .inl r
    · exact .inr (.inr r)
  · exact (g8 p).imp id fun q => by omega
  · exact (g9 p).imp id fun q => by omega
def LoR (x y : Int) (s : Ps) : Prop := LoS x y (s.a 1) (s.a 2) (s.mem 0) (s.has 1) (s.has 2)
theorem lo_pick {x y : Int} {s : Ps} (h : LoR x y s) (t : Int) : LoR x y (pickP (loP x y) s t) := by
  unfold pickP
  split
  · rename_i hc
    obtain ⟨_, _, o, ho, _⟩ := can_op hc.2
    rw [step_op ho]
    generalize t.toNat = u at *
    unfold LoR at h ⊢
    rw [lo_ops] at ho
    show LoS x y (upF s.a u (s.a u + 1) 1) (upF s.a u (s.a u + 1) 2) (memO s u o 0) (hasO s u o 1) (hasO s u o 2)
    repeat' split at ho
    · rename_i e
      subst e
      have hk : o.k = 6 := by
        have := List.mem_of_getElem? ho
        simp only [List.mem_cons, List.not_mem_nil, or_false] at this
        rcases this with rfl | rfl <;> rfl
      have e1 : memO s 0 o 0 = s.mem 0 := by unfold memO; rw [if_neg (by omega)]
      have e2 : ∀ v, hasO s 0 o v = s.has v := fun v => by unfold hasO; rw [if_neg (by omega), if_neg (by omega), if_neg (by omega)]
      rw [upF_ne _ _ (by omega), upF_ne _ _ (by omega), e1, e2, e2]
      exact h
    · rename_i _ e
      subst e
      rw [upF_at, upF_ne _ _ (by omega)]
      generalize s.a 1 = a at *
      generalize s.a 2 = b at *
      have hi := (List.getElem?_eq_some_iff.1 ho).1
      simp only [loO, List.length_cons, List.length_nil] at hi
      have hcs : a = 0 ∨ a = 1 ∨ a = 2 := by omega
      rcases hcs with rfl | rfl | rfl <;> simp only [loO, List.getElem?_cons_succ, List.getElem?_cons_zero, Option.some.injEq] at ho <;> subst ho
      · exact h.load
      · exact h.add
      · exact h.store
    · rename_i _ _ e
      subst e
      rw [upF_at, upF_ne _ _ (by omega)]
      generalize s.a 1 = a at *
      generalize s.a 2 = b at *
      have hi := (List.getElem?_eq_some_iff.1 ho).1
      simp only [loO, List.length_cons, List.length_nil] at hi
      have hcs : b = 0 ∨ b = 1 ∨ b = 2 := by omega
      rcases hcs with rfl | rfl | rfl <;> simp only [loO, List.getElem?_cons_succ, List.getElem?_cons_zero, Option.some.injEq] at ho <;> subst ho
      · exact h.turn.load.turn
      · exact h.turn.add.turn
      · exact h.turn.store.turn
    · cases ho
  · exact h
theorem lo_picks {x y : Int} : ∀ (ts : List Int) {s : Ps}, LoR x y s → LoR x y (ts.foldl (pickP (loP x y)) s)
  | [], _, h => h
  | t :: ts, _, h => lo_picks ts (lo_pick h t)
theorem lo_run (x y : Int) (ts : List Int) : LoR x y (runP (loP x y) ts) :=
  lo_picks ts (by show LoS x y 0 0 0 0 0; constructor <;> omega)
theorem lo_end {x y : Int} {ts : List Int} (hd : doneP (loP x y) (runP (loP x y) ts) = true) : (runP (loP x y) ts).mem 0 = x ∨ (runP (loP x y) ts).mem 0 = y ∨ (runP (loP x y) ts).mem 0 = x + y := by
  have h := lo_run x y ts
  have fb := fb_run (loP x y) ts
  have h0 := done_at hd (t := 0) (by simp [loP]) (begun0' _)
  have hl : (opsP (loP x y) 0).length = 2 := rfl
  have b1 := fb 0 0 ⟨6, 1, 0⟩ (by omega) rfl rfl (by simp [loP])
  have b2 := fb 0 1 ⟨6, 2, 0⟩ (by omega) rfl rfl (by simp [loP])
  have h1 : (runP (loP x y) ts).a 1 = 3 := done_at hd (t := 1) (by simp [loP]) b1
  have h2 : (runP (loP x y) ts).a 2 = 3 := done_at hd (t := 2) (by simp [loP]) b2
  exact h.ms h1 h2
theorem lo_free {x y : Int} (hx : 1 ≤ x ∧ x ≤ 100) (hy : 1 ≤ y ∧ y ≤ 100) (ts : List Int) : stuckP (loP x y) (runP (loP x y) ts) = false := by
  refine free_goes (lo_ok hx hy) (fun t o ho => ?_) (fun t o ho => ?_) ts
  all_goals
    rw [lo_ops] at ho
    repeat' split at ho
    all_goals simp only [loO, List.mem_cons, List.not_mem_nil, or_false] at ho
    · rcases ho with rfl | rfl <;> decide
    · rcases ho with rfl | rfl | rfl <;> simp
    · rcases ho with rfl | rfl | rfl <;> simp
theorem lo_x (x y : Int) : doneP (loP x y) (runP (loP x y) [0, 0, 1, 2, 2, 2, 1, 1]) = true ∧ (runP (loP x y) [0, 0, 1, 2, 2, 2, 1, 1]).mem 0 = x := ⟨by kernel_rfl, (show _ = 0 + x by kernel_rfl).trans (Int.zero_add x)⟩
theorem lo_y (x y : Int) : doneP (loP x y) (runP (loP x y) [0, 0, 2, 1, 1, 1, 2, 2]) = true ∧ (runP (loP x y) [0, 0, 2, 1, 1, 1, 2, 2]).mem 0 = y := ⟨by kernel_rfl, (show _ = 0 + y by kernel_rfl).trans (Int.zero_add y)⟩
theorem lo_sum (x y : Int) : doneP (loP x y) (runP (loP x y) [0, 0, 1, 1, 1, 2, 2, 2]) = true ∧ (runP (loP x y) [0, 0, 1, 1, 1, 2, 2, 2]).mem 0 = x + y := ⟨by kernel_rfl, (show _ = 0 + x + y by kernel_rfl).trans (by rw [Int.zero_add])⟩
theorem lo_race (x y : Int) : rcs (runP (loP x y) [0, 0, 1, 1, 1, 2]).L ≠ [] := by
  rw [show (runP (loP x y) [0, 0, 1, 1, 1, 2]).L = [⟨5, 0, 1⟩, ⟨5, 0, 2⟩, ⟨1, 1, 0⟩, ⟨2, 1, 0⟩, ⟨1, 2, 0⟩] by kernel_rfl]
  decide +kernel
end Go.Proofs.Ytlcldcbdobgdbaa
set_option linter.all false
set_option maxRecDepth 100000
namespace Go.Proofs.Ytlcldcbdobgdbaa
open Go Go.RowKit

def adO (n : Int) : List Ev := [⟨4, 2, 0⟩, ⟨1, 0, 0⟩, ⟨3, 0, n⟩, ⟨2, 0, 0⟩, ⟨5, 2, 0⟩]
def adF (k : Nat) : List Ev := (List.range k).map fun i => ⟨6, (i + 1 : Nat), 0⟩
end Go.Proofs.Ytlcldcbdobgdbaa
set_option linter.all false
set_option maxRecDepth 100000
namespace Go.Proofs.Ytlcldcbdobgdbaa
open Go Go.RowKit

end Go.Proofs.Ytlcldcbdobgdbaa

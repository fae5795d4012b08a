/- Contracts of the package trace: apply, follow, Check, Held, Threads. -/
import Derived.Test.YtnjaeampnakbbaaTrace
import Derived.RegionTactic
import Derived.StillTailTactics
set_option linter.all false
set_option maxRecDepth 100000
namespace Go.Proofs.Ytnjaeampnakbbaa
open Go.RowKit

def applied (b o : Nat → Bool) (f : Nat → Nat → Bool) (e : Ev) : Array Value :=
  if e.k = 3 then st18 b o (updF f e.t.toNat e.o.toNat true) else if e.k = 4 then st18 b o (updF f e.t.toNat e.o.toNat false)
  else if e.k = 5 then st18 (updB b e.o.toNat true) o f else if e.k = 6 then st18 b (updB o e.o.toNat true) f else st18 b o f
/-- Only block B has changed of what was there, and it holds c now. -/
def Turned (w : World) (B : Nat) (c : Array Value) (t : TypeId) (w' : World) : Prop := Box w' B c t ∧ w.grownBy w' (some B)

theorem turned_set {w W : World} {B : Nat} {c : Array Value} {t : TypeId} (hg : w.grownBy W (some B)) (hb : Box W B c t) (k : Nat) (v : Value) (c' : Array Value) (hc : c.setIfInBounds k v = c') : Turned w B c' t (W.setCell ⟨B, k, none⟩ v) := by
  refine ⟨hc ▸ hb.set k v, hg.os, hg.tape, hg.output, by simpa [World.setCell] using hg.size, fun i hi hne => (Below.heap_setCell W ⟨B, k, none⟩ v i (by rintro rfl; exact hne rfl)).trans (hg.block i hi hne)⟩
theorem Turned.drew {w W : World} {B : Nat} {c : Array Value} {t : TypeId} (h : Turned w B c t W) : Turned w B c t W.drew := ⟨h.1, h.2.os, h.2.tape, h.2.output, h.2.size, h.2.block⟩
theorem wrap_pow (j : Nat) (hj : j < 5) : wrap64 (2 ^ j) = 2 ^ j := by
  have D : ∀ j : Fin 5, wrap64 (2 ^ j.val) = 2 ^ j.val := by decide +kernel
  exact D ⟨j, hj⟩
theorem set_or (b o : Nat → Bool) (f : Nat → Nat → Bool) (i j : Nat) (hi : i < 6) (hj : j < 5) :
    (st18 b o f).setIfInBounds (12 + i) (.int .i64 (bits .or .i64 (hset (f i)) (wrap64 (2 ^ j)))) = st18 b o (updF f i j true) := by
  rw [wrap_pow j hj, or_bit (f i) j hj, hset_congr (f := updB (f i) j true) (g := updF f i j true i) (fun k _ => by simp [updB, updF])]
  exact st18_seth b o f _ i hi fun i' _ hne k _ => by simp [updF, hne]
theorem set_andNot (b o : Nat → Bool) (f : Nat → Nat → Bool) (i j : Nat) (hi : i < 6) (hj : j < 5) :
    (st18 b o f).setIfInBounds (12 + i) (.int .i64 (bits .andNot .i64 (hset (f i)) (wrap64 (2 ^ j)))) = st18 b o (updF f i j false) := by
  rw [wrap_pow j hj, andNot_bit (f i) j hj, hset_congr (f := updB (f i) j false) (g := updF f i j false i) (fun k _ => by simp [updB, updF])]
  exact st18_seth b o f _ i hi fun i' _ hne k _ => by simp [updF, hne]

set_option maxHeartbeats 4000000 in
theorem apply_any (B : Nat) (b o : Nat → Bool) (f : Nat → Nat → Bool) (k : Int) (i j : Nat) (hi : i < 6) (hj : (j : Int) < nobj k) (w : World) (hb : Box w B (st18 b o f) 89) :
    Calls Try.prog 63 #[.pointer (some ⟨B, 0, none⟩), .agg (evv ⟨k, i, j⟩)] w fun e' w' => e' = .returned (.tuple #[]) ∧ Turned w B (applied b o f ⟨k, i, j⟩) 89 w' := by
  have b0 := hb.old (.cells (evv ⟨k, i, j⟩) 45)
  obtain ⟨b1, hB, hs⟩ := boxes1 w (evv ⟨k, i, j⟩) 45
  have HG := Lib.hid (show w.grownBy (w.alloc (.cells (evv ⟨k, i, j⟩) 45)) (some B) from ⟨hB.os, hB.tape, hB.output, hB.size, fun b hb _ => hB.block b hb⟩)
  generalize hW : w.alloc (.cells (evv ⟨k, i, j⟩) 45) = W at *
  clear hB hs
  have c0 := b1.cell 0 (v := .int .i64 k) rfl
  have c1 := b1.cell 1 (v := .int .i64 i) rfl
  have c2 := b1.cell 2 (v := .int .i64 j) rfl
  have c3 := b0.cell _ (st18_h b o f i hi)
  have f3 := b0.frozen (12 + i)
  have HBx := Lib.hid b0
  clear hb b0 b1
  have hi' : (i : Int) < 6 := by omega
  rcases kinds k with rfl | rfl | rfl | rfl | rfl | rfl | rfl | rfl | hk
  case inr.inr.inr.inr.inr.inr.inr.inr => exact absurd hj (by rw [nobj_else hk]; omega)
  case inr.inr.inl =>
    have hj5 : j < 5 := by have : (j : Int) < 5 := hj; omega
    go_enter Try.func63, Try.ntmps63
    go_wp2
    go_still_tail 14, (by kernel_rfl)
    change wpList _ _ _ _ _ W.drew
    go_wp2
    go_end0
    exact ⟨rfl, (turned_set HG.out HBx.out _ _ _ (set_or b o f i j hi hj5)).drew⟩
  case inr.inr.inr.inl =>
    have hj5 : j < 5 := by have : (j : Int) < 5 := hj; omega
    go_enter Try.func63, Try.ntmps63
    go_wp2
    go_still_tail 14, (by kernel_rfl)
    change wpList _ _ _ _ _ W.drew
    go_wp2
    go_end0
    exact ⟨rfl, (turned_set HG.out HBx.out _ _ _ (set_andNot b o f i j hi hj5)).drew⟩
  case inr.inr.inr.inr.inl =>
    have hj6 : j < 6 := by have : (j : Int) < 6 := hj; omega
    have hj' : (j : Int) < 6 := by omega
    have c5 := HBx.out.cell j (st18_b b o f j hj6)
    have f5 := HBx.out.frozen j
    go_enter Try.func63, Try.ntmps63
    go_wp2
    go_still_tail 6, (by kernel_rfl)
    change wpList _ _ _ _ _ W.drew
    go_wp2
    go_end0
    exact ⟨rfl, (turned_set HG.out HBx.out _ _ _ (st18_setb b o f j hj6 true)).drew⟩
  case inr.inr.inr.inr.inr.inl =>
    have hj6 : j < 6 := by have : (j : Int) < 6 := hj; omega
    have hj' : (j : Int) < 6 := by omega
    have c5 := HBx.out.cell _ (st18_o b o f j hj6)
    have f5 := HBx.out.frozen (6 + j)
    go_enter Try.func63, Try.ntmps63
    go_wp2
    go_still_tail 6, (by kernel_rfl)
    change wpList _ _ _ _ _ W.drew
    go_wp2
    go_end0
    exact ⟨rfl, (turned_set HG.out HBx.out _ _ _ (st18_seto b o f j hj6 true)).drew⟩
  all_goals
    go_enter Try.func63, Try.ntmps63
    go_wp2
    go_end0
    exact ⟨rfl, HBx.out, HG.out⟩

def stv (p : List Ev) : Array Value := st18 (fun t => begun p t) (fun t => did p 6 t) (fun t k => decide (owner p k = t))
def z18 : Array Value := st18 (fun _ => false) (fun _ => false) (fun _ _ => false)
theorem anyHeld_owner {p : List Ev} (hf : Fit p) (k : Nat) : anyHeld (fun t k => decide (owner p k = t)) k = decide (0 ≤ owner p k) := by
  obtain ⟨h1, h2⟩ := owner_range hf k
  by_cases h : 0 ≤ owner p k
  · obtain ⟨i, hi⟩ := Int.eq_ofNat_of_zero_le h
    rw [anyHeld_yes (i := i) (by omega) (by simpa using hi)]
    simp [h]
  · rw [anyHeld_no fun i _ => by simp; omega]
    simp [h]
theorem refuse_wrong {p : List Ev} (hf : Fit p) (k : Int) (i j : Nat) (h : isEv ⟨k, i, j⟩ = true) :
    refuse (fun t => begun p t) (fun t => did p 6 t) (fun t k => decide (owner p k = t)) ⟨k, i, j⟩ = wrong p ⟨k, i, j⟩ := by
  unfold refuse wrong
  simp only [h, Int.toNat_natCast, anyHeld_owner hf, decide_eq_true_eq]
theorem wrong_bad {p : List Ev} {e : Ev} (h : isEv e = false) : wrong p e = 1 := by unfold wrong; rw [if_pos h]
theorem ev_nat {e : Ev} (h : isEv e = true) : ∃ (i j : Nat), e = ⟨e.k, i, j⟩ ∧ i < 6 ∧ (j : Int) < nobj e.k := by
  obtain ⟨h1, h2⟩ := isEv_t h
  obtain ⟨h3, h4⟩ := isEv_o h
  obtain ⟨i, hi⟩ := Int.eq_ofNat_of_zero_le h1
  obtain ⟨j, hj⟩ := Int.eq_ofNat_of_zero_le h3
  exact ⟨i, j, Ev.ext' rfl hi hj, by omega, by omega⟩
theorem refusal_any (B : Nat) (p : List Ev) (hf : Fit p) (e : Ev) (w : World) (hb : Box w B (stv p) 89) :
    Calls Try.prog 62 #[.pointer (some ⟨B, 0, none⟩), .agg (evv e)] w fun e' w' => e' = .returned (.int .i64 (wrong p e)) ∧ Below w.heap.size w w' := by
  cases h : isEv e
  · rw [wrong_bad h]; exact refusal_bad B (fun _ => false) (fun _ => false) (fun _ _ => false) e w h
  · obtain ⟨i, j, he, hi, hj⟩ := ev_nat h
    rw [he] at h ⊢
    rw [← refuse_wrong hf e.k i j h]
    exact refusal_ok B _ _ _ e.k i j hi hj w hb
theorem applied_stv {p : List Ev} (k : Int) (i j : Nat) (hi : i < 6) (hj : (j : Int) < nobj k) (h : wrong p ⟨k, i, j⟩ = 0) :
    applied (fun t => begun p t) (fun t => did p 6 t) (fun t k => decide (owner p k = t)) ⟨k, i, j⟩ = stv (p ++ [⟨k, i, j⟩]) := by
  have hev := wrong_isEv h
  unfold wrong at h
  simp only [hev, Bool.true_eq_false, if_false] at h
  split at h
  · cases h
  have e1 : ∀ t : Nat, begun (p ++ [⟨k, i, j⟩]) t = (begun p t || decide (k = 5 ∧ (j : Int) = t)) := fun t => begun_snoc ..
  have e2 : ∀ t : Nat, did (p ++ [⟨k, i, j⟩]) 6 t = (did p 6 t || decide (k = 6 ∧ (j : Int) = t)) := fun t => did_snoc ..
  have e3 : ∀ q : Int, owner (p ++ [⟨k, i, j⟩]) q = ownB (owner p q) ⟨k, i, j⟩ q := fun q => owner_snoc ..
  unfold applied stv
  by_cases h3 : k = 3
  · subst h3
    simp only [if_true, Int.toNat_natCast] at h ⊢
    have ho : ¬ 0 ≤ owner p j := fun hh => by rw [if_pos hh] at h; cases h
    refine st18_congr (fun t _ => by rw [e1]; simp) (fun t _ => by rw [e2]; simp) (fun t _ q _ => ?_)
    rw [e3]
    simp only [updF, ownB]
    by_cases hq : q = j
    · subst hq
      by_cases ht : t = i
      · subst ht; simp
      · have : ¬ (i : Int) = t := by omega
        have : ¬ owner p q = t := by omega
        simp [*]
    · have : ¬ (j : Int) = q := by omega
      simp [*]
  by_cases h4 : k = 4
  · subst h4
    simp only [h3, if_true, if_false, Int.toNat_natCast] at h ⊢
    have ho : owner p j = i := by
      by_cases hh : owner p j = i
      · exact hh
      · rw [if_neg hh] at h; cases h
    refine st18_congr (fun t _ => by rw [e1]; simp) (fun t _ => by rw [e2]; simp) (fun t _ q _ => ?_)
    rw [e3]
    simp only [updF, ownB]
    by_cases hq : q = j
    · subst hq
      by_cases ht : t = i
      · subst ht; simp
      · have h1 : ¬ owner p q = t := by omega
        have h2 : ¬ (-1 : Int) = t := by omega
        simp [h1, h2, ht]
    · have : ¬ (j : Int) = q := by omega
      simp [*]
  have e3' : ∀ q : Int, owner (p ++ [⟨k, i, j⟩]) q = owner p q := fun q => by rw [e3]; simp [ownB, h3, h4]
  by_cases h5 : k = 5
  · subst h5
    simp only [h3, h4, if_true, if_false, Int.toNat_natCast] at h ⊢
    refine st18_congr (fun t _ => ?_) (fun t _ => by rw [e2]; simp) (fun t _ q _ => by rw [e3'])
    rw [e1]
    simp only [updB]
    by_cases ht : t = j
    · subst ht; simp
    · have : ¬ (j : Int) = t := by omega
      simp [*]
  by_cases h6 : k = 6
  · subst h6
    simp only [h3, h4, h5, if_true, if_false, Int.toNat_natCast] at h ⊢
    refine st18_congr (fun t _ => by rw [e1]; simp) (fun t _ => ?_) (fun t _ q _ => by rw [e3'])
    rw [e2]
    simp only [updB]
    by_cases ht : t = j
    · subst ht; simp
    · have : ¬ (j : Int) = t := by omega
      simp [*]
  · simp only [h3, h4, h5, h6, if_false]
    exact st18_congr (fun t _ => by rw [e1]; simp [h5]) (fun t _ => by rw [e2]; simp [h6]) (fun t _ q _ => by rw [e3'])
theorem apply_stv (B : Nat) (p : List Ev) (e : Ev) (h : wrong p e = 0) (w : World) (hb : Box w B (stv p) 89) :
    Calls Try.prog 63 #[.pointer (some ⟨B, 0, none⟩), .agg (evv e)] w fun e' w' => e' = .returned (.tuple #[]) ∧ Turned w B (stv (p ++ [e])) 89 w' := by
  obtain ⟨i, j, he, hi, hj⟩ := ev_nat (wrong_isEv h)
  rw [he] at h ⊢
  rw [← applied_stv e.k i j hi hj h]
  exact apply_any B _ _ _ e.k i j hi hj w hb
end Go.Proofs.Ytnjaeampnakbbaa

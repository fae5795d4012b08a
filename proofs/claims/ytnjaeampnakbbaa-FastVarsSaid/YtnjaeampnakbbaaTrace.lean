/- Contracts of the package trace. -/
import Derived.Test.YtnjaeampnakbbaaRows
import Derived.Test.YtnjaeampnakbbaaBase
import Derived.Test.YtnjaeampnakbbaaTr
import Derived.WalkKit
import Derived.WalkSpells
import Derived.WalkLawsBesides
import Derived.BigQuiet
import Derived.Deep.RegionHeld3
import Derived.Lib.Hide
set_option linter.all false
set_option maxRecDepth 100000
namespace Go.Proofs.Ytnjaeampnakbbaa
open Go.RowKit

theorem isBelow_any (n m : Int) (w : World) : Calls Try.prog 78 #[.int .i64 n, .int .i64 m] w fun e w' => e = .returned (.bool (inB n m)) ∧ w = w' := by
  by_cases h0 : 0 ≤ n
  · by_cases h1 : n < m
    · have h := inB_yes h0 h1
      go_enter Try.func78, Try.ntmps78
      go_wp2
      go_ret
      exact ⟨ret_val (by simp [h]), rfl⟩
    · have h := inB_no (n := n) (m := m) (by omega)
      go_enter Try.func78, Try.ntmps78
      go_wp2
      go_ret
      exact ⟨ret_val (by simp [h]), rfl⟩
  · have h := inB_no (n := n) (m := m) (by omega)
    go_enter Try.func78, Try.ntmps78
    go_wp2
    go_ret
    exact ⟨ret_val (by simp [h]), rfl⟩

theorem kinds (k : Int) : k = 1 ∨ k = 2 ∨ k = 3 ∨ k = 4 ∨ k = 5 ∨ k = 6 ∨ k = 7 ∨ k = 8 ∨
    ((k == 1) = false ∧ (k == 2) = false ∧ (k == 3) = false ∧ (k == 4) = false ∧ (k == 5) = false ∧ (k == 6) = false ∧ (k == 7) = false ∧ (k == 8) = false) := by
  simp only [beq_eq_false_iff_ne]; omega
theorem nobj_else {k : Int} (h : (k == 1) = false ∧ (k == 2) = false ∧ (k == 3) = false ∧ (k == 4) = false ∧ (k == 5) = false ∧ (k == 6) = false ∧ (k == 7) = false ∧ (k == 8) = false) : nobj k = 0 := by
  simp only [beq_eq_false_iff_ne] at h
  unfold nobj; repeat' split
  all_goals omega
theorem objects_any (k : Int) (w : World) : Calls Try.prog 79 #[.int .i64 k] w fun e w' => e = .returned (.int .i64 (nobj k)) ∧ w = w' := by
  rcases kinds k with rfl | rfl | rfl | rfl | rfl | rfl | rfl | rfl | h
  any_goals
    go_enter Try.func79, Try.ntmps79
    go_wp2
    go_ret
    exact ⟨rfl, rfl⟩
  have hn := Lib.hid (nobj_else h)
  obtain ⟨h1, h2, h3, h4, h5, h6, h7, h8⟩ := h
  go_enter Try.func79, Try.ntmps79
  go_wp2
  go_ret
  exact ⟨by rw [hn.out]; rfl, rfl⟩

/-- The state of the checker, as cells. -/
def st18 (b o : Nat → Bool) (f : Nat → Nat → Bool) : Array Value :=
  #[.bool (b 0), .bool (b 1), .bool (b 2), .bool (b 3), .bool (b 4), .bool (b 5), .bool (o 0), .bool (o 1), .bool (o 2), .bool (o 3), .bool (o 4), .bool (o 5),
    .int .i64 (hset (f 0)), .int .i64 (hset (f 1)), .int .i64 (hset (f 2)), .int .i64 (hset (f 3)), .int .i64 (hset (f 4)), .int .i64 (hset (f 5))]
theorem st18_size (b o : Nat → Bool) (f : Nat → Nat → Bool) : (st18 b o f).size = 18 := rfl
theorem st18_all (b o : Nat → Bool) (f : Nat → Nat → Bool) : (st18 b o f).all (·.oneCell') = true := by simp [st18, Value.oneCell']
theorem st18_b (b o : Nat → Bool) (f : Nat → Nat → Bool) (k : Nat) (hk : k < 6) : (st18 b o f)[k]? = some (.bool (b k)) := by
  match k, hk with
  | 0, _ => rfl
  | 1, _ => rfl
  | 2, _ => rfl
  | 3, _ => rfl
  | 4, _ => rfl
  | 5, _ => rfl
theorem st18_o (b o : Nat → Bool) (f : Nat → Nat → Bool) (k : Nat) (hk : k < 6) : (st18 b o f)[6 + k]? = some (.bool (o k)) := by
  match k, hk with
  | 0, _ => rfl
  | 1, _ => rfl
  | 2, _ => rfl
  | 3, _ => rfl
  | 4, _ => rfl
  | 5, _ => rfl
theorem st18_h (b o : Nat → Bool) (f : Nat → Nat → Bool) (k : Nat) (hk : k < 6) : (st18 b o f)[12 + k]? = some (.int .i64 (hset (f k))) := by
  match k, hk with
  | 0, _ => rfl
  | 1, _ => rfl
  | 2, _ => rfl
  | 3, _ => rfl
  | 4, _ => rfl
  | 5, _ => rfl
def updB (b : Nat → Bool) (k : Nat) (v : Bool) : Nat → Bool := fun j => if j = k then v else b j
def updF (f : Nat → Nat → Bool) (t k : Nat) (v : Bool) : Nat → Nat → Bool := fun i j => if i = t ∧ j = k then v else f i j
theorem st18_congr {b b' o o' : Nat → Bool} {f f' : Nat → Nat → Bool} (h1 : ∀ k, k < 6 → b k = b' k) (h2 : ∀ k, k < 6 → o k = o' k) (h3 : ∀ t, t < 6 → ∀ k, k < 5 → f t k = f' t k) : st18 b o f = st18 b' o' f' := by
  have e : ∀ t, t < 6 → hset (f t) = hset (f' t) := fun t ht => hset_congr (h3 t ht)
  simp [st18, h1 0, h1 1, h1 2, h1 3, h1 4, h1 5, h2 0, h2 1, h2 2, h2 3, h2 4, h2 5, e 0, e 1, e 2, e 3, e 4, e 5]
theorem st18_setb (b o : Nat → Bool) (f : Nat → Nat → Bool) (k : Nat) (hk : k < 6) (v : Bool) : (st18 b o f).setIfInBounds k (.bool v) = st18 (updB b k v) o f := by
  match k, hk with
  | 0, _ => rfl
  | 1, _ => rfl
  | 2, _ => rfl
  | 3, _ => rfl
  | 4, _ => rfl
  | 5, _ => rfl
theorem st18_seto (b o : Nat → Bool) (f : Nat → Nat → Bool) (k : Nat) (hk : k < 6) (v : Bool) : (st18 b o f).setIfInBounds (6 + k) (.bool v) = st18 b (updB o k v) f := by
  match k, hk with
  | 0, _ => rfl
  | 1, _ => rfl
  | 2, _ => rfl
  | 3, _ => rfl
  | 4, _ => rfl
  | 5, _ => rfl
theorem st18_seth (b o : Nat → Bool) (f g : Nat → Nat → Bool) (k : Nat) (hk : k < 6) (hg : ∀ i, i < 6 → i ≠ k → ∀ j, j < 5 → g i j = f i j) : (st18 b o f).setIfInBounds (12 + k) (.int .i64 (hset (g k))) = st18 b o g := by
  have e : ∀ i, i < 6 → i ≠ k → hset (f i) = hset (g i) := fun i hi hn => hset_congr fun j hj => (hg i hi hn j hj).symm
  match k, hk with
  | 0, _ => simp [st18, e 1, e 2, e 3, e 4, e 5]
  | 1, _ => simp [st18, e 0, e 2, e 3, e 4, e 5]
  | 2, _ => simp [st18, e 0, e 1, e 3, e 4, e 5]
  | 3, _ => simp [st18, e 0, e 1, e 2, e 4, e 5]
  | 4, _ => simp [st18, e 0, e 1, e 2, e 3, e 5]
  | 5, _ => simp [st18, e 0, e 1, e 2, e 3, e 4]

theorem has_bit (f : Nat → Bool) (k : Nat) (hk : k < 5) : (bits .and .i64 (hset f / 2 ^ k) 1 == 1) = f k := by
  have D : ∀ b0 b1 b2 b3 b4 : Bool, ∀ k : Fin 5, (bits .and .i64 (hs5 b0 b1 b2 b3 b4 / 2 ^ k.val) 1 == 1) = ([b0, b1, b2, b3, b4].getD k.val false) := by decide +kernel
  have h := D (f 0) (f 1) (f 2) (f 3) (f 4) ⟨k, hk⟩
  unfold hset
  rw [h]
  match k, hk with
  | 0, _ => rfl
  | 1, _ => rfl
  | 2, _ => rfl
  | 3, _ => rfl
  | 4, _ => rfl
theorem or_bit (f : Nat → Bool) (k : Nat) (hk : k < 5) : bits .or .i64 (hset f) (2 ^ k) = hset (updB f k true) := by
  have D : ∀ b0 b1 b2 b3 b4 : Bool, ∀ k : Fin 5, bits .or .i64 (hs5 b0 b1 b2 b3 b4) (2 ^ k.val) = hs5 (decide (k.val = 0) || b0) (decide (k.val = 1) || b1) (decide (k.val = 2) || b2) (decide (k.val = 3) || b3) (decide (k.val = 4) || b4) := by decide +kernel
  have h := D (f 0) (f 1) (f 2) (f 3) (f 4) ⟨k, hk⟩
  unfold hset
  rw [h]
  match k, hk with
  | 0, _ => rfl
  | 1, _ => rfl
  | 2, _ => rfl
  | 3, _ => rfl
  | 4, _ => rfl
theorem andNot_bit (f : Nat → Bool) (k : Nat) (hk : k < 5) : bits .andNot .i64 (hset f) (2 ^ k) = hset (updB f k false) := by
  have D : ∀ b0 b1 b2 b3 b4 : Bool, ∀ k : Fin 5, bits .andNot .i64 (hs5 b0 b1 b2 b3 b4) (2 ^ k.val) = hs5 (!decide (k.val = 0) && b0) (!decide (k.val = 1) && b1) (!decide (k.val = 2) && b2) (!decide (k.val = 3) && b3) (!decide (k.val = 4) && b4) := by decide +kernel
  have h := D (f 0) (f 1) (f 2) (f 3) (f 4) ⟨k, hk⟩
  unfold hset
  rw [h]
  match k, hk with
  | 0, _ => rfl
  | 1, _ => rfl
  | 2, _ => rfl
  | 3, _ => rfl
  | 4, _ => rfl

theorem T52 : RowTy Try.prog 89 18 := ⟨_, Try.underlying89, rfl, by kernel_rfl⟩
theorem T36 : RowTy Try.prog 45 3 := ⟨_, Try.underlying45, rfl, by kernel_rfl⟩
set_option maxHeartbeats 400000 in
theorem has_any (B : Nat) (t : TypeId) (b o : Nat → Bool) (f : Nat → Nat → Bool) (w : World) (hb : Box w B (st18 b o f) t) (i k : Nat) (hi : i < 6) (hk : k < 5) :
    Calls Try.prog 81 #[.pointer (some ⟨B, 0, none⟩), .int .i64 i, .int .i64 k] w fun e w' => e = .returned (.bool (f i k)) ∧ w = w' := by
  have c := hb.cell _ (st18_h b o f i (by omega))
  have H := Lib.hid (has_bit (f i) k (by omega))
  clear hb
  go_enter Try.func81, Try.ntmps81
  go_wp2
  go_ret
  refine ⟨ret_val ?_, rfl⟩
  rw [← H.out]
  rfl

def anyHeld (f : Nat → Nat → Bool) (k : Nat) : Bool := (List.range 6).any fun i => f i k
theorem anyHeld_yes {f : Nat → Nat → Bool} {k i : Nat} (hi : i < 6) (h : f i k = true) : anyHeld f k = true := by
  simp only [anyHeld, List.any_eq_true, List.mem_range]; exact ⟨i, hi, h⟩
theorem anyHeld_no {f : Nat → Nat → Bool} {k : Nat} (h : ∀ i, i < 6 → f i k = false) : anyHeld f k = false := by
  rw [← Bool.not_eq_true]; simp only [anyHeld, List.any_eq_true, List.mem_range]
  rintro ⟨i, hi, h'⟩
  rw [h i hi] at h'; cases h'

set_option maxHeartbeats 400000 in
theorem isHeld_any (B : Nat) (t : TypeId) (b o : Nat → Bool) (f : Nat → Nat → Bool) (w : World) (hb : Box w B (st18 b o f) t) (k : Nat) (hk : k < 5) :
    Calls Try.prog 80 #[.pointer (some ⟨B, 0, none⟩), .int .i64 k] w fun e w' => e = .returned (.bool (anyHeld f k)) ∧ w = w' := by
  go_enter Try.func80, Try.ntmps80
  go_wp2
  go_loop [6] (fun i => ∃ n : Nat, n ≤ 6 ∧ i = .int .i64 n ∧ UpTo (fun j => f j k = false) n) (fun i => 6 - (intOf i).toNat)
  case atStart => exact ⟨0, by omega, rfl, UpTo.zero⟩
  case round =>
    obtain ⟨n, hn, rfl, hu⟩ := hrel
    have HU := Lib.hid hu
    clear hu
    by_cases hlt : n < 6
    · cases hf : f n k
      · go_wp2_with (go_at_call 81; refine (has_any B t b o f _ hb n k hlt hk).mono ?_; rintro e w' ⟨rfl, rfl⟩)
        go_round
        case rel => exact ⟨n + 1, by omega, by go_num, HU.out.succ hf⟩
        case measure => simp [intOf]; omega
      · have HF := Lib.hid (anyHeld_yes hlt hf)
        go_wp2_with (go_at_call 81; refine (has_any B t b o f _ hb n k hlt hk).mono ?_; rintro e w' ⟨rfl, rfl⟩)
        go_ret
        exact ⟨by rw [HF.out]; rfl, rfl⟩
    · go_wp2
      go_ret
      exact ⟨by rw [anyHeld_no fun i hi => HU.out i (by omega)]; rfl, rfl⟩

def refuse (b o : Nat → Bool) (f : Nat → Nat → Bool) (e : Ev) : Int :=
  if isEv e = false then 1 else if b e.t.toNat = false ∨ o e.t.toNat = true then 11
  else if e.k = 3 then (if anyHeld f e.o.toNat = true then 9 else 0)
  else if e.k = 4 then (if f e.t.toNat e.o.toNat = true then 0 else 10)
  else if e.k = 5 then (if b e.o.toNat = true then 8 else 0)
  else if e.k = 6 then (if b e.o.toNat = false ∨ e.o = e.t then 7 else 0) else 0

set_option maxHeartbeats 1000000 in
theorem refusal_bad (B : Nat) (b o : Nat → Bool) (f : Nat → Nat → Bool) (e : Ev) (w : World) (he : isEv e = false) :
    Calls Try.prog 62 #[.pointer (some ⟨B, 0, none⟩), .agg (evv e)] w fun e' w' => e' = .returned (.int .i64 1) ∧ Below w.heap.size w w' := by
  obtain ⟨b1, hB, hs⟩ := boxes1 w (evv e) 45
  generalize hW : w.alloc (.cells (evv e) 45) = W at *
  have HB := Lib.hid hB
  clear hB hs
  have c0 := b1.cell 0 (v := .int .i64 e.k) rfl
  have c1 := b1.cell 1 (v := .int .i64 e.t) rfl
  have c2 := b1.cell 2 (v := .int .i64 e.o) rfl
  cases h1 : inB e.t 6
  · go_enter Try.func62, Try.ntmps62
    go_wp2
    go_quiet ((first | (go_at_call 78; exact Calls.quiet_of_same ((isBelow_any _ _ _).mono fun e w' h => ⟨h.1, h.2.symm⟩)) | (go_at_call 79; exact Calls.quiet_of_same ((objects_any _ _).mono fun e w' h => ⟨h.1, h.2.symm⟩))))
    go_wp2
    go_ret
    exact ⟨rfl, bdrewN HB.out _⟩
  · have h2 : inB e.o (nobj e.k) = false := by simpa [isEv, h1] using he
    go_enter Try.func62, Try.ntmps62
    go_wp2
    go_quiet ((first | (go_at_call 78; exact Calls.quiet_of_same ((isBelow_any _ _ _).mono fun e w' h => ⟨h.1, h.2.symm⟩)) | (go_at_call 79; exact Calls.quiet_of_same ((objects_any _ _).mono fun e w' h => ⟨h.1, h.2.symm⟩))))
    go_wp2
    go_ret
    exact ⟨rfl, bdrewN HB.out _⟩

/-- What the walks below need of a world in which a call of refusal stands. -/
theorem bd2 {N : Nat} {w w' : World} (h : Below N w w') (n m : Nat) : Below N w ((w'.drewN n).drewN m) := ⟨h.os, h.tape, h.output, h.size, h.block⟩
set_option maxHeartbeats 4000000 in
theorem refusal_ok (B : Nat) (b o : Nat → Bool) (f : Nat → Nat → Bool) (k : Int) (i j : Nat) (hi : i < 6) (hj : (j : Int) < nobj k) (w : World) (hb : Box w B (st18 b o f) 89) :
    Calls Try.prog 62 #[.pointer (some ⟨B, 0, none⟩), .agg (evv ⟨k, i, j⟩)] w fun e' w' => e' = .returned (.int .i64 (refuse b o f ⟨k, i, j⟩)) ∧ Below w.heap.size w w' := by
  have h1 : inB (i : Int) 6 = true := inB_yes (by omega) (by omega)
  have h2 : inB (j : Int) (nobj k) = true := inB_yes (by omega) hj
  have hev : isEv ⟨k, i, j⟩ = true := by simp [isEv, h1, h2]
  have R : refuse b o f ⟨k, i, j⟩ = (if b i = false ∨ o i = true then 11
      else if k = 3 then (if anyHeld f j = true then 9 else 0)
      else if k = 4 then (if f i j = true then 0 else 10)
      else if k = 5 then (if b j = true then 8 else 0)
      else if k = 6 then (if b j = false ∨ (j : Int) = i then 7 else 0) else 0) := by
    simp only [refuse, hev, Int.toNat_natCast]; rfl
  have b0 := hb.old (.cells (evv ⟨k, i, j⟩) 45)
  obtain ⟨b1, hB, hs⟩ := boxes1 w (evv ⟨k, i, j⟩) 45
  have HR := Lib.hid R
  generalize hW : w.alloc (.cells (evv ⟨k, i, j⟩) 45) = W at *
  have HB := Lib.hid hB
  clear hB hs hev R
  have c0 := b1.cell 0 (v := .int .i64 k) rfl
  have c1 := b1.cell 1 (v := .int .i64 i) rfl
  have c2 := b1.cell 2 (v := .int .i64 j) rfl
  have c3 := b0.cell i (st18_b b o f i hi)
  have c4 := b0.cell _ (st18_o b o f i hi)
  have HBx := Lib.hid b0
  clear hb b0 b1
  have hi' : (i : Int) < 6 := by omega
  cases hbi : b i
  · go_enter Try.func62, Try.ntmps62
    go_wp2
    go_quiet ((first | (go_at_call 78; exact Calls.quiet_of_same ((isBelow_any _ _ _).mono fun e w' h => ⟨h.1, h.2.symm⟩)) | (go_at_call 79; exact Calls.quiet_of_same ((objects_any _ _).mono fun e w' h => ⟨h.1, h.2.symm⟩))))
    go_wp2
    go_quiet (fail)
    go_wp2
    go_ret
    exact ⟨ret_val (by rw [HR.out]; simp [*]), by (repeat (first | exact HB.out | with_reducible exact Below.refl _ _ | with_reducible refine Below.alloc ?_ (by first | omega | (simp; omega) | (simp; done)) _ | with_reducible refine below_setRow' ?_ _ _ (by omega) | with_reducible refine Below.setCell ?_ (by first | omega | (dsimp only; omega) | (simp; omega) | (simp; done)) _ | with_reducible refine Below.drew ?_ | with_reducible refine bdrewN ?_ _))⟩
  cases hoi : o i
  case true =>
    go_enter Try.func62, Try.ntmps62
    go_wp2
    go_quiet ((first | (go_at_call 78; exact Calls.quiet_of_same ((isBelow_any _ _ _).mono fun e w' h => ⟨h.1, h.2.symm⟩)) | (go_at_call 79; exact Calls.quiet_of_same ((objects_any _ _).mono fun e w' h => ⟨h.1, h.2.symm⟩))))
    go_wp2
    go_quiet (fail)
    go_wp2
    go_ret
    exact ⟨ret_val (by rw [HR.out]; simp [*]), by (repeat (first | exact HB.out | with_reducible exact Below.refl _ _ | with_reducible refine Below.alloc ?_ (by first | omega | (simp; omega) | (simp; done)) _ | with_reducible refine below_setRow' ?_ _ _ (by omega) | with_reducible refine Below.setCell ?_ (by first | omega | (dsimp only; omega) | (simp; omega) | (simp; done)) _ | with_reducible refine Below.drew ?_ | with_reducible refine bdrewN ?_ _))⟩
  rcases kinds k with rfl | rfl | rfl | rfl | rfl | rfl | rfl | rfl | hk
  case inr.inr.inr.inr.inr.inr.inr.inr => exact absurd hj (by rw [nobj_else hk]; omega)
  case inr.inr.inl =>
    have hj5 : j < 5 := by have : (j : Int) < 5 := hj; omega
    cases ha : anyHeld f j
    all_goals
      go_enter Try.func62, Try.ntmps62
      go_wp2
      go_quiet ((first | (go_at_call 78; exact Calls.quiet_of_same ((isBelow_any _ _ _).mono fun e w' h => ⟨h.1, h.2.symm⟩)) | (go_at_call 79; exact Calls.quiet_of_same ((objects_any _ _).mono fun e w' h => ⟨h.1, h.2.symm⟩))))
      go_wp2
      go_quiet (fail)
      go_wp2_with (first | (go_at_call 80; (with_reducible refine (isHeld_any B 89 b o f _ (HBx.out.drewN _) j hj5).mono ?_); rintro e w' ⟨rfl, rfl⟩))
      go_ret
      exact ⟨ret_val (by rw [HR.out]; simp [*]), by (repeat (first | exact HB.out | with_reducible exact Below.refl _ _ | with_reducible refine Below.alloc ?_ (by first | omega | (simp; omega) | (simp; done)) _ | with_reducible refine below_setRow' ?_ _ _ (by omega) | with_reducible refine Below.setCell ?_ (by first | omega | (dsimp only; omega) | (simp; omega) | (simp; done)) _ | with_reducible refine Below.drew ?_ | with_reducible refine bdrewN ?_ _))⟩
  case inr.inr.inr.inl =>
    have hj5 : j < 5 := by have : (j : Int) < 5 := hj; omega
    cases ha : f i j
    all_goals
      go_enter Try.func62, Try.ntmps62
      go_wp2
      go_quiet ((first | (go_at_call 78; exact Calls.quiet_of_same ((isBelow_any _ _ _).mono fun e w' h => ⟨h.1, h.2.symm⟩)) | (go_at_call 79; exact Calls.quiet_of_same ((objects_any _ _).mono fun e w' h => ⟨h.1, h.2.symm⟩))))
      go_wp2
      go_quiet (fail)
      go_wp2_with (first | (go_at_call 81; (with_reducible refine (has_any B 89 b o f _ (HBx.out.drewN _) i j hi hj5).mono ?_); rintro e w' ⟨rfl, rfl⟩))
      go_ret
      exact ⟨ret_val (by rw [HR.out]; simp [*]), by (repeat (first | exact HB.out | with_reducible exact Below.refl _ _ | with_reducible refine Below.alloc ?_ (by first | omega | (simp; omega) | (simp; done)) _ | with_reducible refine below_setRow' ?_ _ _ (by omega) | with_reducible refine Below.setCell ?_ (by first | omega | (dsimp only; omega) | (simp; omega) | (simp; done)) _ | with_reducible refine Below.drew ?_ | with_reducible refine bdrewN ?_ _))⟩
  case inr.inr.inr.inr.inl =>
    have hj6 : j < 6 := by have : (j : Int) < 6 := hj; omega
    have hj' : (j : Int) < 6 := by omega
    have c5 := HBx.out.cell j (st18_b b o f j hj6)
    cases ha : b j
    all_goals
      go_enter Try.func62, Try.ntmps62
      go_wp2
      go_quiet ((first | (go_at_call 78; exact Calls.quiet_of_same ((isBelow_any _ _ _).mono fun e w' h => ⟨h.1, h.2.symm⟩)) | (go_at_call 79; exact Calls.quiet_of_same ((objects_any _ _).mono fun e w' h => ⟨h.1, h.2.symm⟩))))
      go_wp2
      go_quiet (fail)
      go_wp2
      go_quiet (fail)
      go_wp2
      go_ret
      exact ⟨ret_val (by rw [HR.out]; simp [*]), by (repeat (first | exact HB.out | with_reducible exact Below.refl _ _ | with_reducible refine Below.alloc ?_ (by first | omega | (simp; omega) | (simp; done)) _ | with_reducible refine below_setRow' ?_ _ _ (by omega) | with_reducible refine Below.setCell ?_ (by first | omega | (dsimp only; omega) | (simp; omega) | (simp; done)) _ | with_reducible refine Below.drew ?_ | with_reducible refine bdrewN ?_ _))⟩
  case inr.inr.inr.inr.inr.inl =>
    have hj6 : j < 6 := by have : (j : Int) < 6 := hj; omega
    have hj' : (j : Int) < 6 := by omega
    have c5 := HBx.out.cell j (st18_b b o f j hj6)
    cases ha : b j
    · go_enter Try.func62, Try.ntmps62
      go_wp2
      go_quiet ((first | (go_at_call 78; exact Calls.quiet_of_same ((isBelow_any _ _ _).mono fun e w' h => ⟨h.1, h.2.symm⟩)) | (go_at_call 79; exact Calls.quiet_of_same ((objects_any _ _).mono fun e w' h => ⟨h.1, h.2.symm⟩))))
      go_wp2
      go_quiet (fail)
      go_wp2
      go_quiet (fail)
      go_wp2
      go_ret
      exact ⟨ret_val (by rw [HR.out]; simp [*]), by (repeat (first | exact HB.out | with_reducible exact Below.refl _ _ | with_reducible refine Below.alloc ?_ (by first | omega | (simp; omega) | (simp; done)) _ | with_reducible refine below_setRow' ?_ _ _ (by omega) | with_reducible refine Below.setCell ?_ (by first | omega | (dsimp only; omega) | (simp; omega) | (simp; done)) _ | with_reducible refine Below.drew ?_ | with_reducible refine bdrewN ?_ _))⟩
    by_cases he : (j : Int) = i
    · have he' : ((j : Int) == (i : Int)) = true := by simpa using he
      have HE := Lib.hid he
      clear he
      go_enter Try.func62, Try.ntmps62
      go_wp2
      go_quiet ((first | (go_at_call 78; exact Calls.quiet_of_same ((isBelow_any _ _ _).mono fun e w' h => ⟨h.1, h.2.symm⟩)) | (go_at_call 79; exact Calls.quiet_of_same ((objects_any _ _).mono fun e w' h => ⟨h.1, h.2.symm⟩))))
      go_wp2
      go_quiet (fail)
      go_wp2
      go_quiet (fail)
      go_wp2
      go_ret
      exact ⟨ret_val (by rw [HR.out]; have := HE.out; simp [*]), by (repeat (first | exact HB.out | with_reducible exact Below.refl _ _ | with_reducible refine Below.alloc ?_ (by first | omega | (simp; omega) | (simp; done)) _ | with_reducible refine below_setRow' ?_ _ _ (by omega) | with_reducible refine Below.setCell ?_ (by first | omega | (dsimp only; omega) | (simp; omega) | (simp; done)) _ | with_reducible refine Below.drew ?_ | with_reducible refine bdrewN ?_ _))⟩
    · have he' : ((j : Int) == (i : Int)) = false := by simpa using he
      have HE := Lib.hid he
      clear he
      go_enter Try.func62, Try.ntmps62
      go_wp2
      go_quiet ((first | (go_at_call 78; exact Calls.quiet_of_same ((isBelow_any _ _ _).mono fun e w' h => ⟨h.1, h.2.symm⟩)) | (go_at_call 79; exact Calls.quiet_of_same ((objects_any _ _).mono fun e w' h => ⟨h.1, h.2.symm⟩))))
      go_wp2
      go_quiet (fail)
      go_wp2
      go_quiet (fail)
      go_wp2
      go_ret
      exact ⟨ret_val (by rw [HR.out]; have := HE.out; simp [*]), by (repeat (first | exact HB.out | with_reducible exact Below.refl _ _ | with_reducible refine Below.alloc ?_ (by first | omega | (simp; omega) | (simp; done)) _ | with_reducible refine below_setRow' ?_ _ _ (by omega) | with_reducible refine Below.setCell ?_ (by first | omega | (dsimp only; omega) | (simp; omega) | (simp; done)) _ | with_reducible refine Below.drew ?_ | with_reducible refine bdrewN ?_ _))⟩
  all_goals
    go_enter Try.func62, Try.ntmps62
    go_wp2
    go_quiet ((first | (go_at_call 78; exact Calls.quiet_of_same ((isBelow_any _ _ _).mono fun e w' h => ⟨h.1, h.2.symm⟩)) | (go_at_call 79; exact Calls.quiet_of_same ((objects_any _ _).mono fun e w' h => ⟨h.1, h.2.symm⟩))))
    go_wp2
    go_quiet (fail)
    go_wp2
    go_ret
    exact ⟨ret_val (by rw [HR.out]; simp [*]), by (repeat (first | exact HB.out | with_reducible exact Below.refl _ _ | with_reducible refine Below.alloc ?_ (by first | omega | (simp; omega) | (simp; done)) _ | with_reducible refine below_setRow' ?_ _ _ (by omega) | with_reducible refine Below.setCell ?_ (by first | omega | (dsimp only; omega) | (simp; omega) | (simp; done)) _ | with_reducible refine Below.drew ?_ | with_reducible refine bdrewN ?_ _))⟩

end Go.Proofs.Ytnjaeampnakbbaa

import Derived.Test.YtnklpifnknmdgaaGreatDoorRows
import Derived.WalkKit
import Derived.WalkSpells
import Derived.WalkLawsBesides
import Derived.BigQuiet
import Derived.Deep.RegionHeld3
import Derived.Lib.Hide
import Derived.RegionTactic
import Derived.StillTailTactics
import Derived.Deep.MidRow
import Derived.Maps.AppendAt
import Derived.Test.YtnklpifnknmdgaaGreatDoorZTr
set_option linter.all false
set_option maxRecDepth 100000
namespace Go.Proofs.YtnklpifnknmdgaaGreatDoor
open Go.RowKit

theorem isBelow_any (n m : Int) (w : World) : Calls Tryz.prog 179 #[.int .i64 n, .int .i64 m] w fun e w' => e = .returned (.bool (inB n m)) ∧ w = w' := by
  by_cases h0 : 0 ≤ n
  · by_cases h1 : n < m
    · have h := inB_yes h0 h1
      go_enter Tryz.func179, Tryz.ntmps179
      go_wp2
      go_ret
      exact ⟨ret_val (by simp [h]), rfl⟩
    · have h := inB_no (n := n) (m := m) (by omega)
      go_enter Tryz.func179, Tryz.ntmps179
      go_wp2
      go_ret
      exact ⟨ret_val (by simp [h]), rfl⟩
  · have h := inB_no (n := n) (m := m) (by omega)
    go_enter Tryz.func179, Tryz.ntmps179
    go_wp2
    go_ret
    exact ⟨ret_val (by simp [h]), rfl⟩

theorem kinds (k : Int) : k = 1 ∨ k = 2 ∨ k = 3 ∨ k = 4 ∨ k = 5 ∨ k = 6 ∨ k = 7 ∨ k = 8 ∨
    ((k == 1) = false ∧ (k == 2) = false ∧ (k == 3) = false ∧ (k == 4) = false ∧ (k == 5) = false ∧ (k == 6) = false ∧ (k == 7) = false ∧ (k == 8) = false) := by
  simp only [beq_eq_false_iff_ne]; omega
theorem nobj_else {k : Int} (h : (k == 1) = false ∧ (k == 2) = false ∧ (k == 3) = false ∧ (k == 4) = false ∧ (k == 5) = false ∧ (k == 6) = false ∧ (k == 7) = false ∧ (k == 8) = false) : nobj k = 0 := by
  simp only [beq_eq_false_iff_ne] at h
  unfold nobj; repeat' split
  all_goals omega
theorem objects_any (k : Int) (w : World) : Calls Tryz.prog 183 #[.int .i64 k] w fun e w' => e = .returned (.int .i64 (nobj k)) ∧ w = w' := by
  rcases kinds k with rfl | rfl | rfl | rfl | rfl | rfl | rfl | rfl | h
  any_goals
    go_enter Tryz.func183, Tryz.ntmps183
    go_wp2
    go_ret
    exact ⟨rfl, rfl⟩
  have hn := Lib.hid (nobj_else h)
  obtain ⟨h1, h2, h3, h4, h5, h6, h7, h8⟩ := h
  go_enter Tryz.func183, Tryz.ntmps183
  go_wp2
  go_ret
  exact ⟨by rw [hn.out]; rfl, rfl⟩

def st18 (b o : Nat → Bool) (f : Nat → Nat → Bool) : Array Value :=
  #[.bool (b 0), .bool (b 1), .bool (b 2), .bool (b 3), .bool (b 4), .bool (b 5), .bool (o 0), .bool (o 1), .bool (o 2), .bool (o 3), .bool (o 4), .bool (o 5),
    .int .i64 (hset (f 0)), .int .i64 (hset (f 1)), .int .i64 (hset (f 2)), .int .i64 (hset (f 3)), .int .i64 (hset (f 4)), .int .i64 (hset (f 5))]
theorem st18_all (b o : Nat → Bool) (f : Nat → Nat → Bool) : (st18 b o f).all (·.oneCell') = true := by simp [st18, Value.oneCell']
theorem st18_b (b o : Nat → Bool) (f : Nat → Nat → Bool) (k : Nat) (hk : k < 6) : (st18 b o f)[k]? = some (.bool (b k)) := by
  match k, hk with
  | 0, _ => rfl
  | 1, _ => rfl
  | 2, _ => rfl
  | 3, _ => rfl
  | 4, _ => rfl
  | 5, _ => rfl
theorem st18_o (b o : Nat → Bool) (f : Nat → Nat → Bool) (k : Nat) (hk : k < 6) : (st18 b o f)[6 + k]? = some (.bool (o k)) := by
  match k, hk with
  | 0, _ => rfl
  | 1, _ => rfl
  | 2, _ => rfl
  | 3, _ => rfl
  | 4, _ => rfl
  | 5, _ => rfl
theorem st18_h (b o : Nat → Bool) (f : Nat → Nat → Bool) (k : Nat) (hk : k < 6) : (st18 b o f)[12 + k]? = some (.int .i64 (hset (f k))) := by
  match k, hk with
  | 0, _ => rfl
  | 1, _ => rfl
  | 2, _ => rfl
  | 3, _ => rfl
  | 4, _ => rfl
  | 5, _ => rfl
def updB (b : Nat → Bool) (k : Nat) (v : Bool) : Nat → Bool := fun j => if j = k then v else b j
def updF (f : Nat → Nat → Bool) (t k : Nat) (v : Bool) : Nat → Nat → Bool := fun i j => if i = t ∧ j = k then v else f i j
theorem st18_congr {b b' o o' : Nat → Bool} {f f' : Nat → Nat → Bool} (h1 : ∀ k, k < 6 → b k = b' k) (h2 : ∀ k, k < 6 → o k = o' k) (h3 : ∀ t, t < 6 → ∀ k, k < 5 → f t k = f' t k) : st18 b o f = st18 b' o' f' := by
  have e : ∀ t, t < 6 → hset (f t) = hset (f' t) := fun t ht => hset_congr (h3 t ht)
  simp [st18, h1 0, h1 1, h1 2, h1 3, h1 4, h1 5, h2 0, h2 1, h2 2, h2 3, h2 4, h2 5, e 0, e 1, e 2, e 3, e 4, e 5]
theorem st18_setb (b o : Nat → Bool) (f : Nat → Nat → Bool) (k : Nat) (hk : k < 6) (v : Bool) : (st18 b o f).setIfInBounds k (.bool v) = st18 (updB b k v) o f := by
  match k, hk with
  | 0, _ => rfl
  | 1, _ => rfl
  | 2, _ => rfl
  | 3, _ => rfl
  | 4, _ => rfl
  | 5, _ => rfl
theorem st18_seto (b o : Nat → Bool) (f : Nat → Nat → Bool) (k : Nat) (hk : k < 6) (v : Bool) : (st18 b o f).setIfInBounds (6 + k) (.bool v) = st18 b (updB o k v) f := by
  match k, hk with
  | 0, _ => rfl
  | 1, _ => rfl
  | 2, _ => rfl
  | 3, _ => rfl
  | 4, _ => rfl
  | 5, _ => rfl
theorem st18_seth (b o : Nat → Bool) (f g : Nat → Nat → Bool) (k : Nat) (hk : k < 6) (hg : ∀ i, i < 6 → i ≠ k → ∀ j, j < 5 → g i j = f i j) : (st18 b o f).setIfInBounds (12 + k) (.int .i64 (hset (g k))) = st18 b o g := by
  have e : ∀ i, i < 6 → i ≠ k → hset (f i) = hset (g i) := fun i hi hn => hset_congr fun j hj => (hg i hi hn j hj).symm
  match k, hk with
  | 0, _ => simp [st18, e 1, e 2, e 3, e 4, e 5]
  | 1, _ => simp [st18, e 0, e 2, e 3, e 4, e 5]
  | 2, _ => simp [st18, e 0, e 1, e 3, e 4, e 5]
  | 3, _ => simp [st18, e 0, e 1, e 2, e 4, e 5]
  | 4, _ => simp [st18, e 0, e 1, e 2, e 3, e 5]
  | 5, _ => simp [st18, e 0, e 1, e 2, e 3, e 4]

theorem has_bit (f : Nat → Bool) (k : Nat) (hk : k < 5) : (bits .and .i64 (hset f / 2 ^ k) 1 == 1) = f k := by
  have D : ∀ b0 b1 b2 b3 b4 : Bool, ∀ k : Fin 5, (bits .and .i64 (hs5 b0 b1 b2 b3 b4 / 2 ^ k.val) 1 == 1) = ([b0, b1, b2, b3, b4].getD k.val false) := by decide +kernel
  have h := D (f 0) (f 1) (f 2) (f 3) (f 4) ⟨k, hk⟩
  unfold hset
  rw [h]
  match k, hk with
  | 0, _ => rfl
  | 1, _ => rfl
  | 2, _ => rfl
  | 3, _ => rfl
  | 4, _ => rfl
theorem or_bit (f : Nat → Bool) (k : Nat) (hk : k < 5) : bits .or .i64 (hset f) (2 ^ k) = hset (updB f k true) := by
  have D : ∀ b0 b1 b2 b3 b4 : Bool, ∀ k : Fin 5, bits .or .i64 (hs5 b0 b1 b2 b3 b4) (2 ^ k.val) = hs5 (decide (k.val = 0) || b0) (decide (k.val = 1) || b1) (decide (k.val = 2) || b2) (decide (k.val = 3) || b3) (decide (k.val = 4) || b4) := by decide +kernel
  have h := D (f 0) (f 1) (f 2) (f 3) (f 4) ⟨k, hk⟩
  unfold hset
  rw [h]
  match k, hk with
  | 0, _ => rfl
  | 1, _ => rfl
  | 2, _ => rfl
  | 3, _ => rfl
  | 4, _ => rfl
theorem andNot_bit (f : Nat → Bool) (k : Nat) (hk : k < 5) : bits .andNot .i64 (hset f) (2 ^ k) = hset (updB f k false) := by
  have D : ∀ b0 b1 b2 b3 b4 : Bool, ∀ k : Fin 5, bits .andNot .i64 (hs5 b0 b1 b2 b3 b4) (2 ^ k.val) = hs5 (!decide (k.val = 0) && b0) (!decide (k.val = 1) && b1) (!decide (k.val = 2) && b2) (!decide (k.val = 3) && b3) (!decide (k.val = 4) && b4) := by decide +kernel
  have h := D (f 0) (f 1) (f 2) (f 3) (f 4) ⟨k, hk⟩
  unfold hset
  rw [h]
  match k, hk with
  | 0, _ => rfl
  | 1, _ => rfl
  | 2, _ => rfl
  | 3, _ => rfl
  | 4, _ => rfl

theorem T52 : RowTy Tryz.prog 181 18 := ⟨_, Tryz.underlying181, rfl, by kernel_rfl⟩
theorem T36 : RowTy Tryz.prog 45 3 := ⟨_, Tryz.underlying45, rfl, by kernel_rfl⟩
set_option maxHeartbeats 400000 in
theorem has_any (B : Nat) (t : TypeId) (b o : Nat → Bool) (f : Nat → Nat → Bool) (w : World) (hb : Box w B (st18 b o f) t) (i k : Nat) (hi : i < 6) (hk : k < 5) :
    Calls Tryz.prog 185 #[.pointer (some ⟨B, 0, none⟩), .int .i64 i, .int .i64 k] w fun e w' => e = .returned (.bool (f i k)) ∧ w = w' := by
  have c := hb.cell _ (st18_h b o f i (by omega))
  have H := Lib.hid (has_bit (f i) k (by omega))
  clear hb
  go_enter Tryz.func185, Tryz.ntmps185
  go_wp2
  go_ret
  refine ⟨ret_val ?_, rfl⟩
  rw [← H.out]
  rfl

def anyHeld (f : Nat → Nat → Bool) (k : Nat) : Bool := (List.range 6).any fun i => f i k
theorem anyHeld_yes {f : Nat → Nat → Bool} {k i : Nat} (hi : i < 6) (h : f i k = true) : anyHeld f k = true := by
  simp only [anyHeld, List.any_eq_true, List.mem_range]; exact ⟨i, hi, h⟩
theorem anyHeld_no {f : Nat → Nat → Bool} {k : Nat} (h : ∀ i, i < 6 → f i k = false) : anyHeld f k = false := by
  rw [← Bool.not_eq_true]; simp only [anyHeld, List.any_eq_true, List.mem_range]
  rintro ⟨i, hi, h'⟩
  rw [h i hi] at h'; cases h'

set_option maxHeartbeats 400000 in
theorem isHeld_any (B : Nat) (t : TypeId) (b o : Nat → Bool) (f : Nat → Nat → Bool) (w : World) (hb : Box w B (st18 b o f) t) (k : Nat) (hk : k < 5) :
    Calls Tryz.prog 184 #[.pointer (some ⟨B, 0, none⟩), .int .i64 k] w fun e w' => e = .returned (.bool (anyHeld f k)) ∧ w = w' := by
  go_enter Tryz.func184, Tryz.ntmps184
  go_wp2
  go_loop [6] (fun i => ∃ n : Nat, n ≤ 6 ∧ i = .int .i64 n ∧ UpTo (fun j => f j k = false) n) (fun i => 6 - (intOf i).toNat)
  case atStart => exact ⟨0, by omega, rfl, UpTo.zero⟩
  case round =>
    obtain ⟨n, hn, rfl, hu⟩ := hrel
    have HU := Lib.hid hu
    clear hu
    by_cases hlt : n < 6
    · cases hf : f n k
      · go_wp2_with (go_at_call 185; refine (has_any B t b o f _ hb n k hlt hk).mono ?_; rintro e w' ⟨rfl, rfl⟩)
        go_round
        case rel => exact ⟨n + 1, by omega, by go_num, HU.out.succ hf⟩
        case measure => simp [intOf]; omega
      · have HF := Lib.hid (anyHeld_yes hlt hf)
        go_wp2_with (go_at_call 185; refine (has_any B t b o f _ hb n k hlt hk).mono ?_; rintro e w' ⟨rfl, rfl⟩)
        go_ret
        exact ⟨by rw [HF.out]; rfl, rfl⟩
    · go_wp2
      go_ret
      exact ⟨by rw [anyHeld_no fun i hi => HU.out i (by omega)]; rfl, rfl⟩

def refuse (b o : Nat → Bool) (f : Nat → Nat → Bool) (e : Ev) : Int :=
  if isEv e = false then 1 else if b e.t.toNat = false ∨ o e.t.toNat = true then 11
  else if e.k = 3 then (if anyHeld f e.o.toNat = true then 9 else 0)
  else if e.k = 4 then (if f e.t.toNat e.o.toNat = true then 0 else 10)
  else if e.k = 5 then (if b e.o.toNat = true then 8 else 0)
  else if e.k = 6 then (if b e.o.toNat = false ∨ e.o = e.t then 7 else 0) else 0

set_option maxHeartbeats 1000000 in
theorem refusal_bad (B : Nat) (b o : Nat → Bool) (f : Nat → Nat → Bool) (e : Ev) (w : World) (he : isEv e = false) :
    Calls Tryz.prog 161 #[.pointer (some ⟨B, 0, none⟩), .agg (evv e)] w fun e' w' => e' = .returned (.int .i64 1) ∧ Below w.heap.size w w' := by
  obtain ⟨b1, hB, hs⟩ := boxes1 w (evv e) 45
  generalize hW : w.alloc (.cells (evv e) 45) = W at *
  have HB := Lib.hid hB
  clear hB hs
  have c0 := b1.cell 0 (v := .int .i64 e.k) rfl
  have c1 := b1.cell 1 (v := .int .i64 e.t) rfl
  have c2 := b1.cell 2 (v := .int .i64 e.o) rfl
  cases h1 : inB e.t 6
  · go_enter Tryz.func161, Tryz.ntmps161
    go_wp2
    go_quiet ((first | (go_at_call 179; exact Calls.quiet_of_same ((isBelow_any _ _ _).mono fun e w' h => ⟨h.1, h.2.symm⟩)) | (go_at_call 183; exact Calls.quiet_of_same ((objects_any _ _).mono fun e w' h => ⟨h.1, h.2.symm⟩))))
    go_wp2
    go_ret
    exact ⟨rfl, bdrewN HB.out _⟩
  · have h2 : inB e.o (nobj e.k) = false := by simpa [isEv, h1] using he
    go_enter Tryz.func161, Tryz.ntmps161
    go_wp2
    go_quiet ((first | (go_at_call 179; exact Calls.quiet_of_same ((isBelow_any _ _ _).mono fun e w' h => ⟨h.1, h.2.symm⟩)) | (go_at_call 183; exact Calls.quiet_of_same ((objects_any _ _).mono fun e w' h => ⟨h.1, h.2.symm⟩))))
    go_wp2
    go_ret
    exact ⟨rfl, bdrewN HB.out _⟩

set_option maxHeartbeats 4000000 in
theorem refusal_ok (B : Nat) (b o : Nat → Bool) (f : Nat → Nat → Bool) (k : Int) (i j : Nat) (hi : i < 6) (hj : (j : Int) < nobj k) (w : World) (hb : Box w B (st18 b o f) 181) :
    Calls Tryz.prog 161 #[.pointer (some ⟨B, 0, none⟩), .agg (evv ⟨k, i, j⟩)] w fun e' w' => e' = .returned (.int .i64 (refuse b o f ⟨k, i, j⟩)) ∧ Below w.heap.size w w' := by
  have h1 : inB (i : Int) 6 = true := inB_yes (by omega) (by omega)
  have h2 : inB (j : Int) (nobj k) = true := inB_yes (by omega) hj
  have hev : isEv ⟨k, i, j⟩ = true := by simp [isEv, h1, h2]
  have R : refuse b o f ⟨k, i, j⟩ = (if b i = false ∨ o i = true then 11
      else if k = 3 then (if anyHeld f j = true then 9 else 0)
      else if k = 4 then (if f i j = true then 0 else 10)
      else if k = 5 then (if b j = true then 8 else 0)
      else if k = 6 then (if b j = false ∨ (j : Int) = i then 7 else 0) else 0) := by
    simp only [refuse, hev, Int.toNat_natCast]; rfl
  have b0 := hb.old (.cells (evv ⟨k, i, j⟩) 45)
  obtain ⟨b1, hB, hs⟩ := boxes1 w (evv ⟨k, i, j⟩) 45
  have HR := Lib.hid R
  generalize hW : w.alloc (.cells (evv ⟨k, i, j⟩) 45) = W at *
  have HB := Lib.hid hB
  clear hB hs hev R
  have c0 := b1.cell 0 (v := .int .i64 k) rfl
  have c1 := b1.cell 1 (v := .int .i64 i) rfl
  have c2 := b1.cell 2 (v := .int .i64 j) rfl
  have c3 := b0.cell i (st18_b b o f i hi)
  have c4 := b0.cell _ (st18_o b o f i hi)
  have HBx := Lib.hid b0
  clear hb b0 b1
  have hi' : (i : Int) < 6 := by omega
  cases hbi : b i
  · go_enter Tryz.func161, Tryz.ntmps161
    go_wp2
    go_quiet ((first | (go_at_call 179; exact Calls.quiet_of_same ((isBelow_any _ _ _).mono fun e w' h => ⟨h.1, h.2.symm⟩)) | (go_at_call 183; exact Calls.quiet_of_same ((objects_any _ _).mono fun e w' h => ⟨h.1, h.2.symm⟩))))
    go_wp2
    go_quiet (fail)
    go_wp2
    go_ret
    exact ⟨ret_val (by rw [HR.out]; simp [*]), by (repeat (first | exact HB.out | with_reducible exact Below.refl _ _ | with_reducible refine Below.alloc ?_ (by first | omega | (simp; omega) | (simp; done)) _ | with_reducible refine below_setRow' ?_ _ _ (by omega) | with_reducible refine Below.setCell ?_ (by first | omega | (dsimp only; omega) | (simp; omega) | (simp; done)) _ | with_reducible refine Below.drew ?_ | with_reducible refine bdrewN ?_ _))⟩
  cases hoi : o i
  case true =>
    go_enter Tryz.func161, Tryz.ntmps161
    go_wp2
    go_quiet ((first | (go_at_call 179; exact Calls.quiet_of_same ((isBelow_any _ _ _).mono fun e w' h => ⟨h.1, h.2.symm⟩)) | (go_at_call 183; exact Calls.quiet_of_same ((objects_any _ _).mono fun e w' h => ⟨h.1, h.2.symm⟩))))
    go_wp2
    go_quiet (fail)
    go_wp2
    go_ret
    exact ⟨ret_val (by rw [HR.out]; simp [*]), by (repeat (first | exact HB.out | with_reducible exact Below.refl _ _ | with_reducible refine Below.alloc ?_ (by first | omega | (simp; omega) | (simp; done)) _ | with_reducible refine below_setRow' ?_ _ _ (by omega) | with_reducible refine Below.setCell ?_ (by first | omega | (dsimp only; omega) | (simp; omega) | (simp; done)) _ | with_reducible refine Below.drew ?_ | with_reducible refine bdrewN ?_ _))⟩
  rcases kinds k with rfl | rfl | rfl | rfl | rfl | rfl | rfl | rfl | hk
  case inr.inr.inr.inr.inr.inr.inr.inr => exact absurd hj (by rw [nobj_else hk]; omega)
  case inr.inr.inl =>
    have hj5 : j < 5 := by have : (j : Int) < 5 := hj; omega
    cases ha : anyHeld f j
    all_goals
      go_enter Tryz.func161, Tryz.ntmps161
      go_wp2
      go_quiet ((first | (go_at_call 179; exact Calls.quiet_of_same ((isBelow_any _ _ _).mono fun e w' h => ⟨h.1, h.2.symm⟩)) | (go_at_call 183; exact Calls.quiet_of_same ((objects_any _ _).mono fun e w' h => ⟨h.1, h.2.symm⟩))))
      go_wp2
      go_quiet (fail)
      go_wp2_with (first | (go_at_call 184; (with_reducible refine (isHeld_any B 181 b o f _ (HBx.out.drewN _) j hj5).mono ?_); rintro e w' ⟨rfl, rfl⟩))
      go_ret
      exact ⟨ret_val (by rw [HR.out]; simp [*]), by (repeat (first | exact HB.out | with_reducible exact Below.refl _ _ | with_reducible refine Below.alloc ?_ (by first | omega | (simp; omega) | (simp; done)) _ | with_reducible refine below_setRow' ?_ _ _ (by omega) | with_reducible refine Below.setCell ?_ (by first | omega | (dsimp only; omega) | (simp; omega) | (simp; done)) _ | with_reducible refine Below.drew ?_ | with_reducible refine bdrewN ?_ _))⟩
  case inr.inr.inr.inl =>
    have hj5 : j < 5 := by have : (j : Int) < 5 := hj; omega
    cases ha : f i j
    all_goals
      go_enter Tryz.func161, Tryz.ntmps161
      go_wp2
      go_quiet ((first | (go_at_call 179; exact Calls.quiet_of_same ((isBelow_any _ _ _).mono fun e w' h => ⟨h.1, h.2.symm⟩)) | (go_at_call 183; exact Calls.quiet_of_same ((objects_any _ _).mono fun e w' h => ⟨h.1, h.2.symm⟩))))
      go_wp2
      go_quiet (fail)
      go_wp2_with (first | (go_at_call 185; (with_reducible refine (has_any B 181 b o f _ (HBx.out.drewN _) i j hi hj5).mono ?_); rintro e w' ⟨rfl, rfl⟩))
      go_ret
      exact ⟨ret_val (by rw [HR.out]; simp [*]), by (repeat (first | exact HB.out | with_reducible exact Below.refl _ _ | with_reducible refine Below.alloc ?_ (by first | omega | (simp; omega) | (simp; done)) _ | with_reducible refine below_setRow' ?_ _ _ (by omega) | with_reducible refine Below.setCell ?_ (by first | omega | (dsimp only; omega) | (simp; omega) | (simp; done)) _ | with_reducible refine Below.drew ?_ | with_reducible refine bdrewN ?_ _))⟩
  case inr.inr.inr.inr.inl =>
    have hj6 : j < 6 := by have : (j : Int) < 6 := hj; omega
    have hj' : (j : Int) < 6 := by omega
    have c5 := HBx.out.cell j (st18_b b o f j hj6)
    cases ha : b j
    all_goals
      go_enter Tryz.func161, Tryz.ntmps161
      go_wp2
      go_quiet ((first | (go_at_call 179; exact Calls.quiet_of_same ((isBelow_any _ _ _).mono fun e w' h => ⟨h.1, h.2.symm⟩)) | (go_at_call 183; exact Calls.quiet_of_same ((objects_any _ _).mono fun e w' h => ⟨h.1, h.2.symm⟩))))
      go_wp2
      go_quiet (fail)
      go_wp2
      go_quiet (fail)
      go_wp2
      go_ret
      exact ⟨ret_val (by rw [HR.out]; simp [*]), by (repeat (first | exact HB.out | with_reducible exact Below.refl _ _ | with_reducible refine Below.alloc ?_ (by first | omega | (simp; omega) | (simp; done)) _ | with_reducible refine below_setRow' ?_ _ _ (by omega) | with_reducible refine Below.setCell ?_ (by first | omega | (dsimp only; omega) | (simp; omega) | (simp; done)) _ | with_reducible refine Below.drew ?_ | with_reducible refine bdrewN ?_ _))⟩
  case inr.inr.inr.inr.inr.inl =>
    have hj6 : j < 6 := by have : (j : Int) < 6 := hj; omega
    have hj' : (j : Int) < 6 := by omega
    have c5 := HBx.out.cell j (st18_b b o f j hj6)
    cases ha : b j
    · go_enter Tryz.func161, Tryz.ntmps161
      go_wp2
      go_quiet ((first | (go_at_call 179; exact Calls.quiet_of_same ((isBelow_any _ _ _).mono fun e w' h => ⟨h.1, h.2.symm⟩)) | (go_at_call 183; exact Calls.quiet_of_same ((objects_any _ _).mono fun e w' h => ⟨h.1, h.2.symm⟩))))
      go_wp2
      go_quiet (fail)
      go_wp2
      go_quiet (fail)
      go_wp2
      go_ret
      exact ⟨ret_val (by rw [HR.out]; simp [*]), by (repeat (first | exact HB.out | with_reducible exact Below.refl _ _ | with_reducible refine Below.alloc ?_ (by first | omega | (simp; omega) | (simp; done)) _ | with_reducible refine below_setRow' ?_ _ _ (by omega) | with_reducible refine Below.setCell ?_ (by first | omega | (dsimp only; omega) | (simp; omega) | (simp; done)) _ | with_reducible refine Below.drew ?_ | with_reducible refine bdrewN ?_ _))⟩
    by_cases he : (j : Int) = i
    · have he' : ((j : Int) == (i : Int)) = true := by simpa using he
      have HE := Lib.hid he
      clear he
      go_enter Tryz.func161, Tryz.ntmps161
      go_wp2
      go_quiet ((first | (go_at_call 179; exact Calls.quiet_of_same ((isBelow_any _ _ _).mono fun e w' h => ⟨h.1, h.2.symm⟩)) | (go_at_call 183; exact Calls.quiet_of_same ((objects_any _ _).mono fun e w' h => ⟨h.1, h.2.symm⟩))))
      go_wp2
      go_quiet (fail)
      go_wp2
      go_quiet (fail)
      go_wp2
      go_ret
      exact ⟨ret_val (by rw [HR.out]; have := HE.out; simp [*]), by (repeat (first | exact HB.out | with_reducible exact Below.refl _ _ | with_reducible refine Below.alloc ?_ (by first | omega | (simp; omega) | (simp; done)) _ | with_reducible refine below_setRow' ?_ _ _ (by omega) | with_reducible refine Below.setCell ?_ (by first | omega | (dsimp only; omega) | (simp; omega) | (simp; done)) _ | with_reducible refine Below.drew ?_ | with_reducible refine bdrewN ?_ _))⟩
    · have he' : ((j : Int) == (i : Int)) = false := by simpa using he
      have HE := Lib.hid he
      clear he
      go_enter Tryz.func161, Tryz.ntmps161
      go_wp2
      go_quiet ((first | (go_at_call 179; exact Calls.quiet_of_same ((isBelow_any _ _ _).mono fun e w' h => ⟨h.1, h.2.symm⟩)) | (go_at_call 183; exact Calls.quiet_of_same ((objects_any _ _).mono fun e w' h => ⟨h.1, h.2.symm⟩))))
      go_wp2
      go_quiet (fail)
      go_wp2
      go_quiet (fail)
      go_wp2
      go_ret
      exact ⟨ret_val (by rw [HR.out]; have := HE.out; simp [*]), by (repeat (first | exact HB.out | with_reducible exact Below.refl _ _ | with_reducible refine Below.alloc ?_ (by first | omega | (simp; omega) | (simp; done)) _ | with_reducible refine below_setRow' ?_ _ _ (by omega) | with_reducible refine Below.setCell ?_ (by first | omega | (dsimp only; omega) | (simp; omega) | (simp; done)) _ | with_reducible refine Below.drew ?_ | with_reducible refine bdrewN ?_ _))⟩
  all_goals
    go_enter Tryz.func161, Tryz.ntmps161
    go_wp2
    go_quiet ((first | (go_at_call 179; exact Calls.quiet_of_same ((isBelow_any _ _ _).mono fun e w' h => ⟨h.1, h.2.symm⟩)) | (go_at_call 183; exact Calls.quiet_of_same ((objects_any _ _).mono fun e w' h => ⟨h.1, h.2.symm⟩))))
    go_wp2
    go_quiet (fail)
    go_wp2
    go_ret
    exact ⟨ret_val (by rw [HR.out]; simp [*]), by (repeat (first | exact HB.out | with_reducible exact Below.refl _ _ | with_reducible refine Below.alloc ?_ (by first | omega | (simp; omega) | (simp; done)) _ | with_reducible refine below_setRow' ?_ _ _ (by omega) | with_reducible refine Below.setCell ?_ (by first | omega | (dsimp only; omega) | (simp; omega) | (simp; done)) _ | with_reducible refine Below.drew ?_ | with_reducible refine bdrewN ?_ _))⟩

end Go.Proofs.YtnklpifnknmdgaaGreatDoor
namespace Go.Proofs.YtnklpifnknmdgaaGreatDoor
open Go.RowKit

def applied (b o : Nat → Bool) (f : Nat → Nat → Bool) (e : Ev) : Array Value :=
  if e.k = 3 then st18 b o (updF f e.t.toNat e.o.toNat true) else if e.k = 4 then st18 b o (updF f e.t.toNat e.o.toNat false)
  else if e.k = 5 then st18 (updB b e.o.toNat true) o f else if e.k = 6 then st18 b (updB o e.o.toNat true) f else st18 b o f
def Turned (w : World) (B : Nat) (c : Array Value) (t : TypeId) (w' : World) : Prop := Box w' B c t ∧ w.grownBy w' (some B)

theorem turned_set {w W : World} {B : Nat} {c : Array Value} {t : TypeId} (hg : w.grownBy W (some B)) (hb : Box W B c t) (k : Nat) (v : Value) (c' : Array Value) (hc : c.setIfInBounds k v = c') : Turned w B c' t (W.setCell ⟨B, k, none⟩ v) := by
  refine ⟨hc ▸ hb.set k v, hg.os, hg.tape, hg.output, by simpa [World.setCell] using hg.size, fun i hi hne => (Below.heap_setCell W ⟨B, k, none⟩ v i (by rintro rfl; exact hne rfl)).trans (hg.block i hi hne)⟩
theorem Turned.drew {w W : World} {B : Nat} {c : Array Value} {t : TypeId} (h : Turned w B c t W) : Turned w B c t W.drew := ⟨h.1, h.2.os, h.2.tape, h.2.output, h.2.size, h.2.block⟩
theorem wrap_pow (j : Nat) (hj : j < 5) : wrap64 (2 ^ j) = 2 ^ j := by
  have D : ∀ j : Fin 5, wrap64 (2 ^ j.val) = 2 ^ j.val := by decide +kernel
  exact D ⟨j, hj⟩
theorem set_or (b o : Nat → Bool) (f : Nat → Nat → Bool) (i j : Nat) (hi : i < 6) (hj : j < 5) :
    (st18 b o f).setIfInBounds (12 + i) (.int .i64 (bits .or .i64 (hset (f i)) (wrap64 (2 ^ j)))) = st18 b o (updF f i j true) := by
  rw [wrap_pow j hj, or_bit (f i) j hj, hset_congr (f := updB (f i) j true) (g := updF f i j true i) (fun k _ => by simp [updB, updF])]
  exact st18_seth b o f _ i hi fun i' _ hne k _ => by simp [updF, hne]
theorem set_andNot (b o : Nat → Bool) (f : Nat → Nat → Bool) (i j : Nat) (hi : i < 6) (hj : j < 5) :
    (st18 b o f).setIfInBounds (12 + i) (.int .i64 (bits .andNot .i64 (hset (f i)) (wrap64 (2 ^ j)))) = st18 b o (updF f i j false) := by
  rw [wrap_pow j hj, andNot_bit (f i) j hj, hset_congr (f := updB (f i) j false) (g := updF f i j false i) (fun k _ => by simp [updB, updF])]
  exact st18_seth b o f _ i hi fun i' _ hne k _ => by simp [updF, hne]

set_option maxHeartbeats 4000000 in
theorem apply_any (B : Nat) (b o : Nat → Bool) (f : Nat → Nat → Bool) (k : Int) (i j : Nat) (hi : i < 6) (hj : (j : Int) < nobj k) (w : World) (hb : Box w B (st18 b o f) 181) :
    Calls Tryz.prog 162 #[.pointer (some ⟨B, 0, none⟩), .agg (evv ⟨k, i, j⟩)] w fun e' w' => e' = .returned (.tuple #[]) ∧ Turned w B (applied b o f ⟨k, i, j⟩) 181 w' := by
  have b0 := hb.old (.cells (evv ⟨k, i, j⟩) 45)
  obtain ⟨b1, hB, hs⟩ := boxes1 w (evv ⟨k, i, j⟩) 45
  have HG := Lib.hid (show w.grownBy (w.alloc (.cells (evv ⟨k, i, j⟩) 45)) (some B) from ⟨hB.os, hB.tape, hB.output, hB.size, fun b hb _ => hB.block b hb⟩)
  generalize hW : w.alloc (.cells (evv ⟨k, i, j⟩) 45) = W at *
  clear hB hs
  have c0 := b1.cell 0 (v := .int .i64 k) rfl
  have c1 := b1.cell 1 (v := .int .i64 i) rfl
  have c2 := b1.cell 2 (v := .int .i64 j) rfl
  have c3 := b0.cell _ (st18_h b o f i hi)
  have f3 := b0.frozen (12 + i)
  have HBx := Lib.hid b0
  clear hb b0 b1
  have hi' : (i : Int) < 6 := by omega
  rcases kinds k with rfl | rfl | rfl | rfl | rfl | rfl | rfl | rfl | hk
  case inr.inr.inr.inr.inr.inr.inr.inr => exact absurd hj (by rw [nobj_else hk]; omega)
  case inr.inr.inl =>
    have hj5 : j < 5 := by have : (j : Int) < 5 := hj; omega
    go_enter Tryz.func162, Tryz.ntmps162
    go_wp2
    go_still_tail 14, (by kernel_rfl)
    change wpList _ _ _ _ _ W.drew
    go_wp2
    go_end0
    exact ⟨rfl, (turned_set HG.out HBx.out _ _ _ (set_or b o f i j hi hj5)).drew⟩
  case inr.inr.inr.inl =>
    have hj5 : j < 5 := by have : (j : Int) < 5 := hj; omega
    go_enter Tryz.func162, Tryz.ntmps162
    go_wp2
    go_still_tail 14, (by kernel_rfl)
    change wpList _ _ _ _ _ W.drew
    go_wp2
    go_end0
    exact ⟨rfl, (turned_set HG.out HBx.out _ _ _ (set_andNot b o f i j hi hj5)).drew⟩
  case inr.inr.inr.inr.inl =>
    have hj6 : j < 6 := by have : (j : Int) < 6 := hj; omega
    have hj' : (j : Int) < 6 := by omega
    have c5 := HBx.out.cell j (st18_b b o f j hj6)
    have f5 := HBx.out.frozen j
    go_enter Tryz.func162, Tryz.ntmps162
    go_wp2
    go_still_tail 6, (by kernel_rfl)
    change wpList _ _ _ _ _ W.drew
    go_wp2
    go_end0
    exact ⟨rfl, (turned_set HG.out HBx.out _ _ _ (st18_setb b o f j hj6 true)).drew⟩
  case inr.inr.inr.inr.inr.inl =>
    have hj6 : j < 6 := by have : (j : Int) < 6 := hj; omega
    have hj' : (j : Int) < 6 := by omega
    have c5 := HBx.out.cell _ (st18_o b o f j hj6)
    have f5 := HBx.out.frozen (6 + j)
    go_enter Tryz.func162, Tryz.ntmps162
    go_wp2
    go_still_tail 6, (by kernel_rfl)
    change wpList _ _ _ _ _ W.drew
    go_wp2
    go_end0
    exact ⟨rfl, (turned_set HG.out HBx.out _ _ _ (st18_seto b o f j hj6 true)).drew⟩
  all_goals
    go_enter Tryz.func162, Tryz.ntmps162
    go_wp2
    go_end0
    exact ⟨rfl, HBx.out, HG.out⟩

def stv (p : List Ev) : Array Value := st18 (fun t => begun p t) (fun t => did p 6 t) (fun t k => decide (owner p k = t))
def z18 : Array Value := st18 (fun _ => false) (fun _ => false) (fun _ _ => false)
theorem anyHeld_owner {p : List Ev} (hf : Fit p) (k : Nat) : anyHeld (fun t k => decide (owner p k = t)) k = decide (0 ≤ owner p k) := by
  obtain ⟨h1, h2⟩ := owner_range hf k
  by_cases h : 0 ≤ owner p k
  · obtain ⟨i, hi⟩ := Int.eq_ofNat_of_zero_le h
    rw [anyHeld_yes (i := i) (by omega) (by simpa using hi)]
    simp [h]
  · rw [anyHeld_no fun i _ => by simp; omega]
    simp [h]
theorem refuse_wrong {p : List Ev} (hf : Fit p) (k : Int) (i j : Nat) (h : isEv ⟨k, i, j⟩ = true) :
    refuse (fun t => begun p t) (fun t => did p 6 t) (fun t k => decide (owner p k = t)) ⟨k, i, j⟩ = wrong p ⟨k, i, j⟩ := by
  unfold refuse wrong
  simp only [h, Int.toNat_natCast, anyHeld_owner hf, decide_eq_true_eq]
theorem wrong_bad {p : List Ev} {e : Ev} (h : isEv e = false) : wrong p e = 1 := by unfold wrong; rw [if_pos h]
theorem ev_nat {e : Ev} (h : isEv e = true) : ∃ (i j : Nat), e = ⟨e.k, i, j⟩ ∧ i < 6 ∧ (j : Int) < nobj e.k := by
  obtain ⟨h1, h2⟩ := isEv_t h
  obtain ⟨h3, h4⟩ := isEv_o h
  obtain ⟨i, hi⟩ := Int.eq_ofNat_of_zero_le h1
  obtain ⟨j, hj⟩ := Int.eq_ofNat_of_zero_le h3
  exact ⟨i, j, Ev.ext' rfl hi hj, by omega, by omega⟩
theorem refusal_any (B : Nat) (p : List Ev) (hf : Fit p) (e : Ev) (w : World) (hb : Box w B (stv p) 181) :
    Calls Tryz.prog 161 #[.pointer (some ⟨B, 0, none⟩), .agg (evv e)] w fun e' w' => e' = .returned (.int .i64 (wrong p e)) ∧ Below w.heap.size w w' := by
  cases h : isEv e
  · rw [wrong_bad h]; exact refusal_bad B (fun _ => false) (fun _ => false) (fun _ _ => false) e w h
  · obtain ⟨i, j, he, hi, hj⟩ := ev_nat h
    rw [he] at h ⊢
    rw [← refuse_wrong hf e.k i j h]
    exact refusal_ok B _ _ _ e.k i j hi hj w hb
theorem applied_stv {p : List Ev} (k : Int) (i j : Nat) (hi : i < 6) (hj : (j : Int) < nobj k) (h : wrong p ⟨k, i, j⟩ = 0) :
    applied (fun t => begun p t) (fun t => did p 6 t) (fun t k => decide (owner p k = t)) ⟨k, i, j⟩ = stv (p ++ [⟨k, i, j⟩]) := by
  have hev := wrong_isEv h
  unfold wrong at h
  simp only [hev, Bool.true_eq_false, if_false] at h
  split at h
  · cases h
  have e1 : ∀ t : Nat, begun (p ++ [⟨k, i, j⟩]) t = (begun p t || decide (k = 5 ∧ (j : Int) = t)) := fun t => begun_snoc ..
  have e2 : ∀ t : Nat, did (p ++ [⟨k, i, j⟩]) 6 t = (did p 6 t || decide (k = 6 ∧ (j : Int) = t)) := fun t => did_snoc ..
  have e3 : ∀ q : Int, owner (p ++ [⟨k, i, j⟩]) q = ownB (owner p q) ⟨k, i, j⟩ q := fun q => owner_snoc ..
  unfold applied stv
  by_cases h3 : k = 3
  · subst h3
    simp only [if_true, Int.toNat_natCast] at h ⊢
    have ho : ¬ 0 ≤ owner p j := fun hh => by rw [if_pos hh] at h; cases h
    refine st18_congr (fun t _ => by rw [e1]; simp) (fun t _ => by rw [e2]; simp) (fun t _ q _ => ?_)
    rw [e3]
    simp only [updF, ownB]
    by_cases hq : q = j
    · subst hq
      by_cases ht : t = i
      · subst ht; simp
      · have : ¬ (i : Int) = t := by omega
        have : ¬ owner p q = t := by omega
        simp [*]
    · have : ¬ (j : Int) = q := by omega
      simp [*]
  by_cases h4 : k = 4
  · subst h4
    simp only [h3, if_true, if_false, Int.toNat_natCast] at h ⊢
    have ho : owner p j = i := by
      by_cases hh : owner p j = i
      · exact hh
      · rw [if_neg hh] at h; cases h
    refine st18_congr (fun t _ => by rw [e1]; simp) (fun t _ => by rw [e2]; simp) (fun t _ q _ => ?_)
    rw [e3]
    simp only [updF, ownB]
    by_cases hq : q = j
    · subst hq
      by_cases ht : t = i
      · subst ht; simp
      · have h1 : ¬ owner p q = t := by omega
        have h2 : ¬ (-1 : Int) = t := by omega
        simp [h1, h2, ht]
    · have : ¬ (j : Int) = q := by omega
      simp [*]
  have e3' : ∀ q : Int, owner (p ++ [⟨k, i, j⟩]) q = owner p q := fun q => by rw [e3]; simp [ownB, h3, h4]
  by_cases h5 : k = 5
  · subst h5
    simp only [h3, h4, if_true, if_false, Int.toNat_natCast] at h ⊢
    refine st18_congr (fun t _ => ?_) (fun t _ => by rw [e2]; simp) (fun t _ q _ => by rw [e3'])
    rw [e1]
    simp only [updB]
    by_cases ht : t = j
    · subst ht; simp
    · have : ¬ (j : Int) = t := by omega
      simp [*]
  by_cases h6 : k = 6
  · subst h6
    simp only [h3, h4, h5, if_true, if_false, Int.toNat_natCast] at h ⊢
    refine st18_congr (fun t _ => by rw [e1]; simp) (fun t _ => ?_) (fun t _ q _ => by rw [e3'])
    rw [e2]
    simp only [updB]
    by_cases ht : t = j
    · subst ht; simp
    · have : ¬ (j : Int) = t := by omega
      simp [*]
  · simp only [h3, h4, h5, h6, if_false]
    exact st18_congr (fun t _ => by rw [e1]; simp [h5]) (fun t _ => by rw [e2]; simp [h6]) (fun t _ q _ => by rw [e3'])
theorem apply_stv (B : Nat) (p : List Ev) (e : Ev) (h : wrong p e = 0) (w : World) (hb : Box w B (stv p) 181) :
    Calls Tryz.prog 162 #[.pointer (some ⟨B, 0, none⟩), .agg (evv e)] w fun e' w' => e' = .returned (.tuple #[]) ∧ Turned w B (stv (p ++ [e])) 181 w' := by
  obtain ⟨i, j, he, hi, hj⟩ := ev_nat (wrong_isEv h)
  rw [he] at h ⊢
  rw [← applied_stv e.k i j hi hj h]
  exact apply_any B _ _ _ e.k i j hi hj w hb
end Go.Proofs.YtnklpifnknmdgaaGreatDoor
namespace Go.Proofs.YtnklpifnknmdgaaGreatDoor
open Go.RowKit

def Sl (w : World) (A : Option Addr) (n : Nat) (l : List Ev) : Prop :=
  l.length = n ∧ (0 < n → ∃ b off, A = some ⟨b, off, none⟩ ∧ b < w.heap.size ∧ w.rangeAt b off (evc l))
theorem Sl.below {N : Nat} {w w' : World} {A : Option Addr} {n : Nat} {l : List Ev} (h : Sl w A n l) (hb : Below N w w') (hN : w.heap.size ≤ N) : Sl w' A n l :=
  ⟨h.1, fun hn => by
    obtain ⟨b, off, hA, hlt, hr⟩ := h.2 hn
    exact ⟨b, off, hA, Nat.lt_of_lt_of_le hlt hb.size, rangeAt_below hb (by omega) hr⟩⟩
theorem range_part {w : World} {b off : Nat} {xs ys : List Value} {k : Nat} (h : w.rangeAt b off xs) (hy : ∀ j v, ys[j]? = some v → xs[k + j]? = some v) : w.rangeAt b (off + k) ys := fun j v hv => by
  have := h (k + j) v (hy j v hv)
  rwa [← Nat.add_assoc] at this
theorem evl_at {l : List Ev} {i : Nat} {e : Ev} (h : l[i]? = some e) (j : Nat) (v : Value) (hv : (evl e)[j]? = some v) : (evc l)[i * 3 + j]? = some v := by
  obtain ⟨h0, h1, h2⟩ := evc_get l i e h
  match j, hv with
  | 0, hv => simp [evl] at hv; subst hv; simpa using h0
  | 1, hv => simp [evl] at hv; subst hv; exact h1
  | 2, hv => simp [evl] at hv; subst hv; exact h2
  | j + 3, hv => simp [evl] at hv
theorem Sl.at_ {w : World} {A : Option Addr} {n : Nat} {l : List Ev} (h : Sl w A n l) {i : Nat} (hi : i < n) :
    ∃ b off e, A = some ⟨b, off, none⟩ ∧ b < w.heap.size ∧ l[i]? = some e ∧ w.rangeAt b (off + i * 3) (evl e) := by
  obtain ⟨b, off, hA, hlt, hr⟩ := h.2 (by omega)
  have hl : i < l.length := by rw [h.1]; exact hi
  exact ⟨b, off, l[i], hA, hlt, List.getElem?_eq_getElem hl, range_part hr fun j v hv => evl_at (List.getElem?_eq_getElem hl) j v hv⟩
theorem res_ctt {P : Program} {w : World} {fn : Func} {p u v : Tmp} {ty : TypeId} (h : fn.results = #[.cell p ty, .tmp u, .tmp v]) {tmps : Array Value} {B : Nat} {c : Array Value} {t : TypeId} (hp : tmps.getD p undef = .pointer (some ⟨B, 0, none⟩)) (hb : Box w B c t) (hT : RowTy P ty c.size) :
    (results fn tmps).run P w = .ok (.tuple #[.agg c, tmps.getD u undef, tmps.getD v undef]) w := by
  obtain ⟨d, hu, hd, hi⟩ := hT
  have hp' : tmps[p]?.getD undef = .pointer (some ⟨B, 0, none⟩) := by rw [← Array.getD_eq_getD_getElem?]; exact hp
  simp [results, h, hp', asAddr, Sem.run_pure, Result.andThen_ok, run_loadVar_row w B t ty c (0, 0) d hb hu (by cases d <;> simp_all [TypeDesc.isRow]) hi, Sem.run_bind]
def fol (l : List Ev) : Array Value := if (check l).2 = 0 then stv l else z18
structure FRel (w : World) (l : List Ev) (i : Nat) (wr : World) : Prop where
  res : Box wr w.heap.size z18 181
  now : Box wr (w.heap.size + 1) (stv (l.take i)) 181
  below : Below w.heap.size w wr
  chk : chk [] l = chk (l.take i) (l.drop i)
  fit : Fit (l.take i)

set_option maxHeartbeats 4000000 in
theorem follow_any (A : Option Addr) (n c : Nat) (l : List Ev) (w : World) (hl : Sl w A n l) :
    Calls Tryz.prog 134 #[.slice A n c] w fun e w' => e = .returned (.tuple #[.agg (fol l), .int .i64 (check l).1, .int .i64 (check l).2]) ∧ Below w.heap.size w w' := by
  obtain ⟨b1, b2, hB, hs⟩ := boxes2 w #[.bool false, .bool false, .bool false, .bool false, .bool false, .bool false, .bool false, .bool false, .bool false, .bool false, .bool false, .bool false, .int .i64 0, .int .i64 0, .int .i64 0, .int .i64 0, .int .i64 0, .int .i64 0] #[.bool false, .bool false, .bool false, .bool false, .bool false, .bool false, .bool false, .bool false, .bool false, .bool false, .bool false, .bool false, .int .i64 0, .int .i64 0, .int .i64 0, .int .i64 0, .int .i64 0, .int .i64 0] 181 181
  obtain ⟨d1, hD, hsD⟩ := boxes1 w #[.bool false, .bool false, .bool false, .bool false, .bool false, .bool false, .bool false, .bool false, .bool false, .bool false, .bool false, .bool false, .int .i64 0, .int .i64 0, .int .i64 0, .int .i64 0, .int .i64 0, .int .i64 0] 181
  by_cases hn : 80 < n
  · have hc : check l = (0, 2) := by unfold check; rw [if_pos (by rw [hl.1]; exact hn)]
    have hf : fol l = z18 := by unfold fol; rw [hc]; rfl
    rw [hc, hf]
    have HD := Lib.hid hD
    clear hc hf b1 b2 hB hs hD hsD
    have hn' : (80 : Int) < n := by omega
    generalize hW : w.alloc (.cells #[.bool false, .bool false, .bool false, .bool false, .bool false, .bool false, .bool false, .bool false, .bool false, .bool false, .bool false, .bool false, .int .i64 0, .int .i64 0, .int .i64 0, .int .i64 0, .int .i64 0, .int .i64 0] 181) = W at *
    go_enter Tryz.func134, Tryz.ntmps134
    go_wp2_with (refine storeB _ _ _ rfl rfl rfl rfl d1 rfl T52 (st18_all (fun _ => false) (fun _ => false) (fun _ _ => false)) ?_)
    refine bodyPost_ret (res_ctt Tryz.results134 rfl (d1.setRow z18) T52) rfl ⟨rfl, ?_⟩
    (repeat (first | exact HD.out | with_reducible exact Below.refl _ _ | with_reducible refine Below.alloc ?_ (by first | omega | (simp; omega) | (simp; done)) _ | with_reducible refine below_setRow' ?_ _ _ (by omega) | with_reducible refine Below.setCell ?_ (by first | omega | (dsimp only; omega) | (simp; omega) | (simp; done)) _ | with_reducible refine Below.drew ?_ | with_reducible refine bdrewN ?_ _))
  · have hn80 : n ≤ 80 := by omega
    have hc : check l = chk [] l := by unfold check; rw [if_neg (by rw [hl.1]; omega)]
    have HC := Lib.hid hc
    generalize hW : ((w.alloc (.cells #[.bool false, .bool false, .bool false, .bool false, .bool false, .bool false, .bool false, .bool false, .bool false, .bool false, .bool false, .bool false, .int .i64 0, .int .i64 0, .int .i64 0, .int .i64 0, .int .i64 0, .int .i64 0] 181)).alloc (.cells #[.bool false, .bool false, .bool false, .bool false, .bool false, .bool false, .bool false, .bool false, .bool false, .bool false, .bool false, .bool false, .int .i64 0, .int .i64 0, .int .i64 0, .int .i64 0, .int .i64 0, .int .i64 0] 181)) = W at *
    have hnow : Box (W.setCell ⟨w.heap.size + 1, 0, none⟩ (.bool true)) (w.heap.size + 1) (stv (l.take 0)) 181 := b2.set 0 (.bool true)
    have hres : Box (W.setCell ⟨w.heap.size + 1, 0, none⟩ (.bool true)) w.heap.size z18 181 := b1.set_ne _ _ (by simp)
    have hbel : Below w.heap.size w (W.setCell ⟨w.heap.size + 1, 0, none⟩ (.bool true)) := hB.setCell (by simp) _
    have H0 := Lib.hid (FRel.mk hres hnow hbel (by simp) (by simpa using Fit.nil) : FRel w l 0 _)
    have n1 := b2.cell 0 (v := .bool false) rfl
    have g1 := b2.frozen 0
    clear hres hnow hbel hc b1 hB hs d1 hD hsD b2
    go_enter Tryz.func134, Tryz.ntmps134
    go_wp2
    go_loopw [17] (fun t wr => ∃ i : Nat, i ≤ n ∧ t = .int .i64 i ∧ FRel w l i wr) (fun t _ => n - (intOf t).toNat)
    case atStart => exact ⟨0, by omega, rfl, H0.out⟩
    case round =>
      obtain ⟨i, hi, rfl, hr⟩ := hrel
      by_cases hlt : i < n
      · obtain ⟨bb, off, e, rfl, hbb, he, hrg⟩ := hl.at_ hlt
        have hlt' : (i : Int) < n := by omega
        have hch := chk_step he
        have hR := Lib.hid (rangeAt_below hr.below hbb hrg)
        have HR := Lib.hid hr
        have HE := Lib.hid he
        have HL := Lib.hid hl
        have hu := Tryz.underlying45
        have HH := Lib.hid hch
        clear hr he hl hrg hch H0
        have bx := (Box.new wr #[.int .i64 0, .int .i64 0, .int .i64 0] 45)
        have bx' := bx.setRow (evv e)
        clear n1 g1
        have hnow : Box ((wr.alloc (.cells #[.int .i64 0, .int .i64 0, .int .i64 0] 45)).setRow wr.heap.size (evv e)) (w.heap.size + 1) (stv (l.take i)) 181 := (HR.out.now.old _).setRow_ne _ _ (by have := HR.out.now.lt; omega)
        have hres : Box ((wr.alloc (.cells #[.int .i64 0, .int .i64 0, .int .i64 0] 45)).setRow wr.heap.size (evv e)) w.heap.size z18 181 := (HR.out.res.old _).setRow_ne _ _ (by have := HR.out.res.lt; omega)
        have hbel : Below w.heap.size w ((wr.alloc (.cells #[.int .i64 0, .int .i64 0, .int .i64 0] 45)).setRow wr.heap.size (evv e)) := below_setRow' (HR.out.below.alloc HR.out.below.size _) _ _ HR.out.below.size
        have HB := Lib.hid hbel
        have HN := Lib.hid hnow
        have HS := Lib.hid hres
        clear hbel hnow hres
        cases hw : (wrong (l.take i) e != 0)
        · have h0 : wrong (l.take i) e = 0 := by simpa using hw
          have H0 := Lib.hid h0
          clear h0
          go_wp2_with (first | (refine wpList_load_mid rfl _ _ rfl bb (off + i * 3) rfl (evl e) _ hR.out Tryz.underlying45 rfl (by kernel_rfl) ?_) | (refine storeB _ _ _ rfl rfl rfl rfl bx rfl T36 (evv_all _) ?_) | (refine loadB _ _ rfl rfl rfl bx' T36 ?_))
          refine (refusal_any (w.heap.size + 1) (l.take i) HR.out.fit e _ HN.out).mono ?_
          rintro e' w2 ⟨rfl, hb2⟩
          have hx2 := bx'.below hb2 bx'.lt
          have HN2 := Lib.hid (HN.out.below hb2 HN.out.lt)
          have HS2 := Lib.hid (HS.out.below hb2 HS.out.lt)
          have HB2 := Lib.hid (HB.out.trans (hb2.mono HB.out.size))
          clear hb2
          go_wp2_with (refine loadB _ _ rfl rfl rfl hx2 T36 ?_)
          refine (apply_stv (w.heap.size + 1) (l.take i) e H0.out _ HN2.out).mono ?_
          rintro e' w3 ⟨rfl, ht⟩
          have HT := Lib.hid ht
          clear ht
          go_wp2
          go_roundw
          case rel =>
            have htk : l.take (i + 1) = l.take i ++ [e] := by
              have hi' := (List.getElem?_eq_some_iff.1 HE.out)
              rw [List.take_succ_eq_append_getElem hi'.1, hi'.2]
            refine ⟨i + 1, by omega, by go_num, ⟨(HT.out.2.block _ HS2.out.lt (by simp)).trans HS2.out, by rw [htk]; exact HT.out.1, HB2.out.grown HT.out.2 HB2.out.size (by simp), ?_, by rw [htk]; exact HR.out.fit.snoc (wrong_isEv H0.out)⟩⟩
            rw [HR.out.chk, HH.out, H0.out]
            simp
          case measure => simp [intOf]; omega
        · have hfin : check l = ((i : Int), wrong (l.take i) e) := by
            rw [HC.out, HR.out.chk, HH.out, if_pos (by simpa using hw)]
          have hfo : fol l = z18 := by
            unfold fol; rw [hfin, if_neg (by simpa using hw)]
          have HF := Lib.hid hfin
          have HO := Lib.hid hfo
          clear hfin hfo
          go_wp2_with (first | (refine wpList_load_mid rfl _ _ rfl bb (off + i * 3) rfl (evl e) _ hR.out Tryz.underlying45 rfl (by kernel_rfl) ?_) | (refine storeB _ _ _ rfl rfl rfl rfl bx rfl T36 (evv_all _) ?_) | (refine loadB _ _ rfl rfl rfl bx' T36 ?_))
          refine (refusal_any (w.heap.size + 1) (l.take i) HR.out.fit e _ HN.out).mono ?_
          rintro e' w2 ⟨rfl, hb2⟩
          have hs2 := HS.out.below hb2 HS.out.lt
          have HB2 := Lib.hid (HB.out.trans (hb2.mono HB.out.size))
          clear hb2
          go_wp2_with (refine storeB _ _ _ rfl rfl rfl rfl hs2 rfl T52 (st18_all (fun _ => false) (fun _ => false) (fun _ _ => false)) ?_)
          refine bodyPost_ret (res_ctt Tryz.results134 rfl (hs2.setRow z18) T52) rfl ⟨?_, ?_⟩
          · rw [HF.out, HO.out]; rfl
          · (repeat (first | exact HB2.out | with_reducible exact Below.refl _ _ | with_reducible refine Below.alloc ?_ (by first | omega | (simp; omega) | (simp; done)) _ | with_reducible refine below_setRow' ?_ _ _ (by omega) | with_reducible refine Below.setCell ?_ (by first | omega | (dsimp only; omega) | (simp; omega) | (simp; done)) _ | with_reducible refine Below.drew ?_ | with_reducible refine bdrewN ?_ _))
      · obtain rfl : i = n := by omega
        have hfin : check l = (0, 0) := by
          rw [HC.out, hr.chk, ← hl.1]; exact chk_end l
        have hfo : fol l = stv (l.take i) := by
          unfold fol; rw [hfin, if_pos rfl, ← hl.1, List.take_length]
        have HF := Lib.hid hfin
        have HO := Lib.hid hfo
        have h1 := hr.now
        have h2 := hr.res
        have HB2 := Lib.hid hr.below
        clear hfin hfo hr n1 g1 hl
        go_wp2_with (first | (refine loadB _ _ rfl rfl rfl h1 T52 ?_) | (refine storeB _ _ _ rfl rfl rfl rfl h2 rfl T52 (st18_all _ _ _) ?_))
        refine bodyPost_ret (res_ctt Tryz.results134 rfl (h2.setRow (stv (l.take i))) T52) rfl ⟨?_, ?_⟩
        · rw [HF.out, HO.out]; rfl
        · (repeat (first | exact HB2.out | with_reducible exact Below.refl _ _ | with_reducible refine Below.alloc ?_ (by first | omega | (simp; omega) | (simp; done)) _ | with_reducible refine below_setRow' ?_ _ _ (by omega) | with_reducible refine Below.setCell ?_ (by first | omega | (dsimp only; omega) | (simp; omega) | (simp; done)) _ | with_reducible refine Below.drew ?_ | with_reducible refine bdrewN ?_ _))
end Go.Proofs.YtnklpifnknmdgaaGreatDoor
namespace Go.Proofs.YtnklpifnknmdgaaGreatDoor
open Go.RowKit

section
variable {P : Program} {ops : Array Oper} {rest : List Oper} {o : Oper} {a : Act} {w : World} {Q : Exit → Act → World → Prop}
theorem storeT {ty : TypeId} {n : Nat} (hT : RowTy P ty n) (x y : Operand) (ho : o.op = .store ty x y) (hgd : o.guard = none) {c' : Array Value} (hy : a.eval y = .agg c') (hn : c'.size = n) {B : Nat} (hx : a.eval x = .pointer (some ⟨B, 0, none⟩))
    {c : Array Value} {t : TypeId} (hb : Box w B c t) (hs : c.size = n) (h1 : c'.all (·.oneCell') = true) (h : wpList P ops Q rest (a.put o.dst undef) (w.setRow B c')) : wpList P ops Q (o :: rest) a w :=
  storeB ty x y ho hgd hx hy hb (by rw [hs, hn]) (by rw [hn]; exact hT) h1 h
theorem loadT {ty : TypeId} {n : Nat} (hT : RowTy P ty n) (x : Operand) (ho : o.op = .load ty x) (hgd : o.guard = none) {B : Nat} (hx : a.eval x = .pointer (some ⟨B, 0, none⟩)) {c : Array Value} {t : TypeId} (hb : Box w B c t) (hs : c.size = n)
    (h : wpList P ops Q rest (a.put o.dst (.agg c)) w) : wpList P ops Q (o :: rest) a w :=
  loadB ty x ho hgd hx hb (by rw [hs]; exact hT) h
end
theorem fol_size (l : List Ev) : (fol l).size = 18 := by unfold fol; split <;> rfl
theorem fol_all (l : List Ev) : (fol l).all (·.oneCell') = true := by
  unfold fol; split
  · exact st18_all _ _ _
  · exact st18_all _ _ _

set_option maxHeartbeats 1000000 in
theorem check_any (A : Option Addr) (n c : Nat) (l : List Ev) (w : World) (hl : Sl w A n l) :
    Calls Tryz.prog 93 #[.slice A n c] w fun e w' => e = .returned (.tuple #[.int .i64 (check l).1, .int .i64 (check l).2]) ∧ Below w.heap.size w w' := by
  have HL := Lib.hid hl
  clear hl
  go_enter Tryz.func93, Tryz.ntmps93
  go_wp2_with fail
  refine (follow_any A n c l _ HL.out).mono ?_
  rintro e w1 ⟨rfl, hb⟩
  have HB := Lib.hid hb
  clear hb
  have bx := Lib.hid (Box.new w1 #[.bool false, .bool false, .bool false, .bool false, .bool false, .bool false, .bool false, .bool false, .bool false, .bool false, .bool false, .bool false, .int .i64 0, .int .i64 0, .int .i64 0, .int .i64 0, .int .i64 0, .int .i64 0] 181)
  have hz := fol_size l
  have HZ := Lib.hid hz
  clear hz
  go_wp2_with (refine storeT T52 _ _ rfl rfl rfl HZ.out rfl bx.out rfl (fol_all l) ?_)
  go_ret2
  exact ⟨rfl, below_setRow' (HB.out.alloc HB.out.size _) _ _ HB.out.size⟩

theorem own_block_ge {w : World} {base : Nat} {e : TypeId} {size n : Nat} {v : Value} {xs : List Value} (h : w.ownsRow base e size v n xs) : ∀ k, v.ownBlock = some k → base ≤ k := by
  intro k hk
  rcases h.2 with ⟨rfl, _⟩ | ⟨g, cap, cur, rfl, hg, _⟩
  · cases hk
  · simp [Value.ownBlock] at hk; omega
theorem own_alloc {w : World} {base : Nat} {e : TypeId} {size n : Nat} {v : Value} {xs : List Value} (h : w.ownsRow base e size v n xs) (o : Obj) : (w.alloc o).ownsRow base e size v n xs :=
  h.kept (World.grownBy_alloc w o none) (by
    cases hv : v.ownBlock
    · exact .inl rfl
    · exact .inr (by simp))
end Go.Proofs.YtnklpifnknmdgaaGreatDoor

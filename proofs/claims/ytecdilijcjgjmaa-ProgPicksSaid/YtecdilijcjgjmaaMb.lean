/- The program's machine as a block of 39 cells: what each cell holds, and what a store into it makes of it. Worlds that differ in one old block. -/
import Derived.Test.YtecdilijcjgjmaaPp
import Derived.Test.YtecdilijcjgjmaaRefTr
import Derived.Test.YtecdilijcjgjmaaAppend
import Derived.Test.YtecdilijcjgjmaaMid
import Derived.Test.YtecdilijcjgjmaaVs
import Derived.Test.YtecdilijcjgjmaaRpG
set_option linter.all false
set_option maxRecDepth 100000
namespace Go.Proofs.Ytecdilijcjgjmaa
open Go Go.RowKit

/-- A machine: who has begun, how many ops each has done, who has each lock, variables, signals, registers. -/
structure Mc where
  b : Nat → Bool
  a : Nat → Nat
  o : Nat → Int
  m : Nat → Int
  v : Nat → Int
  h : Nat → Int
def mF (A : Option Addr) (n c : Nat) (x : Mc) (LV : Value) (i : Nat) : Value :=
  if i = 0 then .slice A n c else if i < 7 then .bool (x.b (i - 1)) else if i < 13 then .int .i64 (x.a (i - 7)) else if i < 18 then .int .i64 (x.o (i - 13)) else if i < 38 then endF x.m x.v x.h false false (i - 18) else LV
/-- The machine of a state. -/
def mcP (s : Ps) : Mc := ⟨fun t => begun s.L (t : Nat), s.a, fun k => owner s.L (k : Nat), nat s.mem, nat s.vol, s.has⟩
theorem TM : RowTy Try.prog 91 39 := ⟨_, Try.underlying91, rfl, by kernel_rfl⟩
theorem TMv (g : Nat → Value) : RowTy Try.prog 91 (vs 39 g).size := by rw [vs_size]; exact TM
structure MBx (w : World) (B : Nat) (A : Option Addr) (n c : Nat) (x : Mc) (LV : Value) : Prop where
  box : Box w B (vs 39 (mF A n c x LV)) 91
variable {w w' : World} {B : Nat} {A : Option Addr} {n c : Nat} {x : Mc} {LV : Value}
theorem MBx.bel (h : MBx w B A n c x LV) (hb : Bel w w') : MBx w' B A n c x LV := ⟨hb.box h.box⟩
theorem MBx.drew (h : MBx w B A n c x LV) : MBx w.drew B A n c x LV := ⟨h.box.drew⟩
theorem MBx.lt (h : MBx w B A n c x LV) : B < w.heap.size := h.box.lt
theorem MBx.cell (h : MBx w B A n c x LV) {i : Nat} (hi : i < 39) : w.cell? ⟨B, i, none⟩ = some (mF A n c x LV i) := h.box.cell i (vs_get _ hi)
theorem MBx.p (h : MBx w B A n c x LV) : w.cell? ⟨B, 0, none⟩ = some (.slice A n c) := h.cell (i := 0) (by omega)
theorem MBx.l (h : MBx w B A n c x LV) : w.cell? ⟨B, 38, none⟩ = some LV := h.cell (i := 38) (by omega)
theorem MBx.beg (h : MBx w B A n c x LV) {t : Nat} (ht : t < 6) : w.cell? ⟨B, 1 + t, none⟩ = some (.bool (x.b t)) := by
  rw [h.cell (i := 1 + t) (by omega)]; unfold mF
  rw [if_neg (by omega), if_pos (by omega), Nat.add_sub_cancel_left]
theorem MBx.don (h : MBx w B A n c x LV) {t : Nat} (ht : t < 6) : w.cell? ⟨B, 7 + t, none⟩ = some (.int .i64 (x.a t)) := by
  rw [h.cell (i := 7 + t) (by omega)]; unfold mF
  rw [if_neg (by omega), if_neg (by omega), if_pos (by omega), Nat.add_sub_cancel_left]
theorem MBx.own (h : MBx w B A n c x LV) {t : Nat} (ht : t < 5) : w.cell? ⟨B, 13 + t, none⟩ = some (.int .i64 (x.o t)) := by
  rw [h.cell (i := 13 + t) (by omega)]; unfold mF
  rw [if_neg (by omega), if_neg (by omega), if_neg (by omega), if_pos (by omega), Nat.add_sub_cancel_left]
theorem MBx.endAt (h : MBx w B A n c x LV) {t : Nat} (ht : t < 20) : w.cell? ⟨B, 18 + t, none⟩ = some (endF x.m x.v x.h false false t) := by
  rw [h.cell (i := 18 + t) (by omega)]; unfold mF
  rw [if_neg (by omega), if_neg (by omega), if_neg (by omega), if_neg (by omega), if_pos (by omega), Nat.add_sub_cancel_left]
theorem MBx.mem (h : MBx w B A n c x LV) {t : Nat} (ht : t < 8) : w.cell? ⟨B, 18 + t, none⟩ = some (.int .i64 (x.m t)) := by
  rw [h.endAt (t := t) (by omega)]; unfold endF; rw [if_pos ht]
theorem MBx.vol (h : MBx w B A n c x LV) {t : Nat} (ht : t < 4) : w.cell? ⟨B, 26 + t, none⟩ = some (.int .i64 (x.v t)) := by
  have := h.endAt (t := 8 + t) (by omega)
  rw [show 18 + (8 + t) = 26 + t by omega] at this
  rw [this]; unfold endF; rw [if_neg (by omega), if_pos (by omega), Nat.add_sub_cancel_left]
theorem MBx.has (h : MBx w B A n c x LV) {t : Nat} (ht : t < 6) : w.cell? ⟨B, 30 + t, none⟩ = some (.int .i64 (x.h t)) := by
  have := h.endAt (t := 12 + t) (by omega)
  rw [show 18 + (12 + t) = 30 + t by omega] at this
  rw [this]; unfold endF; rw [if_neg (by omega), if_neg (by omega), if_pos (by omega), Nat.add_sub_cancel_left]
theorem MBx.put (h : MBx w B A n c x LV) {i : Nat} {v : Value} {x' : Mc} {LV' : Value} (he : ∀ j, j < 39 → updC (mF A n c x LV) i v j = mF A n c x' LV' j) : MBx (w.setCell ⟨B, i, none⟩ v) B A n c x' LV' := by
  have := h.box.set i v
  rw [vs_set, vs_congr he] at this
  exact ⟨this⟩
theorem MBx.to (h : MBx w B A n c x LV) {x' : Mc} (hb : ∀ t, t < 6 → x'.b t = x.b t) (ha : ∀ t, t < 6 → x'.a t = x.a t) (ho : ∀ t, t < 5 → x'.o t = x.o t) (hm : ∀ t, t < 8 → x'.m t = x.m t) (hv : ∀ t, t < 4 → x'.v t = x.v t) (hh : ∀ t, t < 6 → x'.h t = x.h t) : MBx w B A n c x' LV := by
  have := h.box
  rw [vs_congr (g' := mF A n c x' LV)] at this
  · exact ⟨this⟩
  · intro j hj
    unfold mF endF
    repeat' split
    all_goals first | rfl | (rw [hb _ (by omega)]) | (rw [ha _ (by omega)]) | (rw [ho _ (by omega)]) | (rw [hm _ (by omega)]) | (rw [hv _ (by omega)]) | (rw [hh _ (by omega)])
theorem MBx.setB (h : MBx w B A n c x LV) {t : Nat} {v : Bool} (ht : t < 6) : MBx (w.setCell ⟨B, 1 + t, none⟩ (.bool v)) B A n c { x with b := upF x.b t v } LV := h.put fun j _ => by
  unfold updC
  by_cases h0 : j = 1 + t
  · rw [if_pos h0]; unfold mF; rw [if_neg (by omega), if_pos (by omega), show j - 1 = t by omega]; simp [upF]
  · rw [if_neg h0]; unfold mF
    split
    · rfl
    · split
      · show _ = Value.bool (upF x.b t v (j - 1)); rw [upF_ne _ _ (by omega)]
      · rfl
theorem MBx.setA (h : MBx w B A n c x LV) {t v : Nat} (ht : t < 6) : MBx (w.setCell ⟨B, 7 + t, none⟩ (.int .i64 (v : Nat))) B A n c { x with a := upF x.a t v } LV := h.put fun j _ => by
  unfold updC
  by_cases h0 : j = 7 + t
  · rw [if_pos h0]; unfold mF; rw [if_neg (by omega), if_neg (by omega), if_pos (by omega), show j - 7 = t by omega]; simp [upF]
  · rw [if_neg h0]; unfold mF
    split
    · rfl
    · split
      · rfl
      · split
        · show _ = Value.int .i64 ((upF x.a t v (j - 7) : Nat) : Int); rw [upF_ne _ _ (by omega)]
        · rfl
theorem MBx.setO (h : MBx w B A n c x LV) {t : Nat} {v : Int} (ht : t < 5) : MBx (w.setCell ⟨B, 13 + t, none⟩ (.int .i64 v)) B A n c { x with o := upF x.o t v } LV := h.put fun j _ => by
  unfold updC
  by_cases h0 : j = 13 + t
  · rw [if_pos h0]; unfold mF; rw [if_neg (by omega), if_neg (by omega), if_neg (by omega), if_pos (by omega), show j - 13 = t by omega]; simp [upF]
  · rw [if_neg h0]; unfold mF
    split
    · rfl
    · split
      · rfl
      · split
        · rfl
        · split
          · show _ = Value.int .i64 (upF x.o t v (j - 13)); rw [upF_ne _ _ (by omega)]
          · rfl
theorem mF_end {t : Nat} {v : Value} {x' : Mc} (ht : t < 20) (hb : x'.b = x.b) (ha : x'.a = x.a) (ho : x'.o = x.o) (he : ∀ j, (if j = t then v else endF x.m x.v x.h false false j) = endF x'.m x'.v x'.h false false j) (j : Nat) (_ : j < 39) : updC (mF A n c x LV) (18 + t) v j = mF A n c x' LV j := by
  unfold updC
  by_cases h0 : j = 18 + t
  · rw [if_pos h0]; unfold mF
    rw [if_neg (by omega), if_neg (by omega), if_neg (by omega), if_neg (by omega), if_pos (by omega), ← he, if_pos (by omega)]
  · rw [if_neg h0]; unfold mF
    split
    · rfl
    · split
      · rw [hb]
      · split
        · rw [ha]
        · split
          · rw [ho]
          · split
            · rw [← he, if_neg (by omega)]
            · rfl
theorem MBx.setHas (h : MBx w B A n c x LV) {t : Nat} {v : Int} (ht : t < 6) : MBx (w.setCell ⟨B, 30 + t, none⟩ (.int .i64 v)) B A n c { x with h := upF x.h t v } LV := by
  have := h.put (i := 18 + (12 + t)) (v := .int .i64 v) (x' := { x with h := upF x.h t v }) (mF_end (by omega) rfl rfl rfl fun j => endF_has ht j)
  rwa [show 18 + (12 + t) = 30 + t by omega] at this
theorem MBx.setMem (h : MBx w B A n c x LV) {t : Nat} {v : Int} (ht : t < 8) : MBx (w.setCell ⟨B, 18 + t, none⟩ (.int .i64 v)) B A n c { x with m := upF x.m t v } LV :=
  h.put (mF_end (by omega) rfl rfl rfl fun j => endF_mem ht j)
theorem MBx.setVol (h : MBx w B A n c x LV) {t : Nat} {v : Int} (ht : t < 4) : MBx (w.setCell ⟨B, 26 + t, none⟩ (.int .i64 v)) B A n c { x with v := upF x.v t v } LV := by
  have := h.put (i := 18 + (8 + t)) (v := .int .i64 v) (x' := { x with v := upF x.v t v }) (mF_end (by omega) rfl rfl rfl fun j => endF_vol ht j)
  rwa [show 18 + (8 + t) = 26 + t by omega] at this
theorem MBx.setL (h : MBx w B A n c x LV) {LV' : Value} : MBx (w.setCell ⟨B, 38, none⟩ LV') B A n c x LV' := h.put fun j _ => by
  unfold updC mF
  by_cases h0 : j = 38
  · subst h0; rfl
  · rw [if_neg h0]
    repeat' split
    all_goals first | rfl | omega
/-! Worlds that differ in block M at most, among the old ones. -/
structure Pm (M : Nat) (w w' : World) : Prop where
  os : w'.os = w.os
  tape : w'.tape = w.tape
  output : w'.output = w.output
  size : w.heap.size ≤ w'.heap.size
  block : ∀ k, k < w.heap.size → k ≠ M → w'.heap[k]? = w.heap[k]?
theorem Pm.of {M : Nat} {w w' : World} (h : Bel w w') : Pm M w w' := ⟨h.os, h.tape, h.output, h.size, fun k hk _ => h.block k hk⟩
theorem Pm.refl (M : Nat) (w : World) : Pm M w w := Pm.of (Bel.refl w)
theorem Pm.trans {M : Nat} {a b c : World} (h : Pm M a b) (k : Pm M b c) : Pm M a c :=
  ⟨k.os.trans h.os, k.tape.trans h.tape, k.output.trans h.output, Nat.le_trans h.size k.size, fun i hi hne => (k.block i (Nat.lt_of_lt_of_le hi h.size) hne).trans (h.block i hi hne)⟩
theorem Pm.set {M : Nat} (w : World) (i : Nat) (v : Value) : Pm M w (w.setCell ⟨M, i, none⟩ v) := ⟨rfl, rfl, rfl, by simp, fun k _ hne => heap_setCell_other w ⟨M, i, none⟩ k v hne⟩
theorem Pm.setC {M : Nat} {w w' : World} (h : Pm M w w') (i : Nat) (v : Value) : Pm M w (w'.setCell ⟨M, i, none⟩ v) := h.trans (Pm.set w' i v)
theorem Pm.bel {M : Nat} {a b c : World} (h : Pm M a b) (k : Bel b c) : Pm M a c := h.trans (Pm.of k)
theorem Pm.below {M N : Nat} {w w' : World} (h : Pm M w w') (hM : N ≤ M) (hN : N ≤ w.heap.size) : Below N w w' := ⟨h.os, h.tape, h.output, h.size, fun k hk => h.block k (by omega) (by omega)⟩
theorem Pm.own {M : Nat} {w w' : World} (h : Pm M w w') {base n size : Nat} {e : TypeId} {v : Value} {xs : List Value} (ho : w.ownsRow base e size v n xs) (hne : ∀ g, v.ownBlock = some g → g ≠ M) : w'.ownsRow base e size v n xs :=
  own_keep ho fun g hg hl => h.block g hl (hne g hg)
theorem Pm.box {M : Nat} {w w' : World} (h : Pm M w w') {C : Nat} {x : Array Value} {t : TypeId} (hb : Box w C x t) (hne : C ≠ M) : Box w' C x t := (h.block C hb.lt hne).trans hb
/-- A machine behind a step of another's block: no. A machine that has grown. -/
theorem MBx.step (s : Ps) (u : Nat) (o : Ev) (P : List (List Ev)) : True := trivial
end Go.Proofs.Ytecdilijcjgjmaa

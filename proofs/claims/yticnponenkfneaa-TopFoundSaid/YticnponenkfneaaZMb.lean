import Derived.Deep.DeepCutAuto
import Derived.Test.YticnponenkfneaaZOpen
import Derived.Test.YticnponenkfneaaZAppend
import Derived.Test.YticnponenkfneaaZRpG
import Derived.Test.YticnponenkfneaaZGrowU
import Derived.Test.YticnponenkfneaaZRpR
set_option linter.all false
set_option maxRecDepth 100000
namespace Go.Proofs.Yticnponenkfneaa
open Go Go.RowKit

structure Mc where
  b : Nat → Bool
  a : Nat → Nat
  o : Nat → Int
  m : Nat → Int
  v : Nat → Int
  h : Nat → Int
def mF (A : Option Addr) (n c : Nat) (x : Mc) (LV : Value) (i : Nat) : Value :=
  if i = 0 then .slice A n c else if i < 7 then .bool (x.b (i - 1)) else if i < 13 then .int .i64 (x.a (i - 7)) else if i < 18 then .int .i64 (x.o (i - 13)) else if i < 38 then endF x.m x.v x.h false false (i - 18) else LV
def mcP (s : Ps) : Mc := ⟨fun t => begun s.L (t : Nat), s.a, fun k => owner s.L (k : Nat), nat s.mem, nat s.vol, s.has⟩
structure MBx (w : World) (B : Nat) (A : Option Addr) (n c : Nat) (x : Mc) (LV : Value) : Prop where
  box : Box w B (vs 39 (mF A n c x LV)) 78
variable {w w' : World} {B : Nat} {A : Option Addr} {n c : Nat} {x : Mc} {LV : Value}
theorem MBx.bel (h : MBx w B A n c x LV) (hb : Bel w w') : MBx w' B A n c x LV := ⟨hb.box h.box⟩
theorem MBx.drew (h : MBx w B A n c x LV) : MBx w.drew B A n c x LV := ⟨h.box.drew⟩
theorem MBx.lt (h : MBx w B A n c x LV) : B < w.heap.size := h.box.lt
theorem MBx.cell (h : MBx w B A n c x LV) {i : Nat} (hi : i < 39) : w.cell? ⟨B, i, none⟩ = some (mF A n c x LV i) := h.box.cell i (vs_get _ hi)
theorem MBx.p (h : MBx w B A n c x LV) : w.cell? ⟨B, 0, none⟩ = some (.slice A n c) := h.cell (i := 0) (by omega)
theorem MBx.l (h : MBx w B A n c x LV) : w.cell? ⟨B, 38, none⟩ = some LV := h.cell (i := 38) (by omega)
theorem MBx.beg (h : MBx w B A n c x LV) {t : Nat} (ht : t < 6) : w.cell? ⟨B, 1 + t, none⟩ = some (.bool (x.b t)) := by
  rw [h.cell (i := 1 + t) (by omega)]; unfold mF
  rw [if_neg (by omega), if_pos (by omega), Nat.add_sub_cancel_left]
theorem MBx.don (h : MBx w B A n c x LV) {t : Nat} (ht : t < 6) : w.cell? ⟨B, 7 + t, none⟩ = some (.int .i64 (x.a t)) := by
  rw [h.cell (i := 7 + t) (by omega)]; unfold mF
  rw [if_neg (by omega), if_neg (by omega), if_pos (by omega), Nat.add_sub_cancel_left]
theorem MBx.own (h : MBx w B A n c x LV) {t : Nat} (ht : t < 5) : w.cell? ⟨B, 13 + t, none⟩ = some (.int .i64 (x.o t)) := by
  rw [h.cell (i := 13 + t) (by omega)]; unfold mF
  rw [if_neg (by omega), if_neg (by omega), if_neg (by omega), if_pos (by omega), Nat.add_sub_cancel_left]
theorem MBx.endAt (h : MBx w B A n c x LV) {t : Nat} (ht : t < 20) : w.cell? ⟨B, 18 + t, none⟩ = some (endF x.m x.v x.h false false t) := by
  rw [h.cell (i := 18 + t) (by omega)]; unfold mF
  rw [if_neg (by omega), if_neg (by omega), if_neg (by omega), if_neg (by omega), if_pos (by omega), Nat.add_sub_cancel_left]
theorem MBx.mem (h : MBx w B A n c x LV) {t : Nat} (ht : t < 8) : w.cell? ⟨B, 18 + t, none⟩ = some (.int .i64 (x.m t)) := by
  rw [h.endAt (t := t) (by omega)]; unfold endF; rw [if_pos ht]
theorem MBx.vol (h : MBx w B A n c x LV) {t : Nat} (ht : t < 4) : w.cell? ⟨B, 26 + t, none⟩ = some (.int .i64 (x.v t)) := by
  have := h.endAt (t := 8 + t) (by omega)
  rw [show 18 + (8 + t) = 26 + t by omega] at this
  rw [this]; unfold endF; rw [if_neg (by omega), if_pos (by omega), Nat.add_sub_cancel_left]
theorem MBx.has (h : MBx w B A n c x LV) {t : Nat} (ht : t < 6) : w.cell? ⟨B, 30 + t, none⟩ = some (.int .i64 (x.h t)) := by
  have := h.endAt (t := 12 + t) (by omega)
  rw [show 18 + (12 + t) = 30 + t by omega] at this
  rw [this]; unfold endF; rw [if_neg (by omega), if_neg (by omega), if_pos (by omega), Nat.add_sub_cancel_left]
theorem MBx.put (h : MBx w B A n c x LV) {i : Nat} {v : Value} {x' : Mc} {LV' : Value} (he : ∀ j, j < 39 → updC (mF A n c x LV) i v j = mF A n c x' LV' j) : MBx (w.setCell ⟨B, i, none⟩ v) B A n c x' LV' := by
  have := h.box.set i v
  rw [vs_set, vs_congr he] at this
  exact ⟨this⟩
theorem MBx.to (h : MBx w B A n c x LV) {x' : Mc} (hb : ∀ t, t < 6 → x'.b t = x.b t) (ha : ∀ t, t < 6 → x'.a t = x.a t) (ho : ∀ t, t < 5 → x'.o t = x.o t) (hm : ∀ t, t < 8 → x'.m t = x.m t) (hv : ∀ t, t < 4 → x'.v t = x.v t) (hh : ∀ t, t < 6 → x'.h t = x.h t) : MBx w B A n c x' LV := by
  have := h.box
  rw [vs_congr (g' := mF A n c x' LV)] at this
  · exact ⟨this⟩
  · intro j hj
    unfold mF endF
    repeat' split
    all_goals first | rfl | (rw [hb _ (by omega)]) | (rw [ha _ (by omega)]) | (rw [ho _ (by omega)]) | (rw [hm _ (by omega)]) | (rw [hv _ (by omega)]) | (rw [hh _ (by omega)])
theorem MBx.setB (h : MBx w B A n c x LV) {t : Nat} {v : Bool} (ht : t < 6) : MBx (w.setCell ⟨B, 1 + t, none⟩ (.bool v)) B A n c { x with b := upF x.b t v } LV := h.put fun j _ => by
  unfold updC
  by_cases h0 : j = 1 + t
  · rw [if_pos h0]; unfold mF; rw [if_neg (by omega), if_pos (by omega), show j - 1 = t by omega]; simp [upF]
  · rw [if_neg h0]; unfold mF
    split
    · rfl
    · split
      · show _ = Value.bool (upF x.b t v (j - 1)); rw [upF_ne _ _ (by omega)]
      · rfl
theorem MBx.setA (h : MBx w B A n c x LV) {t v : Nat} (ht : t < 6) : MBx (w.setCell ⟨B, 7 + t, none⟩ (.int .i64 (v : Nat))) B A n c { x with a := upF x.a t v } LV := h.put fun j _ => by
  unfold updC
  by_cases h0 : j = 7 + t
  · rw [if_pos h0]; unfold mF; rw [if_neg (by omega), if_neg (by omega), if_pos (by omega), show j - 7 = t by omega]; simp [upF]
  · rw [if_neg h0]; unfold mF
    split
    · rfl
    · split
      · rfl
      · split
        · show _ = Value.int .i64 ((upF x.a t v (j - 7) : Nat) : Int); rw [upF_ne _ _ (by omega)]
        · rfl
theorem MBx.setO (h : MBx w B A n c x LV) {t : Nat} {v : Int} (ht : t < 5) : MBx (w.setCell ⟨B, 13 + t, none⟩ (.int .i64 v)) B A n c { x with o := upF x.o t v } LV := h.put fun j _ => by
  unfold updC
  by_cases h0 : j = 13 + t
  · rw [if_pos h0]; unfold mF; rw [if_neg (by omega), if_neg (by omega), if_neg (by omega), if_pos (by omega), show j - 13 = t by omega]; simp [upF]
  · rw [if_neg h0]; unfold mF
    split
    · rfl
    · split
      · rfl
      · split
        · rfl
        · split
          · show _ = Value.int .i64 (upF x.o t v (j - 13)); rw [upF_ne _ _ (by omega)]
          · rfl
theorem mF_end {t : Nat} {v : Value} {x' : Mc} (ht : t < 20) (hb : x'.b = x.b) (ha : x'.a = x.a) (ho : x'.o = x.o) (he : ∀ j, (if j = t then v else endF x.m x.v x.h false false j) = endF x'.m x'.v x'.h false false j) (j : Nat) (_ : j < 39) : updC (mF A n c x LV) (18 + t) v j = mF A n c x' LV j := by
  unfold updC
  by_cases h0 : j = 18 + t
  · rw [if_pos h0]; unfold mF
    rw [if_neg (by omega), if_neg (by omega), if_neg (by omega), if_neg (by omega), if_pos (by omega), ← he, if_pos (by omega)]
  · rw [if_neg h0]; unfold mF
    split
    · rfl
    · split
      · rw [hb]
      · split
        · rw [ha]
        · split
          · rw [ho]
          · split
            · rw [← he, if_neg (by omega)]
            · rfl
theorem MBx.setHas (h : MBx w B A n c x LV) {t : Nat} {v : Int} (ht : t < 6) : MBx (w.setCell ⟨B, 30 + t, none⟩ (.int .i64 v)) B A n c { x with h := upF x.h t v } LV := by
  have := h.put (i := 18 + (12 + t)) (v := .int .i64 v) (x' := { x with h := upF x.h t v }) (mF_end (by omega) rfl rfl rfl fun j => endF_has ht j)
  rwa [show 18 + (12 + t) = 30 + t by omega] at this
theorem MBx.setMem (h : MBx w B A n c x LV) {t : Nat} {v : Int} (ht : t < 8) : MBx (w.setCell ⟨B, 18 + t, none⟩ (.int .i64 v)) B A n c { x with m := upF x.m t v } LV :=
  h.put (mF_end (by omega) rfl rfl rfl fun j => endF_mem ht j)
theorem MBx.setVol (h : MBx w B A n c x LV) {t : Nat} {v : Int} (ht : t < 4) : MBx (w.setCell ⟨B, 26 + t, none⟩ (.int .i64 v)) B A n c { x with v := upF x.v t v } LV := by
  have := h.put (i := 18 + (8 + t)) (v := .int .i64 v) (x' := { x with v := upF x.v t v }) (mF_end (by omega) rfl rfl rfl fun j => endF_vol ht j)
  rwa [show 18 + (8 + t) = 26 + t by omega] at this
theorem MBx.setL (h : MBx w B A n c x LV) {LV' : Value} : MBx (w.setCell ⟨B, 38, none⟩ LV') B A n c x LV' := h.put fun j _ => by
  unfold updC mF
  by_cases h0 : j = 38
  · subst h0; rfl
  · rw [if_neg h0]
    repeat' split
    all_goals first | rfl | omega
structure Pm (M : Nat) (w w' : World) : Prop where
  os : w'.os = w.os
  tape : w'.tape = w.tape
  output : w'.output = w.output
  size : w.heap.size ≤ w'.heap.size
  block : ∀ k, k < w.heap.size → k ≠ M → w'.heap[k]? = w.heap[k]?
theorem Pm.of {M : Nat} {w w' : World} (h : Bel w w') : Pm M w w' := ⟨h.os, h.tape, h.output, h.size, fun k hk _ => h.block k hk⟩
theorem Pm.trans {M : Nat} {a b c : World} (h : Pm M a b) (k : Pm M b c) : Pm M a c :=
  ⟨k.os.trans h.os, k.tape.trans h.tape, k.output.trans h.output, Nat.le_trans h.size k.size, fun i hi hne => (k.block i (Nat.lt_of_lt_of_le hi h.size) hne).trans (h.block i hi hne)⟩
theorem Pm.set {M : Nat} (w : World) (i : Nat) (v : Value) : Pm M w (w.setCell ⟨M, i, none⟩ v) := ⟨rfl, rfl, rfl, by simp, fun k _ hne => heap_setCell_other w ⟨M, i, none⟩ k v hne⟩
theorem Pm.setC {M : Nat} {w w' : World} (h : Pm M w w') (i : Nat) (v : Value) : Pm M w (w'.setCell ⟨M, i, none⟩ v) := h.trans (Pm.set w' i v)
theorem Pm.bel {M : Nat} {a b c : World} (h : Pm M a b) (k : Bel b c) : Pm M a c := h.trans (Pm.of k)
theorem Pm.below {M N : Nat} {w w' : World} (h : Pm M w w') (hM : N ≤ M) (hN : N ≤ w.heap.size) : Below N w w' := ⟨h.os, h.tape, h.output, h.size, fun k hk => h.block k (by omega) (by omega)⟩
theorem Pm.own {M : Nat} {w w' : World} (h : Pm M w w') {base n size : Nat} {e : TypeId} {v : Value} {xs : List Value} (ho : w.ownsRow base e size v n xs) (hne : ∀ g, v.ownBlock = some g → g ≠ M) : w'.ownsRow base e size v n xs :=
  own_keep ho fun g hg hl => h.block g hl (hne g hg)
theorem Pm.box {M : Nat} {w w' : World} (h : Pm M w w') {C : Nat} {x : Array Value} {t : TypeId} (hb : Box w C x t) (hne : C ≠ M) : Box w' C x t := (h.block C hb.lt hne).trans hb
end Go.Proofs.Yticnponenkfneaa
namespace Go.Proofs.Yticnponenkfneaa
open Go Go.RowKit

variable {w w' : World} {M : Nat} {A : Option Addr} {n c : Nat} {x : Mc} {LV : Value}
set_option maxHeartbeats 4000000 in
theorem more_any (t : Nat) {P : List (List Ev)} (hb : MBx w M A n c x LV) (hP : Prg w A n P) (hnc : n ≤ c) (h6 : n ≤ 6) (ht : t < 6) (hbt : x.b t = true → t < n) :
    Calls Try.prog 56 #[.pointer (some ⟨M, 0, none⟩), .int .i64 t] w fun e w' => e = .returned (.bool (x.b t && decide (x.a t < (opsP P t).length))) ∧ Below w.heap.size w w' := by
  have ht6 : (t : Int) < 6 := by omega
  cases hv : x.b t
  · have HF := Lib.hid (fun (w1 : World) (h1 : Bel w w1) => (show w1.cell? ⟨M, 1 + t, none⟩ = some (.bool false) by rw [← hv]; exact (hb.bel h1).beg ht))
    clear hb hP hv
    go_enter Try.func56, Try.ntmps56
    go_wp2
    (refine region_bel (by kernel_rfl) (by kernel_rfl) ?_; (repeat (first | ((with_reducible refine BigFrame.wpQuiet_skip ?_ ?_); exact rfl; simp only [Act.put, Act.eval, List.setIfInBounds_toArray, List.set_cons_zero, List.set_cons_succ, Array.getD_eq_getD_getElem?, List.getElem?_toArray, List.getElem?_cons_zero, List.getElem?_cons_succ, Option.getD_some]) | (refine q_move _ rfl rfl ?_; simp only [Act.put, Act.eval, List.setIfInBounds_toArray, List.set_cons_zero, List.set_cons_succ, Array.getD_eq_getD_getElem?, List.getElem?_toArray, List.getElem?_cons_zero, List.getElem?_cons_succ, Option.getD_some]) | (refine q_assign _ rfl rfl ?_; simp only [Act.put, Act.eval, List.setIfInBounds_toArray, List.set_cons_zero, List.set_cons_succ, Array.getD_eq_getD_getElem?, List.getElem?_toArray, List.getElem?_cons_zero, List.getElem?_cons_succ, Option.getD_some]) | (refine q_any rfl ?_; apply Exists.intro; refine ⟨fun w hw => ?_, ?_⟩; (have fct0 := HF.out w hw; go_simp; first | exact ⟨rfl, rfl⟩ | rfl); simp only [Act.put, Act.eval, List.setIfInBounds_toArray, List.set_cons_zero, List.set_cons_succ, Array.getD_eq_getD_getElem?, List.getElem?_toArray, List.getElem?_cons_zero, List.getElem?_cons_succ, Option.getD_some]))); refine wpQuiet_nil ?_; intro w2 hw2)
    go_wp2
    go_ret
    exact ⟨rfl, hw2.out⟩
  · have htn := hbt hv
    obtain ⟨b, off, C, m, e, rfl, hlt, hc, hsl, hm, he⟩ := hP.at_ htn
    have F0 := fun (w1 : World) (h1 : Bel w w1) => And.intro (show w1.cell? ⟨M, 1 + t, none⟩ = some (.bool true) by rw [← hv]; exact (hb.bel h1).beg ht) (And.intro (hb.bel h1).p (And.intro ((hb.bel h1).don ht) (h1.cell hc)))
    have HL := Lib.hid hsl.1
    have HF := Lib.hid F0
    have ht1 : (t : Int) < n := by omega
    have htc : (t : Int) ≤ c := by omega
    clear hb hP hsl F0 hc hlt hv hbt
    go_enter Try.func56, Try.ntmps56
    go_wp2
    (refine region_bel (by kernel_rfl) (by kernel_rfl) ?_; (repeat (first | ((with_reducible refine BigFrame.wpQuiet_skip ?_ ?_); exact rfl; simp only [Act.put, Act.eval, List.setIfInBounds_toArray, List.set_cons_zero, List.set_cons_succ, Array.getD_eq_getD_getElem?, List.getElem?_toArray, List.getElem?_cons_zero, List.getElem?_cons_succ, Option.getD_some]) | (refine q_move _ rfl rfl ?_; simp only [Act.put, Act.eval, List.setIfInBounds_toArray, List.set_cons_zero, List.set_cons_succ, Array.getD_eq_getD_getElem?, List.getElem?_toArray, List.getElem?_cons_zero, List.getElem?_cons_succ, Option.getD_some]) | (refine q_assign _ rfl rfl ?_; simp only [Act.put, Act.eval, List.setIfInBounds_toArray, List.set_cons_zero, List.set_cons_succ, Array.getD_eq_getD_getElem?, List.getElem?_toArray, List.getElem?_cons_zero, List.getElem?_cons_succ, Option.getD_some]) | (refine q_any rfl ?_; apply Exists.intro; refine ⟨fun w hw => ?_, ?_⟩; (have fct0 := HF.out w hw; go_simp; first | exact ⟨rfl, rfl⟩ | rfl); simp only [Act.put, Act.eval, List.setIfInBounds_toArray, List.set_cons_zero, List.set_cons_succ, Array.getD_eq_getD_getElem?, List.getElem?_toArray, List.getElem?_cons_zero, List.getElem?_cons_succ, Option.getD_some]))); refine wpQuiet_nil ?_; intro w2 hw2)
    go_wp2
    go_ret
    refine ⟨?_, hw2.out⟩
    refine ret_val (congrArg Value.bool ?_)
    rw [HL.out, Bool.eq_iff_iff]
    simp
theorem morev_any (t : Nat) {P : List (List Ev)} (v : Bool) (hv : (x.b t && decide (x.a t < (opsP P t).length)) = v) (hb : MBx w M A n c x LV) (hP : Prg w A n P) (hnc : n ≤ c) (h6 : n ≤ 6) (ht : t < 6) (hbt : x.b t = true → t < n) :
    Calls Try.prog 56 #[.pointer (some ⟨M, 0, none⟩), .int .i64 t] w fun e w' => e = .returned (.bool v) ∧ Below w.heap.size w w' := hv ▸ more_any t hb hP hnc h6 ht hbt
set_option maxHeartbeats 4000000 in
theorem next_any (t : Nat) {P : List (List Ev)} {o : Ev} (hb : MBx w M A n c x LV) (hP : Prg w A n P) (hnc : n ≤ c) (h6 : n ≤ 6) (htn : t < n) (ho : (opsP P t)[x.a t]? = some o) :
    Calls Try.prog 87 #[.pointer (some ⟨M, 0, none⟩), .int .i64 t] w fun e w' => e = .returned (.agg (evv o)) ∧ Below w.heap.size w w' := by
  have ht6 : (t : Int) < 6 := by omega
  have ht : t < 6 := by omega
  have bx := Box.new w #[.int .i64 0, .int .i64 0, .int .i64 0] 98
  have hW := (Bel.refl w).alloc (.cells #[.int .i64 0, .int .i64 0, .int .i64 0] 98)
  obtain ⟨b, off, C, m, e, rfl, hlt, hc, hsl, hm, he⟩ := (hP.bel hW).at_ htn
  obtain ⟨bb, oo, o', rfl, hbb, ho', hrg⟩ := hsl.at_ (show x.a t < m by rw [← hsl.1]; exact (List.getElem?_eq_some_iff.1 ho).1)
  obtain rfl : o = o' := Option.some.inj (ho.symm.trans ho')
  have hb' := hb.bel hW
  have hat : (x.a t : Int) < m := by have := (List.getElem?_eq_some_iff.1 ho).1; have := hsl.1; omega
  have hae : (x.a t : Int) ≤ e := by omega
  have ht1 : (t : Int) < n := by omega
  have htc : (t : Int) ≤ c := by omega
  generalize hX : w.alloc (.cells #[.int .i64 0, .int .i64 0, .int .i64 0] 98) = W at *
  have HROW := fun (w1 : World) (h1 : Below W.heap.size W w1) => rangeAt_below h1 hbb hrg
  have F := fun (w1 : World) (h1 : Below W.heap.size W w1) => And.intro (hb'.bel (Bel.of h1)).p (And.intro ((hb'.bel (Bel.of h1)).don ht) ((Bel.of h1).cell hc))
  have HBX := Lib.hid bx
  have HW := Lib.hid hW
  clear hb hb' hP hsl hc hlt ho ho' hrg hbb bx hW
  go_enter Try.func87, Try.ntmps87
  go_wp2
  clear hX
  refine region_growT 15 (by kernel_rfl) ?_
  (repeat (first | ((first | refine wpT_goN 0 (by simp only [List.getElem?_toArray, List.getElem?_cons_zero, List.getElem?_cons_succ] <;> rfl) (by decide +kernel) (by decide +kernel) (by kernel_rfl) (by rfl) (by exact fun _ _ _ _ h => h) (Nat.le_refl _) ?_ | refine wpT_goN 1 (by simp only [List.getElem?_toArray, List.getElem?_cons_zero, List.getElem?_cons_succ] <;> rfl) (by decide +kernel) (by decide +kernel) (by kernel_rfl) (by rfl) (by exact fun _ _ _ _ h => h) (Nat.le_refl _) ?_ | refine wpT_goN 2 (by simp only [List.getElem?_toArray, List.getElem?_cons_zero, List.getElem?_cons_succ] <;> rfl) (by decide +kernel) (by decide +kernel) (by kernel_rfl) (by rfl) (by exact fun _ _ _ _ h => h) (Nat.le_refl _) ?_ | refine wpT_goN 3 (by simp only [List.getElem?_toArray, List.getElem?_cons_zero, List.getElem?_cons_succ] <;> rfl) (by decide +kernel) (by decide +kernel) (by kernel_rfl) (by rfl) (by exact fun _ _ _ _ h => h) (Nat.le_refl _) ?_ | refine wpT_goN 4 (by simp only [List.getElem?_toArray, List.getElem?_cons_zero, List.getElem?_cons_succ] <;> rfl) (by decide +kernel) (by decide +kernel) (by kernel_rfl) (by rfl) (by exact fun _ _ _ _ h => h) (Nat.le_refl _) ?_ | refine wpT_goN 5 (by simp only [List.getElem?_toArray, List.getElem?_cons_zero, List.getElem?_cons_succ] <;> rfl) (by decide +kernel) (by decide +kernel) (by kernel_rfl) (by rfl) (by exact fun _ _ _ _ h => h) (Nat.le_refl _) ?_ | refine wpT_goN 6 (by simp only [List.getElem?_toArray, List.getElem?_cons_zero, List.getElem?_cons_succ] <;> rfl) (by decide +kernel) (by decide +kernel) (by kernel_rfl) (by rfl) (by exact fun _ _ _ _ h => h) (Nat.le_refl _) ?_ | refine wpT_goN 7 (by simp only [List.getElem?_toArray, List.getElem?_cons_zero, List.getElem?_cons_succ] <;> rfl) (by decide +kernel) (by decide +kernel) (by kernel_rfl) (by rfl) (by exact fun _ _ _ _ h => h) (Nat.le_refl _) ?_ | refine wpT_goN 8 (by simp only [List.getElem?_toArray, List.getElem?_cons_zero, List.getElem?_cons_succ] <;> rfl) (by decide +kernel) (by decide +kernel) (by kernel_rfl) (by rfl) (by exact fun _ _ _ _ h => h) (Nat.le_refl _) ?_ | refine wpT_goN 9 (by simp only [List.getElem?_toArray, List.getElem?_cons_zero, List.getElem?_cons_succ] <;> rfl) (by decide +kernel) (by decide +kernel) (by kernel_rfl) (by rfl) (by exact fun _ _ _ _ h => h) (Nat.le_refl _) ?_ | refine wpT_goN 10 (by simp only [List.getElem?_toArray, List.getElem?_cons_zero, List.getElem?_cons_succ] <;> rfl) (by decide +kernel) (by decide +kernel) (by kernel_rfl) (by rfl) (by exact fun _ _ _ _ h => h) (Nat.le_refl _) ?_ | refine wpT_goN 11 (by simp only [List.getElem?_toArray, List.getElem?_cons_zero, List.getElem?_cons_succ] <;> rfl) (by decide +kernel) (by decide +kernel) (by kernel_rfl) (by rfl) (by exact fun _ _ _ _ h => h) (Nat.le_refl _) ?_ | refine wpT_goN 12 (by simp only [List.getElem?_toArray, List.getElem?_cons_zero, List.getElem?_cons_succ] <;> rfl) (by decide +kernel) (by decide +kernel) (by kernel_rfl) (by rfl) (by exact fun _ _ _ _ h => h) (Nat.le_refl _) ?_ | refine wpT_goN 13 (by simp only [List.getElem?_toArray, List.getElem?_cons_zero, List.getElem?_cons_succ] <;> rfl) (by decide +kernel) (by decide +kernel) (by kernel_rfl) (by rfl) (by exact fun _ _ _ _ h => h) (Nat.le_refl _) ?_ | refine wpT_goN 14 (by simp only [List.getElem?_toArray, List.getElem?_cons_zero, List.getElem?_cons_succ] <;> rfl) (by decide +kernel) (by decide +kernel) (by kernel_rfl) (by rfl) (by exact fun _ _ _ _ h => h) (Nat.le_refl _) ?_); apply Exists.intro; refine ⟨fun w1 h1 => ?_, ?_⟩; (first | exact g_move _ rfl | exact g_assign _ rfl | exact g_load_mid _ _ rfl rfl (HROW w1 h1) TOp' (evv o) rfl | (have fct0 := F w1 h1; go_simp; first | exact ⟨rfl, rfl⟩ | rfl)); simp only [Act.put, Act.eval, List.setIfInBounds_toArray, List.set_cons_zero, List.set_cons_succ, Array.getD_eq_getD_getElem?, List.getElem?_toArray, List.getElem?_cons_zero, List.getElem?_cons_succ, Option.getD_some]) | ((first | refine wpT_skip 0 (by simp only [List.getElem?_toArray, List.getElem?_cons_zero, List.getElem?_cons_succ] <;> rfl) (by decide +kernel) (by decide +kernel) (by kernel_rfl) (by rfl) (by exact fun _ _ _ _ h => h) (Nat.le_refl _) ?_ | refine wpT_skip 1 (by simp only [List.getElem?_toArray, List.getElem?_cons_zero, List.getElem?_cons_succ] <;> rfl) (by decide +kernel) (by decide +kernel) (by kernel_rfl) (by rfl) (by exact fun _ _ _ _ h => h) (Nat.le_refl _) ?_ | refine wpT_skip 2 (by simp only [List.getElem?_toArray, List.getElem?_cons_zero, List.getElem?_cons_succ] <;> rfl) (by decide +kernel) (by decide +kernel) (by kernel_rfl) (by rfl) (by exact fun _ _ _ _ h => h) (Nat.le_refl _) ?_ | refine wpT_skip 3 (by simp only [List.getElem?_toArray, List.getElem?_cons_zero, List.getElem?_cons_succ] <;> rfl) (by decide +kernel) (by decide +kernel) (by kernel_rfl) (by rfl) (by exact fun _ _ _ _ h => h) (Nat.le_refl _) ?_ | refine wpT_skip 4 (by simp only [List.getElem?_toArray, List.getElem?_cons_zero, List.getElem?_cons_succ] <;> rfl) (by decide +kernel) (by decide +kernel) (by kernel_rfl) (by rfl) (by exact fun _ _ _ _ h => h) (Nat.le_refl _) ?_ | refine wpT_skip 5 (by simp only [List.getElem?_toArray, List.getElem?_cons_zero, List.getElem?_cons_succ] <;> rfl) (by decide +kernel) (by decide +kernel) (by kernel_rfl) (by rfl) (by exact fun _ _ _ _ h => h) (Nat.le_refl _) ?_ | refine wpT_skip 6 (by simp only [List.getElem?_toArray, List.getElem?_cons_zero, List.getElem?_cons_succ] <;> rfl) (by decide +kernel) (by decide +kernel) (by kernel_rfl) (by rfl) (by exact fun _ _ _ _ h => h) (Nat.le_refl _) ?_ | refine wpT_skip 7 (by simp only [List.getElem?_toArray, List.getElem?_cons_zero, List.getElem?_cons_succ] <;> rfl) (by decide +kernel) (by decide +kernel) (by kernel_rfl) (by rfl) (by exact fun _ _ _ _ h => h) (Nat.le_refl _) ?_ | refine wpT_skip 8 (by simp only [List.getElem?_toArray, List.getElem?_cons_zero, List.getElem?_cons_succ] <;> rfl) (by decide +kernel) (by decide +kernel) (by kernel_rfl) (by rfl) (by exact fun _ _ _ _ h => h) (Nat.le_refl _) ?_ | refine wpT_skip 9 (by simp only [List.getElem?_toArray, List.getElem?_cons_zero, List.getElem?_cons_succ] <;> rfl) (by decide +kernel) (by decide +kernel) (by kernel_rfl) (by rfl) (by exact fun _ _ _ _ h => h) (Nat.le_refl _) ?_ | refine wpT_skip 10 (by simp only [List.getElem?_toArray, List.getElem?_cons_zero, List.getElem?_cons_succ] <;> rfl) (by decide +kernel) (by decide +kernel) (by kernel_rfl) (by rfl) (by exact fun _ _ _ _ h => h) (Nat.le_refl _) ?_ | refine wpT_skip 11 (by simp only [List.getElem?_toArray, List.getElem?_cons_zero, List.getElem?_cons_succ] <;> rfl) (by decide +kernel) (by decide +kernel) (by kernel_rfl) (by rfl) (by exact fun _ _ _ _ h => h) (Nat.le_refl _) ?_ | refine wpT_skip 12 (by simp only [List.getElem?_toArray, List.getElem?_cons_zero, List.getElem?_cons_succ] <;> rfl) (by decide +kernel) (by decide +kernel) (by kernel_rfl) (by rfl) (by exact fun _ _ _ _ h => h) (Nat.le_refl _) ?_ | refine wpT_skip 13 (by simp only [List.getElem?_toArray, List.getElem?_cons_zero, List.getElem?_cons_succ] <;> rfl) (by decide +kernel) (by decide +kernel) (by kernel_rfl) (by rfl) (by exact fun _ _ _ _ h => h) (Nat.le_refl _) ?_ | refine wpT_skip 14 (by simp only [List.getElem?_toArray, List.getElem?_cons_zero, List.getElem?_cons_succ] <;> rfl) (by decide +kernel) (by decide +kernel) (by kernel_rfl) (by rfl) (by exact fun _ _ _ _ h => h) (Nat.le_refl _) ?_); simp only [Act.put, Act.eval, List.setIfInBounds_toArray, List.set_cons_zero, List.set_cons_succ, Array.getD_eq_getD_getElem?, List.getElem?_toArray, List.getElem?_cons_zero, List.getElem?_cons_succ, Option.getD_some]) | ((first | refine wpT_goA 0 (by simp only [List.getElem?_toArray, List.getElem?_cons_zero, List.getElem?_cons_succ] <;> rfl) (by decide +kernel) (by decide +kernel) (by kernel_rfl) (by rfl) (by exact fun _ _ _ _ h => h) ?_ | refine wpT_goA 1 (by simp only [List.getElem?_toArray, List.getElem?_cons_zero, List.getElem?_cons_succ] <;> rfl) (by decide +kernel) (by decide +kernel) (by kernel_rfl) (by rfl) (by exact fun _ _ _ _ h => h) ?_ | refine wpT_goA 2 (by simp only [List.getElem?_toArray, List.getElem?_cons_zero, List.getElem?_cons_succ] <;> rfl) (by decide +kernel) (by decide +kernel) (by kernel_rfl) (by rfl) (by exact fun _ _ _ _ h => h) ?_ | refine wpT_goA 3 (by simp only [List.getElem?_toArray, List.getElem?_cons_zero, List.getElem?_cons_succ] <;> rfl) (by decide +kernel) (by decide +kernel) (by kernel_rfl) (by rfl) (by exact fun _ _ _ _ h => h) ?_ | refine wpT_goA 4 (by simp only [List.getElem?_toArray, List.getElem?_cons_zero, List.getElem?_cons_succ] <;> rfl) (by decide +kernel) (by decide +kernel) (by kernel_rfl) (by rfl) (by exact fun _ _ _ _ h => h) ?_ | refine wpT_goA 5 (by simp only [List.getElem?_toArray, List.getElem?_cons_zero, List.getElem?_cons_succ] <;> rfl) (by decide +kernel) (by decide +kernel) (by kernel_rfl) (by rfl) (by exact fun _ _ _ _ h => h) ?_ | refine wpT_goA 6 (by simp only [List.getElem?_toArray, List.getElem?_cons_zero, List.getElem?_cons_succ] <;> rfl) (by decide +kernel) (by decide +kernel) (by kernel_rfl) (by rfl) (by exact fun _ _ _ _ h => h) ?_ | refine wpT_goA 7 (by simp only [List.getElem?_toArray, List.getElem?_cons_zero, List.getElem?_cons_succ] <;> rfl) (by decide +kernel) (by decide +kernel) (by kernel_rfl) (by rfl) (by exact fun _ _ _ _ h => h) ?_ | refine wpT_goA 8 (by simp only [List.getElem?_toArray, List.getElem?_cons_zero, List.getElem?_cons_succ] <;> rfl) (by decide +kernel) (by decide +kernel) (by kernel_rfl) (by rfl) (by exact fun _ _ _ _ h => h) ?_ | refine wpT_goA 9 (by simp only [List.getElem?_toArray, List.getElem?_cons_zero, List.getElem?_cons_succ] <;> rfl) (by decide +kernel) (by decide +kernel) (by kernel_rfl) (by rfl) (by exact fun _ _ _ _ h => h) ?_ | refine wpT_goA 10 (by simp only [List.getElem?_toArray, List.getElem?_cons_zero, List.getElem?_cons_succ] <;> rfl) (by decide +kernel) (by decide +kernel) (by kernel_rfl) (by rfl) (by exact fun _ _ _ _ h => h) ?_ | refine wpT_goA 11 (by simp only [List.getElem?_toArray, List.getElem?_cons_zero, List.getElem?_cons_succ] <;> rfl) (by decide +kernel) (by decide +kernel) (by kernel_rfl) (by rfl) (by exact fun _ _ _ _ h => h) ?_ | refine wpT_goA 12 (by simp only [List.getElem?_toArray, List.getElem?_cons_zero, List.getElem?_cons_succ] <;> rfl) (by decide +kernel) (by decide +kernel) (by kernel_rfl) (by rfl) (by exact fun _ _ _ _ h => h) ?_ | refine wpT_goA 13 (by simp only [List.getElem?_toArray, List.getElem?_cons_zero, List.getElem?_cons_succ] <;> rfl) (by decide +kernel) (by decide +kernel) (by kernel_rfl) (by rfl) (by exact fun _ _ _ _ h => h) ?_ | refine wpT_goA 14 (by simp only [List.getElem?_toArray, List.getElem?_cons_zero, List.getElem?_cons_succ] <;> rfl) (by decide +kernel) (by decide +kernel) (by kernel_rfl) (by rfl) (by exact fun _ _ _ _ h => h) ?_); apply Exists.intro; refine ⟨fun w1 => ?_, ?_⟩; (first | exact a_move _ rfl | exact a_assign _ rfl | (go_simp; first | exact ⟨rfl, rfl⟩ | rfl)); simp only [Act.put, Act.eval, List.setIfInBounds_toArray, List.set_cons_zero, List.set_cons_succ, Array.getD_eq_getD_getElem?, List.getElem?_toArray, List.getElem?_cons_zero, List.getElem?_cons_succ, Option.getD_some])))
  clear F HROW
  refine wpT_last (by decide +kernel) (by decide +kernel) (by simp only [List.getElem?_toArray, List.getElem?_cons_zero, List.getElem?_cons_succ] <;> rfl) rfl ?_
  intro w3 hw3
  refine wp_storeB TOp' _ _ rfl rfl rfl rfl (hw3.box HBX.out) rfl (evv_all o) ?_
  intro w4 hw4
  go_wp2
  refine bodyPost_ret (res_c Try.results87 rfl (B := w.heap.size) (c := evv o) (t := 98) (hw4.box ((hw3.box HBX.out).setRow _)) TOp') rfl ⟨rfl, ?_⟩
  exact (((HW.out.trans hw3).setRow w.heap.size (Nat.le_refl _) _).trans hw4).out
def enB (P : List (List Ev)) (x : Mc) (o : Ev) : Bool :=
  if o.k = 4 then decide (x.o o.t.toNat = -1) else if o.k = 7 then x.b o.t.toNat && !(x.b o.t.toNat && decide (x.a o.t.toNat < (opsP P o.t.toNat).length)) else true
set_option maxHeartbeats 4000000 in
theorem enab_any {P : List (List Ev)} {o : Ev} (hi : isOp o = true) (hb : MBx w M A n c x LV) (hP : Prg w A n P) (hnc : n ≤ c) (h6 : n ≤ 6) (hbt : ∀ t, t < 6 → x.b t = true → t < n) :
    Calls Try.prog 86 #[.pointer (some ⟨M, 0, none⟩), .agg (evv o)] w fun e w' => e = .returned (.bool (enB P x o)) ∧ Below w.heap.size w w' := by
  obtain ⟨hk1, hk9, h0, _, h4, h7, _⟩ := isOp_obj hi
  obtain ⟨v, hv⟩ : ∃ v : Nat, o.t = v := ⟨o.t.toNat, by omega⟩
  have HBW := Lib.hid (show Bel w (w.alloc (.cells (evv o) 98)) from (Bel.refl w).alloc _)
  have bx := Box.new w (evv o) 98
  have hb1 := hb.bel HBW.out
  have HP1 := Lib.hid (hP.bel HBW.out)
  have HBT := Lib.hid hbt
  have c0 := bx.cell 0 (v := .int .i64 o.k) rfl
  have F1 := fun (w' : World) (h : Bel (w.alloc (.cells (evv o) 98)) w') => h.cell ((bx.cell 1 (v := .int .i64 o.t) rfl).trans (by rw [hv]))
  have HF1 := Lib.hid F1
  have HB1 := Lib.hid hb1
  have HVE := Lib.hid (show enB P x o = if o.k = 4 then decide (x.o v = -1) else if o.k = 7 then x.b v && !(x.b v && decide (x.a v < (opsP P v).length)) else true by unfold enB; rw [hv, Int.toNat_natCast])
  clear hb hP bx F1 hb1 hbt
  by_cases k4 : o.k = 4
  · have hv5 : v < 5 := by have := h4 (.inl k4); omega
    have hv5' : (v : Int) < 5 := by omega
    have k4' : (o.k == 4) = true := by simpa using k4
    have HV := Lib.hid (show enB P x o = decide (x.o v = -1) by rw [HVE.out, if_pos k4])
    have F := fun (w' : World) (h : Bel (w.alloc (.cells (evv o) 98)) w') => And.intro (HF1.out w' h) ((HB1.out.bel h).own hv5)
    have HF := Lib.hid F
    clear F k4 hv h4 h7 h0 hk1 hk9
    generalize hX : w.alloc (.cells (evv o) 98) = W at *
    go_enter Try.func86, Try.ntmps86
    go_wp2
    clear hX
    (refine region_bel (by kernel_rfl) (by kernel_rfl) ?_; (repeat (first | ((with_reducible refine BigFrame.wpQuiet_skip ?_ ?_); exact rfl; simp only [Act.put, Act.eval, List.setIfInBounds_toArray, List.set_cons_zero, List.set_cons_succ, Array.getD_eq_getD_getElem?, List.getElem?_toArray, List.getElem?_cons_zero, List.getElem?_cons_succ, Option.getD_some]) | (refine q_move _ rfl rfl ?_; simp only [Act.put, Act.eval, List.setIfInBounds_toArray, List.set_cons_zero, List.set_cons_succ, Array.getD_eq_getD_getElem?, List.getElem?_toArray, List.getElem?_cons_zero, List.getElem?_cons_succ, Option.getD_some]) | (refine q_assign _ rfl rfl ?_; simp only [Act.put, Act.eval, List.setIfInBounds_toArray, List.set_cons_zero, List.set_cons_succ, Array.getD_eq_getD_getElem?, List.getElem?_toArray, List.getElem?_cons_zero, List.getElem?_cons_succ, Option.getD_some]) | (refine q_any rfl ?_; apply Exists.intro; refine ⟨fun w hw => ?_, ?_⟩; (have fct0 := HF.out w hw; go_simp; first | exact ⟨rfl, rfl⟩ | rfl); simp only [Act.put, Act.eval, List.setIfInBounds_toArray, List.set_cons_zero, List.set_cons_succ, Array.getD_eq_getD_getElem?, List.getElem?_toArray, List.getElem?_cons_zero, List.getElem?_cons_succ, Option.getD_some]))); refine wpQuiet_nil ?_; intro w2 hw2)
    go_wp2
    go_ret
    refine ⟨?_, (HBW.out.trans hw2).out⟩
    refine ret_val (congrArg Value.bool ?_)
    rw [HV.out, Bool.eq_iff_iff]
    simp
  · have k4' : (o.k == 4) = false := by simpa using k4
    by_cases k7 : o.k = 7
    · have hv6 : v < 6 := by have := h7 (.inr k7); omega
      have hv6' : (v : Int) < 6 := by omega
      have k7' : (o.k == 7) = true := by simpa using k7
      have HV := Lib.hid (show enB P x o = (x.b v && !(x.b v && decide (x.a v < (opsP P v).length))) by rw [HVE.out, if_neg k4, if_pos k7])
      clear k4 k7 hv h4 h7 h0 hk1 hk9
      generalize hX : w.alloc (.cells (evv o) 98) = W at *
      cases hbv : x.b v
      · have F := fun (w' : World) (h : Bel W w') => And.intro (HF1.out w' h) (show w'.cell? ⟨M, 1 + v, none⟩ = some (.bool false) by rw [← hbv]; exact (HB1.out.bel h).beg hv6)
        have HF := Lib.hid F
        clear F
        go_enter Try.func86, Try.ntmps86
        go_wp2
        clear hX
        (refine region_bel (by kernel_rfl) (by kernel_rfl) ?_; (repeat (first | ((with_reducible refine BigFrame.wpQuiet_skip ?_ ?_); exact rfl; simp only [Act.put, Act.eval, List.setIfInBounds_toArray, List.set_cons_zero, List.set_cons_succ, Array.getD_eq_getD_getElem?, List.getElem?_toArray, List.getElem?_cons_zero, List.getElem?_cons_succ, Option.getD_some]) | (refine q_move _ rfl rfl ?_; simp only [Act.put, Act.eval, List.setIfInBounds_toArray, List.set_cons_zero, List.set_cons_succ, Array.getD_eq_getD_getElem?, List.getElem?_toArray, List.getElem?_cons_zero, List.getElem?_cons_succ, Option.getD_some]) | (refine q_assign _ rfl rfl ?_; simp only [Act.put, Act.eval, List.setIfInBounds_toArray, List.set_cons_zero, List.set_cons_succ, Array.getD_eq_getD_getElem?, List.getElem?_toArray, List.getElem?_cons_zero, List.getElem?_cons_succ, Option.getD_some]) | (refine q_any rfl ?_; apply Exists.intro; refine ⟨fun w hw => ?_, ?_⟩; (have fct0 := HF.out w hw; go_simp; first | exact ⟨rfl, rfl⟩ | rfl); simp only [Act.put, Act.eval, List.setIfInBounds_toArray, List.set_cons_zero, List.set_cons_succ, Array.getD_eq_getD_getElem?, List.getElem?_toArray, List.getElem?_cons_zero, List.getElem?_cons_succ, Option.getD_some]))); refine wpQuiet_nil ?_; intro w2 hw2)
        go_wp2
        go_ret
        exact ⟨by rw [HV.out, hbv]; rfl, (HBW.out.trans hw2).out⟩
      · have F := fun (w' : World) (h : Bel W w') => And.intro (HF1.out w' h) (show w'.cell? ⟨M, 1 + v, none⟩ = some (.bool true) by rw [← hbv]; exact (HB1.out.bel h).beg hv6)
        have HF := Lib.hid F
        clear F
        go_enter Try.func86, Try.ntmps86
        go_wp2
        clear hX
        (refine region_bel (by kernel_rfl) (by kernel_rfl) ?_; (repeat (first | ((with_reducible refine BigFrame.wpQuiet_skip ?_ ?_); exact rfl; simp only [Act.put, Act.eval, List.setIfInBounds_toArray, List.set_cons_zero, List.set_cons_succ, Array.getD_eq_getD_getElem?, List.getElem?_toArray, List.getElem?_cons_zero, List.getElem?_cons_succ, Option.getD_some]) | (refine q_move _ rfl rfl ?_; simp only [Act.put, Act.eval, List.setIfInBounds_toArray, List.set_cons_zero, List.set_cons_succ, Array.getD_eq_getD_getElem?, List.getElem?_toArray, List.getElem?_cons_zero, List.getElem?_cons_succ, Option.getD_some]) | (refine q_assign _ rfl rfl ?_; simp only [Act.put, Act.eval, List.setIfInBounds_toArray, List.set_cons_zero, List.set_cons_succ, Array.getD_eq_getD_getElem?, List.getElem?_toArray, List.getElem?_cons_zero, List.getElem?_cons_succ, Option.getD_some]) | (refine q_any rfl ?_; apply Exists.intro; refine ⟨fun w hw => ?_, ?_⟩; (have fct0 := HF.out w hw; go_simp; first | exact ⟨rfl, rfl⟩ | rfl | (go_at_call 56; (with_reducible refine (more_any v (HB1.out.bel hw) (HP1.out.bel hw) hnc h6 hv6 (HBT.out v hv6)).mono ?_); rintro e w' ⟨rfl, hb⟩; exact ⟨rfl, hw.call hb⟩)); simp only [Act.put, Act.eval, List.setIfInBounds_toArray, List.set_cons_zero, List.set_cons_succ, Array.getD_eq_getD_getElem?, List.getElem?_toArray, List.getElem?_cons_zero, List.getElem?_cons_succ, Option.getD_some]))); refine wpQuiet_nil ?_; intro w2 hw2)
        go_wp2
        go_ret
        exact ⟨by rw [HV.out, hbv]; rfl, (HBW.out.trans hw2).out⟩
    · have k7' : (o.k == 7) = false := by simpa using k7
      have HV := Lib.hid (show enB P x o = true by rw [HVE.out, if_neg k4, if_neg k7])
      clear k4 k7 hv h4 h7 h0 hk1 hk9
      go_enter Try.func86, Try.ntmps86
      go_wp2
      go_ret
      exact ⟨by rw [HV.out]; rfl, HBW.out.out⟩
theorem enabv_any {P : List (List Ev)} {o : Ev} (v : Bool) (hv : enB P x o = v) (hi : isOp o = true) (hb : MBx w M A n c x LV) (hP : Prg w A n P) (hnc : n ≤ c) (h6 : n ≤ 6) (hbt : ∀ t, t < 6 → x.b t = true → t < n) :
    Calls Try.prog 86 #[.pointer (some ⟨M, 0, none⟩), .agg (evv o)] w fun e w' => e = .returned (.bool v) ∧ Below w.heap.size w w' := hv ▸ enab_any hi hb hP hnc h6 hbt
end Go.Proofs.Yticnponenkfneaa
namespace Go.Proofs.Yticnponenkfneaa
open Go Go.RowKit

variable {w w' : World} {M : Nat} {A : Option Addr} {n c : Nat} {s : Ps} {LV : Value}
theorem enB_can {P : List (List Ev)} (hO : OkP P) (hR : PsR P s) {u : Nat} {o : Ev} (ho : (opsP P u)[s.a u]? = some o) : enB P (mcP s) o = canO P s u o := by
  obtain ⟨hk1, hk9, h0, _, h4, h7, _⟩ := isOp_obj (hO.op u o (List.mem_of_getElem? ho))
  obtain ⟨v, hv⟩ : ∃ v : Nat, o.t = v := ⟨o.t.toNat, by omega⟩
  have hlt := (List.getElem?_eq_some_iff.1 ho).1
  unfold enB canO mcP
  rw [hv, Int.toNat_natCast]
  by_cases k4 : o.k = 4
  · rw [if_pos k4, if_pos k4]
    have := (owner_range (may_fit (hR.may hO)) (v : Nat)).1
    show decide (owner s.L (v : Nat) = -1) = _
    rw [decide_eq_decide]
    omega
  · rw [if_neg k4, if_neg k4]
    by_cases k7 : o.k = 7
    · rw [if_pos k7, if_pos k7]
      show (begun s.L (v : Nat) && !(begun s.L (v : Nat) && decide (s.a v < (opsP P v).length))) = _
      cases hb : begun s.L (v : Nat)
      · simp
      · have hvn : v < P.length := by
          rcases Nat.lt_or_ge v P.length with h | h
          · exact h
          · rw [hR.out v h] at hb; cases hb
        have hle := hR.le v
        rw [decide_eq_true (p := ((v : Nat) : Int) < (P.length : Int)) (by omega), Bool.true_and, Bool.true_and, Bool.true_and]
        by_cases huv : v = u
        · subst huv
          rw [decide_eq_true hlt, decide_eq_false (by simp)]
          rfl
        · rw [decide_eq_true (p := ((v : Nat) : Int) ≠ ((u : Nat) : Int)) (by omega), Bool.true_and, Bool.eq_iff_iff]
          simp
          omega
    · rw [if_neg k7, if_neg k7]
theorem beg_lt {P : List (List Ev)} (hR : PsR P s) (hn : P.length = n) : ∀ t, t < 6 → (mcP s).b t = true → t < n := fun t _ h => by
  rcases Nat.lt_or_ge t n with h1 | h1
  · exact h1
  · have := hR.out t (by omega)
    rw [show (mcP s).b t = begun s.L (t : Nat) from rfl, this] at h
    cases h
theorem more_val {P : List (List Ev)} (hR : PsR P s) (t : Nat) : ((mcP s).b t && decide ((mcP s).a t < (opsP P t).length)) = (begun s.L (t : Nat) && !decide (s.a t = (opsP P t).length)) := by
  show (begun s.L (t : Nat) && decide (s.a t < (opsP P t).length)) = _
  have := hR.le t
  congr 1
  rw [Bool.eq_iff_iff]
  simp
  omega
set_option maxHeartbeats 8000000 in
theorem mcan_any (t : Int) {P : List (List Ev)} (hb : MBx w M A n c (mcP s) LV) (hP : Prg w A n P) (hnc : n ≤ c) (hO : OkP P) (hR : PsR P s) :
    Calls Try.prog 54 #[.pointer (some ⟨M, 0, none⟩), .int .i64 t] w fun e w' => e = .returned (.bool (decide (0 ≤ t) && canP P s t.toNat)) ∧ Below w.heap.size w w' := by
  have HB := Lib.hid hb
  have HP := Lib.hid hP
  have h6 : n ≤ 6 := by rw [← hP.1]; exact hO.six
  have HLN := Lib.hid hP.1
  have HBT := Lib.hid (beg_lt hR hP.1)
  have HF := Lib.hid (fun (w1 : World) (h1 : Bel w w1) => (hb.bel h1).p)
  have HPR := Lib.hid hR
  have HOK := Lib.hid hO
  clear hb hP hO hR
  by_cases h0 : 0 ≤ t
  · obtain ⟨u, rfl⟩ : ∃ u : Nat, t = u := ⟨t.toNat, by omega⟩
    by_cases hun : u < n
    · have hun' : (u : Int) < n := by omega
      have hu6 : u < 6 := by omega
      cases hm : begun s.L (u : Nat) && !decide (s.a u = (opsP P u).length)
      · have HV := Lib.hid (show canP P s u = false by
          cases hb : begun s.L (u : Nat)
          · exact can_late hb
          · rw [hb] at hm
            simp at hm
            exact can_over (by rw [hm]; exact List.getElem?_eq_none (Nat.le_refl _)))
        have HM := Lib.hid ((more_val HPR.out u).trans hm)
        clear hm
        go_enter Try.func54, Try.ntmps54
        go_wp2_with (first | (refine list_bel 23 rfl ?_; (repeat (first | ((with_reducible refine BigFrame.wpQuiet_skip ?_ ?_); exact rfl; simp only [Act.put, Act.eval, List.setIfInBounds_toArray, List.set_cons_zero, List.set_cons_succ, Array.getD_eq_getD_getElem?, List.getElem?_toArray, List.getElem?_cons_zero, List.getElem?_cons_succ, Option.getD_some]) | (refine q_move _ rfl rfl ?_; simp only [Act.put, Act.eval, List.setIfInBounds_toArray, List.set_cons_zero, List.set_cons_succ, Array.getD_eq_getD_getElem?, List.getElem?_toArray, List.getElem?_cons_zero, List.getElem?_cons_succ, Option.getD_some]) | (refine q_assign _ rfl rfl ?_; simp only [Act.put, Act.eval, List.setIfInBounds_toArray, List.set_cons_zero, List.set_cons_succ, Array.getD_eq_getD_getElem?, List.getElem?_toArray, List.getElem?_cons_zero, List.getElem?_cons_succ, Option.getD_some]) | (refine q_any rfl ?_; apply Exists.intro; refine ⟨fun w hw => ?_, ?_⟩; (have fct0 := HF.out w hw; go_simp; first | exact ⟨rfl, rfl⟩ | rfl | (go_at_call 56; (with_reducible refine (morev_any u false HM.out (HB.out.bel hw) (HP.out.bel hw) hnc h6 hu6 (HBT.out u hu6)).mono ?_); rintro e w' ⟨rfl, hb⟩; exact ⟨rfl, hw.call hb⟩)); simp only [Act.put, Act.eval, List.setIfInBounds_toArray, List.set_cons_zero, List.set_cons_succ, Array.getD_eq_getD_getElem?, List.getElem?_toArray, List.getElem?_cons_zero, List.getElem?_cons_succ, Option.getD_some]))); refine wpQuiet_nil ?_; intro w2 hw2))
        go_ret
        exact ⟨by rw [Int.toNat_natCast, HV.out, Bool.and_false]; rfl, hw2.out⟩
      · have HM := Lib.hid ((more_val HPR.out u).trans hm)
        have hbg : begun s.L (u : Nat) = true := by simp at hm; exact hm.1
        have hlt : s.a u < (opsP P u).length := by have := HPR.out.le u; simp at hm; omega
        obtain ⟨o, ho⟩ : ∃ o, (opsP P u)[s.a u]? = some o := ⟨_, List.getElem?_eq_getElem hlt⟩
        have HV := Lib.hid (show canP P s u = canO P s u o from can_at (by rw [HLN.out]; exact hun) hbg ho)
        have HE := Lib.hid (enB_can HOK.out HPR.out ho)
        have HI := Lib.hid (HOK.out.op u o (List.mem_of_getElem? ho))
        have HHO := Lib.hid (show (opsP P u)[(mcP s).a u]? = some o from ho)
        clear hm hbg hlt ho
        go_enter Try.func54, Try.ntmps54
        go_wp2_with (first | (refine list_bel 23 rfl ?_; (repeat (first | ((with_reducible refine BigFrame.wpQuiet_skip ?_ ?_); exact rfl; simp only [Act.put, Act.eval, List.setIfInBounds_toArray, List.set_cons_zero, List.set_cons_succ, Array.getD_eq_getD_getElem?, List.getElem?_toArray, List.getElem?_cons_zero, List.getElem?_cons_succ, Option.getD_some]) | (refine q_move _ rfl rfl ?_; simp only [Act.put, Act.eval, List.setIfInBounds_toArray, List.set_cons_zero, List.set_cons_succ, Array.getD_eq_getD_getElem?, List.getElem?_toArray, List.getElem?_cons_zero, List.getElem?_cons_succ, Option.getD_some]) | (refine q_assign _ rfl rfl ?_; simp only [Act.put, Act.eval, List.setIfInBounds_toArray, List.set_cons_zero, List.set_cons_succ, Array.getD_eq_getD_getElem?, List.getElem?_toArray, List.getElem?_cons_zero, List.getElem?_cons_succ, Option.getD_some]) | (refine q_any rfl ?_; apply Exists.intro; refine ⟨fun w hw => ?_, ?_⟩; (have fct0 := HF.out w hw; go_simp; first | exact ⟨rfl, rfl⟩ | rfl | (go_at_call 56; (with_reducible refine (morev_any u true HM.out (HB.out.bel hw) (HP.out.bel hw) hnc h6 hu6 (HBT.out u hu6)).mono ?_); rintro e w' ⟨rfl, hb⟩; exact ⟨rfl, hw.call hb⟩) | (go_at_call 87; (with_reducible refine (next_any u (HB.out.bel hw) (HP.out.bel hw) hnc h6 hun HHO.out).mono ?_); rintro e w' ⟨rfl, hb⟩; exact ⟨rfl, hw.call hb⟩) | (go_at_call 86; (with_reducible refine (enabv_any _ HE.out HI.out (HB.out.bel hw) (HP.out.bel hw) hnc h6 HBT.out).mono ?_); rintro e w' ⟨rfl, hb⟩; exact ⟨rfl, hw.call hb⟩)); simp only [Act.put, Act.eval, List.setIfInBounds_toArray, List.set_cons_zero, List.set_cons_succ, Array.getD_eq_getD_getElem?, List.getElem?_toArray, List.getElem?_cons_zero, List.getElem?_cons_succ, Option.getD_some]))); refine wpQuiet_nil ?_; intro w2 hw2))
        go_ret
        exact ⟨by rw [Int.toNat_natCast, HV.out, decide_eq_true h0]; rfl, hw2.out⟩
    · have hun' : ¬ (u : Int) < n := by omega
      have HV := Lib.hid (show canP P s u = false by unfold canP; rw [decide_eq_false (by rw [HLN.out]; exact hun), Bool.false_and])
      go_enter Try.func54, Try.ntmps54
      go_wp2_with (first | (refine list_bel 23 rfl ?_; (repeat (first | ((with_reducible refine BigFrame.wpQuiet_skip ?_ ?_); exact rfl; simp only [Act.put, Act.eval, List.setIfInBounds_toArray, List.set_cons_zero, List.set_cons_succ, Array.getD_eq_getD_getElem?, List.getElem?_toArray, List.getElem?_cons_zero, List.getElem?_cons_succ, Option.getD_some]) | (refine q_move _ rfl rfl ?_; simp only [Act.put, Act.eval, List.setIfInBounds_toArray, List.set_cons_zero, List.set_cons_succ, Array.getD_eq_getD_getElem?, List.getElem?_toArray, List.getElem?_cons_zero, List.getElem?_cons_succ, Option.getD_some]) | (refine q_assign _ rfl rfl ?_; simp only [Act.put, Act.eval, List.setIfInBounds_toArray, List.set_cons_zero, List.set_cons_succ, Array.getD_eq_getD_getElem?, List.getElem?_toArray, List.getElem?_cons_zero, List.getElem?_cons_succ, Option.getD_some]) | (refine q_any rfl ?_; apply Exists.intro; refine ⟨fun w hw => ?_, ?_⟩; (have fct0 := HF.out w hw; go_simp; first | exact ⟨rfl, rfl⟩ | rfl); simp only [Act.put, Act.eval, List.setIfInBounds_toArray, List.set_cons_zero, List.set_cons_succ, Array.getD_eq_getD_getElem?, List.getElem?_toArray, List.getElem?_cons_zero, List.getElem?_cons_succ, Option.getD_some]))); refine wpQuiet_nil ?_; intro w2 hw2))
      go_ret
      exact ⟨by rw [HV.out]; rfl, hw2.out⟩
  · have HV := Lib.hid (show (decide (0 ≤ t) && canP P s t.toNat) = false by rw [decide_eq_false h0, Bool.false_and])
    go_enter Try.func54, Try.ntmps54
    go_wp2_with (first | (refine list_bel 23 rfl ?_; (repeat (first | ((with_reducible refine BigFrame.wpQuiet_skip ?_ ?_); exact rfl; simp only [Act.put, Act.eval, List.setIfInBounds_toArray, List.set_cons_zero, List.set_cons_succ, Array.getD_eq_getD_getElem?, List.getElem?_toArray, List.getElem?_cons_zero, List.getElem?_cons_succ, Option.getD_some]) | (refine q_move _ rfl rfl ?_; simp only [Act.put, Act.eval, List.setIfInBounds_toArray, List.set_cons_zero, List.set_cons_succ, Array.getD_eq_getD_getElem?, List.getElem?_toArray, List.getElem?_cons_zero, List.getElem?_cons_succ, Option.getD_some]) | (refine q_assign _ rfl rfl ?_; simp only [Act.put, Act.eval, List.setIfInBounds_toArray, List.set_cons_zero, List.set_cons_succ, Array.getD_eq_getD_getElem?, List.getElem?_toArray, List.getElem?_cons_zero, List.getElem?_cons_succ, Option.getD_some]) | (refine q_any rfl ?_; apply Exists.intro; refine ⟨fun w hw => ?_, ?_⟩; (have fct0 := HF.out w hw; go_simp; first | exact ⟨rfl, rfl⟩ | rfl); simp only [Act.put, Act.eval, List.setIfInBounds_toArray, List.set_cons_zero, List.set_cons_succ, Array.getD_eq_getD_getElem?, List.getElem?_toArray, List.getElem?_cons_zero, List.getElem?_cons_succ, Option.getD_some]))); refine wpQuiet_nil ?_; intro w2 hw2))
    go_ret
    exact ⟨by rw [HV.out]; rfl, hw2.out⟩
theorem mcanv_any (t : Int) {P : List (List Ev)} (v : Bool) (hv : (decide (0 ≤ t) && canP P s t.toNat) = v) (hb : MBx w M A n c (mcP s) LV) (hP : Prg w A n P) (hnc : n ≤ c) (hO : OkP P) (hR : PsR P s) :
    Calls Try.prog 54 #[.pointer (some ⟨M, 0, none⟩), .int .i64 t] w fun e w' => e = .returned (.bool v) ∧ Below w.heap.size w w' := hv ▸ mcan_any t hb hP hnc hO hR
theorem MBx.endr {x : Mc} (h : MBx w M A n c x LV) : w.rangeAt M 18 (endc x.m x.v x.h false false) := fun j v hj => by
  have h20 : j < 20 := by have := (List.getElem?_eq_some_iff.1 hj).1; simpa [endc] using this
  rw [h.endAt h20]
  have h1 : (vs 20 (endF x.m x.v x.h false false))[j]? = some v := by rw [end_vs]; simpa using hj
  rw [vs_get _ h20] at h1
  exact h1
end Go.Proofs.Yticnponenkfneaa
namespace Go.Proofs.Yticnponenkfneaa
open Go Go.RowKit

set_option maxHeartbeats 16000000 in
theorem outc_any {w : World} {M : Nat} {A : Option Addr} {n c : Nat} {s : Ps} {LV : Value} {P : List (List Ev)} (hb : MBx w M A n c (mcP s) LV) (hP : Prg w A n P) (hnc : n ≤ c) (hO : OkP P) (hR : PsR P s) :
    Calls Try.prog 30 #[.pointer (some ⟨M, 0, none⟩)] w fun e w' => e = .returned (.agg (endP P s)) ∧ Below w.heap.size w w' := by
  have h6 : n ≤ 6 := by rw [← hP.1]; exact hO.six
  have HLN := Lib.hid hP.1
  have HBT := Lib.hid (beg_lt hR hP.1)
  have HPR := Lib.hid hR
  have HOK := Lib.hid hO
  have HW1 := Lib.hid ((Bel.refl w).alloc (.cells z20 33))
  have HR1 := Lib.hid (Box.new w z20 33)
  have HB1 := Lib.hid (hb.bel HW1.out)
  have HP1 := Lib.hid (hP.bel HW1.out)
  have g0 := HB1.out.p
  clear hb hP hO hR
  go_enter Try.func30, Try.ntmps30
  go_upto_region 2 with fail
  change Code.wp _ _ _ _ (w.alloc (.cells z20 33))
  generalize w.alloc (.cells z20 33) = w1 at *
  have F0 := Lib.hid (show leftTo P s 0 = false from rfl)
  have F1 := Lib.hid (show goesTo P s 0 = false from rfl)
  go_wp2
  go_loopw [3, 4, 12] (fun q r t wr => ∃ i : Nat, i ≤ n ∧ t = .int .i64 i ∧ q = .bool (!leftTo P s i) ∧ r = .bool (!goesTo P s i) ∧ Bel w1 wr) (fun _ _ t _ => n - (intOf t).toNat)
  case atStart => exact ⟨0, by omega, rfl, by rw [F0.out]; rfl, by rw [F1.out]; rfl, Bel.refl _⟩
  case round =>
    obtain ⟨i, hi, rfl, rfl, rfl, hbr⟩ := hrel
    have HBR := Lib.hid hbr
    clear hbr g0
    by_cases hi1 : i < n
    · have hi2 : (i : Int) < n := by omega
      have hi6 : i < 6 := by omega
      have HPr := Lib.hid (HP1.out.bel HBR.out)
      have HBr := Lib.hid (HB1.out.bel HBR.out)
      have HLS := Lib.hid (leftTo_succ P s i)
      have HGS := Lib.hid (goesTo_succ P s i)
      have HMV := Lib.hid (more_val (P := P) (s := s) HPR.out i)
      have HNC := Lib.hid (show (decide (0 ≤ (i : Int)) && canP P s (i : Int).toNat) = canP P s i by rw [Int.toNat_natCast, decide_eq_true (by omega), Bool.true_and])
      generalize leftTo P s i = lf at *
      generalize goesTo P s i = gs at *
      generalize (begun s.L (i : Nat) && !decide (s.a i = (opsP P i).length)) = mv at *
      generalize canP P s i = cv at *
      cases lf
      · cases gs
        · go_upto_region 6 with (first | (refine list_bel 5 rfl ?_; (repeat (first | ((with_reducible refine BigFrame.wpQuiet_skip ?_ ?_); exact rfl; simp only [Act.put, Act.eval, List.setIfInBounds_toArray, List.set_cons_zero, List.set_cons_succ, Array.getD_eq_getD_getElem?, List.getElem?_toArray, List.getElem?_cons_zero, List.getElem?_cons_succ, Option.getD_some]) | (refine q_move _ rfl rfl ?_; simp only [Act.put, Act.eval, List.setIfInBounds_toArray, List.set_cons_zero, List.set_cons_succ, Array.getD_eq_getD_getElem?, List.getElem?_toArray, List.getElem?_cons_zero, List.getElem?_cons_succ, Option.getD_some]) | (refine q_assign _ rfl rfl ?_; simp only [Act.put, Act.eval, List.setIfInBounds_toArray, List.set_cons_zero, List.set_cons_succ, Array.getD_eq_getD_getElem?, List.getElem?_toArray, List.getElem?_cons_zero, List.getElem?_cons_succ, Option.getD_some]) | (refine q_any rfl ?_; apply Exists.intro; refine ⟨fun w hw => ?_, ?_⟩; (go_simp; first | exact ⟨rfl, rfl⟩ | rfl | (go_at_call 56; (with_reducible refine (morev_any i mv HMV.out (HBr.out.bel hw) (HPr.out.bel hw) hnc h6 hi6 (HBT.out i hi6)).mono ?_); rintro e w' ⟨rfl, hb⟩; exact ⟨rfl, hw.call hb⟩)); simp only [Act.put, Act.eval, List.setIfInBounds_toArray, List.set_cons_zero, List.set_cons_succ, Array.getD_eq_getD_getElem?, List.getElem?_toArray, List.getElem?_cons_zero, List.getElem?_cons_succ, Option.getD_some]))); refine wpQuiet_nil ?_; intro w2 hw2))
          have HWQ := Lib.hid hw2
          clear hw2
          go_wp2_with fail
          refine (mcanv_any (i : Nat) cv HNC.out (HBr.out.bel HWQ.out) (HPr.out.bel HWQ.out) hnc HOK.out HPR.out).mono ?_
          rintro e3 w3 ⟨rfl, hb3⟩
          have HW3 := Lib.hid (Bel.of hb3)
          clear hb3
          go_wp2
          go_roundw
          case rel => exact ⟨i + 1, by omega, by go_num, by rw [HLS.out]; simp, by rw [HGS.out]; simp, HBR.out.trans (HWQ.out.trans HW3.out)⟩
          case measure => simp [intOf]; omega
        · go_upto_region 6 with (first | (refine list_bel 5 rfl ?_; (repeat (first | ((with_reducible refine BigFrame.wpQuiet_skip ?_ ?_); exact rfl; simp only [Act.put, Act.eval, List.setIfInBounds_toArray, List.set_cons_zero, List.set_cons_succ, Array.getD_eq_getD_getElem?, List.getElem?_toArray, List.getElem?_cons_zero, List.getElem?_cons_succ, Option.getD_some]) | (refine q_move _ rfl rfl ?_; simp only [Act.put, Act.eval, List.setIfInBounds_toArray, List.set_cons_zero, List.set_cons_succ, Array.getD_eq_getD_getElem?, List.getElem?_toArray, List.getElem?_cons_zero, List.getElem?_cons_succ, Option.getD_some]) | (refine q_assign _ rfl rfl ?_; simp only [Act.put, Act.eval, List.setIfInBounds_toArray, List.set_cons_zero, List.set_cons_succ, Array.getD_eq_getD_getElem?, List.getElem?_toArray, List.getElem?_cons_zero, List.getElem?_cons_succ, Option.getD_some]) | (refine q_any rfl ?_; apply Exists.intro; refine ⟨fun w hw => ?_, ?_⟩; (go_simp; first | exact ⟨rfl, rfl⟩ | rfl | (go_at_call 56; (with_reducible refine (morev_any i mv HMV.out (HBr.out.bel hw) (HPr.out.bel hw) hnc h6 hi6 (HBT.out i hi6)).mono ?_); rintro e w' ⟨rfl, hb⟩; exact ⟨rfl, hw.call hb⟩)); simp only [Act.put, Act.eval, List.setIfInBounds_toArray, List.set_cons_zero, List.set_cons_succ, Array.getD_eq_getD_getElem?, List.getElem?_toArray, List.getElem?_cons_zero, List.getElem?_cons_succ, Option.getD_some]))); refine wpQuiet_nil ?_; intro w2 hw2))
          have HWQ := Lib.hid hw2
          clear hw2
          go_wp2
          go_roundw
          case rel => exact ⟨i + 1, by omega, by go_num, by rw [HLS.out]; simp, by rw [HGS.out]; simp, HBR.out.trans HWQ.out⟩
          case measure => simp [intOf]; omega
      · cases gs
        · go_upto_region 6 with fail
          go_wp2_with fail
          refine (mcanv_any (i : Nat) cv HNC.out HBr.out HPr.out hnc HOK.out HPR.out).mono ?_
          rintro e3 w3 ⟨rfl, hb3⟩
          have HW3 := Lib.hid (Bel.of hb3)
          clear hb3
          go_wp2
          go_roundw
          case rel => exact ⟨i + 1, by omega, by go_num, by rw [HLS.out]; simp, by rw [HGS.out]; simp, HBR.out.trans HW3.out⟩
          case measure => simp [intOf]; omega
        · go_wp2
          go_roundw
          case rel => exact ⟨i + 1, by omega, by go_num, by rw [HLS.out]; simp, by rw [HGS.out]; simp, HBR.out⟩
          case measure => simp [intOf]; omega
    · obtain rfl : n = i := by omega
      have HD := Lib.hid (show doneP P s = !leftTo P s n by rw [done_left, HLN.out])
      have HK := Lib.hid (show stuckP P s = (leftTo P s n && !goesTo P s n) by rw [stuck_left, HLN.out])
      have HRn := Lib.hid (HBR.out.box HR1.out)
      have HWn := Lib.hid (HW1.out.trans HBR.out)
      have hrr := (HB1.out.bel HBR.out).endr
      have HX3 := Lib.hid (Box.new wr z20 33)
      have hne1 : w.heap.size ≠ wr.heap.size := by have := HRn.out.lt; omega
      go_upto_region 9 with (first | (refine load_row (show RowTy Try.prog 33 (endc (mcP s).m (mcP s).v (mcP s).h false false).length from TEnd) _ rfl rfl rfl hrr ?_) | (refine storeB 33 _ _ rfl rfl rfl rfl (Box.new wr z20 33) rfl (by exact TEnd) (by rw [← end_vs]; exact vs_all endF_one) ?_))
      change Code.wp _ _ _ _ ((wr.alloc (.cells z20 33)).setRow wr.heap.size (endc (mcP s).m (mcP s).v (mcP s).h false false).toArray)
      have HB3 := Lib.hid (show Bel wr ((wr.alloc (.cells z20 33)).setRow wr.heap.size (endc (mcP s).m (mcP s).v (mcP s).h false false).toArray) from ((Bel.refl wr).alloc (.cells z20 33)).setRow wr.heap.size (Nat.le_refl _) _)
      have HX3 := Lib.hid (show Box ((wr.alloc (.cells z20 33)).setRow wr.heap.size (endc (mcP s).m (mcP s).v (mcP s).h false false).toArray) wr.heap.size (vs 20 (endF (mcP s).m (mcP s).v (mcP s).h false false)) 33 by rw [end_vs]; exact (Box.new wr z20 33).setRow _)
      have HW3 := Lib.hid (HWn.out.trans HB3.out)
      have HR3 := Lib.hid (HB3.out.box HRn.out)
      have hle2 : w.heap.size ≤ wr.heap.size := HWn.out.size
      clear hrr HB3 HWn HRn
      generalize ((wr.alloc (.cells z20 33)).setRow wr.heap.size (endc (mcP s).m (mcP s).v (mcP s).h false false).toArray) = w3 at *
      generalize wr.heap.size = E at *
      have e18 := HX3.out.cell 18 (vs_get _ (by omega))
      have z18 := HX3.out.frozen 18
      generalize leftTo P s n = lf at *
      generalize goesTo P s n = gs at *
      cases lf
      · cases gs
        · have hb1 := HX3.out.set 18 (.bool true)
          have e19 := hb1.cell 19 (v := .bool false) (by simp [vs]; rfl)
          have z19 := hb1.frozen 19
          have hb2 : Box ((w3.setCell ⟨E, 18, none⟩ (.bool true)).setCell ⟨E, 19, none⟩ (.bool false)) E (vs 20 (endF (mcP s).m (mcP s).v (mcP s).h true false)) 33 := by have h := hb1.set 19 (.bool false); rw [vs_set, vs_set, vs_congr (g' := endF (mcP s).m (mcP s).v (mcP s).h true false) end_two] at h; exact h
          have hr2 : Box ((w3.setCell ⟨E, 18, none⟩ (.bool true)).setCell ⟨E, 19, none⟩ (.bool false)) w.heap.size z20 33 := (HR3.out.set_ne ⟨E, 18, none⟩ _ hne1).set_ne ⟨E, 19, none⟩ _ hne1
          have hw2 : Bel w ((w3.setCell ⟨E, 18, none⟩ (.bool true)).setCell ⟨E, 19, none⟩ (.bool false)) := (HW3.out.setCell ⟨E, 18, none⟩ (by dsimp only; omega) _).setCell ⟨E, 19, none⟩ (by dsimp only; omega) _
          have HW9 := Lib.hid hw2
          clear hw2 hb1
          go_wp2_with (first | (refine loadB 33 _ rfl rfl rfl hb2 (TEv _) ?_) | (refine storeB 33 _ _ rfl rfl rfl rfl hr2 (by rw [vs_size]; rfl) (TEv _) (vs_all endF_one) ?_))
          refine bodyPost_ret (res_c Try.results30 rfl (B := w.heap.size) (c := (vs 20 (endF (mcP s).m (mcP s).v (mcP s).h true false))) (t := 33) (hr2.setRow _) (TEv _)) rfl ⟨?_, (HW9.out.setRow w.heap.size (Nat.le_refl _) _).out⟩
          unfold endP
          rw [end_vs, HD.out, HK.out]
          rfl
        · have hb1 := HX3.out.set 18 (.bool true)
          have e19 := hb1.cell 19 (v := .bool false) (by simp [vs]; rfl)
          have z19 := hb1.frozen 19
          have hb2 : Box ((w3.setCell ⟨E, 18, none⟩ (.bool true)).setCell ⟨E, 19, none⟩ (.bool false)) E (vs 20 (endF (mcP s).m (mcP s).v (mcP s).h true false)) 33 := by have h := hb1.set 19 (.bool false); rw [vs_set, vs_set, vs_congr (g' := endF (mcP s).m (mcP s).v (mcP s).h true false) end_two] at h; exact h
          have hr2 : Box ((w3.setCell ⟨E, 18, none⟩ (.bool true)).setCell ⟨E, 19, none⟩ (.bool false)) w.heap.size z20 33 := (HR3.out.set_ne ⟨E, 18, none⟩ _ hne1).set_ne ⟨E, 19, none⟩ _ hne1
          have hw2 : Bel w ((w3.setCell ⟨E, 18, none⟩ (.bool true)).setCell ⟨E, 19, none⟩ (.bool false)) := (HW3.out.setCell ⟨E, 18, none⟩ (by dsimp only; omega) _).setCell ⟨E, 19, none⟩ (by dsimp only; omega) _
          have HW9 := Lib.hid hw2
          clear hw2 hb1
          go_wp2_with (first | (refine loadB 33 _ rfl rfl rfl hb2 (TEv _) ?_) | (refine storeB 33 _ _ rfl rfl rfl rfl hr2 (by rw [vs_size]; rfl) (TEv _) (vs_all endF_one) ?_))
          refine bodyPost_ret (res_c Try.results30 rfl (B := w.heap.size) (c := (vs 20 (endF (mcP s).m (mcP s).v (mcP s).h true false))) (t := 33) (hr2.setRow _) (TEv _)) rfl ⟨?_, (HW9.out.setRow w.heap.size (Nat.le_refl _) _).out⟩
          unfold endP
          rw [end_vs, HD.out, HK.out]
          rfl
      · cases gs
        · have hb1 := HX3.out.set 18 (.bool false)
          have e19 := hb1.cell 19 (v := .bool false) (by simp [vs]; rfl)
          have z19 := hb1.frozen 19
          have hb2 : Box ((w3.setCell ⟨E, 18, none⟩ (.bool false)).setCell ⟨E, 19, none⟩ (.bool true)) E (vs 20 (endF (mcP s).m (mcP s).v (mcP s).h false true)) 33 := by have h := hb1.set 19 (.bool true); rw [vs_set, vs_set, vs_congr (g' := endF (mcP s).m (mcP s).v (mcP s).h false true) end_two] at h; exact h
          have hr2 : Box ((w3.setCell ⟨E, 18, none⟩ (.bool false)).setCell ⟨E, 19, none⟩ (.bool true)) w.heap.size z20 33 := (HR3.out.set_ne ⟨E, 18, none⟩ _ hne1).set_ne ⟨E, 19, none⟩ _ hne1
          have hw2 : Bel w ((w3.setCell ⟨E, 18, none⟩ (.bool false)).setCell ⟨E, 19, none⟩ (.bool true)) := (HW3.out.setCell ⟨E, 18, none⟩ (by dsimp only; omega) _).setCell ⟨E, 19, none⟩ (by dsimp only; omega) _
          have HW9 := Lib.hid hw2
          clear hw2 hb1
          go_wp2_with (first | (refine loadB 33 _ rfl rfl rfl hb2 (TEv _) ?_) | (refine storeB 33 _ _ rfl rfl rfl rfl hr2 (by rw [vs_size]; rfl) (TEv _) (vs_all endF_one) ?_))
          refine bodyPost_ret (res_c Try.results30 rfl (B := w.heap.size) (c := (vs 20 (endF (mcP s).m (mcP s).v (mcP s).h false true))) (t := 33) (hr2.setRow _) (TEv _)) rfl ⟨?_, (HW9.out.setRow w.heap.size (Nat.le_refl _) _).out⟩
          unfold endP
          rw [end_vs, HD.out, HK.out]
          rfl
        · have hb1 := HX3.out.set 18 (.bool false)
          have e19 := hb1.cell 19 (v := .bool false) (by simp [vs]; rfl)
          have z19 := hb1.frozen 19
          have hb2 : Box ((w3.setCell ⟨E, 18, none⟩ (.bool false)).setCell ⟨E, 19, none⟩ (.bool false)) E (vs 20 (endF (mcP s).m (mcP s).v (mcP s).h false false)) 33 := by have h := hb1.set 19 (.bool false); rw [vs_set, vs_set, vs_congr (g' := endF (mcP s).m (mcP s).v (mcP s).h false false) end_two] at h; exact h
          have hr2 : Box ((w3.setCell ⟨E, 18, none⟩ (.bool false)).setCell ⟨E, 19, none⟩ (.bool false)) w.heap.size z20 33 := (HR3.out.set_ne ⟨E, 18, none⟩ _ hne1).set_ne ⟨E, 19, none⟩ _ hne1
          have hw2 : Bel w ((w3.setCell ⟨E, 18, none⟩ (.bool false)).setCell ⟨E, 19, none⟩ (.bool false)) := (HW3.out.setCell ⟨E, 18, none⟩ (by dsimp only; omega) _).setCell ⟨E, 19, none⟩ (by dsimp only; omega) _
          have HW9 := Lib.hid hw2
          clear hw2 hb1
          go_wp2_with (first | (refine loadB 33 _ rfl rfl rfl hb2 (TEv _) ?_) | (refine storeB 33 _ _ rfl rfl rfl rfl hr2 (by rw [vs_size]; rfl) (TEv _) (vs_all endF_one) ?_))
          refine bodyPost_ret (res_c Try.results30 rfl (B := w.heap.size) (c := (vs 20 (endF (mcP s).m (mcP s).v (mcP s).h false false))) (t := 33) (hr2.setRow _) (TEv _)) rfl ⟨?_, (HW9.out.setRow w.heap.size (Nat.le_refl _) _).out⟩
          unfold endP
          rw [end_vs, HD.out, HK.out]
          rfl
end Go.Proofs.Yticnponenkfneaa
namespace Go.Proofs.Yticnponenkfneaa
open Go Go.RowKit

def mc0 (i : Nat) : Mc := ⟨fun t => decide (t = 0), fun _ => 0, fun k => if k < i then -1 else 0, fun _ => 0, fun _ => 0, fun _ => 0⟩
def mcz : Mc := ⟨fun _ => false, fun _ => 0, fun _ => 0, fun _ => 0, fun _ => 0, fun _ => 0⟩
theorem mc0_end {w : World} {M : Nat} {A : Option Addr} {n c : Nat} {LV : Value} (h : MBx w M A n c (mc0 5) LV) : MBx w M A n c (mcP ps0) LV :=
  h.to (fun t _ => by show begun [] (t : Nat) = decide (t = 0); unfold begun did; simp) (fun _ _ => rfl) (fun t ht => by show owner [] (t : Nat) = if t < 5 then -1 else 0; rw [if_pos ht]; rfl) (fun _ _ => rfl) (fun _ _ => rfl) (fun _ _ => rfl)
theorem mc0_step {w : World} {M : Nat} {A : Option Addr} {n c : Nat} {LV : Value} {i : Nat} (h : MBx w M A n c (mc0 i) LV) (hi : i < 5) : MBx (w.setCell ⟨M, 13 + i, none⟩ (.int .i64 (-1))) M A n c (mc0 (i + 1)) LV :=
  (h.setO (v := -1) hi).to (fun _ _ => rfl) (fun _ _ => rfl) (fun t ht => by
    show (if t < i + 1 then (-1 : Int) else 0) = upF (fun k => if k < i then (-1 : Int) else 0) i (-1) t
    unfold upF
    by_cases h : t = i
    · subst h; simp
    · rw [if_neg h]
      show _ = if t < i then (-1 : Int) else 0
      by_cases h2 : t < i
      · rw [if_pos h2, if_pos (by omega)]
      · rw [if_neg h2, if_neg (by omega)]) (fun _ _ => rfl) (fun _ _ => rfl) (fun _ _ => rfl)
set_option maxHeartbeats 8000000 in
theorem mstart_any (A : Option Addr) (n c : Nat) (w : World) : Calls Try.prog 53 #[.slice A n c] w fun e w' => e = .returned (.pointer (some ⟨w.heap.size, 0, none⟩)) ∧ MBx w' w.heap.size A n c (mcP ps0) (.slice none 0 0) ∧ Below w.heap.size w w' := by
  have HM := Lib.hid (show MBx (w.alloc (.cells (vs 39 (mF A n c mcz (.slice none 0 0))) 78)) w.heap.size A n c mcz (.slice none 0 0) from ⟨Box.new w _ _⟩)
  have HW := Lib.hid ((Bel.refl w).alloc (.cells (vs 39 (mF A n c mcz (.slice none 0 0))) 78))
  have c1 := HM.out.cell (i := 1) (by omega)
  have f1 := HM.out.box.frozen 1
  go_enter Try.func53, Try.ntmps53
  go_upto_region 2 with fail
  change Code.wp _ _ _ _ (w.alloc (.cells (vs 39 (mF A n c mcz (.slice none 0 0))) 78))
  have HM1 := Lib.hid (show MBx ((w.alloc (.cells (vs 39 (mF A n c mcz (.slice none 0 0))) 78)).setCell ⟨w.heap.size, 1, none⟩ (.bool true)) w.heap.size A n c (mc0 0) (.slice none 0 0) from
    (HM.out.setB (t := 0) (v := true) (by omega)).to (fun t _ => by show decide (t = 0) = upF (fun _ => false) 0 true t; unfold upF; by_cases h : t = 0 <;> simp [h]) (fun _ _ => rfl) (fun _ _ => rfl) (fun _ _ => rfl) (fun _ _ => rfl) (fun _ _ => rfl))
  have HW1 := Lib.hid (HW.out.setCell ⟨w.heap.size, 1, none⟩ (Nat.le_refl _) (.bool true))
  generalize w.alloc (.cells (vs 39 (mF A n c mcz (.slice none 0 0))) 78) = w0 at *
  go_wp2
  clear c1 f1 HM HW
  generalize w0.setCell ⟨w.heap.size, 1, none⟩ (.bool true) = w1 at *
  go_loopw [12] (fun t wr => ∃ i : Nat, i ≤ 5 ∧ t = .int .i64 i ∧ MBx wr w.heap.size A n c (mc0 i) (.slice none 0 0) ∧ Bel w wr) (fun t _ => 5 - (intOf t).toNat)
  case atStart => exact ⟨0, by omega, rfl, HM1.out, HW1.out⟩
  case round =>
    obtain ⟨i, hi, rfl, hm, hbr⟩ := hrel
    have HBR := Lib.hid hbr
    have HMR := Lib.hid hm
    clear hbr hm
    by_cases hi1 : i < 5
    · have hi2 : (i : Int) < 5 := by omega
      have ci := HMR.out.own hi1
      have fi := HMR.out.box.frozen (13 + i)
      go_wp2
      go_roundw
      case rel => exact ⟨i + 1, by omega, by go_num, mc0_step HMR.out hi1, HBR.out.setCell ⟨w.heap.size, 13 + i, none⟩ (Nat.le_refl _) _⟩
      case measure => simp [intOf]; omega
    · obtain rfl : i = 5 := by omega
      go_wp2
      go_ret
      exact ⟨rfl, mc0_end HMR.out, HBR.out.out⟩
end Go.Proofs.Yticnponenkfneaa

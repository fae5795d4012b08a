import Derived.Shelf.Abstract
import Derived.Test.YticnponenkfneaaZEqInt
import Derived.Test.YticnponenkfneaaZFollow
import Derived.Test.YticnponenkfneaaZTrace
import Derived.Maps.AppendAt
import Derived.Test.YticnponenkfneaaZAppend
import Derived.Test.YticnponenkfneaaZTr
import Derived.Test.YticnponenkfneaaRows
import Derived.Test.YticnponenkfneaaZOr
set_option linter.all false
set_option maxRecDepth 100000
namespace Go.Proofs.Yticnponenkfneaa
open Go Go.RowKit

theorem Sl.get {w : World} {A : Option Addr} {n : Nat} {l : List Ev} (h : Sl w A n l) {i : Nat} (hi : i < n) : ∃ e, l[i]? = some e := ⟨_, List.getElem?_eq_getElem (by rw [h.1]; exact hi)⟩
set_option maxHeartbeats 2000000 in
/-- The function value of Before. -/
theorem before1_any (B G n : Nat) (g : Nat → Bool) (t u : TypeId) (w : World) (hb : Box w B #[.slice (some ⟨G, 0, none⟩) n n] t) (hg : Box w G (bs (n * 80) g) u) (i j : Nat) (hi : i < n) (hj : j < 80) (R : Bool) (hR : g (i * 80 + j) = R) :
    Calls Try.prog 83 #[.int .i64 i, .int .i64 j, .pointer (some ⟨B, 0, none⟩)] w fun e w' => e = .returned (.bool R) ∧ Below w.heap.size w w' := by
  subst hR
  have c0 := hb.cell 0 (v := .slice (some ⟨G, 0, none⟩) n n) rfl
  have c1 : w.cell? ⟨G, i * 80 + j, none⟩ = some (.bool (g (i * 80 + j))) := hg.cell _ (bs_get _ (by omega))
  have hi' : (i : Int) < n := by omega
  have hj' : (j : Int) < 80 := by omega
  have hw0 := Lib.hid (Bel.refl w)
  clear hb hg
  go_enter Try.func83, Try.ntmps83
  go_wp2
  go_ret
  exact ⟨rfl, hw0.out⟩
def prOf (R : List Ev → Nat → Nat → Bool) (l : List Ev) : List (Nat × Nat) := if may l = 0 then prsA (R l) l.length else []
def PrPost (w : World) (R : List Ev → Nat → Nat → Bool) (l : List Ev) (e : Ending) (w' : World) : Prop :=
  ∃ v, e = .returned (.tuple #[v, .int .i64 (may l)]) ∧ w'.ownsRow w.heap.size 161 2 v (prOf R l).length (prc (prOf R l)) ∧ Below w.heap.size w w'
theorem prOf_ok {R : List Ev → Nat → Nat → Bool} {l : List Ev} {n : Nat} (h : may l = 0) (hn : l.length = n) : prOf R l = prsA (R l) n := by unfold prOf; rw [if_pos h, hn]
theorem prOf_no {R : List Ev → Nat → Nat → Bool} {l : List Ev} (h : may l ≠ 0) : prOf R l = [] := by unfold prOf; rw [if_neg h]
theorem bef_up (l : List Ev) (a b : Nat) (h : b ≤ a) : bef l a b = false := by rw [← Bool.not_eq_true]; intro hh; have := bef_lt hh; omega
theorem Bel.own {w w1 w2 : World} {e : TypeId} {size n : Nat} {v : Value} {xs : List Value} (h : Bel w w1) (ho : w2.ownsRow w1.heap.size e size v n xs) : w2.ownsRow w.heap.size e size v n xs := own_drop_alloc ho h.size
theorem doneC_at (l : List Ev) {a b : Nat} (hb : b < 80) : doneC l 0 (a * 80 + b) = bef l a b := by
  unfold doneC
  rw [if_neg (by omega), show (a * 80 + b) / 80 = a by omega, show (a * 80 + b) % 80 = b by omega]
set_option maxHeartbeats 4000000 in
theorem before_any (A : Option Addr) (n c : Nat) (l : List Ev) (w : World) (hl : Sl w A n l) : Calls Try.prog 48 #[.slice A n c] w (PrPost w bef l) := by
  have hw0 := Bel.refl w
  have HL := Lib.hid hl
  have HE := Lib.hid (enters_of Try.func83 (by kernel_rfl) rfl)
  cases h1 : (may l != 0)
  · have HM := Lib.hid (show may l = 0 by simpa using h1)
    have hn80 : n ≤ 80 := by rw [← hl.1]; exact ((may_iff l).1 HM.out).1
    have HP := Lib.hid (prOf_ok (R := bef) HM.out hl.1)
    have h1' : ((check l).2 != 0) = false := h1
    clear hl
    go_enter Try.func48, Try.ntmps48
    go_wp2_with fail
    refine (check_any A n c l _ HL.out).mono ?_
    rintro e1 w1 ⟨rfl, hb1⟩
    have hw1 := hw0.call hb1
    clear hb1
    go_wp2_with fail
    refine (followers_any A n c l _ (HL.out.bel hw1) hn80).mono ?_
    rintro e w2 ⟨rfl, hf⟩
    have HF := Lib.hid hf
    have HW2 := Lib.hid (hw1.call hf.below)
    have HBX := Lib.hid (Box.new w2 #[.slice (some ⟨w1.heap.size, 0, none⟩) n n] 154)
    have HFX := Lib.hid (HF.out.box.old (.cells #[.slice (some ⟨w1.heap.size, 0, none⟩) n n] 154))
    have hE := HE.out
    clear hf hw1
    go_wp2_with fail
    refine (pairs_any _ w2.heap.size n (bef l) _ hn80 HE.out (fun a b w3 ha hb hab hbw => before1_any _ _ n _ _ _ w3 (hbw.box HBX.out) (hbw.box HFX.out) a b ha (by omega) _ (doneC_at l (by omega))) (bef_up l)).mono ?_
    rintro e w3 ⟨v, rfl, hown, hb3⟩
    have HW2' := Lib.hid (HW2.out.alloc (.cells #[.slice (some ⟨w1.heap.size, 0, none⟩) n n] 154))
    have HO := Lib.hid (HW2'.out.own hown)
    have HW3 := Lib.hid (HW2'.out.call hb3)
    clear hown hb3
    go_wp2
    go_ret2
    exact ⟨v, by rw [HM.out]; rfl, by rw [HP.out]; exact HO.out, HW3.out⟩
  · have HP := Lib.hid (prOf_no (R := bef) (show may l ≠ 0 by simpa using h1))
    have h1' : ((check l).2 != 0) = true := h1
    clear hl
    go_enter Try.func48, Try.ntmps48
    go_wp2_with fail
    refine (check_any A n c l _ HL.out).mono ?_
    rintro e1 w1 ⟨rfl, hb1⟩
    have hw1 := hw0.call hb1
    clear hb1
    go_wp2
    go_ret2
    exact ⟨_, rfl, by rw [HP.out]; exact World.ownsRow_nil _ _ _ _, hw1⟩
end Go.Proofs.Yticnponenkfneaa
set_option linter.all false
set_option maxRecDepth 100000
namespace Go.Proofs.Yticnponenkfneaa
open Go.RowKit

theorem int_info : (Try.prog.info? 3).map (fun i => (i.zero, i.size, i.bytes)) = some (some (.int .i64 0), 1, 8) := by kernel_rfl
end Go.Proofs.Yticnponenkfneaa
set_option linter.all false
set_option maxRecDepth 100000
namespace Go.Proofs.Yticnponenkfneaa
open Go Go.RowKit

def SlR (w : World) (A : Option Addr) (n : Nat) (l : List Rc) : Prop :=
  l.length = n ∧ (0 < n → ∃ b off, A = some ⟨b, off, none⟩ ∧ b < w.heap.size ∧ w.rangeAt b off (rcc l))
theorem SlR.own {w : World} {base : Nat} {t : TypeId} {v : Value} {n : Nat} {l : List Rc} (h : w.ownsRow base t 4 v n (rcc l)) : ∃ A c, v = .slice A n c ∧ SlR w A n l ∧ n ≤ c ∧ c ≤ maxLen := by
  have hl : l.length = n := by have := h.1; rw [rcc_length] at this; omega
  rcases h.2 with ⟨rfl, rfl⟩ | ⟨g, cap, cur, rfl, hg, hh, hn, hc, hs, ht⟩
  · exact ⟨none, 0, rfl, ⟨hl, fun h => absurd h (by omega)⟩, by omega, by omega⟩
  · have hb : Box w g cur t := hh
    refine ⟨_, cap, rfl, ⟨hl, fun _ => ⟨g, 0, rfl, hb.lt, fun j v hv => ?_⟩⟩, hn, hc⟩
    rw [Nat.zero_add]
    refine hb.cell j ?_
    rw [← ht, List.getElem?_take] at hv
    split at hv
    · simpa using hv
    · cases hv
theorem rc_info : (Try.prog.info? 116).map (fun i => (i.zero, i.size, i.bytes)) = some (some (.agg #[.int .i64 0, .int .i64 0, .int .i64 0, .int .i64 0]), 4, 32) := by kernel_rfl
theorem fill4 {n : Nat} (hn : n = 4) (f : Fin n → Value) (a b c d : Value) : ((((Array.ofFn f).setIfInBounds 0 a).setIfInBounds 1 b).setIfInBounds 2 c).setIfInBounds 3 d = #[a, b, c, d] := by
  subst hn
  apply Array.ext
  · simp
  · intro i h1 h2
    have hi : i < 4 := by simpa using h2
    match i, hi with
    | 0, _ => simp [Array.getElem_setIfInBounds]
    | 1, _ => simp [Array.getElem_setIfInBounds]
    | 2, _ => simp [Array.getElem_setIfInBounds]
    | 3, _ => simp [Array.getElem_setIfInBounds]
theorem run_buildr (t e : TypeId) {P : Program} (i : TypeInfo) (ht : P.underlying t = some (.slice e)) (hi : P.info? e = some i) (hz : i.zero = some (.agg #[.int .i64 0, .int .i64 0, .int .i64 0, .int .i64 0])) (hs : i.size = 4) (r : Rc) (w : World) :
    (Instr.buildSlice t 1 #[(0, .agg (rcv r))]).run P w = .ok (.slice (some ⟨w.heap.size, 0, none⟩) 1 1) (w.alloc (.cells (rcv r) e)) := by
  simp [Instr.buildSlice, Sem.run_bind, run_underlying ht, sizeOf, typeInfo, hi, hs, zeroValue, hz, Instr.fill, Value.cells, rcv, newRow, newObj, List.zipIdx, Array.range, Result.andThen, go_sem]
  rw [fill4 (by rw [hs])]
  rfl
theorem buildr {P : Program} {ops : Array Oper} {rest : List Oper} {o : Oper} {a : Act} {w : World} {Q : Exit → Act → World → Prop} (t : TypeId) (x : Operand) (ho : o.op = .buildSlice t 1 #[(0, x)]) (hgd : o.guard = none) (e : TypeId) (i : TypeInfo) (ht : P.underlying t = some (.slice e)) (hi : P.info? e = some i)
    (hz : i.zero = some (.agg #[.int .i64 0, .int .i64 0, .int .i64 0, .int .i64 0])) (hs : i.size = 4) (r : Rc) (hx : a.eval x = .agg (rcv r))
    (h : wpList P ops Q rest (a.put o.dst (.slice (some ⟨w.heap.size, 0, none⟩) 1 1)) (w.alloc (.cells (rcv r) e))) : wpList P ops Q (o :: rest) a w := by
  refine wpList_plain hgd fun _ hK' => ?_
  unfold Oper.wp execOp
  simp only [ho, Sem.run_bind, Sem.run_pure, Result.andThen_ok, List.map_toArray, List.map_cons, List.map_nil, hx, run_buildr t e i ht hi hz hs r w]
  exact hK' _ _ h
end Go.Proofs.Yticnponenkfneaa
namespace Go.Proofs.Yticnponenkfneaa
open Go Go.RowKit

structure RcR (w : World) (l : List Ev) (n i j : Nat) (v : Value) (wr : World) : Prop where
  own : wr.ownsRow w.heap.size 116 4 v (rcTo l n i j).length (rcc (rcTo l n i j))
  below : Bel w wr
theorem RcR.to {w : World} {l : List Ev} {n i j i' j' : Nat} {v : Value} {wr : World} (h : RcR w l n i j v wr) (e : rcTo l n i' j' = rcTo l n i j) : RcR w l n i' j' v wr := by
  obtain ⟨h1, h2⟩ := h; rw [← e] at h1; exact ⟨h1, h2⟩
theorem RcR.bel {w : World} {l : List Ev} {n i j : Nat} {v : Value} {wr w' : World} (h : RcR w l n i j v wr) (hb : Bel wr w') : RcR w l n i j v w' := ⟨own_bel h.own hb, h.below.trans hb⟩
theorem rcTo_small {l : List Ev} {n i j : Nat} (hn : n ≤ 80) (hi : i ≤ n) (hj : j ≤ n) : (rcTo l n i j).length ≤ 6480 := by rw [rcTo_len]; exact prs_small hn hi hj
end Go.Proofs.Yticnponenkfneaa

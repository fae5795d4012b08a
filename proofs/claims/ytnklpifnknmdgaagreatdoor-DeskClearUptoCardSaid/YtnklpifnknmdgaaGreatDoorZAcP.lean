import Derived.Shelf.Abstract
import Derived.Test.YtnklpifnknmdgaaGreatDoorZBs
import Derived.Test.YtnklpifnknmdgaaGreatDoorZFollow
import Derived.Test.YtnklpifnknmdgaaGreatDoorZTrace
import Derived.Test.YtnklpifnknmdgaaGreatDoorRows
import Derived.Test.YtnklpifnknmdgaaGreatDoorZTrace4
import Derived.Test.YtnklpifnknmdgaaGreatDoorZGu
import Derived.Test.YtnklpifnknmdgaaGreatDoorZOr
import Derived.Test.YtnklpifnknmdgaaGreatDoorZGrow
set_option linter.all false
set_option maxRecDepth 100000
namespace Go.Proofs.YtnklpifnknmdgaaGreatDoor
open Go Go.RowKit

theorem Sl.get {w : World} {A : Option Addr} {n : Nat} {l : List Ev} (h : Sl w A n l) {i : Nat} (hi : i < n) : ∃ e, l[i]? = some e := ⟨_, List.getElem?_eq_getElem (by rw [h.1]; exact hi)⟩
set_option maxHeartbeats 2000000 in
/-- The function value of Before. -/
theorem before1_any (B G n : Nat) (g : Nat → Bool) (t u : TypeId) (w : World) (hb : Box w B #[.slice (some ⟨G, 0, none⟩) n n] t) (hg : Box w G (bs (n * 80) g) u) (i j : Nat) (hi : i < n) (hj : j < 80) (R : Bool) (hR : g (i * 80 + j) = R) :
    Calls Tryz.prog 164 #[.int .i64 i, .int .i64 j, .pointer (some ⟨B, 0, none⟩)] w fun e w' => e = .returned (.bool R) ∧ Below w.heap.size w w' := by
  subst hR
  have c0 := hb.cell 0 (v := .slice (some ⟨G, 0, none⟩) n n) rfl
  have c1 : w.cell? ⟨G, i * 80 + j, none⟩ = some (.bool (g (i * 80 + j))) := hg.cell _ (bs_get _ (by omega))
  have hi' : (i : Int) < n := by omega
  have hj' : (j : Int) < 80 := by omega
  have hw0 := Lib.hid (Bel.refl w)
  clear hb hg
  go_enter Tryz.func164, Tryz.ntmps164
  go_wp2
  go_ret
  exact ⟨rfl, hw0.out⟩
def prOf (R : List Ev → Nat → Nat → Bool) (l : List Ev) : List (Nat × Nat) := if may l = 0 then prsA (R l) l.length else []
def PrPost (w : World) (R : List Ev → Nat → Nat → Bool) (l : List Ev) (e : Ending) (w' : World) : Prop :=
  ∃ v, e = .returned (.tuple #[v, .int .i64 (may l)]) ∧ w'.ownsRow w.heap.size 112 2 v (prOf R l).length (prc (prOf R l)) ∧ Below w.heap.size w w'
theorem prOf_ok {R : List Ev → Nat → Nat → Bool} {l : List Ev} {n : Nat} (h : may l = 0) (hn : l.length = n) : prOf R l = prsA (R l) n := by unfold prOf; rw [if_pos h, hn]
theorem prOf_no {R : List Ev → Nat → Nat → Bool} {l : List Ev} (h : may l ≠ 0) : prOf R l = [] := by unfold prOf; rw [if_neg h]
theorem bef_up (l : List Ev) (a b : Nat) (h : b ≤ a) : bef l a b = false := by rw [← Bool.not_eq_true]; intro hh; have := bef_lt hh; omega
theorem Bel.own {w w1 w2 : World} {e : TypeId} {size n : Nat} {v : Value} {xs : List Value} (h : Bel w w1) (ho : w2.ownsRow w1.heap.size e size v n xs) : w2.ownsRow w.heap.size e size v n xs := own_drop_alloc ho h.size
theorem doneC_at (l : List Ev) {a b : Nat} (hb : b < 80) : doneC l 0 (a * 80 + b) = bef l a b := by
  unfold doneC
  rw [if_neg (by omega), show (a * 80 + b) / 80 = a by omega, show (a * 80 + b) % 80 = b by omega]
set_option maxHeartbeats 4000000 in
theorem before_any (A : Option Addr) (n c : Nat) (l : List Ev) (w : World) (hl : Sl w A n l) : Calls Tryz.prog 135 #[.slice A n c] w (PrPost w bef l) := by
  have hw0 := Bel.refl w
  have HL := Lib.hid hl
  have HE := Lib.hid (enters_of Tryz.func164 (by kernel_rfl) rfl)
  cases h1 : (may l != 0)
  · have HM := Lib.hid (show may l = 0 by simpa using h1)
    have hn80 : n ≤ 80 := by rw [← hl.1]; exact ((may_iff l).1 HM.out).1
    have HP := Lib.hid (prOf_ok (R := bef) HM.out hl.1)
    have h1' : ((check l).2 != 0) = false := h1
    clear hl
    go_enter Tryz.func135, Tryz.ntmps135
    go_wp2_with fail
    refine (check_any A n c l _ HL.out).mono ?_
    rintro e1 w1 ⟨rfl, hb1⟩
    have hw1 := hw0.call hb1
    clear hb1
    go_wp2_with fail
    refine (followers_any A n c l _ (HL.out.bel hw1) hn80).mono ?_
    rintro e w2 ⟨rfl, hf⟩
    have HF := Lib.hid hf
    have HW2 := Lib.hid (hw1.call hf.below)
    have HBX := Lib.hid (Box.new w2 #[.slice (some ⟨w1.heap.size, 0, none⟩) n n] 200)
    have HFX := Lib.hid (HF.out.box.old (.cells #[.slice (some ⟨w1.heap.size, 0, none⟩) n n] 200))
    have hE := HE.out
    clear hf hw1
    go_wp2_with fail
    refine (pairs_any _ w2.heap.size n (bef l) _ hn80 HE.out (fun a b w3 ha hb hab hbw => before1_any _ _ n _ _ _ w3 (hbw.box HBX.out) (hbw.box HFX.out) a b ha (by omega) _ (doneC_at l (by omega))) (bef_up l)).mono ?_
    rintro e w3 ⟨v, rfl, hown, hb3⟩
    have HW2' := Lib.hid (HW2.out.alloc (.cells #[.slice (some ⟨w1.heap.size, 0, none⟩) n n] 200))
    have HO := Lib.hid (HW2'.out.own hown)
    have HW3 := Lib.hid (HW2'.out.call hb3)
    clear hown hb3
    go_wp2
    go_ret2
    exact ⟨v, by rw [HM.out]; rfl, by rw [HP.out]; exact HO.out, HW3.out⟩
  · have HP := Lib.hid (prOf_no (R := bef) (show may l ≠ 0 by simpa using h1))
    have h1' : ((check l).2 != 0) = true := h1
    clear hl
    go_enter Tryz.func135, Tryz.ntmps135
    go_wp2_with fail
    refine (check_any A n c l _ HL.out).mono ?_
    rintro e1 w1 ⟨rfl, hb1⟩
    have hw1 := hw0.call hb1
    clear hb1
    go_wp2
    go_ret2
    exact ⟨_, rfl, by rw [HP.out]; exact World.ownsRow_nil _ _ _ _, hw1⟩
def inBoth (l : List Ev) (i j : Int) : Bool := inB i l.length && inB j l.length
def leadE (l : List Ev) (i j : Int) : Int := if may l ≠ 0 then may l else if inBoth l i j then 0 else 1
def leadV (l : List Ev) (i j : Int) : Bool := if may l ≠ 0 then false else if inBoth l i j then bef l i.toNat j.toNat else false
set_option maxHeartbeats 4000000 in
theorem leads_any (A : Option Addr) (n c : Nat) (l : List Ev) (i j : Int) (w : World) (hl : Sl w A n l) :
    Calls Tryz.prog 106 #[.slice A n c, .int .i64 i, .int .i64 j] w fun e w' => e = .returned (.tuple #[.bool (leadV l i j), .int .i64 (leadE l i j)]) ∧ Below w.heap.size w w' := by
  have hw0 := Bel.refl w
  have HL := Lib.hid hl
  have HN := Lib.hid hl.1
  cases h1 : (may l != 0)
  · have HM := Lib.hid (show may l = 0 by simpa using h1)
    have hn80 : n ≤ 80 := by rw [← HN.out]; exact ((may_iff l).1 HM.out).1
    have HV := Lib.hid (show leadV l i j = (if inBoth l i j then bef l i.toNat j.toNat else false) by unfold leadV; rw [if_neg (by rw [HM.out]; decide)])
    have HX := Lib.hid (show leadE l i j = (if inBoth l i j then 0 else 1) by unfold leadE; rw [if_neg (by rw [HM.out]; decide)])
    have h1' : ((check l).2 != 0) = false := h1
    clear hl
    cases hi : inB i n
    · have HF := Lib.hid (show inBoth l i j = false by unfold inBoth; rw [HN.out, hi]; rfl)
      go_enter Tryz.func106, Tryz.ntmps106
      go_wp2_with fail
      refine (check_any A n c l _ HL.out).mono ?_
      rintro e1 w1 ⟨rfl, hb1⟩
      have hw1 := hw0.call hb1
      clear hb1
      go_wp2_with (first | (go_at_call 142; (with_reducible refine (isIndex_any _ _ _ _ _).mono ?_); rintro e w' ⟨rfl, rfl⟩))
      go_ret2
      exact ⟨by rw [HV.out, HX.out, HF.out]; rfl, hw1⟩
    · cases hj : inB j n
      · have HF := Lib.hid (show inBoth l i j = false by unfold inBoth; rw [HN.out, hi, hj]; rfl)
        go_enter Tryz.func106, Tryz.ntmps106
        go_wp2_with fail
        refine (check_any A n c l _ HL.out).mono ?_
        rintro e1 w1 ⟨rfl, hb1⟩
        have hw1 := hw0.call hb1
        clear hb1
        go_wp2_with (first | (go_at_call 142; (with_reducible refine (isIndex_any _ _ _ _ _).mono ?_); rintro e w' ⟨rfl, rfl⟩))
        go_ret2
        exact ⟨by rw [HV.out, HX.out, HF.out]; rfl, hw1⟩
      · have HF := Lib.hid (show inBoth l i j = true by unfold inBoth; rw [HN.out, hi, hj]; rfl)
        have gi := inB_iff.1 hi
        have gj := inB_iff.1 hj
        obtain ⟨a, rfl⟩ := Int.eq_ofNat_of_zero_le gi.1
        obtain ⟨b, rfl⟩ := Int.eq_ofNat_of_zero_le gj.1
        have ha : (a : Int) < n := gi.2
        have hb80 : (b : Int) < 80 := by omega
        clear gi gj
        go_enter Tryz.func106, Tryz.ntmps106
        go_wp2_with fail
        refine (check_any A n c l _ HL.out).mono ?_
        rintro e1 w1 ⟨rfl, hb1⟩
        have hw1 := hw0.call hb1
        clear hb1
        go_wp2_with (first | (go_at_call 142; (with_reducible refine (isIndex_any _ _ _ _ _).mono ?_); rintro e w' ⟨rfl, rfl⟩) | (go_at_call 143; fail))
        refine (followers_any A n c l _ (HL.out.bel hw1) hn80).mono ?_
        rintro e w2 ⟨rfl, hf⟩
        have HW2 := Lib.hid (hw1.call hf.below)
        have c1 : w2.cell? ⟨w1.heap.size, a * 80 + b, none⟩ = some (.bool (bef l a b)) := by rw [← doneC_at l (a := a) (b := b) (by omega)]; exact hf.box.cell _ (bs_get _ (by omega))
        clear hf hw1
        go_wp2
        go_ret2
        exact ⟨by rw [HV.out, HX.out, HF.out]; rfl, HW2.out⟩
  · have HV := Lib.hid (show leadV l i j = false by unfold leadV; rw [if_pos (by simpa using h1)])
    have HX := Lib.hid (show leadE l i j = may l by unfold leadE; rw [if_pos (by simpa using h1)])
    have h1' : ((check l).2 != 0) = true := h1
    clear hl
    go_enter Tryz.func106, Tryz.ntmps106
    go_wp2_with fail
    refine (check_any A n c l _ HL.out).mono ?_
    rintro e1 w1 ⟨rfl, hb1⟩
    have hw1 := hw0.call hb1
    clear hb1
    go_wp2
    go_ret2
    exact ⟨by rw [HV.out, HX.out]; rfl, hw1⟩
end Go.Proofs.YtnklpifnknmdgaaGreatDoor
set_option linter.all false
set_option maxRecDepth 100000
namespace Go.Proofs.YtnklpifnknmdgaaGreatDoor
open Go Go.RowKit

def SlR (w : World) (A : Option Addr) (n : Nat) (l : List Rc) : Prop :=
  l.length = n ∧ (0 < n → ∃ b off, A = some ⟨b, off, none⟩ ∧ b < w.heap.size ∧ w.rangeAt b off (rcc l))
theorem SlR.at_ {w : World} {A : Option Addr} {n : Nat} {l : List Rc} (h : SlR w A n l) {i : Nat} (hi : i < n) :
    ∃ b off r, A = some ⟨b, off, none⟩ ∧ b < w.heap.size ∧ l[i]? = some r ∧ w.rangeAt b (off + i * 4) (rcl r) := by
  obtain ⟨b, off, hA, hlt, hr⟩ := h.2 (by omega)
  have hl : i < l.length := by rw [h.1]; exact hi
  exact ⟨b, off, l[i], hA, hlt, List.getElem?_eq_getElem hl, range_part hr fun j v hv => rcc_at (List.getElem?_eq_getElem hl) j v hv⟩
theorem SlR.own {w : World} {base : Nat} {t : TypeId} {v : Value} {n : Nat} {l : List Rc} (h : w.ownsRow base t 4 v n (rcc l)) : ∃ A c, v = .slice A n c ∧ SlR w A n l ∧ n ≤ c ∧ c ≤ maxLen := by
  have hl : l.length = n := by have := h.1; rw [rcc_length] at this; omega
  rcases h.2 with ⟨rfl, rfl⟩ | ⟨g, cap, cur, rfl, hg, hh, hn, hc, hs, ht⟩
  · exact ⟨none, 0, rfl, ⟨hl, fun h => absurd h (by omega)⟩, by omega, by omega⟩
  · have hb : Box w g cur t := hh
    refine ⟨_, cap, rfl, ⟨hl, fun _ => ⟨g, 0, rfl, hb.lt, fun j v hv => ?_⟩⟩, hn, hc⟩
    rw [Nat.zero_add]
    refine hb.cell j ?_
    rw [← ht, List.getElem?_take] at hv
    split at hv
    · simpa using hv
    · cases hv
theorem TRc : RowTy Tryz.prog 58 4 := ⟨_, Tryz.underlying58, rfl, by kernel_rfl⟩
theorem rc_info : (Tryz.prog.info? 58).map (fun i => (i.zero, i.size, i.bytes)) = some (some (.agg #[.int .i64 0, .int .i64 0, .int .i64 0, .int .i64 0]), 4, 32) := by kernel_rfl
def rwld (w : World) (r : Rc) (t : TypeId) : World := (w.alloc (.cells #[.int .i64 0, .int .i64 0, .int .i64 0, .int .i64 0] t)).setRow w.heap.size (rcv r)
theorem rwld_box (w : World) (r : Rc) (t : TypeId) : Box (rwld w r t) w.heap.size (rcv r) t := (Box.new w _ t).setRow _
theorem rwld_below (w : World) (r : Rc) (t : TypeId) : Bel w (rwld w r t) := below_setRow' ((Below.refl _ _).alloc (Nat.le_refl _) _) _ _ (Nat.le_refl _)
theorem rwld_store {P : Program} {ops : Array Oper} {rest : List Oper} {o : Oper} {a : Act} {w' w : World} {Q : Exit → Act → World → Prop} {ty : TypeId} (hT : RowTy P ty 4) (x y : Operand) (ho : o.op = .store ty x y) (hgd : o.guard = none) {r : Rc} (t : TypeId)
    (hy : a.eval y = .agg (rcv r)) (hw : w' = w.alloc (.cells #[.int .i64 0, .int .i64 0, .int .i64 0, .int .i64 0] t)) (hx : a.eval x = .pointer (some ⟨w.heap.size, 0, none⟩))
    (h : wpList P ops Q rest (a.put o.dst undef) (rwld w r t)) : wpList P ops Q (o :: rest) a w' := by
  subst hw
  exact storeB ty x y ho hgd hx hy (Box.new w _ t) rfl hT (rcv_all r) h
theorem load_rc {P : Program} {ops : Array Oper} {rest : List Oper} {o : Oper} {a : Act} {w : World} {Q : Exit → Act → World → Prop} {ty : TypeId} (hT : RowTy P ty 4) (x : Operand) (ho : o.op = .load ty x) (hgd : o.guard = none) {b off : Nat} {r : Rc}
    (hx : a.eval x = .pointer (some ⟨b, off, none⟩)) (hr : w.rangeAt b off (rcl r))
    (h : wpList P ops Q rest (a.put o.dst (.agg (rcv r))) w) : wpList P ops Q (o :: rest) a w := by
  obtain ⟨d, hu, hd, hi⟩ := hT
  exact wpList_load_mid hgd ty x ho b off hx (rcl r) d hr hu hd hi h
theorem fill4 {n : Nat} (hn : n = 4) (f : Fin n → Value) (a b c d : Value) : ((((Array.ofFn f).setIfInBounds 0 a).setIfInBounds 1 b).setIfInBounds 2 c).setIfInBounds 3 d = #[a, b, c, d] := by
  subst hn
  apply Array.ext
  · simp
  · intro i h1 h2
    have hi : i < 4 := by simpa using h2
    match i, hi with
    | 0, _ => simp [Array.getElem_setIfInBounds]
    | 1, _ => simp [Array.getElem_setIfInBounds]
    | 2, _ => simp [Array.getElem_setIfInBounds]
    | 3, _ => simp [Array.getElem_setIfInBounds]
theorem run_buildr (t e : TypeId) {P : Program} (i : TypeInfo) (ht : P.underlying t = some (.slice e)) (hi : P.info? e = some i) (hz : i.zero = some (.agg #[.int .i64 0, .int .i64 0, .int .i64 0, .int .i64 0])) (hs : i.size = 4) (r : Rc) (w : World) :
    (Instr.buildSlice t 1 #[(0, .agg (rcv r))]).run P w = .ok (.slice (some ⟨w.heap.size, 0, none⟩) 1 1) (w.alloc (.cells (rcv r) e)) := by
  simp [Instr.buildSlice, Sem.run_bind, run_underlying ht, sizeOf, typeInfo, hi, hs, zeroValue, hz, Instr.fill, Value.cells, rcv, newRow, newObj, List.zipIdx, Array.range, Result.andThen, go_sem]
  rw [fill4 (by rw [hs])]
  rfl
theorem buildr {P : Program} {ops : Array Oper} {rest : List Oper} {o : Oper} {a : Act} {w : World} {Q : Exit → Act → World → Prop} (t : TypeId) (x : Operand) (ho : o.op = .buildSlice t 1 #[(0, x)]) (hgd : o.guard = none) (e : TypeId) (i : TypeInfo) (ht : P.underlying t = some (.slice e)) (hi : P.info? e = some i)
    (hz : i.zero = some (.agg #[.int .i64 0, .int .i64 0, .int .i64 0, .int .i64 0])) (hs : i.size = 4) (r : Rc) (hx : a.eval x = .agg (rcv r))
    (h : wpList P ops Q rest (a.put o.dst (.slice (some ⟨w.heap.size, 0, none⟩) 1 1)) (w.alloc (.cells (rcv r) e))) : wpList P ops Q (o :: rest) a w := by
  refine wpList_plain hgd fun _ hK' => ?_
  unfold Oper.wp execOp
  simp only [ho, Sem.run_bind, Sem.run_pure, Result.andThen_ok, List.map_toArray, List.map_cons, List.map_nil, hx, run_buildr t e i ht hi hz hs r w]
  exact hK' _ _ h
end Go.Proofs.YtnklpifnknmdgaaGreatDoor
namespace Go.Proofs.YtnklpifnknmdgaaGreatDoor
open Go Go.RowKit

structure RcR (w : World) (l : List Ev) (n i j : Nat) (v : Value) (wr : World) : Prop where
  own : wr.ownsRow w.heap.size 58 4 v (rcTo l n i j).length (rcc (rcTo l n i j))
  below : Bel w wr
theorem RcR.to {w : World} {l : List Ev} {n i j i' j' : Nat} {v : Value} {wr : World} (h : RcR w l n i j v wr) (e : rcTo l n i' j' = rcTo l n i j) : RcR w l n i' j' v wr := by
  obtain ⟨h1, h2⟩ := h; rw [← e] at h1; exact ⟨h1, h2⟩
theorem RcR.bel {w : World} {l : List Ev} {n i j : Nat} {v : Value} {wr w' : World} (h : RcR w l n i j v wr) (hb : Bel wr w') : RcR w l n i j v w' := ⟨own_bel h.own hb, h.below.trans hb⟩
theorem rcTo_small {l : List Ev} {n i j : Nat} (hn : n ≤ 80) (hi : i ≤ n) (hj : j ≤ n) : (rcTo l n i j).length ≤ 6480 := by rw [rcTo_len]; exact prs_small hn hi hj
end Go.Proofs.YtnklpifnknmdgaaGreatDoor
set_option linter.all false
set_option maxRecDepth 100000
namespace Go.Proofs.YtnklpifnknmdgaaGreatDoor
open Go Go.RowKit

theorem TAc : RowTy Tryz.prog 230 10 := ⟨_, Tryz.underlying230, rfl, by kernel_rfl⟩
theorem ac_info : (Tryz.prog.info? 230).map (fun i => (i.zero, i.size, i.bytes)) = some (some (.agg #[.int .i64 0, .int .i64 0, .int .i64 0, .int .i64 0, .int .i64 0, .int .i64 0, .int .i64 0, .int .i64 0, .int .i64 0, .int .i64 0]), 10, 80) := by kernel_rfl
def acl (e : Ev) (k : Nat) (c : Nat → Nat) : List Value := [.int .i64 e.k, .int .i64 e.t, .int .i64 e.o, .int .i64 (k : Nat), .int .i64 (c 0 : Nat), .int .i64 (c 1 : Nat), .int .i64 (c 2 : Nat), .int .i64 (c 3 : Nat), .int .i64 (c 4 : Nat), .int .i64 (c 5 : Nat)]
def acv (e : Ev) (k : Nat) (c : Nat → Nat) : Array Value := #[.int .i64 e.k, .int .i64 e.t, .int .i64 e.o, .int .i64 (k : Nat), .int .i64 (c 0 : Nat), .int .i64 (c 1 : Nat), .int .i64 (c 2 : Nat), .int .i64 (c 3 : Nat), .int .i64 (c 4 : Nat), .int .i64 (c 5 : Nat)]
theorem acv_all (e : Ev) (k : Nat) (c : Nat → Nat) : (acv e k c).all (·.oneCell') = true := by simp [acv, Value.oneCell']
theorem acl_one (e : Ev) (k : Nat) (c : Nat → Nat) : ∀ v ∈ acl e k c, v.oneCell' = true := by simp [acl, Value.oneCell']
theorem acl_length (e : Ev) (k : Nat) (c : Nat → Nat) : (acl e k c).length = 10 := rfl
theorem acv_own (e : Ev) (k : Nat) (c : Nat → Nat) {u : Nat} (hu : u < 6) : (acv e k c)[4 + u]? = some (.int .i64 (c u : Nat)) := by
  match u, hu with
  | 0, _ => rfl
  | 1, _ => rfl
  | 2, _ => rfl
  | 3, _ => rfl
  | 4, _ => rfl
  | 5, _ => rfl
theorem ac_row {w : World} {B : Nat} {t : TypeId} {e : Ev} {k : Nat} {c : Nat → Nat} (h : Box w B (acv e k c) t) : w.rangeAt B 4 (clkl (ck c)) := fun j v hv => by
  have hj : j < 6 := by have := (List.getElem?_eq_some_iff.1 hv).1; simpa [clkl_length] using this
  rw [clkl_get _ j hj] at hv
  cases hv
  exact h.cell (4 + j) (acv_own e k c hj)
def acZ : Array Value := #[.int .i64 0, .int .i64 0, .int .i64 0, .int .i64 0, .int .i64 0, .int .i64 0, .int .i64 0, .int .i64 0, .int .i64 0, .int .i64 0]
def acld (w : World) (e : Ev) (k : Nat) (c : Nat → Nat) (t : TypeId) : World := (w.alloc (.cells acZ t)).setRow w.heap.size (acv e k c)
theorem acld_box (w : World) (e : Ev) (k : Nat) (c : Nat → Nat) (t : TypeId) : Box (acld w e k c t) w.heap.size (acv e k c) t := (Box.new w _ t).setRow _
theorem acld_below (w : World) (e : Ev) (k : Nat) (c : Nat → Nat) (t : TypeId) : Bel w (acld w e k c t) := below_setRow' ((Below.refl _ _).alloc (Nat.le_refl _) _) _ _ (Nat.le_refl _)
section
variable {P : Program} {ops : Array Oper} {rest : List Oper} {o : Oper} {a : Act} {w' w : World} {Q : Exit → Act → World → Prop} {ty : TypeId}
theorem acld_store (hT : RowTy P ty 10) (x y : Operand) (ho : o.op = .store ty x y) (hgd : o.guard = none) {e : Ev} {k : Nat} {c : Nat → Nat} (t : TypeId)
    (hy : a.eval y = .agg (acv e k c)) (hw : w' = w.alloc (.cells acZ t)) (hx : a.eval x = .pointer (some ⟨w.heap.size, 0, none⟩))
    (h : wpList P ops Q rest (a.put o.dst undef) (acld w e k c t)) : wpList P ops Q (o :: rest) a w' := by
  subst hw
  exact storeB ty x y ho hgd hx hy (Box.new w _ t) rfl hT (acv_all e k c) h
theorem load_ac (hT : RowTy P ty 10) (x : Operand) (ho : o.op = .load ty x) (hgd : o.guard = none) {b off : Nat} {e : Ev} {k : Nat} {c : Nat → Nat}
    (hx : a.eval x = .pointer (some ⟨b, off, none⟩)) (hr : w.rangeAt b off (acl e k c))
    (h : wpList P ops Q rest (a.put o.dst (.agg (acv e k c))) w) : wpList P ops Q (o :: rest) a w := by
  obtain ⟨d, hu, hd, hi⟩ := hT
  exact wpList_load_mid hgd ty x ho b off hx (acl e k c) d hr hu hd hi h
theorem load_cm (hT : RowTy P ty 6) (x : Operand) (ho : o.op = .load ty x) (hgd : o.guard = none) {b off : Nat} {c : Nat → Int}
    (hx : a.eval x = .pointer (some ⟨b, off, none⟩)) (hr : w.rangeAt b off (clkl c))
    (h : wpList P ops Q rest (a.put o.dst (.agg (clk c))) w) : wpList P ops Q (o :: rest) a w := by
  obtain ⟨d, hu, hd, hi⟩ := hT
  exact wpList_load_mid hgd ty x ho b off hx (clkl c) d hr hu hd hi h
end
theorem fill10 (D : Array Value) (h : D.size = 10) (a b c d e g i j k m : Value) : (((((((((D.setIfInBounds 0 a).setIfInBounds 1 b).setIfInBounds 2 c).setIfInBounds 3 d).setIfInBounds 4 e).setIfInBounds 5 g).setIfInBounds 6 i).setIfInBounds 7 j).setIfInBounds 8 k).setIfInBounds 9 m = #[a, b, c, d, e, g, i, j, k, m] := by
  obtain ⟨L⟩ := D
  match L, h with
  | [_, _, _, _, _, _, _, _, _, _], _ => simp only [List.setIfInBounds_toArray, List.set_cons_succ, List.set_cons_zero]
theorem run_builda (t e : TypeId) {P : Program} (i : TypeInfo) (ht : P.underlying t = some (.slice e)) (hi : P.info? e = some i) (hz : i.zero = some (.agg acZ)) (hs : i.size = 10) (v : Ev) (k : Nat) (c : Nat → Nat) (w : World) :
    (Instr.buildSlice t 1 #[(0, .agg (acv v k c))]).run P w = .ok (.slice (some ⟨w.heap.size, 0, none⟩) 1 1) (w.alloc (.cells (acv v k c) e)) := by
  simp [Instr.buildSlice, Sem.run_bind, run_underlying ht, sizeOf, typeInfo, hi, hs, zeroValue, hz, Instr.fill, Value.cells, acv, acZ, newRow, newObj, List.zipIdx, Array.range, Result.andThen, go_sem]
  rw [fill10 _ (by simp [hs])]
  rfl
def isAc (l : List Ev) (k : Nat) : Bool := decide (kZ l k = 1 ∨ kZ l k = 2)
def acT (l : List Ev) : Nat → List Nat
  | 0 => []
  | k + 1 => if isAc l k = true then acT l k ++ [k] else acT l k
theorem acT_yes {l : List Ev} {k : Nat} (h : isAc l k = true) : acT l (k + 1) = acT l k ++ [k] := by rw [acT, if_pos h]
theorem acT_no {l : List Ev} {k : Nat} (h : ¬ isAc l k = true) : acT l (k + 1) = acT l k := by rw [acT, if_neg h]
theorem acT_len (l : List Ev) : ∀ k, (acT l k).length ≤ k
  | 0 => Nat.le_refl _
  | k + 1 => by
    have := acT_len l k
    rw [acT]
    split
    · simp; omega
    · omega
theorem acT_mono (l : List Ev) {i : Nat} : ∀ {k : Nat}, i ≤ k → (acT l i).length ≤ (acT l k).length
  | 0, h => by obtain rfl : i = 0 := by omega
               exact Nat.le_refl _
  | k + 1, h => by
    by_cases e : i = k + 1
    · subst e; exact Nat.le_refl _
    · have := acT_mono l (show i ≤ k by omega)
      rw [acT]
      split
      · simp; omega
      · omega
theorem acT_same {α : Type} (l : List Ev) (f : Nat → α) (hf : ∀ k, ¬ isAc l k = true → f (k + 1) = f k) {i : Nat} : ∀ {k : Nat}, i ≤ k → (acT l i).length = (acT l k).length → f k = f i
  | 0, h, _ => by obtain rfl : i = 0 := by omega
                  rfl
  | k + 1, h, he => by
    by_cases e : i = k + 1
    · subst e; rfl
    · have h1 := acT_mono l (show i ≤ k by omega)
      by_cases hk : isAc l k = true
      · rw [acT_yes hk, List.length_append] at he; simp at he; omega
      · rw [acT_no hk] at he
        rw [hf k hk]
        exact acT_same l f hf (by omega) he
theorem acT_at (l : List Ev) {j : Nat} : ∀ {n : Nat}, j < (acT l n).length → ∃ k, k < n ∧ isAc l k = true ∧ (acT l k).length = j ∧ (acT l n)[j]? = some k
  | 0, h => by simp [acT] at h
  | n + 1, h => by
    by_cases hk : isAc l n = true
    · rw [acT_yes hk] at h ⊢
      by_cases hj : j < (acT l n).length
      · obtain ⟨k, h1, h2, h3, h4⟩ := acT_at l hj
        exact ⟨k, by omega, h2, h3, by rw [List.getElem?_append_left hj]; exact h4⟩
      · have : j = (acT l n).length := by simp at h; omega
        subst this
        exact ⟨n, by omega, hk, rfl, by simp⟩
    · rw [acT_no hk] at h ⊢
      obtain ⟨k, h1, h2, h3, h4⟩ := acT_at l h
      exact ⟨k, by omega, h2, h3, h4⟩
def accs (l : List Ev) : List Nat := if may l = 0 then acT l l.length else []
theorem accs_ok {l : List Ev} (h : may l = 0) : accs l = acT l l.length := by unfold accs; rw [if_pos h]
theorem accs_no {l : List Ev} (h : may l ≠ 0) : accs l = [] := by unfold accs; rw [if_neg h]
def accl (l : List Ev) (ks : List Nat) : List Value := ks.flatMap fun k => acl (eZ l k) k (cZ l k)
theorem accl_append (l : List Ev) (a b : List Nat) : accl l (a ++ b) = accl l a ++ accl l b := by simp [accl]
theorem accl_one (l : List Ev) (k : Nat) : accl l [k] = acl (eZ l k) k (cZ l k) := by simp [accl]
theorem accl_length (l : List Ev) : ∀ ks : List Nat, (accl l ks).length = ks.length * 10
  | [] => rfl
  | k :: ks => by
    have := accl_length l ks
    unfold accl at *
    rw [List.flatMap_cons, List.length_append, acl_length, this, List.length_cons]; omega
theorem accl_at (l : List Ev) {j k : Nat} : ∀ {ks : List Nat}, ks[j]? = some k → ∀ i v, (acl (eZ l k) k (cZ l k))[i]? = some v → (accl l ks)[j * 10 + i]? = some v
  | [], h, _, _, _ => by simp at h
  | q :: ks, h, i, v, hv => by
    have hi : i < 10 := by have := (List.getElem?_eq_some_iff.1 hv).1; rwa [acl_length] at this
    have e : accl l (q :: ks) = acl (eZ l q) q (cZ l q) ++ accl l ks := by simp [accl]
    rw [e]
    match j, h with
    | 0, h =>
      have : q = k := by simpa using h
      subst this
      rw [List.getElem?_append_left (by rw [acl_length]; omega)]
      simpa using hv
    | j + 1, h =>
      rw [List.getElem?_append_right (by rw [acl_length]; omega), acl_length, show (j + 1) * 10 + i - 10 = j * 10 + i by omega]
      exact accl_at l (by simpa using h) i v hv
end Go.Proofs.YtnklpifnknmdgaaGreatDoor

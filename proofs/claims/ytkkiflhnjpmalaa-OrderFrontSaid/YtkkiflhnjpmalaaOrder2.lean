/- Contracts of the package order: Direct, Before, Leads and their function values. -/
import Derived.Test.YtkkiflhnjpmalaaPairs
import Derived.Test.YtkkiflhnjpmalaaFollow
import Derived.Test.YtkkiflhnjpmalaaTrCheck
import Derived.Shelf.Abstract
set_option linter.all false
set_option maxRecDepth 100000
namespace Go.Proofs.Ytkkiflhnjpmalaa
open Go Go.RowKit

theorem Sl.get {w : World} {A : Option Addr} {n : Nat} {l : List Ev} (h : Sl w A n l) {i : Nat} (hi : i < n) : ∃ e, l[i]? = some e := ⟨_, List.getElem?_eq_getElem (by rw [h.1]; exact hi)⟩
set_option maxHeartbeats 2000000 in
/-- The function value of Direct. -/
theorem direct1_any (A : Option Addr) (n c B : Nat) (l : List Ev) (t : TypeId) (w : World) (hl : Sl w A n l) (hb : Box w B #[.slice A n c] t) (i j : Nat) (hi : i < n) (hj : j < n) (R : Bool) (hR : ∀ a b, l[i]? = some a → l[j]? = some b → R = directly a b) :
    Calls Try.prog 29 #[.int .i64 i, .int .i64 j, .pointer (some ⟨B, 0, none⟩)] w fun e w' => e = .returned (.bool R) ∧ Below w.heap.size w w' := by
  obtain ⟨bb, off, a, rfl, hbb, ha, hra⟩ := hl.at_ hi
  obtain ⟨b, hb2⟩ := hl.get hj
  obtain rfl := hR a b ha hb2
  have HRA := Lib.hid (fun (w' : World) (h : Bel w w') => rangeAt_below h.out hbb hra)
  have HRB := Lib.hid (fun (w' : World) (h : Bel w w') => rangeAt_below h.out hbb (hl.rng hj hb2).2)
  have c0 := hb.cell 0 (v := .slice (some ⟨bb, off, none⟩) n c) rfl
  have F := fun (w' : World) (h : Bel w w') => h.cell c0
  have hi' : (i : Int) < n := by omega
  have hj' : (j : Int) < n := by omega
  clear hra hb hb2 hR ha hl c0
  go_enter Try.func29, Try.ntmps29
  go_wp2
  (refine region_bel (by kernel_rfl) (by kernel_rfl) ?_; (repeat (first | ((with_reducible refine BigFrame.wpQuiet_skip ?_ ?_); exact rfl; simp only [Act.put, Act.eval, List.setIfInBounds_toArray, List.set_cons_zero, List.set_cons_succ, Array.getD_eq_getD_getElem?, List.getElem?_toArray, List.getElem?_cons_zero, List.getElem?_cons_succ, Option.getD_some]) | (refine q_move _ rfl rfl ?_; simp only [Act.put, Act.eval, List.setIfInBounds_toArray, List.set_cons_zero, List.set_cons_succ, Array.getD_eq_getD_getElem?, List.getElem?_toArray, List.getElem?_cons_zero, List.getElem?_cons_succ, Option.getD_some]) | (refine q_assign _ rfl rfl ?_; simp only [Act.put, Act.eval, List.setIfInBounds_toArray, List.set_cons_zero, List.set_cons_succ, Array.getD_eq_getD_getElem?, List.getElem?_toArray, List.getElem?_cons_zero, List.getElem?_cons_succ, Option.getD_some]) | (refine q_load_mid _ _ rfl rfl rfl HRA.out T36 (evv a) rfl ?_; simp only [Act.put, Act.eval, List.setIfInBounds_toArray, List.set_cons_zero, List.set_cons_succ, Array.getD_eq_getD_getElem?, List.getElem?_toArray, List.getElem?_cons_zero, List.getElem?_cons_succ, Option.getD_some]) | (refine q_load_mid _ _ rfl rfl rfl HRB.out T36 (evv b) rfl ?_; simp only [Act.put, Act.eval, List.setIfInBounds_toArray, List.set_cons_zero, List.set_cons_succ, Array.getD_eq_getD_getElem?, List.getElem?_toArray, List.getElem?_cons_zero, List.getElem?_cons_succ, Option.getD_some]) | (refine q_any rfl ?_; apply Exists.intro; refine ⟨fun w hw => ?_, ?_⟩; (have fct0 := F w hw; go_simp; first | exact ⟨rfl, rfl⟩ | rfl | (go_at_call 30; (with_reducible refine (precedes_any a b _).mono ?_); rintro e w' ⟨rfl, hb⟩; exact ⟨rfl, hw.call hb⟩)); simp only [Act.put, Act.eval, List.setIfInBounds_toArray, List.set_cons_zero, List.set_cons_succ, Array.getD_eq_getD_getElem?, List.getElem?_toArray, List.getElem?_cons_zero, List.getElem?_cons_succ, Option.getD_some]))); refine wpQuiet_nil ?_; intro w2 hw2)
  go_wp2
  go_ret
  exact ⟨rfl, hw2⟩
set_option maxHeartbeats 2000000 in
/-- The function value of Before. -/
theorem before1_any (B G n : Nat) (g : Nat → Bool) (t u : TypeId) (w : World) (hb : Box w B #[.slice (some ⟨G, 0, none⟩) n n] t) (hg : Box w G (bs (n * 80) g) u) (i j : Nat) (hi : i < n) (hj : j < 80) (R : Bool) (hR : g (i * 80 + j) = R) :
    Calls Try.prog 34 #[.int .i64 i, .int .i64 j, .pointer (some ⟨B, 0, none⟩)] w fun e w' => e = .returned (.bool R) ∧ Below w.heap.size w w' := by
  subst hR
  have c0 := hb.cell 0 (v := .slice (some ⟨G, 0, none⟩) n n) rfl
  have c1 : w.cell? ⟨G, i * 80 + j, none⟩ = some (.bool (g (i * 80 + j))) := hg.cell _ (bs_get _ (by omega))
  have hi' : (i : Int) < n := by omega
  have hj' : (j : Int) < 80 := by omega
  have hw0 := Lib.hid (Bel.refl w)
  clear hb hg
  go_enter Try.func34, Try.ntmps34
  go_wp2
  go_ret
  exact ⟨rfl, hw0.out⟩
/-- The pairs that are told of a trace. -/
def prOf (R : List Ev → Nat → Nat → Bool) (l : List Ev) : List (Nat × Nat) := if may l = 0 then prsA (R l) l.length else []
def PrPost (w : World) (R : List Ev → Nat → Nat → Bool) (l : List Ev) (e : Ending) (w' : World) : Prop :=
  ∃ v, e = .returned (.tuple #[v, .int .i64 (may l)]) ∧ w'.ownsRow w.heap.size 45 2 v (prOf R l).length (prc (prOf R l)) ∧ Below w.heap.size w w'
theorem prOf_ok {R : List Ev → Nat → Nat → Bool} {l : List Ev} {n : Nat} (h : may l = 0) (hn : l.length = n) : prOf R l = prsA (R l) n := by unfold prOf; rw [if_pos h, hn]
theorem prOf_no {R : List Ev → Nat → Nat → Bool} {l : List Ev} (h : may l ≠ 0) : prOf R l = [] := by unfold prOf; rw [if_neg h]
theorem dirB_up (l : List Ev) (a b : Nat) (h : b ≤ a) : dirB l a b = false := by rw [← Bool.not_eq_true]; intro hh; have := dirB_lt hh; omega
theorem bef_up (l : List Ev) (a b : Nat) (h : b ≤ a) : bef l a b = false := by rw [← Bool.not_eq_true]; intro hh; have := bef_lt hh; omega
theorem Bel.own {w w1 w2 : World} {e : TypeId} {size n : Nat} {v : Value} {xs : List Value} (h : Bel w w1) (ho : w2.ownsRow w1.heap.size e size v n xs) : w2.ownsRow w.heap.size e size v n xs := own_drop_alloc ho h.size
set_option maxHeartbeats 4000000 in
theorem direct_any (A : Option Addr) (n c : Nat) (l : List Ev) (w : World) (hl : Sl w A n l) : Calls Try.prog 12 #[.slice A n c] w (PrPost w dirB l) := by
  have hw0 := Bel.refl w
  have hwa := hw0.alloc (.cells #[.slice A n c] 22)
  have HB0 := Lib.hid (Box.new w #[.slice A n c] 22)
  have HL := Lib.hid (hl.bel hwa)
  have HN := Lib.hid hl.1
  have HE := Lib.hid (enters_of Try.func29 (by kernel_rfl) rfl)
  have HWA := Lib.hid hwa
  clear hl hw0 hwa
  generalize hW : w.alloc (.cells #[.slice A n c] 22) = W at *
  have c0 := HB0.out.cell 0 (v := .slice A n c) rfl
  cases h1 : (may l != 0)
  · have HM := Lib.hid (show may l = 0 by simpa using h1)
    have hn80 : n ≤ 80 := by rw [← HN.out]; exact ((may_iff l).1 HM.out).1
    have HP := Lib.hid (prOf_ok (R := dirB) HM.out HN.out)
    have h1' : ((check l).2 != 0) = false := h1
    go_enter Try.func12, Try.ntmps12
    go_wp2_with fail
    refine (check_any A n c l _ HL.out).mono ?_
    rintro e w1 ⟨rfl, hb1⟩
    have HB1 := Lib.hid (HB0.out.below hb1 HB0.out.lt)
    have HL1 := Lib.hid (HL.out.bel hb1)
    have HW1 := Lib.hid (HWA.out.call hb1)
    have c1 := HB1.out.cell 0 (v := .slice A n c) rfl
    have hE := HE.out
    clear hb1
    go_wp2_with fail
    refine (pairs_any _ _ n (dirB l) _ hn80 HE.out (fun a b w2 ha hb hab hbw => direct1_any A n c _ l _ w2 (HL1.out.bel hbw) (hbw.box HB1.out) a b ha hb _ (fun x y hx hy => by rw [dirB_at hx hy, decide_eq_true hab, Bool.true_and])) (dirB_up l)).mono ?_
    rintro e w2 ⟨v, rfl, hown, hb2⟩
    have HO := Lib.hid (HW1.out.own hown)
    have HW2 := Lib.hid (HW1.out.call hb2)
    clear hown hb2
    go_wp2
    go_ret2
    exact ⟨v, by rw [HM.out]; rfl, by rw [HP.out]; exact HO.out, HW2.out⟩
  · have HP := Lib.hid (prOf_no (R := dirB) (show may l ≠ 0 by simpa using h1))
    have h1' : ((check l).2 != 0) = true := h1
    go_enter Try.func12, Try.ntmps12
    go_wp2_with fail
    refine (check_any A n c l _ HL.out).mono ?_
    rintro e w1 ⟨rfl, hb1⟩
    have HW1 := Lib.hid (HWA.out.call hb1)
    clear hb1
    go_wp2
    go_ret2
    exact ⟨_, rfl, by rw [HP.out]; exact World.ownsRow_nil _ _ _ _, HW1.out⟩
theorem doneC_at (l : List Ev) {a b : Nat} (hb : b < 80) : doneC l 0 (a * 80 + b) = bef l a b := by
  unfold doneC
  rw [if_neg (by omega), show (a * 80 + b) / 80 = a by omega, show (a * 80 + b) % 80 = b by omega]
set_option maxHeartbeats 4000000 in
theorem before_any (A : Option Addr) (n c : Nat) (l : List Ev) (w : World) (hl : Sl w A n l) : Calls Try.prog 16 #[.slice A n c] w (PrPost w bef l) := by
  have hw0 := Bel.refl w
  have HL := Lib.hid hl
  have HE := Lib.hid (enters_of Try.func34 (by kernel_rfl) rfl)
  cases h1 : (may l != 0)
  · have HM := Lib.hid (show may l = 0 by simpa using h1)
    have hn80 : n ≤ 80 := by rw [← hl.1]; exact ((may_iff l).1 HM.out).1
    have HP := Lib.hid (prOf_ok (R := bef) HM.out hl.1)
    have h1' : ((check l).2 != 0) = false := h1
    clear hl
    go_enter Try.func16, Try.ntmps16
    go_wp2_with fail
    refine (check_any A n c l _ HL.out).mono ?_
    rintro e1 w1 ⟨rfl, hb1⟩
    have hw1 := hw0.call hb1
    clear hb1
    go_wp2_with fail
    refine (followers_any A n c l _ (HL.out.bel hw1) hn80).mono ?_
    rintro e w2 ⟨rfl, hf⟩
    have HF := Lib.hid hf
    have HW2 := Lib.hid (hw1.call hf.below)
    have HBX := Lib.hid (Box.new w2 #[.slice (some ⟨w1.heap.size, 0, none⟩) n n] 53)
    have HFX := Lib.hid (HF.out.box.old (.cells #[.slice (some ⟨w1.heap.size, 0, none⟩) n n] 53))
    have hE := HE.out
    clear hf hw1
    go_wp2_with fail
    refine (pairs_any _ w2.heap.size n (bef l) _ hn80 HE.out (fun a b w3 ha hb hab hbw => before1_any _ _ n _ _ _ w3 (hbw.box HBX.out) (hbw.box HFX.out) a b ha (by omega) _ (doneC_at l (by omega))) (bef_up l)).mono ?_
    rintro e w3 ⟨v, rfl, hown, hb3⟩
    have HW2' := Lib.hid (HW2.out.alloc (.cells #[.slice (some ⟨w1.heap.size, 0, none⟩) n n] 53))
    have HO := Lib.hid (HW2'.out.own hown)
    have HW3 := Lib.hid (HW2'.out.call hb3)
    clear hown hb3
    go_wp2
    go_ret2
    exact ⟨v, by rw [HM.out]; rfl, by rw [HP.out]; exact HO.out, HW3.out⟩
  · have HP := Lib.hid (prOf_no (R := bef) (show may l ≠ 0 by simpa using h1))
    have h1' : ((check l).2 != 0) = true := h1
    clear hl
    go_enter Try.func16, Try.ntmps16
    go_wp2_with fail
    refine (check_any A n c l _ HL.out).mono ?_
    rintro e1 w1 ⟨rfl, hb1⟩
    have hw1 := hw0.call hb1
    clear hb1
    go_wp2
    go_ret2
    exact ⟨_, rfl, by rw [HP.out]; exact World.ownsRow_nil _ _ _ _, hw1⟩
/-- What Leads answers. -/
def inBoth (l : List Ev) (i j : Int) : Bool := inB i l.length && inB j l.length
def leadE (l : List Ev) (i j : Int) : Int := if may l ≠ 0 then may l else if inBoth l i j then 0 else 1
def leadV (l : List Ev) (i j : Int) : Bool := if may l ≠ 0 then false else if inBoth l i j then bef l i.toNat j.toNat else false
set_option maxHeartbeats 4000000 in
theorem leads_any (A : Option Addr) (n c : Nat) (l : List Ev) (i j : Int) (w : World) (hl : Sl w A n l) :
    Calls Try.prog 20 #[.slice A n c, .int .i64 i, .int .i64 j] w fun e w' => e = .returned (.tuple #[.bool (leadV l i j), .int .i64 (leadE l i j)]) ∧ Below w.heap.size w w' := by
  have hw0 := Bel.refl w
  have HL := Lib.hid hl
  have HN := Lib.hid hl.1
  cases h1 : (may l != 0)
  · have HM := Lib.hid (show may l = 0 by simpa using h1)
    have hn80 : n ≤ 80 := by rw [← HN.out]; exact ((may_iff l).1 HM.out).1
    have HV := Lib.hid (show leadV l i j = (if inBoth l i j then bef l i.toNat j.toNat else false) by unfold leadV; rw [if_neg (by rw [HM.out]; decide)])
    have HX := Lib.hid (show leadE l i j = (if inBoth l i j then 0 else 1) by unfold leadE; rw [if_neg (by rw [HM.out]; decide)])
    have h1' : ((check l).2 != 0) = false := h1
    clear hl
    cases hi : inB i n
    · have HF := Lib.hid (show inBoth l i j = false by unfold inBoth; rw [HN.out, hi]; rfl)
      go_enter Try.func20, Try.ntmps20
      go_wp2_with fail
      refine (check_any A n c l _ HL.out).mono ?_
      rintro e1 w1 ⟨rfl, hb1⟩
      have hw1 := hw0.call hb1
      clear hb1
      go_wp2_with (first | (go_at_call 36; (with_reducible refine (isIndex_any _ _ _ _ _).mono ?_); rintro e w' ⟨rfl, rfl⟩))
      go_ret2
      exact ⟨by rw [HV.out, HX.out, HF.out]; rfl, hw1⟩
    · cases hj : inB j n
      · have HF := Lib.hid (show inBoth l i j = false by unfold inBoth; rw [HN.out, hi, hj]; rfl)
        go_enter Try.func20, Try.ntmps20
        go_wp2_with fail
        refine (check_any A n c l _ HL.out).mono ?_
        rintro e1 w1 ⟨rfl, hb1⟩
        have hw1 := hw0.call hb1
        clear hb1
        go_wp2_with (first | (go_at_call 36; (with_reducible refine (isIndex_any _ _ _ _ _).mono ?_); rintro e w' ⟨rfl, rfl⟩))
        go_ret2
        exact ⟨by rw [HV.out, HX.out, HF.out]; rfl, hw1⟩
      · have HF := Lib.hid (show inBoth l i j = true by unfold inBoth; rw [HN.out, hi, hj]; rfl)
        have gi := inB_iff.1 hi
        have gj := inB_iff.1 hj
        obtain ⟨a, rfl⟩ := Int.eq_ofNat_of_zero_le gi.1
        obtain ⟨b, rfl⟩ := Int.eq_ofNat_of_zero_le gj.1
        have ha : (a : Int) < n := gi.2
        have hb80 : (b : Int) < 80 := by omega
        clear gi gj
        go_enter Try.func20, Try.ntmps20
        go_wp2_with fail
        refine (check_any A n c l _ HL.out).mono ?_
        rintro e1 w1 ⟨rfl, hb1⟩
        have hw1 := hw0.call hb1
        clear hb1
        go_wp2_with (first | (go_at_call 36; (with_reducible refine (isIndex_any _ _ _ _ _).mono ?_); rintro e w' ⟨rfl, rfl⟩) | (go_at_call 33; fail))
        refine (followers_any A n c l _ (HL.out.bel hw1) hn80).mono ?_
        rintro e w2 ⟨rfl, hf⟩
        have HW2 := Lib.hid (hw1.call hf.below)
        have c1 : w2.cell? ⟨w1.heap.size, a * 80 + b, none⟩ = some (.bool (bef l a b)) := by rw [← doneC_at l (a := a) (b := b) (by omega)]; exact hf.box.cell _ (bs_get _ (by omega))
        clear hf hw1
        go_wp2
        go_ret2
        exact ⟨by rw [HV.out, HX.out, HF.out]; rfl, HW2.out⟩
  · have HV := Lib.hid (show leadV l i j = false by unfold leadV; rw [if_pos (by simpa using h1)])
    have HX := Lib.hid (show leadE l i j = may l by unfold leadE; rw [if_pos (by simpa using h1)])
    have h1' : ((check l).2 != 0) = true := h1
    clear hl
    go_enter Try.func20, Try.ntmps20
    go_wp2_with fail
    refine (check_any A n c l _ HL.out).mono ?_
    rintro e1 w1 ⟨rfl, hb1⟩
    have hw1 := hw0.call hb1
    clear hb1
    go_wp2
    go_ret2
    exact ⟨by rw [HV.out, HX.out]; rfl, hw1⟩
end Go.Proofs.Ytkkiflhnjpmalaa

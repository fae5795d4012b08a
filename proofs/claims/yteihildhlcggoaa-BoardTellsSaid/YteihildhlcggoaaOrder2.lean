/- Contracts of the package order: Direct, Before, Leads and their function values. -/
import Derived.Test.YteihildhlcggoaaPr
import Derived.Test.YteihildhlcggoaaFollow
import Derived.Test.YteihildhlcggoaaTrace
import Derived.Shelf.Abstract
set_option linter.all false
set_option maxRecDepth 100000
namespace Go.Proofs.Yteihildhlcggoaa
open Go Go.RowKit

theorem Sl.get {w : World} {A : Option Addr} {n : Nat} {l : List Ev} (h : Sl w A n l) {i : Nat} (hi : i < n) : ∃ e, l[i]? = some e := ⟨_, List.getElem?_eq_getElem (by rw [h.1]; exact hi)⟩
set_option maxHeartbeats 2000000 in
/-- The function value of Before. -/
theorem before1_any (B G n : Nat) (g : Nat → Bool) (t u : TypeId) (w : World) (hb : Box w B #[.slice (some ⟨G, 0, none⟩) n n] t) (hg : Box w G (bs (n * 80) g) u) (i j : Nat) (hi : i < n) (hj : j < 80) (R : Bool) (hR : g (i * 80 + j) = R) :
    Calls Try.prog 59 #[.int .i64 i, .int .i64 j, .pointer (some ⟨B, 0, none⟩)] w fun e w' => e = .returned (.bool R) ∧ Below w.heap.size w w' := by
  subst hR
  have c0 := hb.cell 0 (v := .slice (some ⟨G, 0, none⟩) n n) rfl
  have c1 : w.cell? ⟨G, i * 80 + j, none⟩ = some (.bool (g (i * 80 + j))) := hg.cell _ (bs_get _ (by omega))
  have hi' : (i : Int) < n := by omega
  have hj' : (j : Int) < 80 := by omega
  have hw0 := Lib.hid (Bel.refl w)
  clear hb hg
  go_enter Try.func59, Try.ntmps59
  go_wp2
  go_ret
  exact ⟨rfl, hw0.out⟩
/-- The pairs that are told of a trace. -/
def prOf (R : List Ev → Nat → Nat → Bool) (l : List Ev) : List (Nat × Nat) := if may l = 0 then prsA (R l) l.length else []
def PrPost (w : World) (R : List Ev → Nat → Nat → Bool) (l : List Ev) (e : Ending) (w' : World) : Prop :=
  ∃ v, e = .returned (.tuple #[v, .int .i64 (may l)]) ∧ w'.ownsRow w.heap.size 122 2 v (prOf R l).length (prc (prOf R l)) ∧ Below w.heap.size w w'
theorem prOf_ok {R : List Ev → Nat → Nat → Bool} {l : List Ev} {n : Nat} (h : may l = 0) (hn : l.length = n) : prOf R l = prsA (R l) n := by unfold prOf; rw [if_pos h, hn]
theorem prOf_no {R : List Ev → Nat → Nat → Bool} {l : List Ev} (h : may l ≠ 0) : prOf R l = [] := by unfold prOf; rw [if_neg h]
theorem dirB_up (l : List Ev) (a b : Nat) (h : b ≤ a) : dirB l a b = false := by rw [← Bool.not_eq_true]; intro hh; have := dirB_lt hh; omega
theorem bef_up (l : List Ev) (a b : Nat) (h : b ≤ a) : bef l a b = false := by rw [← Bool.not_eq_true]; intro hh; have := bef_lt hh; omega
theorem Bel.own {w w1 w2 : World} {e : TypeId} {size n : Nat} {v : Value} {xs : List Value} (h : Bel w w1) (ho : w2.ownsRow w1.heap.size e size v n xs) : w2.ownsRow w.heap.size e size v n xs := own_drop_alloc ho h.size
theorem doneC_at (l : List Ev) {a b : Nat} (hb : b < 80) : doneC l 0 (a * 80 + b) = bef l a b := by
  unfold doneC
  rw [if_neg (by omega), show (a * 80 + b) / 80 = a by omega, show (a * 80 + b) % 80 = b by omega]
set_option maxHeartbeats 4000000 in
theorem before_any (A : Option Addr) (n c : Nat) (l : List Ev) (w : World) (hl : Sl w A n l) : Calls Try.prog 39 #[.slice A n c] w (PrPost w bef l) := by
  have hw0 := Bel.refl w
  have HL := Lib.hid hl
  have HE := Lib.hid (enters_of Try.func59 (by kernel_rfl) rfl)
  cases h1 : (may l != 0)
  · have HM := Lib.hid (show may l = 0 by simpa using h1)
    have hn80 : n ≤ 80 := by rw [← hl.1]; exact ((may_iff l).1 HM.out).1
    have HP := Lib.hid (prOf_ok (R := bef) HM.out hl.1)
    have h1' : ((check l).2 != 0) = false := h1
    clear hl
    go_enter Try.func39, Try.ntmps39
    go_wp2_with fail
    refine (check_any A n c l _ HL.out).mono ?_
    rintro e1 w1 ⟨rfl, hb1⟩
    have hw1 := hw0.call hb1
    clear hb1
    go_wp2_with fail
    refine (followers_any A n c l _ (HL.out.bel hw1) hn80).mono ?_
    rintro e w2 ⟨rfl, hf⟩
    have HF := Lib.hid hf
    have HW2 := Lib.hid (hw1.call hf.below)
    have HBX := Lib.hid (Box.new w2 #[.slice (some ⟨w1.heap.size, 0, none⟩) n n] 116)
    have HFX := Lib.hid (HF.out.box.old (.cells #[.slice (some ⟨w1.heap.size, 0, none⟩) n n] 116))
    have hE := HE.out
    clear hf hw1
    go_wp2_with fail
    refine (pairs_any _ w2.heap.size n (bef l) _ hn80 HE.out (fun a b w3 ha hb hab hbw => before1_any _ _ n _ _ _ w3 (hbw.box HBX.out) (hbw.box HFX.out) a b ha (by omega) _ (doneC_at l (by omega))) (bef_up l)).mono ?_
    rintro e w3 ⟨v, rfl, hown, hb3⟩
    have HW2' := Lib.hid (HW2.out.alloc (.cells #[.slice (some ⟨w1.heap.size, 0, none⟩) n n] 116))
    have HO := Lib.hid (HW2'.out.own hown)
    have HW3 := Lib.hid (HW2'.out.call hb3)
    clear hown hb3
    go_wp2
    go_ret2
    exact ⟨v, by rw [HM.out]; rfl, by rw [HP.out]; exact HO.out, HW3.out⟩
  · have HP := Lib.hid (prOf_no (R := bef) (show may l ≠ 0 by simpa using h1))
    have h1' : ((check l).2 != 0) = true := h1
    clear hl
    go_enter Try.func39, Try.ntmps39
    go_wp2_with fail
    refine (check_any A n c l _ HL.out).mono ?_
    rintro e1 w1 ⟨rfl, hb1⟩
    have hw1 := hw0.call hb1
    clear hb1
    go_wp2
    go_ret2
    exact ⟨_, rfl, by rw [HP.out]; exact World.ownsRow_nil _ _ _ _, hw1⟩
/-- What Leads answers. -/
def inBoth (l : List Ev) (i j : Int) : Bool := inB i l.length && inB j l.length
def leadE (l : List Ev) (i j : Int) : Int := if may l ≠ 0 then may l else if inBoth l i j then 0 else 1
def leadV (l : List Ev) (i j : Int) : Bool := if may l ≠ 0 then false else if inBoth l i j then bef l i.toNat j.toNat else false
end Go.Proofs.Yteihildhlcggoaa

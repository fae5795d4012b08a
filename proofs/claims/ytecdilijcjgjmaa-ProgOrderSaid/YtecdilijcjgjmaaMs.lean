/- start: the machine that has done nothing. -/
import Derived.Test.YtecdilijcjgjmaaMb
import Derived.Test.YtecdilijcjgjmaaRpN
import Derived.Deep.DeepCutAuto
set_option linter.all false
set_option maxRecDepth 100000
namespace Go.Proofs.Ytecdilijcjgjmaa
open Go Go.RowKit

/-- A new machine whose first i locks are free. -/
def mc0 (i : Nat) : Mc := ⟨fun t => decide (t = 0), fun _ => 0, fun k => if k < i then -1 else 0, fun _ => 0, fun _ => 0, fun _ => 0⟩
def mcz : Mc := ⟨fun _ => false, fun _ => 0, fun _ => 0, fun _ => 0, fun _ => 0, fun _ => 0⟩
theorem mc0_end {w : World} {M : Nat} {A : Option Addr} {n c : Nat} {LV : Value} (h : MBx w M A n c (mc0 5) LV) : MBx w M A n c (mcP ps0) LV :=
  h.to (fun t _ => by show begun [] (t : Nat) = decide (t = 0); unfold begun did; simp) (fun _ _ => rfl) (fun t ht => by show owner [] (t : Nat) = if t < 5 then -1 else 0; rw [if_pos ht]; rfl) (fun _ _ => rfl) (fun _ _ => rfl) (fun _ _ => rfl)
theorem mc0_step {w : World} {M : Nat} {A : Option Addr} {n c : Nat} {LV : Value} {i : Nat} (h : MBx w M A n c (mc0 i) LV) (hi : i < 5) : MBx (w.setCell ⟨M, 13 + i, none⟩ (.int .i64 (-1))) M A n c (mc0 (i + 1)) LV :=
  (h.setO (v := -1) hi).to (fun _ _ => rfl) (fun _ _ => rfl) (fun t ht => by
    show (if t < i + 1 then (-1 : Int) else 0) = upF (fun k => if k < i then (-1 : Int) else 0) i (-1) t
    unfold upF
    by_cases h : t = i
    · subst h; simp
    · rw [if_neg h]
      show _ = if t < i then (-1 : Int) else 0
      by_cases h2 : t < i
      · rw [if_pos h2, if_pos (by omega)]
      · rw [if_neg h2, if_neg (by omega)]) (fun _ _ => rfl) (fun _ _ => rfl) (fun _ _ => rfl)
set_option maxHeartbeats 8000000 in
theorem mstart_any (A : Option Addr) (n c : Nat) (w : World) : Calls Try.prog 45 #[.slice A n c] w fun e w' => e = .returned (.pointer (some ⟨w.heap.size, 0, none⟩)) ∧ MBx w' w.heap.size A n c (mcP ps0) (.slice none 0 0) ∧ Below w.heap.size w w' := by
  have HM := Lib.hid (show MBx (w.alloc (.cells (vs 39 (mF A n c mcz (.slice none 0 0))) 91)) w.heap.size A n c mcz (.slice none 0 0) from ⟨Box.new w _ _⟩)
  have HW := Lib.hid ((Bel.refl w).alloc (.cells (vs 39 (mF A n c mcz (.slice none 0 0))) 91))
  have c1 := HM.out.cell (i := 1) (by omega)
  have f1 := HM.out.box.frozen 1
  go_enter Try.func45, Try.ntmps45
  go_upto_region 2 with fail
  change Code.wp _ _ _ _ (w.alloc (.cells (vs 39 (mF A n c mcz (.slice none 0 0))) 91))
  have HM1 := Lib.hid (show MBx ((w.alloc (.cells (vs 39 (mF A n c mcz (.slice none 0 0))) 91)).setCell ⟨w.heap.size, 1, none⟩ (.bool true)) w.heap.size A n c (mc0 0) (.slice none 0 0) from
    (HM.out.setB (t := 0) (v := true) (by omega)).to (fun t _ => by show decide (t = 0) = upF (fun _ => false) 0 true t; unfold upF; by_cases h : t = 0 <;> simp [h]) (fun _ _ => rfl) (fun _ _ => rfl) (fun _ _ => rfl) (fun _ _ => rfl) (fun _ _ => rfl))
  have HW1 := Lib.hid (HW.out.setCell ⟨w.heap.size, 1, none⟩ (Nat.le_refl _) (.bool true))
  generalize w.alloc (.cells (vs 39 (mF A n c mcz (.slice none 0 0))) 91) = w0 at *
  go_wp2
  clear c1 f1 HM HW
  generalize w0.setCell ⟨w.heap.size, 1, none⟩ (.bool true) = w1 at *
  go_loopw [12] (fun t wr => ∃ i : Nat, i ≤ 5 ∧ t = .int .i64 i ∧ MBx wr w.heap.size A n c (mc0 i) (.slice none 0 0) ∧ Bel w wr) (fun t _ => 5 - (intOf t).toNat)
  case atStart => exact ⟨0, by omega, rfl, HM1.out, HW1.out⟩
  case round =>
    obtain ⟨i, hi, rfl, hm, hbr⟩ := hrel
    have HBR := Lib.hid hbr
    have HMR := Lib.hid hm
    clear hbr hm
    by_cases hi1 : i < 5
    · have hi2 : (i : Int) < 5 := by omega
      have ci := HMR.out.own hi1
      have fi := HMR.out.box.frozen (13 + i)
      go_wp2
      go_roundw
      case rel => exact ⟨i + 1, by omega, by go_num, mc0_step HMR.out hi1, HBR.out.setCell ⟨w.heap.size, 13 + i, none⟩ (Nat.le_refl _) _⟩
      case measure => simp [intOf]; omega
    · obtain rfl : i = 5 := by omega
      go_wp2
      go_ret
      exact ⟨rfl, mc0_end HMR.out, HBR.out.out⟩
end Go.Proofs.Ytecdilijcjgjmaa

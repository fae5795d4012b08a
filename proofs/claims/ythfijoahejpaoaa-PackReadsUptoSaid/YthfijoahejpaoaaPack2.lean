/- Contracts of the package pack: events. -/
import Derived.Test.YthfijoahejpaoaaPack
import Derived.Test.YthfijoahejpaoaaMakeEv
set_option linter.all false
set_option maxRecDepth 100000
namespace Go.Proofs.Ythfijoahejpaoaa
open Go Go.RowKit

structure PRel (w : World) (l : List Ev) (n B i : Nat) (wr : World) : Prop where
  box : Box wr B (evsC l n i) 31
  below : Below w.heap.size w wr
  ge : w.heap.size ≤ B
def EvsPost (w : World) (s : List UInt8) (e : Ending) (w' : World) : Prop :=
  ∃ v, e = .returned v ∧ w'.ownsRow w.heap.size 31 3 v (evsL s).length (evc (evsL s)) ∧ Below w.heap.size w w'
set_option maxHeartbeats 4000000 in
theorem events_any (s : List UInt8) (hs : s.length ≤ 1000000) (w : World) : Calls Try.prog 23 #[.string (str s)] w (EvsPost w s) := by
  have hz := str_sz s
  have hw0 := Bel.refl w
  have HL := Lib.hid (evsL_length s)
  obtain ⟨n, hn⟩ : ∃ n, n = s.length / 2 := ⟨_, rfl⟩
  have hq : ((str s).size : Int).tdiv 2 = n := by rw [Int.tdiv_eq_ediv_of_nonneg (by omega)]; omega
  have hq2 : wrap64 n = n := IntWalk.wrap64_in _ (by omega)
  have hn6 : n ≤ 1000000 := by omega
  have HN := Lib.hid hn
  have HZ := Lib.hid hz
  clear hn hz
  go_enter Try.func23, Try.ntmps23
  go_wp2_with (refine makeEv _ _ rfl rfl n hn6 _ (by first | rfl | exact hq2) rfl rfl ?_)
  have H0 := Lib.hid (PRel.mk (by rw [evsC_zero]; exact Box.new w _ 31) (hw0.alloc _).out (Nat.le_refl _) : PRel w (evsL s) n w.heap.size 0 (w.alloc (.cells (Array.replicate (n * 3) (.int .i64 0)) 31)))
  clear hw0
  generalize w.alloc (.cells (Array.replicate (n * 3) (.int .i64 0)) 31) = w2 at *
  generalize hB : w.heap.size = B at *
  go_loopw [13] (fun t wr => ∃ i : Nat, i ≤ n ∧ t = .int .i64 i ∧ PRel w (evsL s) n B i wr) (fun t _ => n - (intOf t).toNat)
  case atStart => exact ⟨0, by omega, rfl, H0.out⟩
  case round =>
    obtain ⟨i, hi, rfl, hr⟩ := hrel
    have HR := Lib.hid hr
    clear hr H0
    by_cases hlt : i < n
    · have hlt' : (i : Int) < n := by omega
      have h1 := HN.out
      have h2 := HZ.out
      have hx : 2 * i + 1 < s.length := by omega
      have HE := Lib.hid (evsL_get s i hx)
      have HB := Lib.hid (Bel.of (w := w) HR.out.below)
      have hwr := Bel.refl wr
      have f1 : IntKind.i64.wrap (2 * (i : Int)) = 2 * i := IntWalk.i64_in _ (by omega)
      have f2 : IntKind.i64.wrap (2 * (i : Int) + 1) = 2 * i + 1 := IntWalk.i64_in _ (by omega)
      have f3 : 0 ≤ 2 * (i : Int) := by omega
      have f4 : 2 * (i : Int) < (str s).size := by omega
      have f5 : 0 ≤ 2 * (i : Int) + 1 := by omega
      have f6 : 2 * (i : Int) + 1 < (str s).size := by omega
      clear h1 h2
      go_wp2
      (refine region_bel (by kernel_rfl) (by kernel_rfl) ?_; (repeat (first | (refine BigFrame.wpQuiet_skip rfl ?_; simp only [Act.put, Act.eval, List.setIfInBounds_toArray, List.set_cons_zero, List.set_cons_succ, Array.getD_eq_getD_getElem?, List.getElem?_toArray, List.getElem?_cons_zero, List.getElem?_cons_succ, Option.getD_some]) | (refine q_move _ rfl rfl ?_; simp only [Act.put, Act.eval, List.setIfInBounds_toArray, List.set_cons_zero, List.set_cons_succ, Array.getD_eq_getD_getElem?, List.getElem?_toArray, List.getElem?_cons_zero, List.getElem?_cons_succ, Option.getD_some]) | (refine q_assign _ rfl rfl ?_; simp only [Act.put, Act.eval, List.setIfInBounds_toArray, List.set_cons_zero, List.set_cons_succ, Array.getD_eq_getD_getElem?, List.getElem?_toArray, List.getElem?_cons_zero, List.getElem?_cons_succ, Option.getD_some]) | (refine q_any rfl ?_; apply Exists.intro; refine ⟨fun w hw => ?_, ?_⟩; (go_simp; first | exact ⟨rfl, rfl⟩ | rfl); simp only [Act.put, Act.eval, List.setIfInBounds_toArray, List.set_cons_zero, List.set_cons_succ, Array.getD_eq_getD_getElem?, List.getElem?_toArray, List.getElem?_cons_zero, List.getElem?_cons_succ, Option.getD_some]))); refine wpQuiet_nil ?_; intro w2 hw2)
      have HW2 := Lib.hid (HB.out.trans hw2)
      have HX2 := Lib.hid (hw2.box HR.out.box)
      have hz := HZ.out
      have hX : ∀ h, IntKind.i64.wrap ((((str s)[(2 * (i : Int)).toNat]'h).toNat : Nat) : Int) = ((s[2 * i]'(by omega)).toNat : Int) := fun h => by
        have e : (str s)[(2 * (i : Int)).toNat]'h = s[2 * i]'(by omega) := by
          have h2 : (2 * (i : Int)).toNat = 2 * i := by omega
          simp only [h2]
          exact str_get s (2 * i) (by omega) (by omega)
        rw [e]
        have := (s[2 * i]'(by omega)).toNat_lt
        exact IntWalk.i64_in _ (by omega)
      have hY : ∀ h, IntKind.i64.wrap ((((str s)[(2 * (i : Int) + 1).toNat]'h).toNat : Nat) : Int) = ((s[2 * i + 1]'(by omega)).toNat : Int) := fun h => by
        have e : (str s)[(2 * (i : Int) + 1).toNat]'h = s[2 * i + 1]'(by omega) := by
          have h2 : (2 * (i : Int) + 1).toNat = 2 * i + 1 := by omega
          simp only [h2]
          exact str_get s (2 * i + 1) (by omega) (by omega)
        rw [e]
        have := (s[2 * i + 1]'(by omega)).toNat_lt
        exact IntWalk.i64_in _ (by omega)
      simp only [hX, hY]
      have b1 := (s[2 * i]'(by omega)).toNat_lt
      clear hX hY hw2
      have HE2 := HE.out
      clear HE
      generalize s[2 * i]'(by omega) = a at *
      generalize s[2 * i + 1]'(by omega) = b at *
      have HE := Lib.hid HE2
      clear HE2 hz
      have q1 : (a.toNat : Int).tmod 8 = (a.toNat : Int) % 8 := Int.tmod_eq_emod_of_nonneg (by omega)
      have q2 : (a.toNat : Int).tdiv 8 = (a.toNat : Int) / 8 := Int.tdiv_eq_ediv_of_nonneg (by omega)
      have hsz := evsC_size (l := evsL s) (n := n) (i := i) (by rw [HL.out]; exact HN.out.symm) (by omega)
      have hsz2 : i * 3 + 3 ≤ (evsC (evsL s) n i).size := by omega
      clear hsz
      have HLn := Lib.hid (show (evsL s).length = n by rw [HL.out]; exact HN.out.symm)
      go_wp2_with (refine storeEv T36 _ _ rfl rfl (evAt a b) rfl rfl HX2.out hsz2 ?_)
      go_roundw
      case rel => exact ⟨i + 1, by omega, by go_num, ⟨by rw [← evsC_set HLn.out HE.out]; exact HX2.out.set3 _ _, below_set3 HW2.out.out HR.out.ge _ _, HR.out.ge⟩⟩
      case measure => simp [intOf]; omega
    · obtain rfl : i = n := by omega
      have HLn := Lib.hid (show (evsL s).length = i by rw [HL.out]; exact HN.out.symm)
      go_wp2
      go_ret
      have hbx := HR.out.box
      rw [evsC_all HLn.out] at hbx
      refine ⟨_, rfl, ?_, HR.out.below⟩
      rw [HLn.out]
      exact own_lit hbx HR.out.ge i 3 (by unfold maxLen; omega) (by rw [List.size_toArray, evc_length, HLn.out])
end Go.Proofs.Ythfijoahejpaoaa

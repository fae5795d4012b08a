/- Contracts of the package pack: checksum, number, isWhole. -/
import Derived.Test.YthfijoahejpaoaaRows
import Derived.Test.YthfijoahejpaoaaBase
import Derived.Test.YthfijoahejpaoaaPk
import Derived.WalkKit
import Derived.WalkSpells
import Derived.WalkLawsBesides
import Derived.BigQuiet
import Derived.IntWalk
import Derived.Lib.Hide
set_option linter.all false
set_option maxRecDepth 100000
namespace Go.Proofs.Ythfijoahejpaoaa
open Go Go.RowKit

set_option maxHeartbeats 2000000 in
theorem checksum_any (l : List UInt8) (hl : l.length ≤ maxLen) (w : World) : Calls Try.prog 17 #[.string (str l)] w fun e w' => e = .returned (.int .u16 ((sumN l : Int) % 65536)) ∧ w = w' := by
  have hz := str_sz l
  unfold maxLen at hl
  have HZ := Lib.hid hz
  have hz3 : ((str l).size : Int) ≤ 9223372036854775807 := by omega
  clear hz
  go_enter Try.func17, Try.ntmps17
  go_wp2
  go_loopw [3, 7] (fun u t wr => ∃ i : Nat, i ≤ l.length ∧ t = .int .i64 i ∧ u = .int .u16 ((sumN (l.take i) : Int) % 65536) ∧ w = wr) (fun _ t _ => l.length - (intOf t).toNat)
  case atStart => exact ⟨0, by omega, rfl, rfl, rfl⟩
  case round =>
    obtain ⟨i, hi, rfl, rfl, rfl⟩ := hrel
    have hz := HZ.out
    by_cases hlt : i < l.length
    · have hlt' : (i : Int) < (str l).size := by omega
      have HS := Lib.hid (sumN_snoc hlt)
      have HG := Lib.hid (str_get l i (by omega) hlt)
      clear hz
      go_wp2
      go_roundw
      case rel => 
        refine ⟨i + 1, by omega, by go_num, ?_, trivial⟩
        show Value.int .u16 (IntKind.u16.wrap ((sumN (l.take i) : Int) % 65536 + IntKind.u16.wrap (((str l)[i]'(by omega)).toNat : Int))) = _
        have e : (str l)[i]'(by omega) = l[i] := str_get l i (by omega) hlt
        rw [HS.out, e, IntKind.wrap_u16, IntKind.wrap_u16]
        congr 1
        omega
      case measure => simp [intOf]; omega
    · obtain rfl : i = l.length := by omega
      have hlt' : ¬ (l.length : Int) < (str l).size := by omega
      clear hz
      go_wp2
      go_ret
      exact ⟨rfl, rfl⟩
set_option maxHeartbeats 2000000 in
theorem number_any (a b : UInt8) (w : World) : Calls Try.prog 21 #[.string (str [a, b])] w fun e w' => e = .returned (.int .u16 ((a.toNat : Int) * 256 + b.toNat)) ∧ Below w.heap.size w w' := by
  have hz : (str [a, b]).size = 2 := str_sz _
  have HA := Lib.hid (And.intro a.toNat_lt b.toNat_lt)
  go_enter Try.func21, Try.ntmps21
  have hw0 : Bel w w := Bel.refl w
  go_wp2
  (refine region_bel (by kernel_rfl) (by kernel_rfl) ?_; (repeat (first | (refine BigFrame.wpQuiet_skip rfl ?_; simp only [Act.put, Act.eval, List.setIfInBounds_toArray, List.set_cons_zero, List.set_cons_succ, Array.getD_eq_getD_getElem?, List.getElem?_toArray, List.getElem?_cons_zero, List.getElem?_cons_succ, Option.getD_some]) | (refine q_move _ rfl rfl ?_; simp only [Act.put, Act.eval, List.setIfInBounds_toArray, List.set_cons_zero, List.set_cons_succ, Array.getD_eq_getD_getElem?, List.getElem?_toArray, List.getElem?_cons_zero, List.getElem?_cons_succ, Option.getD_some]) | (refine q_assign _ rfl rfl ?_; simp only [Act.put, Act.eval, List.setIfInBounds_toArray, List.set_cons_zero, List.set_cons_succ, Array.getD_eq_getD_getElem?, List.getElem?_toArray, List.getElem?_cons_zero, List.getElem?_cons_succ, Option.getD_some]) | (refine q_any rfl ?_; apply Exists.intro; refine ⟨fun w hw => ?_, ?_⟩; (go_simp; first | exact ⟨rfl, rfl⟩ | rfl); simp only [Act.put, Act.eval, List.setIfInBounds_toArray, List.set_cons_zero, List.set_cons_succ, Array.getD_eq_getD_getElem?, List.getElem?_toArray, List.getElem?_cons_zero, List.getElem?_cons_succ, Option.getD_some]))); refine wpQuiet_nil ?_; intro w2 hw2)
  go_wp2
  go_ret
  refine ⟨ret_val ?_, hw2⟩
  have g0 : (str [a, b])[0]'(by omega) = a := str_get [a, b] 0 (by omega) (by simp)
  have g1 : (str [a, b])[1]'(by omega) = b := str_get [a, b] 1 (by omega) (by simp)
  show Value.int .u16 (IntKind.u16.wrap (IntKind.u16.wrap (IntKind.u16.wrap (((str [a, b])[0]'(by omega)).toNat : Int) * 256) + IntKind.u16.wrap (((str [a, b])[1]'(by omega)).toNat : Int))) = _
  rw [g0, g1]
  have := HA.out
  simp only [IntKind.wrap_u16]
  congr 1
  omega
set_option maxHeartbeats 2000000 in
theorem isWhole_any (m n : UInt8) (r : List UInt8) (hl : r.length ≤ 9223372036854775000) (w : World) : Calls Try.prog 22 #[.string (str (m :: n :: r))] w fun e w' => e = .returned (.bool (wholeL (m :: n :: r))) ∧ w = w' := by
  have hz : (str (m :: n :: r)).size = r.length + 2 := str_sz _
  have g0 : ∀ h, (str (m :: n :: r))[0]'h = m := fun h => str_get (m :: n :: r) 0 h (by simp)
  have g1 : ∀ h, (str (m :: n :: r))[1]'h = n := fun h => str_get (m :: n :: r) 1 h (by simp)
  have HN := Lib.hid n.toNat_lt
  generalize str (m :: n :: r) = S at *
  have hz1 : 0 < S.size := by omega
  have hz2 : 1 < S.size := by omega
  by_cases hm : m = 68
  · have HV := Lib.hid (show wholeL (m :: n :: r) = decide (r.length = 2 * n.toNat) by subst hm; simp only [wholeL, beq_self_eq_true, Bool.true_and]; rw [Bool.eq_iff_iff]; simp)
    have h0 : (((S[0]'(by omega)).toNat : Int) == 68) = true := by rw [g0, hm]; rfl
    have HZ := Lib.hid hz
    have HG := Lib.hid (And.intro g0 g1)
    clear hz hm g0 g1
    go_enter Try.func22, Try.ntmps22
    go_wp2
    go_ret
    refine ⟨ret_val ?_, rfl⟩
    have h1 := HZ.out
    have h2 := HN.out
    show Value.bool ((S.size : Int) == wrap64 ((2 : Int) + wrap64 ((2 : Int) * wrap64 (((S[1]'(by omega)).toNat : Int))))) = _
    rw [HV.out, HG.out.2, IntWalk.wrap64_in (n.toNat : Int) (by omega), IntWalk.wrap64_in (2 * (n.toNat : Int)) (by omega), IntWalk.wrap64_in _ (by omega)]
    congr 1
    rw [Bool.eq_iff_iff, beq_iff_eq, decide_eq_true_iff]
    omega
  · have HV := Lib.hid (show wholeL (m :: n :: r) = false by simp [wholeL, hm])
    have h0 : (((S[0]'(by omega)).toNat : Int) == 68) = false := by
      rw [g0, beq_eq_false_iff_ne]; intro h; apply hm; apply UInt8.toNat_inj.1
      have : (68 : UInt8).toNat = 68 := rfl
      omega
    have HZ := Lib.hid hz
    have HG := Lib.hid (And.intro g0 g1)
    clear hz hm g0 g1
    go_enter Try.func22, Try.ntmps22
    go_wp2
    go_ret
    exact ⟨by rw [HV.out]; rfl, rfl⟩
end Go.Proofs.Ythfijoahejpaoaa

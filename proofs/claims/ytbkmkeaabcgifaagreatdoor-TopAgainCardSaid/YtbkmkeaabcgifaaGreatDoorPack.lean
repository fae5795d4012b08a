/- Contracts of the package pack: checksum, number, isWhole. | Contracts of the package pack: events. | Contracts of the package pack: Read. -/
import Derived.Test.YtbkmkeaabcgifaaGreatDoorRows
import Derived.Test.YtbkmkeaabcgifaaGreatDoorBase
import Derived.Test.YtbkmkeaabcgifaaGreatDoorPk
import Derived.WalkKit
import Derived.WalkSpells
import Derived.WalkLawsBesides
import Derived.BigQuiet
import Derived.IntWalk
import Derived.Lib.Hide
import Derived.Test.YtbkmkeaabcgifaaGreatDoorMakeEv
import Derived.Test.YtbkmkeaabcgifaaGreatDoorBytes
import Derived.Laws.Strings3
set_option linter.all false
set_option maxRecDepth 100000
namespace Go.Proofs.YtbkmkeaabcgifaaGreatDoor
open Go Go.RowKit

set_option maxHeartbeats 2000000 in
theorem checksum_any (l : List UInt8) (hl : l.length ≤ maxLen) (w : World) : Calls Tryz.prog 18 #[.string (str l)] w fun e w' => e = .returned (.int .u16 ((sumN l : Int) % 65536)) ∧ w = w' := by
  have hz := str_sz l
  unfold maxLen at hl
  have HZ := Lib.hid hz
  have hz3 : ((str l).size : Int) ≤ 9223372036854775807 := by omega
  clear hz
  go_enter Tryz.func18, Tryz.ntmps18
  go_wp2
  go_loopw [3, 7] (fun u t wr => ∃ i : Nat, i ≤ l.length ∧ t = .int .i64 i ∧ u = .int .u16 ((sumN (l.take i) : Int) % 65536) ∧ w = wr) (fun _ t _ => l.length - (intOf t).toNat)
  case atStart => exact ⟨0, by omega, rfl, rfl, rfl⟩
  case round =>
    obtain ⟨i, hi, rfl, rfl, rfl⟩ := hrel
    have hz := HZ.out
    by_cases hlt : i < l.length
    · have hlt' : (i : Int) < (str l).size := by omega
      have HS := Lib.hid (sumN_snoc hlt)
      have HG := Lib.hid (str_get l i (by omega) hlt)
      clear hz
      go_wp2
      go_roundw
      case rel => 
        refine ⟨i + 1, by omega, by go_num, ?_, trivial⟩
        show Value.int .u16 (IntKind.u16.wrap ((sumN (l.take i) : Int) % 65536 + IntKind.u16.wrap (((str l)[i]'(by omega)).toNat : Int))) = _
        have e : (str l)[i]'(by omega) = l[i] := str_get l i (by omega) hlt
        rw [HS.out, e, IntKind.wrap_u16, IntKind.wrap_u16]
        congr 1
        omega
      case measure => simp [intOf]; omega
    · obtain rfl : i = l.length := by omega
      have hlt' : ¬ (l.length : Int) < (str l).size := by omega
      clear hz
      go_wp2
      go_ret
      exact ⟨rfl, rfl⟩
set_option maxHeartbeats 2000000 in
theorem number_any (a b : UInt8) (w : World) : Calls Tryz.prog 21 #[.string (str [a, b])] w fun e w' => e = .returned (.int .u16 ((a.toNat : Int) * 256 + b.toNat)) ∧ Below w.heap.size w w' := by
  have hz : (str [a, b]).size = 2 := str_sz _
  have HA := Lib.hid (And.intro a.toNat_lt b.toNat_lt)
  go_enter Tryz.func21, Tryz.ntmps21
  have hw0 : Bel w w := Bel.refl w
  go_wp2
  (refine region_bel (by kernel_rfl) (by kernel_rfl) ?_; (repeat (first | ((with_reducible refine BigFrame.wpQuiet_skip ?_ ?_); exact rfl; simp only [Act.put, Act.eval, List.setIfInBounds_toArray, List.set_cons_zero, List.set_cons_succ, Array.getD_eq_getD_getElem?, List.getElem?_toArray, List.getElem?_cons_zero, List.getElem?_cons_succ, Option.getD_some]) | (refine q_move _ rfl rfl ?_; simp only [Act.put, Act.eval, List.setIfInBounds_toArray, List.set_cons_zero, List.set_cons_succ, Array.getD_eq_getD_getElem?, List.getElem?_toArray, List.getElem?_cons_zero, List.getElem?_cons_succ, Option.getD_some]) | (refine q_assign _ rfl rfl ?_; simp only [Act.put, Act.eval, List.setIfInBounds_toArray, List.set_cons_zero, List.set_cons_succ, Array.getD_eq_getD_getElem?, List.getElem?_toArray, List.getElem?_cons_zero, List.getElem?_cons_succ, Option.getD_some]) | (refine q_any rfl ?_; apply Exists.intro; refine ⟨fun w hw => ?_, ?_⟩; (go_simp; first | exact ⟨rfl, rfl⟩ | rfl); simp only [Act.put, Act.eval, List.setIfInBounds_toArray, List.set_cons_zero, List.set_cons_succ, Array.getD_eq_getD_getElem?, List.getElem?_toArray, List.getElem?_cons_zero, List.getElem?_cons_succ, Option.getD_some]))); refine wpQuiet_nil ?_; intro w2 hw2)
  go_wp2
  go_ret
  refine ⟨ret_val ?_, hw2⟩
  have g0 : (str [a, b])[0]'(by omega) = a := str_get [a, b] 0 (by omega) (by simp)
  have g1 : (str [a, b])[1]'(by omega) = b := str_get [a, b] 1 (by omega) (by simp)
  show Value.int .u16 (IntKind.u16.wrap (IntKind.u16.wrap (IntKind.u16.wrap (((str [a, b])[0]'(by omega)).toNat : Int) * 256) + IntKind.u16.wrap (((str [a, b])[1]'(by omega)).toNat : Int))) = _
  rw [g0, g1]
  have := HA.out
  simp only [IntKind.wrap_u16]
  congr 1
  omega
set_option maxHeartbeats 2000000 in
theorem isWhole_any (m n : UInt8) (r : List UInt8) (hl : r.length ≤ 9223372036854775000) (w : World) : Calls Tryz.prog 22 #[.string (str (m :: n :: r))] w fun e w' => e = .returned (.bool (wholeL (m :: n :: r))) ∧ w = w' := by
  have hz : (str (m :: n :: r)).size = r.length + 2 := str_sz _
  have g0 : ∀ h, (str (m :: n :: r))[0]'h = m := fun h => str_get (m :: n :: r) 0 h (by simp)
  have g1 : ∀ h, (str (m :: n :: r))[1]'h = n := fun h => str_get (m :: n :: r) 1 h (by simp)
  have HN := Lib.hid n.toNat_lt
  generalize str (m :: n :: r) = S at *
  have hz1 : 0 < S.size := by omega
  have hz2 : 1 < S.size := by omega
  by_cases hm : m = 68
  · have HV := Lib.hid (show wholeL (m :: n :: r) = decide (r.length = 2 * n.toNat) by subst hm; simp only [wholeL, beq_self_eq_true, Bool.true_and]; rw [Bool.eq_iff_iff]; simp)
    have h0 : (((S[0]'(by omega)).toNat : Int) == 68) = true := by rw [g0, hm]; rfl
    have HZ := Lib.hid hz
    have HG := Lib.hid (And.intro g0 g1)
    clear hz hm g0 g1
    go_enter Tryz.func22, Tryz.ntmps22
    go_wp2
    go_ret
    refine ⟨ret_val ?_, rfl⟩
    have h1 := HZ.out
    have h2 := HN.out
    show Value.bool ((S.size : Int) == wrap64 ((2 : Int) + wrap64 ((2 : Int) * wrap64 (((S[1]'(by omega)).toNat : Int))))) = _
    rw [HV.out, HG.out.2, IntWalk.wrap64_in (n.toNat : Int) (by omega), IntWalk.wrap64_in (2 * (n.toNat : Int)) (by omega), IntWalk.wrap64_in _ (by omega)]
    congr 1
    rw [Bool.eq_iff_iff, beq_iff_eq, decide_eq_true_iff]
    omega
  · have HV := Lib.hid (show wholeL (m :: n :: r) = false by simp [wholeL, hm])
    have h0 : (((S[0]'(by omega)).toNat : Int) == 68) = false := by
      rw [g0, beq_eq_false_iff_ne]; intro h; apply hm; apply UInt8.toNat_inj.1
      have : (68 : UInt8).toNat = 68 := rfl
      omega
    have HZ := Lib.hid hz
    have HG := Lib.hid (And.intro g0 g1)
    clear hz hm g0 g1
    go_enter Tryz.func22, Tryz.ntmps22
    go_wp2
    go_ret
    exact ⟨by rw [HV.out]; rfl, rfl⟩
end Go.Proofs.YtbkmkeaabcgifaaGreatDoor
namespace Go.Proofs.YtbkmkeaabcgifaaGreatDoor
open Go Go.RowKit

structure PRel (w : World) (l : List Ev) (n B i : Nat) (wr : World) : Prop where
  box : Box wr B (evsC l n i) 33
  below : Below w.heap.size w wr
  ge : w.heap.size ≤ B
def EvsPost (w : World) (s : List UInt8) (e : Ending) (w' : World) : Prop :=
  ∃ v, e = .returned v ∧ w'.ownsRow w.heap.size 33 3 v (evsL s).length (evc (evsL s)) ∧ Below w.heap.size w w'
set_option maxHeartbeats 4000000 in
theorem events_any (s : List UInt8) (hs : s.length ≤ 1000000) (w : World) : Calls Tryz.prog 23 #[.string (str s)] w (EvsPost w s) := by
  have hz := str_sz s
  have hw0 := Bel.refl w
  have HL := Lib.hid (evsL_length s)
  obtain ⟨n, hn⟩ : ∃ n, n = s.length / 2 := ⟨_, rfl⟩
  have hq : ((str s).size : Int).tdiv 2 = n := by rw [Int.tdiv_eq_ediv_of_nonneg (by omega)]; omega
  have hq2 : wrap64 n = n := IntWalk.wrap64_in _ (by omega)
  have hn6 : n ≤ 1000000 := by omega
  have HN := Lib.hid hn
  have HZ := Lib.hid hz
  clear hn hz
  go_enter Tryz.func23, Tryz.ntmps23
  go_wp2_with (refine makeEv _ _ rfl rfl n hn6 _ (by first | rfl | exact hq2) rfl rfl ?_)
  have H0 := Lib.hid (PRel.mk (by rw [evsC_zero]; exact Box.new w _ 33) (hw0.alloc _).out (Nat.le_refl _) : PRel w (evsL s) n w.heap.size 0 (w.alloc (.cells (Array.replicate (n * 3) (.int .i64 0)) 33)))
  clear hw0
  generalize w.alloc (.cells (Array.replicate (n * 3) (.int .i64 0)) 33) = w2 at *
  generalize hB : w.heap.size = B at *
  go_loopw [13] (fun t wr => ∃ i : Nat, i ≤ n ∧ t = .int .i64 i ∧ PRel w (evsL s) n B i wr) (fun t _ => n - (intOf t).toNat)
  case atStart => exact ⟨0, by omega, rfl, H0.out⟩
  case round =>
    obtain ⟨i, hi, rfl, hr⟩ := hrel
    have HR := Lib.hid hr
    clear hr H0
    by_cases hlt : i < n
    · have hlt' : (i : Int) < n := by omega
      have h1 := HN.out
      have h2 := HZ.out
      have hx : 2 * i + 1 < s.length := by omega
      have HE := Lib.hid (evsL_get s i hx)
      have HB := Lib.hid (Bel.of (w := w) HR.out.below)
      have hwr := Bel.refl wr
      have f1 : IntKind.i64.wrap (2 * (i : Int)) = 2 * i := IntWalk.i64_in _ (by omega)
      have f2 : IntKind.i64.wrap (2 * (i : Int) + 1) = 2 * i + 1 := IntWalk.i64_in _ (by omega)
      have f3 : 0 ≤ 2 * (i : Int) := by omega
      have f4 : 2 * (i : Int) < (str s).size := by omega
      have f5 : 0 ≤ 2 * (i : Int) + 1 := by omega
      have f6 : 2 * (i : Int) + 1 < (str s).size := by omega
      clear h1 h2
      go_wp2
      (refine region_bel (by kernel_rfl) (by kernel_rfl) ?_; (repeat (first | ((with_reducible refine BigFrame.wpQuiet_skip ?_ ?_); exact rfl; simp only [Act.put, Act.eval, List.setIfInBounds_toArray, List.set_cons_zero, List.set_cons_succ, Array.getD_eq_getD_getElem?, List.getElem?_toArray, List.getElem?_cons_zero, List.getElem?_cons_succ, Option.getD_some]) | (refine q_move _ rfl rfl ?_; simp only [Act.put, Act.eval, List.setIfInBounds_toArray, List.set_cons_zero, List.set_cons_succ, Array.getD_eq_getD_getElem?, List.getElem?_toArray, List.getElem?_cons_zero, List.getElem?_cons_succ, Option.getD_some]) | (refine q_assign _ rfl rfl ?_; simp only [Act.put, Act.eval, List.setIfInBounds_toArray, List.set_cons_zero, List.set_cons_succ, Array.getD_eq_getD_getElem?, List.getElem?_toArray, List.getElem?_cons_zero, List.getElem?_cons_succ, Option.getD_some]) | (refine q_any rfl ?_; apply Exists.intro; refine ⟨fun w hw => ?_, ?_⟩; (go_simp; first | exact ⟨rfl, rfl⟩ | rfl); simp only [Act.put, Act.eval, List.setIfInBounds_toArray, List.set_cons_zero, List.set_cons_succ, Array.getD_eq_getD_getElem?, List.getElem?_toArray, List.getElem?_cons_zero, List.getElem?_cons_succ, Option.getD_some]))); refine wpQuiet_nil ?_; intro w2 hw2)
      have HW2 := Lib.hid (HB.out.trans hw2)
      have HX2 := Lib.hid (hw2.box HR.out.box)
      have hz := HZ.out
      have hX : ∀ h, IntKind.i64.wrap ((((str s)[(2 * (i : Int)).toNat]'h).toNat : Nat) : Int) = ((s[2 * i]'(by omega)).toNat : Int) := fun h => by
        have e : (str s)[(2 * (i : Int)).toNat]'h = s[2 * i]'(by omega) := by
          have h2 : (2 * (i : Int)).toNat = 2 * i := by omega
          simp only [h2]
          exact str_get s (2 * i) (by omega) (by omega)
        rw [e]
        have := (s[2 * i]'(by omega)).toNat_lt
        exact IntWalk.i64_in _ (by omega)
      have hY : ∀ h, IntKind.i64.wrap ((((str s)[(2 * (i : Int) + 1).toNat]'h).toNat : Nat) : Int) = ((s[2 * i + 1]'(by omega)).toNat : Int) := fun h => by
        have e : (str s)[(2 * (i : Int) + 1).toNat]'h = s[2 * i + 1]'(by omega) := by
          have h2 : (2 * (i : Int) + 1).toNat = 2 * i + 1 := by omega
          simp only [h2]
          exact str_get s (2 * i + 1) (by omega) (by omega)
        rw [e]
        have := (s[2 * i + 1]'(by omega)).toNat_lt
        exact IntWalk.i64_in _ (by omega)
      simp only [hX, hY]
      have b1 := (s[2 * i]'(by omega)).toNat_lt
      clear hX hY hw2
      have HE2 := HE.out
      clear HE
      generalize s[2 * i]'(by omega) = a at *
      generalize s[2 * i + 1]'(by omega) = b at *
      have HE := Lib.hid HE2
      clear HE2 hz
      have q1 : (a.toNat : Int).tmod 8 = (a.toNat : Int) % 8 := Int.tmod_eq_emod_of_nonneg (by omega)
      have q2 : (a.toNat : Int).tdiv 8 = (a.toNat : Int) / 8 := Int.tdiv_eq_ediv_of_nonneg (by omega)
      have hsz := evsC_size (l := evsL s) (n := n) (i := i) (by rw [HL.out]; exact HN.out.symm) (by omega)
      have hsz2 : i * 3 + 3 ≤ (evsC (evsL s) n i).size := by omega
      clear hsz
      have HLn := Lib.hid (show (evsL s).length = n by rw [HL.out]; exact HN.out.symm)
      go_wp2_with (refine storeEv T36 _ _ rfl rfl (evAt a b) rfl rfl HX2.out hsz2 ?_)
      go_roundw
      case rel => exact ⟨i + 1, by omega, by go_num, ⟨by rw [← evsC_set HLn.out HE.out]; exact HX2.out.set3 _ _, below_set3 HW2.out.out HR.out.ge _ _, HR.out.ge⟩⟩
      case measure => simp [intOf]; omega
    · obtain rfl : i = n := by omega
      have HLn := Lib.hid (show (evsL s).length = i by rw [HL.out]; exact HN.out.symm)
      go_wp2
      go_ret
      have hbx := HR.out.box
      rw [evsC_all HLn.out] at hbx
      refine ⟨_, rfl, ?_, HR.out.below⟩
      rw [HLn.out]
      exact own_lit hbx HR.out.ge i 3 (by unfold maxLen; omega) (by rw [List.size_toArray, evc_length, HLn.out])
end Go.Proofs.YtbkmkeaabcgifaaGreatDoor
namespace Go.Proofs.YtbkmkeaabcgifaaGreatDoor
open Go Go.RowKit

def PReadPost (w : World) (s : List UInt8) (e : Ending) (w' : World) : Prop :=
  ∃ v, e = .returned (.tuple #[v, .int .i64 (packReadL s).2]) ∧ w'.ownsRow w.heap.size 33 3 v (packReadL s).1.length (evc (packReadL s).1) ∧ Below w.heap.size w w'
theorem readP_short {s : List UInt8} (h : s.length < 4) : packReadL s = ([], 4) := by unfold packReadL; rw [if_pos h]
/-- A text of four bytes or more, in its parts. -/
theorem parts {s : List UInt8} (h : ¬ s.length < 4) : ∃ (m n : UInt8) (r : List UInt8) (a b : UInt8), s = (m :: n :: r) ++ [a, b] := by
  have h1 : (s.drop (s.length - 2)).length = 2 := by rw [List.length_drop]; omega
  have h2 : (s.take (s.length - 2)).length ≥ 2 := by rw [List.length_take]; omega
  have h3 := List.take_append_drop (s.length - 2) s
  generalize s.drop (s.length - 2) = q at *
  generalize s.take (s.length - 2) = p at *
  match p, h2, q, h1 with
  | m :: n :: r, _, [a, b], _ => exact ⟨m, n, r, a, b, h3.symm⟩
theorem readP_parts (m n a b : UInt8) (r : List UInt8) : packReadL (m :: n :: (r ++ [a, b])) =
    if (sumN (m :: n :: r) : Int) % 65536 = (a.toNat : Int) * 256 + b.toNat then (if wholeL (m :: n :: r) = true ∧ may (evsL r) = 0 then (evsL r, 0) else ([], 5)) else ([], 6) := by
  obtain ⟨h1, h2⟩ := take_body (m :: n :: r) [a, b] rfl
  show packReadL ((m :: n :: r) ++ [a, b]) = _
  unfold packReadL
  rw [if_neg (by simp), h1, h2]
  by_cases h : [a, b] = sumL (sumN (m :: n :: r))
  · have h3 := (sumL_eq _ _ _).1 h
    have h4 : (sumN (m :: n :: r) : Int) % 65536 = (a.toNat : Int) * 256 + b.toNat := by omega
    rw [if_pos h4, if_neg (by simpa using h)]
    rfl
  · have h3 := fun hh => h ((sumL_eq _ _ _).2 hh)
    have h4 : ¬ (sumN (m :: n :: r) : Int) % 65536 = (a.toNat : Int) * 256 + b.toNat := fun hh => h3 (by omega)
    rw [if_neg h4, if_pos (by simpa using h)]
set_option maxHeartbeats 4000000 in
theorem kread_any (s : List UInt8) (hs : s.length ≤ 140737488355328) (w : World) : Calls Tryz.prog 8 #[.string (str s)] w (PReadPost w s) := by
  have hz := str_sz s
  have hw0 := Bel.refl w
  by_cases h4 : s.length < 4
  · have HV := Lib.hid (readP_short h4)
    have h0 : ((str s).size : Int) < 4 := by omega
    have HW := Lib.hid hw0
    clear hz hw0
    go_enter Tryz.func8, Tryz.ntmps8
    go_wp2
    go_ret2
    exact ⟨.slice none 0 0, by rw [HV.out]; rfl, by rw [HV.out]; exact World.ownsRow_nil .., HW.out⟩
  · obtain ⟨m, n, r, a, b, rfl⟩ := parts h4
    have hlen : ((m :: n :: r) ++ [a, b]).length = r.length + 4 := by simp
    have HR := Lib.hid (readP_parts m n a b r)
    have e1 : (str ((m :: n :: r) ++ [a, b])).extract 0 (r.length + 2) = str (m :: n :: r) := by
      rw [str_extract, show r.length + 2 = (m :: n :: r).length from rfl, List.take_left]; rfl
    have e2 : (str ((m :: n :: r) ++ [a, b])).extract (r.length + 2) (r.length + 4) = str [a, b] := by
      rw [str_extract, ← hlen, List.take_length, show r.length + 2 = (m :: n :: r).length from rfl, List.drop_left]
    have e3 : (str (m :: n :: r)).extract 2 (r.length + 2) = str r := by
      rw [str_extract, show r.length + 2 = (m :: n :: r).length from rfl, List.take_length]; rfl
    have HL := Lib.hid (show (m :: n :: r).length ≤ maxLen by unfold maxLen; simp; omega)
    have hz2 : (str (m :: n :: r)).size = r.length + 2 := str_sz _
    have HL2 := Lib.hid (show r.length ≤ 9223372036854775000 by omega)
    rw [hlen] at hz
    have HZ := Lib.hid (And.intro e3 hz2)
    have HS := Lib.hid hs
    generalize str ((m :: n :: r) ++ [a, b]) = S at *
    have f0 : ¬ (r.length : Int) + 4 < 4 := by omega
    have f1 : IntKind.i64.wrap ((r.length : Int) + 4 - 2) = r.length + 2 := by rw [IntWalk.i64_in _ (by omega)]; omega
    have f2 : ((r.length : Int) + 2).toNat = r.length + 2 := by omega
    have f3 : 0 ≤ (r.length : Int) + 2 := by omega
    have f4 : (r.length : Int) + 2 ≤ r.length + 4 := by omega
    clear e3 hz2 hlen h4 hs
    go_enter Tryz.func8, Tryz.ntmps8
    go_wp2
    (refine region_bel (by kernel_rfl) (by kernel_rfl) ?_; (repeat (first | ((with_reducible refine BigFrame.wpQuiet_skip ?_ ?_); exact rfl; simp only [Act.put, Act.eval, List.setIfInBounds_toArray, List.set_cons_zero, List.set_cons_succ, Array.getD_eq_getD_getElem?, List.getElem?_toArray, List.getElem?_cons_zero, List.getElem?_cons_succ, Option.getD_some]) | (refine q_move _ rfl rfl ?_; simp only [Act.put, Act.eval, List.setIfInBounds_toArray, List.set_cons_zero, List.set_cons_succ, Array.getD_eq_getD_getElem?, List.getElem?_toArray, List.getElem?_cons_zero, List.getElem?_cons_succ, Option.getD_some]) | (refine q_assign _ rfl rfl ?_; simp only [Act.put, Act.eval, List.setIfInBounds_toArray, List.set_cons_zero, List.set_cons_succ, Array.getD_eq_getD_getElem?, List.getElem?_toArray, List.getElem?_cons_zero, List.getElem?_cons_succ, Option.getD_some]) | (refine q_any rfl ?_; apply Exists.intro; refine ⟨fun w hw => ?_, ?_⟩; (go_simp; first | exact ⟨rfl, rfl⟩ | rfl); simp only [Act.put, Act.eval, List.setIfInBounds_toArray, List.set_cons_zero, List.set_cons_succ, Array.getD_eq_getD_getElem?, List.getElem?_toArray, List.getElem?_cons_zero, List.getElem?_cons_succ, Option.getD_some]))); refine wpQuiet_nil ?_; intro w2 hw2)
    have HW2 := Lib.hid hw2
    clear hw0 hw2 e1 e2 f0 f1 f2 f3 f4
    go_wp2_with fail
    refine (checksum_any _ HL.out _).mono ?_
    rintro _ _ ⟨rfl, rfl⟩
    go_wp2_with fail
    refine (number_any a b _).mono ?_
    rintro e3 w3 ⟨rfl, hb3⟩
    have hw3 := HW2.out.call hb3
    clear hb3
    by_cases hq : (sumN (m :: n :: r) : Int) % 65536 = (a.toNat : Int) * 256 + b.toNat
    · rw [if_pos hq] at HR
      have hne : ((sumN (m :: n :: r) : Int) % 65536 != (a.toNat : Int) * 256 + b.toNat) = false := by simpa using hq
      by_cases hwh : wholeL (m :: n :: r) = true
      · have hr5 : r.length ≤ 1000000 := by
          have h1 := hwh
          have := n.toNat_lt
          simp only [wholeL, Bool.and_eq_true, beq_iff_eq] at h1
          omega
        have e3 := HZ.out.1
        have hz2 := HZ.out.2
        have g1 : 2 ≤ (r.length : Int) + 2 := by omega
        go_wp2_with fail
        refine (isWhole_any m n r HL2.out _).mono ?_
        rintro _ _ ⟨rfl, rfl⟩
        rw [hwh]
        rw [hwh] at HR
        clear hne hwh
        go_wp2_with fail
        refine (events_any r hr5 _).mono ?_
        rintro e4 w4 ⟨v4, rfl, hown4, hb4⟩
        have hw4 := hw3.call hb4
        obtain ⟨A4, c4, rfl, hs4, hc4, hm4⟩ := Sl.own hown4
        have HS4 := Lib.hid hs4
        have HO := Lib.hid (own_drop_alloc hown4 hw3.size)
        clear hb4 hown4 hs4
        go_wp2_with fail
        refine (check_any A4 _ c4 _ _ HS4.out).mono ?_
        rintro e6 w6 ⟨rfl, hb6⟩
        have HB6 := Lib.hid (hw4.call hb6)
        have HO6 := Lib.hid (own_bel HO.out (Bel.of hb6))
        clear hb6
        cases hmy : (may (evsL r) != 0)
        · have hz0 : ((check (evsL r)).2 != 0) = false := hmy
          have HM : may (evsL r) = 0 := by simpa using hmy
          rw [if_pos (by exact ⟨trivial, HM⟩)] at HR
          clear hmy HM
          go_wp2
          go_ret2
          refine ⟨.slice A4 (evsL r).length c4, ?_, ?_, HB6.out⟩
          · rw [HR.out]; rfl
          · rw [HR.out]; exact HO6.out
        · have hz0 : ((check (evsL r)).2 != 0) = true := hmy
          have HM : ¬ may (evsL r) = 0 := by simpa using hmy
          rw [if_neg (fun h => HM h.2)] at HR
          clear hmy HM
          go_wp2
          go_ret2
          exact ⟨.slice none 0 0, by rw [HR.out]; rfl, by rw [HR.out]; exact World.ownsRow_nil .., HB6.out⟩
      · have hwf : wholeL (m :: n :: r) = false := by simpa using hwh
        rw [if_neg (fun h => hwh h.1)] at HR
        go_wp2_with fail
        refine (isWhole_any m n r HL2.out _).mono ?_
        rintro _ _ ⟨rfl, rfl⟩
        rw [hwf]
        go_wp2
        go_ret2
        exact ⟨.slice none 0 0, by rw [HR.out]; rfl, by rw [HR.out]; exact World.ownsRow_nil .., hw3⟩
    · rw [if_neg hq] at HR
      have hne : ((sumN (m :: n :: r) : Int) % 65536 != (a.toNat : Int) * 256 + b.toNat) = true := by simpa using hq
      go_wp2
      go_ret2
      exact ⟨.slice none 0 0, by rw [HR.out]; rfl, by rw [HR.out]; exact World.ownsRow_nil .., hw3⟩
end Go.Proofs.YtbkmkeaabcgifaaGreatDoor

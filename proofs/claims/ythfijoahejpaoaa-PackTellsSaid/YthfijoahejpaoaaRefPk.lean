/- Contracts of the reference: sumOf, Pack. -/
import Derived.Test.YthfijoahejpaoaaPk
import Derived.Test.YthfijoahejpaoaaChr
import Derived.Test.YthfijoahejpaoaaRefTr2
import Derived.Test.YthfijoahejpaoaaKeepTw
set_option linter.all false
set_option maxRecDepth 100000
namespace Go.Proofs.Ythfijoahejpaoaa
open Go Go.RowKit

set_option maxHeartbeats 2000000 in
theorem sumOf_any (l : List UInt8) (hl : l.length ≤ 140737488355328) (w : World) : Calls Try.prog 20 #[.string (str l)] w fun e w' => e = .returned (.int .i64 (sumN l : Int)) ∧ w = w' := by
  have hz := str_sz l
  have HZ := Lib.hid hz
  have hz3 : ((str l).size : Int) ≤ 9223372036854775807 := by omega
  clear hz
  go_enter Try.func20, Try.ntmps20
  go_wp2
  go_loopw [3, 7] (fun u t wr => ∃ i : Nat, i ≤ l.length ∧ t = .int .i64 i ∧ u = .int .i64 (sumN (l.take i) : Int) ∧ w = wr) (fun _ t _ => l.length - (intOf t).toNat)
  case atStart => exact ⟨0, by omega, rfl, rfl, rfl⟩
  case round =>
    obtain ⟨i, hi, rfl, rfl, rfl⟩ := hrel
    have hz := HZ.out
    by_cases hlt : i < l.length
    · have hlt' : (i : Int) < (str l).size := by omega
      have HS := Lib.hid (sumN_snoc hlt)
      have HB := Lib.hid (show sumN (l.take i) ≤ 255 * i by have := sumN_le (l.take i); rw [List.length_take] at this; omega)
      clear hz
      go_wp2
      go_roundw
      case rel =>
        refine ⟨i + 1, by omega, by go_num, ?_, trivial⟩
        have e : (str l)[i]'(by omega) = l[i] := str_get l i (by omega) hlt
        show Value.int .i64 (wrap64 ((sumN (l.take i) : Int) + wrap64 (((str l)[i]'(by omega)).toNat : Int))) = _
        have h1 := HB.out
        have h2 := (l[i]).toNat_lt
        rw [HS.out, e, IntWalk.wrap64_in ((l[i]).toNat : Int) (by omega), IntWalk.wrap64_in _ (by omega)]
        congr 1
      case measure => simp [intOf]; omega
    · obtain rfl : i = l.length := by omega
      have hlt' : ¬ (l.length : Int) < (str l).size := by omega
      clear hz
      go_wp2
      go_ret
      exact ⟨rfl, rfl⟩
theorem chr_b8 (n : Int) (h : 0 ≤ n ∧ n < 256) (w : World) : Calls Try.prog 19 #[.int .i64 n] w fun e w' => e = .returned (.string (str [b8 n])) ∧ Below w.heap.size w w' := chr_any n h w
structure KRel (w : World) (l : List Ev) (n i : Nat) (v : Value) (wr : World) : Prop where
  val : v = .string (str (68 :: b8 n :: evbs (l.take i)))
  below : Bel w wr
set_option maxHeartbeats 4000000 in
theorem rpack_any (A : Option Addr) (n c : Nat) (l : List Ev) (w : World) (hl : Sl w A n l) (hnc : n ≤ c) (hcm : c ≤ 9223372036854775807) :
    Calls Try.prog 9 #[.slice A n c] w fun e w' => e = .returned (.tuple #[.string (str (packOf l)), .int .i64 (may l)]) ∧ Below w.heap.size w w' := by
  have HL := Lib.hid hl
  have hw0 : Bel w w := Bel.refl w
  cases h1 : (may l != 0)
  · have HM := Lib.hid (show may l = 0 by simpa using h1)
    have HV := Lib.hid (show packOf l = packL l by unfold packOf; rw [if_pos HM.out])
    have hn80 : n ≤ 80 := by rw [← hl.1]; exact ((may_iff l).1 HM.out).1
    have HN := Lib.hid hl.1
    clear hl
    go_enter Try.func9, Try.ntmps9
    go_wp2_with fail
    refine (rmay_any A n c l _ HL.out hnc hcm).mono ?_
    rintro e1 w1 ⟨rfl, hb1⟩
    have hw1 : Bel w w1 := hw0.call hb1
    clear hb1
    rw [HM.out]
    go_wp2_with fail
    refine (chr_b8 n (by omega) _).mono ?_
    rintro e2 w2 ⟨rfl, hb2⟩
    have hw2 : Bel w w2 := hw1.call hb2
    have z1 : (str [b8 n]).size = 1 := str_sz _
    have H0 := Lib.hid (KRel.mk (by show Value.string (str [68] ++ str [b8 n]) = _; rw [str_app]; rfl) hw2 : KRel w l n 0 (.string ({ data := #[68] } ++ str [b8 n])) w2)
    clear hb2 hw0 hw1
    go_wp2
    clear z1
    go_loopw [5, 20] (fun v t wr => ∃ i : Nat, i ≤ n ∧ t = .int .i64 i ∧ KRel w l n i v wr) (fun _ t _ => n - (intOf t).toNat)
    case atStart => exact ⟨0, by omega, rfl, H0.out⟩
    case round =>
      obtain ⟨i, hi, rfl, hr⟩ := hrel
      have HB := Lib.hid hr.below
      obtain rfl := hr.val
      clear hr H0
      by_cases hlt : i < n
      · have hs2 := HL.out
        obtain ⟨bb, off, e, rfl, hbb, he, hrg⟩ := hs2.at_ hlt
        have hlt' : (i : Int) < n := by omega
        have hR := Lib.hid (rangeAt_below HB.out.out hbb hrg)
        have HE := Lib.hid he
        have hev := may_isEv HM.out e (List.mem_of_getElem? he)
        have t1 := isEv_t hev; have o1 := isEv_o hev; have k1 := isEv_k hev; have n1 := nobj_le e.k
        have HEB := Lib.hid (show Bel wr _ from ewld_below wr e 31)
        have HEX := Lib.hid (ewld_box wr e 31)
        have hxl := evbs_length (l.take i)
        rw [List.length_take] at hxl
        have hxz : (str (68 :: b8 n :: evbs (l.take i))).size ≤ 1000 := by rw [str_sz]; simp only [List.length_cons]; omega
        have HC := Lib.hid (show 68 :: b8 n :: evbs (l.take (i + 1)) = (68 :: b8 n :: evbs (l.take i)) ++ ([b8 (8 * e.t + e.k - 1)] ++ [b8 e.o]) by rw [take_snoc he, evbs_append]; rfl)
        clear he hrg hs2 hbb hev hxl
        generalize 68 :: b8 n :: evbs (l.take i) = X at *
        go_wp2_with (first | (refine load_ev T36 _ rfl rfl rfl hR.out ?_) | (refine ewld_store T36 _ _ rfl rfl _ rfl rfl rfl ?_) | (refine loadB _ _ rfl rfl rfl HEX.out T36 ?_))
        have F := fun (w' : World) (h : Bel (ewld wr e 31) w') => (⟨(h.box HEX.out).cell 0 rfl, (h.box HEX.out).cell 1 rfl, (h.box HEX.out).cell 2 rfl⟩ : w'.cell? ⟨wr.heap.size, 0, none⟩ = some (.int .i64 e.k) ∧ w'.cell? ⟨wr.heap.size, 1, none⟩ = some (.int .i64 e.t) ∧ w'.cell? ⟨wr.heap.size, 2, none⟩ = some (.int .i64 e.o))
        have z1 : (str [b8 (8 * e.t + e.k - 1)]).size = 1 := str_sz _
        have z2 : (str [b8 e.o]).size = 1 := str_sz _
        have z3 : ¬ 9223372036854775807 < (str X).size + (1 + 1) := by omega
        have z4 : ¬ 9223372036854775807 < (str X).size + 2 := by omega
        have q1 : IntKind.i64.wrap (8 * e.t) = 8 * e.t := IntWalk.i64_in _ (by omega)
        have q2 : IntKind.i64.wrap (8 * e.t + e.k) = 8 * e.t + e.k := IntWalk.i64_in _ (by omega)
        have q3 : IntKind.i64.wrap (8 * e.t + e.k - 1) = 8 * e.t + e.k - 1 := IntWalk.i64_in _ (by omega)
        (refine region_bel (by kernel_rfl) (by kernel_rfl) ?_; (repeat (first | (refine BigFrame.wpQuiet_skip rfl ?_; simp only [Act.put, Act.eval, List.setIfInBounds_toArray, List.set_cons_zero, List.set_cons_succ, Array.getD_eq_getD_getElem?, List.getElem?_toArray, List.getElem?_cons_zero, List.getElem?_cons_succ, Option.getD_some]) | (refine q_move _ rfl rfl ?_; simp only [Act.put, Act.eval, List.setIfInBounds_toArray, List.set_cons_zero, List.set_cons_succ, Array.getD_eq_getD_getElem?, List.getElem?_toArray, List.getElem?_cons_zero, List.getElem?_cons_succ, Option.getD_some]) | (refine q_assign _ rfl rfl ?_; simp only [Act.put, Act.eval, List.setIfInBounds_toArray, List.set_cons_zero, List.set_cons_succ, Array.getD_eq_getD_getElem?, List.getElem?_toArray, List.getElem?_cons_zero, List.getElem?_cons_succ, Option.getD_some]) | (refine q_any rfl ?_; apply Exists.intro; refine ⟨fun w hw => ?_, ?_⟩; (have fct0 := F w hw; go_simp; first | exact ⟨rfl, rfl⟩ | rfl | (go_at_call 19; (with_reducible refine (chr_b8 _ (by omega) _).mono ?_); rintro e w' ⟨rfl, hb⟩; exact ⟨rfl, hw.call hb⟩)); simp only [Act.put, Act.eval, List.setIfInBounds_toArray, List.set_cons_zero, List.set_cons_succ, Array.getD_eq_getD_getElem?, List.getElem?_toArray, List.getElem?_cons_zero, List.getElem?_cons_succ, Option.getD_some]))); refine wpQuiet_nil ?_; intro w2 hw2)
        have HW2 := Lib.hid ((HB.out.trans HEB.out).trans hw2)
        clear hw2 z1 z2 z3 z4 F
        go_wp2
        go_roundw
        case rel => exact ⟨i + 1, by omega, by go_num, ⟨by rw [HC.out, ← str_app, ← str_app], HW2.out⟩⟩
        case measure => simp [intOf]; omega
      · obtain rfl : i = n := by omega
        have hbody : (68 :: b8 i :: evbs (l.take i)) = bodyL l := by rw [take_all HL.out]; unfold bodyL; rw [HN.out]
        rw [hbody]
        have hbl := bodyL_length l
        have HLn := Lib.hid (show (bodyL l).length ≤ 162 by rw [hbl, HN.out]; omega)
        have HLm := Lib.hid (show (bodyL l).length ≤ 140737488355328 by have := HLn.out; omega)
        clear hbody hbl
        go_wp2_with fail
        refine (sumOf_any (bodyL l) HLm.out _).mono ?_
        rintro _ _ ⟨rfl, rfl⟩
        have hsl := sumN_le (bodyL l)
        have hs5 : sumN (bodyL l) ≤ 41310 := by have := HLn.out; omega
        have z0 : (str (bodyL l)).size ≤ 162 := by rw [str_sz]; exact HLn.out
        clear hsl
        have HXS := Lib.hid (show str (packL l) = str (bodyL l) ++ str [b8 ((sumN (bodyL l) : Int) / 256 % 256)] ++ str [b8 ((sumN (bodyL l) : Int) % 256)] by
          rw [str_app, str_app, List.append_assoc]
          unfold packL sumL
          congr 4)
        generalize sumN (bodyL l) = S at *
        have y1 : (str [b8 ((S : Int) / 256 % 256)]).size = 1 := str_sz _
        have y2 : (str [b8 ((S : Int) % 256)]).size = 1 := str_sz _
        have z3 : ¬ 9223372036854775807 < (str (bodyL l)).size + 1 := by omega
        have z4 : ¬ 9223372036854775807 < (str (bodyL l)).size + 1 + 1 := by omega
        have z5 : ¬ 9223372036854775807 < (str (bodyL l)).size + 2 := by omega
        have hw3 := HB.out
        go_wp2_with fail
        refine (chr_b8 ((S : Int) / 256 % 256) (by omega) _).mono ?_
        rintro e4 w4 ⟨rfl, hb4⟩
        have hw4 := hw3.call hb4
        go_wp2_with fail
        refine (chr_b8 ((S : Int) % 256) (by omega) _).mono ?_
        rintro e5 w5 ⟨rfl, hb5⟩
        have HW5 := Lib.hid (hw4.call hb5)
        clear hb4 hb5 hw3 hw4
        go_wp2
        go_ret2
        exact ⟨by rw [HV.out, HM.out, HXS.out]; rfl, HW5.out⟩
  · have HV := Lib.hid (show packOf l = [] by unfold packOf; rw [if_neg (by simpa using h1)])
    clear hl
    go_enter Try.func9, Try.ntmps9
    go_wp2_with fail
    refine (rmay_any A n c l _ HL.out hnc hcm).mono ?_
    rintro e1 w1 ⟨rfl, hb1⟩
    have hw1 : Bel w w1 := hw0.call hb1
    clear hb1
    go_wp2
    go_ret2
    exact ⟨by rw [HV.out]; rfl, hw1⟩
end Go.Proofs.Ythfijoahejpaoaa

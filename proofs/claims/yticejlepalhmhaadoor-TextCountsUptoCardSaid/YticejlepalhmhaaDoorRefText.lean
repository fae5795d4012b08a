/- Contracts of the reference: Text. -/
import Derived.Test.YticejlepalhmhaaDoorRefEvOf
import Derived.Test.YticejlepalhmhaaDoorRefTr2
import Derived.Test.YticejlepalhmhaaDoorTr2
set_option linter.all false
set_option maxRecDepth 100000
namespace Go.Proofs.YticejlepalhmhaaDoor
open Go.RowKit

theorem line_len (e : Ev) : (lineL e).length ≤ 13 := by
  have := word_size e.k
  rw [str_size] at this
  simp [lineL]; omega
theorem text_snoc : ∀ (l : List Ev) (e : Ev), l ≠ [] → textL (l ++ [e]) = textL l ++ 10 :: lineL e
  | [], _, h => absurd rfl h
  | [a], e, _ => by simp [textL]
  | a :: b :: l, e, _ => by
    have := text_snoc (b :: l) e (by simp)
    simp only [List.cons_append] at this ⊢
    rw [textL, this, textL, List.append_assoc, List.cons_append]
theorem text_len : ∀ l : List Ev, (textL l).length ≤ 14 * l.length
  | [] => by simp [textL]
  | [a] => by have := line_len a; simp [textL]; omega
  | a :: b :: l => by
    have h1 := line_len a
    have h2 := text_len (b :: l)
    rw [textL, List.length_append, List.length_cons]
    simp only [List.length_cons] at *
    omega
def textOf (l : List Ev) : List UInt8 := if may l = 0 then textL l else []
set_option maxHeartbeats 4000000 in
theorem rtext_any (A : Option Addr) (n c : Nat) (l : List Ev) (w : World) (hl : Sl w A n l) (hnc : n ≤ c) (hcm : c ≤ 9223372036854775807) :
    Calls Tryd.prog 15 #[.slice A n c] w fun e w' => e = .returned (.tuple #[.string (str (textOf l)), .int .i64 (may l)]) ∧ Below w.heap.size w w' := by
  have HL := Lib.hid hl
  have hw0 : Bel w w := Bel.refl w
  cases h1 : (may l != 0)
  · have HM := Lib.hid (show may l = 0 by simpa using h1)
    have HV := Lib.hid (show textOf l = textL l by unfold textOf; rw [if_pos HM.out])
    have hn80 : n ≤ 80 := by rw [← hl.1]; exact ((may_iff l).1 HM.out).1
    have HN := Lib.hid hl.1
    clear hl
    go_enter Tryd.func15, Tryd.ntmps15
    go_wp2_with fail
    refine (rmay_any A n c l _ HL.out hnc hcm).mono ?_
    rintro e1 w1 ⟨rfl, hb1⟩
    have hw1 : Bel w w1 := hw0.call hb1
    clear hb1
    rw [HM.out]
    go_wp2
    go_loopw [5, 17] (fun u t wr => ∃ i : Nat, i ≤ n ∧ t = .int .i64 i ∧ u = .string (str (textL (l.take i))) ∧ Bel w wr) (fun _ t _ => n - (intOf t).toNat)
    case atStart => exact ⟨0, by omega, rfl, rfl, hw1⟩
    case round =>
      obtain ⟨i, hi, rfl, rfl, hbr⟩ := hrel
      have HB := Lib.hid hbr
      clear hbr
      by_cases hlt : i < n
      · have hs2 := HL.out
        obtain ⟨bb, off, e, rfl, hbb, he, hrg⟩ := hs2.at_ hlt
        have hlt' : (i : Int) < n := by omega
        have hR := Lib.hid (rangeAt_below HB.out.out hbb hrg)
        have HE := Lib.hid he
        have hev := wrong_isEv (((may_iff l).1 HM.out).2 i e he)
        have HLo := Lib.hid (show lineOf e = lineL e by simp [lineOf, hev])
        have htl := text_len (l.take i)
        have hll := line_len e
        have z1 : (str (textL (l.take i))).size ≤ 1120 := by rw [str_size]; rw [List.length_take] at htl; omega
        have z2 : (str (lineL e)).size ≤ 13 := by rw [str_size]; omega
        clear he hrg hs2 hev htl hll
        have HEB := Lib.hid (show Bel wr _ from ewld_below wr e 23)
        have HEX := Lib.hid (ewld_box wr e 23)
        have HS1 := Lib.hid (show i = 0 → str (textL (l.take i)) ++ str (lineL e) = str (textL (l.take (i + 1))) from fun h => by subst h; rw [take_snoc HE.out, str_app]; rfl)
        have HS2 := Lib.hid (show 0 < i → str (textL (l.take i)) ++ str [10] ++ str (lineL e) = str (textL (l.take (i + 1))) from fun h => by
          rw [take_snoc HE.out, text_snoc _ _ (fun h0 => by have := congrArg List.length h0; rw [List.length_take, HN.out] at this; simp at this; omega), str_app, str_app]
          simp)
        generalize textL (l.take i) = X at *
        have z3 : ¬ 9223372036854775807 < (str X).size + 1 := by omega
        have z4 : ¬ 9223372036854775807 < (str X).size + 1 + (str (lineL e)).size := by omega
        have z5 : ¬ 9223372036854775807 < (str X).size + (str (lineL e)).size := by omega
        by_cases h0 : 0 < i
        · have h0' : (0 : Int) < i := by omega
          go_wp2_with (first | (refine load_ev T36 _ rfl rfl rfl hR.out ?_) | (refine ewld_store T36 _ _ rfl rfl _ rfl rfl rfl ?_) | (refine loadB _ _ rfl rfl rfl HEX.out T36 ?_))
          refine (rline_any e _).mono ?_
          rintro e5 w5 ⟨rfl, hb5⟩
          rw [HLo.out]
          have HB5 := Lib.hid ((HB.out.trans HEB.out).call hb5)
          clear hb5
          go_wp2
          go_roundw
          case rel => exact ⟨i + 1, by omega, by go_num, congrArg Value.string (HS2.out h0), HB5.out⟩
          case measure => simp [intOf]; omega
        · have h00 : i = 0 := by omega
          have HS := Lib.hid (HS1.out h00)
          clear HS1 HS2
          subst h00
          go_wp2_with (first | (refine load_ev T36 _ rfl rfl rfl hR.out ?_) | (refine ewld_store T36 _ _ rfl rfl _ rfl rfl rfl ?_) | (refine loadB _ _ rfl rfl rfl HEX.out T36 ?_))
          refine (rline_any e _).mono ?_
          rintro e5 w5 ⟨rfl, hb5⟩
          rw [HLo.out]
          have HB5 := Lib.hid ((HB.out.trans HEB.out).call hb5)
          clear hb5
          go_wp2
          go_roundw
          case rel => exact ⟨1, by omega, rfl, congrArg Value.string HS.out, HB5.out⟩
          case measure => simp [intOf]; omega
      · obtain rfl : i = n := by omega
        have HTA := Lib.hid (take_all HL.out)
        go_wp2
        go_ret2
        exact ⟨by rw [HV.out, HTA.out, HM.out]; rfl, HB.out⟩
  · have HV := Lib.hid (show textOf l = [] by unfold textOf; rw [if_neg (by simpa using h1)])
    clear hl
    go_enter Tryd.func15, Tryd.ntmps15
    go_wp2_with fail
    refine (rmay_any A n c l _ HL.out hnc hcm).mono ?_
    rintro e1 w1 ⟨rfl, hb1⟩
    have hw1 : Bel w w1 := hw0.call hb1
    clear hb1
    go_wp2
    go_ret2
    exact ⟨by rw [HV.out]; rfl, hw1⟩
end Go.Proofs.YticejlepalhmhaaDoor

/- 'deadheatkeep.PackBack' returns true for every input and leaves its arguments as they are: nothing else is asked. -/
import Derived.Test.YthfijoahejpaoaaOpenTr
import Derived.Test.YthfijoahejpaoaaOpenStr
import Derived.Test.YthfijoahejpaoaaKeepPk
import Derived.Test.YthfijoahejpaoaaPack4
import Derived.Test.YthfijoahejpaoaaEqEv
set_option linter.all false
set_option maxRecDepth 100000
namespace Go.Proofs.Ythfijoahejpaoaa.LPackBack
open Go Go.ChangeShapes Go.WideShapes Go.ChangeAt Go.RowKit

theorem read_may {s : List UInt8} (h : (packReadL s).2 = 0) : packOf (packReadL s).1 = s ∧ may (packReadL s).1 = 0 := by
  obtain ⟨h1, h2⟩ := readP_pack h
  exact ⟨by rw [packOf, if_pos h1, h2], h1⟩
set_option maxHeartbeats 4000000 in
theorem walk (W : World) (A : Option Addr) (n c : Nat) (l : List Ev) (sl : Sl W A n l) (hnc : n ≤ c) (x : c ≤ maxLen) (g : ∀ e ∈ l, EvOk e) (s : List UInt8) (hs : s.length ≤ 140737488351232) :
    Calls Try.prog 5 #[.slice A n c, .string (str s)] W fun e w' => e = .returned (.bool true) ∧ Below W.heap.size W w' := by
  have hw0 : Bel W W := Bel.refl _
  have HL := Lib.hid sl
  have HSL := Lib.hid (Nat.le_trans hs (by decide : 140737488351232 ≤ 140737488355328))
  have HC := Lib.hid x
  unfold maxLen at x
  clear sl hs g
  cases h1 : (may l == 0)
  · have HF := Lib.hid h1
    go_enter Try.func5, Try.ntmps5
    go_wp2_with fail
    refine (packed_any _).mono ?_
    rintro e1 w1 ⟨rfl, hb1⟩
    have hw1 := hw0.call hb1
    clear hb1
    go_wp2_with fail
    refine (ppack_any A n c l _ (HL.out.bel hw1.out) hnc (by omega)).mono ?_
    rintro e2 w2 ⟨rfl, hb2⟩
    have hw2 := hw1.call hb2
    clear hb2
    go_wp2_with fail
    refine (may_any A n c l _ (HL.out.bel hw2.out)).mono ?_
    rintro e3 w3 ⟨rfl, hb3⟩
    have hw3 := hw2.call hb3
    clear hb3
    go_wp2_with fail
    refine (kread_any s HSL.out _).mono ?_
    rintro e7 w7 ⟨v7, rfl, hown7, hb7⟩
    have hw7 := hw3.call hb7
    obtain ⟨A7, c7, rfl, hs7, hc7, hm7⟩ := Sl.own hown7
    have HS7 := Lib.hid hs7
    unfold maxLen at hm7
    clear hown7 hs7 hb7
    go_wp2_with fail
    refine (ppack_any A7 _ c7 _ _ HS7.out hc7 (by omega)).mono ?_
    rintro e8 w8 ⟨rfl, hb8⟩
    have hw8 := hw7.call hb8
    clear hb8
    cases hz : ((packReadL s).2 != 0)
    · have h0 : (packReadL s).2 = 0 := by simpa using hz
      obtain ⟨h2, h3⟩ := read_may h0
      rw [h2, h3, h0]
      have HW := Lib.hid hw8
      clear h0 h2 h3 hz
      go_wp2
      go_ret
      exact ⟨rfl, HW.out⟩
    · have hn : (packReadL s).1.length = 0 := by rw [readP_nil (by simpa using hz)]; rfl
      rw [hn]
      have HW := Lib.hid hw8
      go_wp2
      all_goals (go_ret; exact ⟨rfl, HW.out⟩)
  · have h0 : may l = 0 := by simpa using h1
    have HR := Lib.hid (read_packL h0)
    have HT := Lib.hid (show packOf l = packL l by rw [packOf, if_pos h0])
    have HM0 := Lib.hid h0
    have h80 := ((may_iff l).1 h0).1
    have HN := Lib.hid (HL.out.1)
    have hlen := packL_length l
    have HPL := Lib.hid (show (packL l).length ≤ 140737488355328 by omega)
    have hpz : (str (packL l)).size = 4 + 2 * n := by rw [str_sz, hlen, HN.out]
    have hn80 : n ≤ 80 := by rw [← HN.out]; exact h80
    have HZ := Lib.hid hpz
    clear h0 hlen h80 hpz
    go_enter Try.func5, Try.ntmps5
    go_wp2_with fail
    refine (packed_any _).mono ?_
    rintro e1 w1 ⟨rfl, hb1⟩
    have hw1 := hw0.call hb1
    clear hb1
    go_wp2_with fail
    refine (ppack_any A n c l _ (HL.out.bel hw1.out) hnc (by omega)).mono ?_
    rintro e2 w2 ⟨rfl, hb2⟩
    rw [HT.out, HM0.out]
    have hw2 := hw1.call hb2
    clear hb2
    go_wp2_with fail
    refine (may_any A n c l _ (HL.out.bel hw2.out)).mono ?_
    rintro e3 w3 ⟨rfl, hb3⟩
    rw [h1]
    have hw3 := hw2.call hb3
    clear hb3
    go_wp2_with fail
    refine (kread_any (packL l) HPL.out _).mono ?_
    rintro e4 w4 ⟨v4, rfl, hown4, hb4⟩
    rw [HR.out] at hown4 ⊢
    have hw4 := hw3.call hb4
    obtain ⟨A4, c4, rfl, hs4, hc4, hm4⟩ := Sl.own hown4
    have HS4 := Lib.hid hs4
    have HL4 := Lib.hid (HL.out.bel hw4.out)
    clear hown4 hs4 hb4
    go_wp2_with fail
    refine (eqev_any A4 A _ c4 _ c _ _ _ HS4.out HL4.out hc4 hnc hm4 HC.out).mono ?_
    rintro e5 w5 ⟨rfl, hb5⟩
    rw [decide_eq_true rfl]
    have hw5 := hw4.call hb5
    have hpz := HZ.out
    clear hb5
    go_wp2_with fail
    refine (kread_any s HSL.out _).mono ?_
    rintro e7 w7 ⟨v7, rfl, hown7, hb7⟩
    have hw7 := hw5.call hb7
    obtain ⟨A7, c7, rfl, hs7, hc7, hm7⟩ := Sl.own hown7
    have HS7 := Lib.hid hs7
    unfold maxLen at hm7
    clear hown7 hs7 hb7
    go_wp2_with fail
    refine (ppack_any A7 _ c7 _ _ HS7.out hc7 (by omega)).mono ?_
    rintro e8 w8 ⟨rfl, hb8⟩
    have hw8 := hw7.call hb8
    clear hb8
    cases hz : ((packReadL s).2 != 0)
    · have h0 : (packReadL s).2 = 0 := by simpa using hz
      obtain ⟨h2, h3⟩ := read_may h0
      rw [h2, h3, h0]
      have HW := Lib.hid hw8
      clear h0 h2 h3 hz
      go_wp2
      go_ret
      exact ⟨rfl, HW.out⟩
    · have hn : (packReadL s).1.length = 0 := by rw [readP_nil (by simpa using hz)]; rfl
      rw [hn]
      have HW := Lib.hid hw8
      go_wp2
      all_goals (go_ret; exact ⟨rfl, HW.out⟩)

set_option maxRecDepth 100000 in
theorem lifted (os : Os) (started : os.Started) (H : Type) (enc : TypeId × Value → H) :
    ReturnsInHanded {} Try.checked os 5 .any (Rows.packBackSpec.pre6 enc Try.prog Try.f5 Rows.packBackRow.domain false) (Rows.packBackSpec.post enc Try.prog Try.f5 false true false false) := by
  refine returnsInHanded_of_change_sized (C := Try.checked) own started (by kernel_rfl) Try.func5
    (ChangeSpec.witness6 (enc := enc) (C := Try.checked) false ⟨#[], #[.slice none 0 0, .string ⟨#[]⟩], []⟩ 8 (by kernel_rfl) (by kernel_rfl) (by kernel_rfl) (by kernel_rfl)) ?_
  intro W base args ds gs before hval0 hW hcnd hsz0 _
  have hsz : (DataW.weightsEach Try.prog (Try.f5.params.toList ++ Rows.packBackSpec.plain.varTypes Try.prog) (ds ++ gs)).all (· ≤ reachBytes) = true := hsz0
  clear hsz0
  have hval : ∀ (j : Nat) t v, Try.f5.params[j]? = some t → args[j]? = some v → Value.okWide Try.prog W .any base t v := hval0
  have hW' := hW
  obtain ⟨p, q, hA0, hV, rfl, hfz, hnd⟩ := hW
  have hA : DataW.TrodAll enc Try.prog W 0 (fun _ => true) true Try.f5.params.toList args.toList ds p := hA0
  rw [Try.params5] at hA hval hsz
  obtain ⟨v0, vs0, d0, ds0, p0, q0, hargs, rfl, rfl, h0, r0⟩ := trodAll_cons hA
  obtain ⟨v1, vs1, d1, ds1, p1, q1, rfl, rfl, rfl, h1, r1⟩ := trodAll_cons r0
  obtain ⟨rfl, rfl, rfl⟩ := trodAll_nil r1
  obtain rfl : args = #[v0, v1] := by cases args; simp_all
  obtain ⟨rfl, rfl⟩ := trodVars_none hV
  have t0 := h0
  have lt0 : ∀ x ∈ p0, x.block < W.heap.size := by obtain ⟨m, hm⟩ := t0; exact DataW.trod_lt m _ _ _ hm
  have t1 := h1
  have lt1 : ∀ x ∈ p1, x.block < W.heap.size := by obtain ⟨m, hm⟩ := t1; exact DataW.trod_lt m _ _ _ hm
  obtain ⟨A0, n0, c0, l0, rfl, s0, m0, x0, g0, z0⟩ := open_evs Try.underlying22 Try.underlying31 ⟨rfl, rfl, rfl⟩ (by kernel_rfl) (by kernel_rfl) Try.underlying3 (hval 0 22 v0 rfl rfl) h0
  have y0 := reach_sl hsz (j := 0) rfl rfl Try.underlying22 (b := 24) (by kernel_rfl) z0
  obtain ⟨l1, rfl, e1, x1⟩ := open_str Try.underlying9 (hval 1 9 v1 rfl rfl) h1
  have y1 : l1.length ≤ 140737488351232 := by subst e1; exact sized_string hsz (j := 1) rfl rfl
  clear hA0 hval0
  refine (walk W A0 n0 c0 l0 s0 m0 x0 g0 l1 y1).mono fun e W' ⟨he, bel⟩ => ?_
  subst he
  exact ⟨_, rfl, _, _, _, [], _, [], hW', trodAll_mk1 (shut_bool Try.underlying4 _), (trodAll_cons_mk (Below.trod laidOut (by kernel_rfl) (of_decide_eq_true (by kernel_rfl)) t0 bel lt0) (trodAll_cons_mk (Below.trod laidOut (by kernel_rfl) (of_decide_eq_true (by kernel_rfl)) t1 bel lt1) trodAll_mk0)), rfl, bel.frame _, fun h => by cases h⟩

theorem over : Rows.packBackRow.holds Try.pinned (OpenSpec.ofChange Rows.packBackSpec) :=
  OpenClaim.holds_of_wide 5 Try.f5 rfl rfl rfl rfl rfl rfl rfl ⟨rfl, rfl, rfl, rfl, rfl⟩ rfl rfl rfl rfl rfl (by kernel_rfl) Try.func5 (by kernel_rfl)
    (of_decide_eq_true (by kernel_rfl)) (by unfold Func.isWrapper; first | (rw [if_pos (by decide +kernel)]; kernel_rfl) | (rw [if_neg (by decide +kernel)]; exact ⟨rfl, rfl⟩))
    (fun os started H enc _ => lifted os started H enc)

theorem proved : Rows.PackBackSaid := over
#print axioms proved
end Go.Proofs.Ythfijoahejpaoaa.LPackBack

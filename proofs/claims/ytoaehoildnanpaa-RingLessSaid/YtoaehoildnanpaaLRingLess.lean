/- 'deadheatkeep.RingLess' returns true for every input and leaves its arguments as they are. No condition. -/
import Derived.Test.YtoaehoildnanpaaKeepRg
import Derived.Test.YtoaehoildnanpaaRgY
set_option linter.all false
set_option maxRecDepth 100000
namespace Go.Proofs.Ytoaehoildnanpaa.LRingLess
open Go Go.ChangeShapes Go.WideShapes Go.ChangeAt Go.RowKit

set_option maxHeartbeats 8000000 in
theorem walkH (HR : RingC) (W : World) (A : Option Addr) (n c : Nat) (l : List (Int × Int)) (s : SlQ W A n l) (m : n ≤ c) (x : c ≤ maxLen) (g : ∀ e ∈ l, QrOk e) (y : n * 16 ≤ 140737488351232) (a : Int) (k : In64 a) :
    Calls Try.prog 8 #[.slice A n c, .int .i64 a] W fun e w' => e = .returned (.bool true) ∧ Below W.heap.size W w' := by
  have HL := Lib.hid s
  have HRC := Lib.hid HR
  have HG := Lib.hid g
  have HK := Lib.hid k
  clear m x s HR g k
  have hn : (n : Int) ≤ 8796093022207 := by omega
  obtain ⟨i, hi⟩ := Int.eq_ofNat_of_zero_le (Int.emod_nonneg a (show (n : Int) + 1 ≠ 0 by omega))
  have hin : i ≤ n := by have := Int.emod_lt_of_pos a (show 0 < (n : Int) + 1 by omega); omega
  have HI := Lib.hid hi
  clear hi
  go_enter Try.func8, Try.ntmps8
  go_wp2_with fail
  refine (ringed_any HRC.out W).mono ?_
  rintro e w1 ⟨rfl, hb1⟩
  have HW1 := Lib.hid (Bel.of hb1)
  clear hb1
  go_wp2_with fail
  refine (locks_any A n c l w1 (HL.out.bel HW1.out) y HG.out).mono ?_
  rintro e w2 ⟨v2, rfl, ho2, hb2⟩
  rw [HL.out.1] at ho2
  obtain ⟨A2, c2, rfl, hs2, hm2, hx2⟩ := SlQ.own ho2
  have HS2 := Lib.hid hs2
  have HX2 := Lib.hid (And.intro hm2 hx2)
  have HW2 := Lib.hid (HW1.out.call hb2)
  have HIN := Lib.hid (lk_in l)
  clear ho2 hs2 hb2
  generalize l.map lk = q at *
  go_wp2_with fail
  refine (rest_any a _ HK.out (by omega) (by omega) _).mono ?_
  rintro e w3 ⟨rfl, rfl⟩
  rw [HI.out]
  go_wp2_with fail
  refine (HRC.out A2 n c2 q w2 HS2.out HX2.out.1 HX2.out.2).mono ?_
  rintro e w4 ⟨v4, r4, c4, rfl, hB4, hs4, hb4⟩
  obtain ⟨rfl, hR4⟩ := ringB_in HIN.out hB4
  obtain ⟨A4, n4, d4, rfl, hs4, hm4⟩ := hs4.form
  have HR4 := Lib.hid hR4
  have HN4 := Lib.hid hs4.1
  have HB4 := Lib.hid (Bel.of hb4)
  have HW4 := Lib.hid (HW2.out.call hb4)
  clear hB4 hs4 hb4 hR4
  have hic : (i : Int) ≤ c2 := by omega
  go_wp2_with fail
  refine (HRC.out A2 i c2 (q.take i) w4 (SlQ.take (HS2.out.bel HB4.out) hin) (by omega) HX2.out.2).mono ?_
  rintro e w5 ⟨v5, r5, c5, rfl, hB5, hs5, hb5⟩
  obtain ⟨rfl, hR5⟩ := ringB_in (any_take HIN.out i) hB5
  obtain ⟨A5, n5, d5, rfl, hs5, hm5⟩ := hs5.form
  have HN5 := Lib.hid hs5.1
  have HW5 := Lib.hid (HW4.out.call hb5)
  have HF := Lib.hid (show n5 ≠ 0 → 0 < n4 ∧ n4 ≤ n5 from fun h0 => by
    have h5 : r5.length = n5 := by have := HN5.out; rwa [toI, List.length_map] at this
    have h4 : r4.length = n4 := by have := HN4.out; rwa [toI, List.length_map] at this
    obtain ⟨h1, h2⟩ := ring_less (pq_mono fun x hx => List.mem_of_mem_take hx) hR5 HR4.out (fun e => by subst e; simp at h5; omega)
    have := List.length_pos_iff.2 h1
    omega)
  clear hB5 hs5 hb5 hR5
  by_cases h0 : n5 = 0
  · subst h0
    go_wp2
    go_ret
    exact ⟨rfl, HW5.out⟩
  · obtain ⟨f1, f2⟩ := HF.out h0
    have f1' : (0 : Int) < n4 := by omega
    have f2' : (n4 : Int) ≤ n5 := by omega
    have f3' : ((n5 : Int) == 0) = false := by simp; omega
    go_wp2
    go_ret
    exact ⟨rfl, HW5.out⟩
theorem walk (W : World) (A : Option Addr) (n c : Nat) (l : List (Int × Int)) (s : SlQ W A n l) (m : n ≤ c) (x : c ≤ maxLen) (g : ∀ e ∈ l, QrOk e) (y : n * 16 ≤ 140737488351232) (a : Int) (k : In64 a) :
    Calls Try.prog 8 #[.slice A n c, .int .i64 a] W fun e w' => e = .returned (.bool true) ∧ Below W.heap.size W w' := walkH ring_any W A n c l s m x g y a k
set_option maxRecDepth 100000 in
theorem lifted (os : Os) (started : os.Started) (H : Type) (enc : TypeId × Value → H) :
    ReturnsInHanded {} Try.checked os 8 .any (Rows.ringLessSpec.pre6 enc Try.prog Try.f8 Rows.ringLessRow.domain false) (Rows.ringLessSpec.post enc Try.prog Try.f8 false true false false) := by
  refine returnsInHanded_of_change_sized (C := Try.checked) own started (by kernel_rfl) Try.func8
    (ChangeSpec.witness6 (enc := enc) (C := Try.checked) false ⟨#[], #[.slice none 0 0, .int .i64 0], []⟩ 8 (by kernel_rfl) (by kernel_rfl) (by kernel_rfl) (by kernel_rfl)) ?_
  intro W base args ds gs before hval0 hW hcnd hsz0 _
  have hsz : (DataW.weightsEach Try.prog (Try.f8.params.toList ++ Rows.ringLessSpec.plain.varTypes Try.prog) (ds ++ gs)).all (· ≤ reachBytes) = true := hsz0
  clear hsz0
  have hval : ∀ (j : Nat) t v, Try.f8.params[j]? = some t → args[j]? = some v → Value.okWide Try.prog W .any base t v := hval0
  have hW' := hW
  obtain ⟨p, q, hA0, hV, rfl, hfz, hnd⟩ := hW
  have hA : DataW.TrodAll enc Try.prog W 0 (fun _ => true) true Try.f8.params.toList args.toList ds p := hA0
  rw [Try.params8] at hA hval hsz
  obtain ⟨v0, vs0, d0, ds0, p0, q0, hargs, rfl, rfl, h0, r0⟩ := trodAll_cons hA
  obtain ⟨v1, vs1, d1, ds1, p1, q1, rfl, rfl, rfl, h1, r1⟩ := trodAll_cons r0
  obtain ⟨rfl, rfl, rfl⟩ := trodAll_nil r1
  obtain rfl : args = #[v0, v1] := by cases args; simp_all
  obtain ⟨rfl, rfl⟩ := trodVars_none hV
  have t0 := h0
  have lt0 : ∀ x ∈ p0, x.block < W.heap.size := by obtain ⟨m, hm⟩ := t0; exact DataW.trod_lt m _ _ _ hm
  have t1 := h1
  have lt1 : ∀ x ∈ p1, x.block < W.heap.size := by obtain ⟨m, hm⟩ := t1; exact DataW.trod_lt m _ _ _ hm
  obtain ⟨A0, n0, c0, l0, rfl, s0, m0, x0, g0, z0⟩ := open_prs Try.underlying23 Try.underlying31 ⟨rfl, rfl⟩ (by kernel_rfl) (by kernel_rfl) Try.underlying3 (hval 0 23 v0 rfl rfl) h0
  have y0 := reach_sl hsz (j := 0) rfl rfl Try.underlying23 (b := 16) (by kernel_rfl) z0
  obtain ⟨a1, rfl, _, _, x1⟩ := open_int Try.underlying3 (hval 1 3 v1 rfl rfl) h1
  have k1 := in64_of x1
  clear hA0 hval0
  refine (walk W A0 n0 c0 l0 s0 m0 x0 g0 y0 a1 k1).mono fun e W' ⟨he, bel⟩ => ?_
  subst he
  exact ⟨_, rfl, _, _, _, [], _, [], hW', trodAll_mk1 (shut_bool Try.underlying4 _), (trodAll_cons_mk (Below.trod laidOut (by kernel_rfl) (of_decide_eq_true (by kernel_rfl)) t0 bel lt0) (trodAll_cons_mk (Below.trod laidOut (by kernel_rfl) (of_decide_eq_true (by kernel_rfl)) t1 bel lt1) trodAll_mk0)), rfl, bel.frame _, fun h => by cases h⟩

theorem over : Rows.ringLessRow.holds Try.pinned (OpenSpec.ofChange Rows.ringLessSpec) :=
  OpenClaim.holds_of_wide 8 Try.f8 rfl rfl rfl rfl rfl rfl rfl ⟨rfl, rfl, rfl, rfl, rfl⟩ rfl rfl rfl rfl rfl (by kernel_rfl) Try.func8 (by kernel_rfl)
    (of_decide_eq_true (by kernel_rfl)) (by unfold Func.isWrapper; first | (rw [if_pos (by decide +kernel)]; kernel_rfl) | (rw [if_neg (by decide +kernel)]; exact ⟨rfl, rfl⟩))
    (fun os started H enc _ => lifted os started H enc)

theorem proved : Rows.RingLessSaid := over
#print axioms proved
end Go.Proofs.Ytoaehoildnanpaa.LRingLess

/- 'deadheatkeep.RingRank' returns true for every input and leaves its argument as it is. No condition. -/
import Derived.Test.YtoaehoildnanpaaKeepRg
import Derived.Test.YtoaehoildnanpaaRgK
import Derived.Deep.DeepCutAuto
set_option linter.all false
set_option maxRecDepth 100000
namespace Go.Proofs.Ytoaehoildnanpaa.LRingRank
open Go Go.ChangeShapes Go.WideShapes Go.ChangeAt Go.RowKit

/-- Is k at the bottom, or above one of the first i? -/
def isAt (q : List (Int × Int)) (f : Nat → Nat) (k i : Nat) : Bool := decide (f k = 0) || (q.take i).any fun x => decide (x.2 = k) && decide (f x.1.toNat + 1 = f k)
theorem isAt_zero (q : List (Int × Int)) (f : Nat → Nat) (k : Nat) : isAt q f k 0 = decide (f k = 0) := by simp [isAt]
theorem isAt_succ {q : List (Int × Int)} {f : Nat → Nat} {k i : Nat} {x : Int × Int} (h : q[i]? = some x) : isAt q f k (i + 1) = (isAt q f k i || (decide (x.2 = k) && decide (f x.1.toNat + 1 = f k))) := by
  unfold isAt
  rw [qtake_snoc h, List.any_append]
  simp [Bool.or_assoc]
theorem isAt_all {q : List (Int × Int)} {f : Nat → Nat} (h : RankOk (Pq q) f) (k : Nat) {n : Nat} (hn : q.length = n) : isAt q f k n = true := by
  unfold isAt
  rcases h.dn k with h0 | ⟨a, ha, he⟩
  · rw [decide_eq_true h0]; rfl
  · rw [Bool.or_eq_true]
    right
    rw [List.any_eq_true, ← hn, List.take_length]
    exact ⟨((a : Int), (k : Int)), of_decide_eq_true ha, by simp [he]⟩
theorem in_two {q : List (Int × Int)} (h : q.any qbad = false) {x : Int × Int} (hx : x ∈ q) : ∃ a b : Nat, x = ((a : Int), (b : Int)) ∧ a < 5 ∧ b < 5 := by
  rw [List.any_eq_false] at h
  have h1 := h x hx
  rw [qbad_in] at h1
  have h2 : inB x.1 5 = true ∧ inB x.2 5 = true := by simpa using h1
  obtain ⟨x1, x2⟩ := x
  obtain ⟨a, rfl⟩ := Int.eq_ofNat_of_zero_le (inB_iff.1 h2.1).1
  obtain ⟨b, rfl⟩ := Int.eq_ofNat_of_zero_le (inB_iff.1 h2.2).1
  have := (inB_iff.1 h2.1).2
  have := (inB_iff.1 h2.2).2
  exact ⟨a, b, rfl, by omega, by omega⟩
/-- The cells of five ranks. -/
theorem rank_cells {w : World} {v : Value} {f : Nat → Nat} (h : SlI w v (toI (rankL f))) : ∃ g o c, v = .slice (some ⟨g, o, none⟩) 5 c ∧ ∀ k, k < 5 → w.cell? ⟨g, o + k, none⟩ = some (.int .i64 (f k : Nat)) := by
  rcases h with ⟨_, h⟩ | ⟨g, o, n, c, rfl, hl, _, hc⟩
  · simp [toI, rankL] at h
  · have hn : n = 5 := by rw [← hl]; simp [toI, rankL]
    subst hn
    refine ⟨g, o, c, rfl, fun k hk => ?_⟩
    rw [hc k hk]
    congr 2
    simp [toI, rankL, hk]
set_option maxHeartbeats 8000000 in
theorem walk (W : World) (A : Option Addr) (n c : Nat) (l : List (Int × Int)) (s : SlQ W A n l) (m : n ≤ c) (x : c ≤ maxLen) (g : ∀ e ∈ l, QrOk e) (y : n * 16 ≤ 140737488351232) :
    Calls Try.prog 7 #[.slice A n c] W fun e w' => e = .returned (.bool true) ∧ Below W.heap.size W w' := by
  have HL := Lib.hid s
  have HG := Lib.hid g
  clear m x s g
  have hn : (n : Int) ≤ 8796093022207 := by omega
  go_enter Try.func7, Try.ntmps7
  go_wp2_with fail
  refine (ringed_any ring_any W).mono ?_
  rintro e w1 ⟨rfl, hb1⟩
  have HW1 := Lib.hid (Bel.of hb1)
  clear hb1
  go_wp2_with fail
  refine (locks_any A n c l w1 (HL.out.bel HW1.out) y HG.out).mono ?_
  rintro e w2 ⟨v2, rfl, ho2, hb2⟩
  rw [HL.out.1] at ho2
  obtain ⟨A2, c2, rfl, hs2, hm2, hx2⟩ := SlQ.own ho2
  have HS2 := Lib.hid hs2
  have HX2 := Lib.hid (And.intro hm2 hx2)
  have HW2 := Lib.hid (HW1.out.call hb2)
  have HIN := Lib.hid (lk_in l)
  clear ho2 hs2 hb2
  generalize l.map lk = q at *
  go_wp2_with fail
  refine (ring_own A2 n c2 q w2 HS2.out HX2.out.1 HX2.out.2).mono ?_
  rintro e w4 ⟨r, A4, d4, c4, rfl, hB4, ho4, hb4⟩
  obtain ⟨rfl, hR4⟩ := ringB_in HIN.out hB4
  have HR4 := Lib.hid hR4
  have HS4 := Lib.hid (HS2.out.bel (Bel.of hb4))
  have HW4 := Lib.hid (HW2.out.call hb4)
  clear hB4 hb4 hR4 ho4
  go_wp2_with fail
  refine (rank_any A2 n c2 q w4 HS4.out HX2.out.1 HX2.out.2).mono ?_
  rintro e w5 ⟨v5, q5, c5, rfl, hB5, hs5, hb5⟩
  have HS5 := Lib.hid (HS4.out.bel (Bel.of hb5))
  have HW5 := Lib.hid (HW4.out.call hb5)
  have HB5 := Lib.hid hB5
  have HV5 := Lib.hid hs5
  clear hB5 hs5 hb5
  by_cases hr : r = []
  · subst hr
    have hnc := ringOk_nil HR4.out
    have h5 : c5 = 0 ∧ ∃ f, RankOk (Pq q) f ∧ q5 = rankL f := by
      rcases HB5.out with ⟨h1, _⟩ | ⟨_, ⟨t, h2⟩, _⟩ | ⟨_, _, h3, h4⟩
      · rw [HIN.out] at h1; cases h1
      · exact absurd h2 (hnc t)
      · exact ⟨h3, h4⟩
    obtain ⟨rfl, f, hf, rfl⟩ := h5
    have HF := Lib.hid hf
    obtain ⟨g, o, d5, rfl, hcell⟩ := rank_cells HV5.out
    have HCL := Lib.hid hcell
    have HAL := Lib.hid (fun k => isAt_all hf k HS5.out.1)
    have HLT := Lib.hid (rank_lt (pq_five HIN.out) hf)
    clear hnc hf hcell HB5 HV5 HR4
    unfold maxLen at hx2
    go_wp2
    go_loopw [55] (fun t wr => ∃ j : Nat, j ≤ n ∧ t = .int .i64 j ∧ Bel w5 wr) (fun t _ => n - (intOf t).toNat)
    case atStart => exact ⟨0, by omega, rfl, Bel.refl _⟩
    case round =>
      obtain ⟨j, hj, rfl, hbr⟩ := hrel
      have HB := Lib.hid hbr
      clear hbr
      by_cases hlt : j < n
      · obtain ⟨bb, off, e, rfl, hbb, he, hrg⟩ := (HS5.out.bel HB.out).at_ hlt
        have hlt' : (j : Int) < n := by omega
        have hR := Lib.hid hrg
        obtain ⟨a, b, rfl, ha, hb5⟩ := in_two HIN.out (List.mem_of_getElem? he)
        have hup := HF.out.up a b (decide_eq_true (List.mem_of_getElem? he))
        have HX := Lib.hid (qwld_box wr ((a : Int), (b : Int)) 31)
        have HBW := Lib.hid (HB.out.trans (qwld_below wr ((a : Int), (b : Int)) 31))
        have F0 := Lib.hid (fun (w' : World) (h : Bel (qwld wr ((a : Int), (b : Int)) 31) w') => h.cell (HX.out.cell 0 (v := .int .i64 a) rfl))
        have F1 := Lib.hid (fun (w' : World) (h : Bel (qwld wr ((a : Int), (b : Int)) 31) w') => h.cell (HX.out.cell 1 (v := .int .i64 b) rfl))
        have F2 := Lib.hid (fun (w' : World) (h : Bel (qwld wr ((a : Int), (b : Int)) 31) w') => h.cell (HBW.out.cell (HCL.out a ha)))
        have F3 := Lib.hid (fun (w' : World) (h : Bel (qwld wr ((a : Int), (b : Int)) 31) w') => h.cell (HBW.out.cell (HCL.out b hb5)))
        have ha' : (a : Int) < 5 := by omega
        have hb' : (b : Int) < 5 := by omega
        have hge : ¬ (f b : Int) ≤ f a := by omega
        clear hrg he hbb ha hb5 hup
        generalize f a = fa at *
        generalize f b = fb at *
        go_wp2_with (first | (refine load_qr TPr _ rfl rfl rfl hR.out ?_) | (refine qwld_store TPr _ _ rfl rfl _ rfl rfl rfl ?_))
        (refine region_bel (by kernel_rfl) (by kernel_rfl) ?_; (repeat (first | ((with_reducible refine BigFrame.wpQuiet_skip ?_ ?_); exact rfl; simp only [Act.put, Act.eval, List.setIfInBounds_toArray, List.set_cons_zero, List.set_cons_succ, Array.getD_eq_getD_getElem?, List.getElem?_toArray, List.getElem?_cons_zero, List.getElem?_cons_succ, Option.getD_some]) | (refine q_move _ rfl rfl ?_; simp only [Act.put, Act.eval, List.setIfInBounds_toArray, List.set_cons_zero, List.set_cons_succ, Array.getD_eq_getD_getElem?, List.getElem?_toArray, List.getElem?_cons_zero, List.getElem?_cons_succ, Option.getD_some]) | (refine q_assign _ rfl rfl ?_; simp only [Act.put, Act.eval, List.setIfInBounds_toArray, List.set_cons_zero, List.set_cons_succ, Array.getD_eq_getD_getElem?, List.getElem?_toArray, List.getElem?_cons_zero, List.getElem?_cons_succ, Option.getD_some]) | (refine q_any rfl ?_; apply Exists.intro; refine ⟨fun w hw => ?_, ?_⟩; (have fct0 := F0.out w hw; have fct1 := F1.out w hw; have fct2 := F2.out w hw; have fct3 := F3.out w hw; go_simp; first | exact ⟨rfl, rfl⟩ | rfl); simp only [Act.put, Act.eval, List.setIfInBounds_toArray, List.set_cons_zero, List.set_cons_succ, Array.getD_eq_getD_getElem?, List.getElem?_toArray, List.getElem?_cons_zero, List.getElem?_cons_succ, Option.getD_some]))); refine wpQuiet_nil ?_; intro w2 hw2)
        have HW6 := Lib.hid (HBW.out.trans hw2)
        clear hw2
        go_wp2
        go_roundw
        case rel => exact ⟨j + 1, by omega, by go_num, HW6.out⟩
        case measure => simp [intOf]; omega
      · obtain rfl : j = n := by omega
        have HB6 := Lib.hid HB.out
        go_wp2
        go_loopw [73] (fun t wq => ∃ k : Nat, k ≤ 5 ∧ t = .int .i64 k ∧ Bel w5 wq) (fun t _ => 5 - (intOf t).toNat)
        case atStart => exact ⟨0, by omega, rfl, HB6.out⟩
        case round =>
          obtain ⟨k, hk, rfl, hbq⟩ := hrel
          have HBQ := Lib.hid hbq
          clear hbq HB HB6
          by_cases hlk : k < 5
          · have hlk' : (k : Int) < 5 := by omega
            have ck := HBQ.out.cell (HCL.out k hlk)
            have hfk := HLT.out k hlk
            have HZ := Lib.hid (show ((f k : Int) == 0) = isAt q f k 0 by rw [isAt_zero, Bool.eq_iff_iff]; simp)
            have HA := Lib.hid (HAL.out k)
            have HB7 := Lib.hid HBQ.out
            go_wp2
            go_loopw [11, 82] (fun v t wz => ∃ i : Nat, i ≤ j ∧ t = .int .i64 i ∧ v = .bool (isAt q f k i) ∧ Bel w5 wz) (fun _ t _ => j - (intOf t).toNat)
            case atStart => exact ⟨0, by omega, rfl, by rw [HZ.out], HB7.out⟩
            case round =>
              obtain ⟨i, hi, rfl, rfl, hbz⟩ := hrel
              have HB := Lib.hid hbz
              clear hbz HB7 ck
              by_cases hlt : i < j
              · obtain ⟨bb, off, e, rfl, hbb, he, hrg⟩ := (HS5.out.bel HB.out).at_ hlt
                have hlt' : (i : Int) < j := by omega
                have hR := Lib.hid hrg
                obtain ⟨a, b, rfl, ha, hb5⟩ := in_two HIN.out (List.mem_of_getElem? he)
                have hsucc := isAt_succ (f := f) (k := k) he
                have HX := Lib.hid (qwld_box wr ((a : Int), (b : Int)) 31)
                have HBW := Lib.hid (HB.out.trans (qwld_below wr ((a : Int), (b : Int)) 31))
                have c0 := HX.out.cell 0 (v := .int .i64 a) rfl
                have c1 := HX.out.cell 1 (v := .int .i64 b) rfl
                have ca := HBW.out.cell (HCL.out a ha)
                have ha' : (a : Int) < 5 := by omega
                have hfa := HLT.out a ha
                have hw1 : IntKind.i64.wrap ((f k : Int) - 1) = (f k : Int) - 1 := IntWalk.i64_in _ (by omega)
                simp only [Int.toNat_natCast] at hsucc
                clear hrg he hbb ha hb5
                go_upto_region 23 with (first | (refine load_qr TPr _ rfl rfl rfl hR.out ?_) | (refine qwld_store TPr _ _ rfl rfl _ rfl rfl rfl ?_))
                cases hib : isAt q f k i
                · rw [hib, Bool.false_or] at hsucc
                  cases hbk : decide ((b : Int) = k)
                  · rw [hbk, Bool.false_and] at hsucc
                    have HS := Lib.hid hsucc
                    have hb2 : ((b : Int) == (k : Int)) = false := by rw [beq_eq_false_iff_ne]; exact of_decide_eq_false hbk
                    clear hsucc hbk hib
                    go_wp2
                    go_roundw
                    case rel => exact ⟨i + 1, by omega, by go_num, by rw [HS.out], HBW.out⟩
                    case measure => simp [intOf]; omega
                  · rw [hbk, Bool.true_and] at hsucc
                    obtain rfl : b = k := by have := of_decide_eq_true hbk; omega
                    cases hq : decide (f a + 1 = f b)
                    · rw [hq] at hsucc
                      have HS := Lib.hid hsucc
                      have hb4 : ((f a : Int) == (f b : Int) - 1) = false := by rw [beq_eq_false_iff_ne]; have := of_decide_eq_false hq; omega
                      clear hsucc hbk hib hq
                      go_wp2
                      go_roundw
                      case rel => exact ⟨i + 1, by omega, by go_num, by rw [HS.out], HBW.out⟩
                      case measure => simp [intOf]; omega
                    · rw [hq] at hsucc
                      have HS := Lib.hid hsucc
                      have hb4 : ((f a : Int) == (f b : Int) - 1) = true := by rw [beq_iff_eq]; have := of_decide_eq_true hq; omega
                      clear hsucc hbk hib hq
                      go_wp2
                      go_roundw
                      case rel => exact ⟨i + 1, by omega, by go_num, by rw [HS.out], HBW.out⟩
                      case measure => simp [intOf]; omega
                · rw [hib, Bool.true_or] at hsucc
                  have HS := Lib.hid hsucc
                  clear hsucc hib
                  go_wp2
                  go_roundw
                  case rel => exact ⟨i + 1, by omega, by go_num, by rw [HS.out], HBW.out⟩
                  case measure => simp [intOf]; omega
              · obtain rfl : i = j := by omega
                have HT := Lib.hid (HA.out)
                have HB8 := Lib.hid HB.out
                rw [HT.out]
                go_wp2
                go_roundw
                case rel => exact ⟨k + 1, by omega, by go_num, HB8.out⟩
                case measure => simp [intOf]; omega
          · obtain rfl : k = 5 := by omega
            go_wp2
            go_ret
            exact ⟨rfl, (HW5.out.trans HBQ.out).out⟩
  · have HC := Lib.hid (ringOk_cyc HR4.out hr)
    have hl : 0 < r.length := List.length_pos_iff.2 hr
    have hl' : (0 : Int) < r.length := by omega
    have h5 : q5 = [] ∧ c5 = 5 := by
      rcases HB5.out with ⟨h1, _⟩ | ⟨_, _, h3, h4⟩ | ⟨_, h2, _⟩
      · rw [HIN.out] at h1; cases h1
      · exact ⟨h3, h4⟩
      · exact absurd HC.out (h2 r)
    obtain ⟨rfl, rfl⟩ := h5
    obtain ⟨A6, n6, d6, rfl, hs6, hm6⟩ := HV5.out.form
    have hn6 : n6 = 0 := hs6.1.symm
    subst hn6
    clear hr hs6 hm6
    go_wp2
    go_ret
    exact ⟨rfl, HW5.out⟩
set_option maxRecDepth 100000 in
theorem lifted (os : Os) (started : os.Started) (H : Type) (enc : TypeId × Value → H) :
    ReturnsInHanded {} Try.checked os 7 .any (Rows.ringRankSpec.pre6 enc Try.prog Try.f7 Rows.ringRankRow.domain false) (Rows.ringRankSpec.post enc Try.prog Try.f7 false true false false) := by
  refine returnsInHanded_of_change_sized (C := Try.checked) own started (by kernel_rfl) Try.func7
    (ChangeSpec.witness6 (enc := enc) (C := Try.checked) false ⟨#[], #[.slice none 0 0], []⟩ 8 (by kernel_rfl) (by kernel_rfl) (by kernel_rfl) (by kernel_rfl)) ?_
  intro W base args ds gs before hval0 hW hcnd hsz0 _
  have hsz : (DataW.weightsEach Try.prog (Try.f7.params.toList ++ Rows.ringRankSpec.plain.varTypes Try.prog) (ds ++ gs)).all (· ≤ reachBytes) = true := hsz0
  clear hsz0
  have hval : ∀ (j : Nat) t v, Try.f7.params[j]? = some t → args[j]? = some v → Value.okWide Try.prog W .any base t v := hval0
  have hW' := hW
  obtain ⟨p, q, hA0, hV, rfl, hfz, hnd⟩ := hW
  have hA : DataW.TrodAll enc Try.prog W 0 (fun _ => true) true Try.f7.params.toList args.toList ds p := hA0
  rw [Try.params7] at hA hval hsz
  obtain ⟨v0, vs0, d0, ds0, p0, q0, hargs, rfl, rfl, h0, r0⟩ := trodAll_cons hA
  obtain ⟨rfl, rfl, rfl⟩ := trodAll_nil r0
  obtain rfl : args = #[v0] := by cases args; simp_all
  obtain ⟨rfl, rfl⟩ := trodVars_none hV
  have t0 := h0
  have lt0 : ∀ x ∈ p0, x.block < W.heap.size := by obtain ⟨m, hm⟩ := t0; exact DataW.trod_lt m _ _ _ hm
  obtain ⟨A0, n0, c0, l0, rfl, s0, m0, x0, g0, z0⟩ := open_prs Try.underlying23 Try.underlying31 ⟨rfl, rfl⟩ (by kernel_rfl) (by kernel_rfl) Try.underlying3 (hval 0 23 v0 rfl rfl) h0
  have y0 := reach_sl hsz (j := 0) rfl rfl Try.underlying23 (b := 16) (by kernel_rfl) z0
  clear hA0 hval0
  refine (walk W A0 n0 c0 l0 s0 m0 x0 g0 y0).mono fun e W' ⟨he, bel⟩ => ?_
  subst he
  exact ⟨_, rfl, _, _, _, [], _, [], hW', trodAll_mk1 (shut_bool Try.underlying4 _), (trodAll_cons_mk (Below.trod laidOut (by kernel_rfl) (of_decide_eq_true (by kernel_rfl)) t0 bel lt0) trodAll_mk0), rfl, bel.frame _, fun h => by cases h⟩

theorem over : Rows.ringRankRow.holds Try.pinned (OpenSpec.ofChange Rows.ringRankSpec) :=
  OpenClaim.holds_of_wide 7 Try.f7 rfl rfl rfl rfl rfl rfl rfl ⟨rfl, rfl, rfl, rfl, rfl⟩ rfl rfl rfl rfl rfl (by kernel_rfl) Try.func7 (by kernel_rfl)
    (of_decide_eq_true (by kernel_rfl)) (by unfold Func.isWrapper; first | (rw [if_pos (by decide +kernel)]; kernel_rfl) | (rw [if_neg (by decide +kernel)]; exact ⟨rfl, rfl⟩))
    (fun os started H enc _ => lifted os started H enc)

theorem proved : Rows.RingRankSaid := over
#print axioms proved
end Go.Proofs.Ytoaehoildnanpaa.LRingRank

/- 'deadheatkeep.OrderForks' returns true for every input and leaves its arguments as they are. No condition. -/
import Derived.Test.YtkkiflhnjpmalaaOpenTr
import Derived.Test.YtkkiflhnjpmalaaKeepOr
set_option linter.all false
set_option maxRecDepth 100000
namespace Go.Proofs.Ytkkiflhnjpmalaa.LOrderForks
open Go Go.ChangeShapes Go.WideShapes Go.ChangeAt Go.RowKit

set_option maxHeartbeats 8000000 in
theorem walk (W : World) (A : Option Addr) (n c : Nat) (l : List Ev) (s : Sl W A n l) (m : n ≤ c) (x : c ≤ maxLen) (g : ∀ e ∈ l, EvOk e) :
    Calls Try.prog 9 #[.slice A n c] W fun e w' => e = .returned (.bool true) ∧ Below W.heap.size W w' := by
  unfold maxLen at x
  have hw0 : Bel W W := Bel.refl _
  have HL := Lib.hid s
  have HN := Lib.hid s.1
  clear s g
  cases h1 : (may l == 0)
  · go_enter Try.func9, Try.ntmps9
    go_wp2_with fail
    refine (ordered_any _).mono ?_
    rintro e1 w1 ⟨rfl, hb1⟩
    have hw1 := hw0.call hb1
    clear hb1
    go_wp2_with fail
    refine (may_any A n c l _ (HL.out.bel hw1)).mono ?_
    rintro e2 w2 ⟨rfl, hb2⟩
    have hw2 := hw1.call hb2
    clear hb2
    go_wp2
    go_ret
    exact ⟨rfl, hw2⟩
  · have hm := eq_of_beq h1
    have HM := Lib.hid hm
    have hn80 : n ≤ 80 := by rw [← HN.out]; exact ((may_iff l).1 hm).1
    clear hm
    go_enter Try.func9, Try.ntmps9
    go_wp2_with fail
    refine (ordered_any _).mono ?_
    rintro e1 w1 ⟨rfl, hb1⟩
    have hw1 := hw0.call hb1
    clear hb1
    go_wp2_with fail
    refine (may_any A n c l _ (HL.out.bel hw1)).mono ?_
    rintro e2 w2 ⟨rfl, hb2⟩
    have hw2 := hw1.call hb2
    clear hb2
    go_wp2_with fail
    refine (kahead_any A n c l _ (HL.out.bel hw2) HM.out).mono ?_
    rintro e3 w3 ⟨B, rfl, hmap, hb3⟩
    have HMAP := Lib.hid hmap
    have HW3 := Lib.hid (hw2.call hb3)
    clear hmap hb3 hw2
    go_wp2
    go_loopw [17] (fun t16 wr => ∃ i : Nat, i ≤ n ∧ t16 = .int .i64 i ∧ Bel w3 wr) (fun t16 _ => n - (intOf t16).toNat)
    case atStart => exact ⟨0, by omega, rfl, Bel.refl _⟩
    case round =>
      obtain ⟨i, hi, rfl, hbr⟩ := hrel
      have HB := Lib.hid hbr
      clear hbr
      by_cases hlt : i < n
      · have hlt' : (i : Int) < n := by omega
        obtain ⟨bb, off, ea, rfl, hbb, hea, hra⟩ := HL.out.at_ hlt
        have hR := Lib.hid (rangeAt_below (HW3.out.trans HB.out).out hbb hra)
        have HEA := Lib.hid hea
        have HEB := Lib.hid (HB.out.trans (ewld_below wr ea 30))
        have HAX := Lib.hid (ewld_box wr ea 30)
        clear hea hra
        go_wp2_with (first | (refine load_ev T36 _ rfl rfl rfl hR.out ?_) | (refine ewld_store T36 _ _ rfl rfl _ rfl rfl rfl ?_))
        go_loopw [24] (fun t6 wr1 => ∃ j : Nat, j ≤ n ∧ t6 = .int .i64 j ∧ Bel (ewld wr ea 30) wr1) (fun t6 _ => n - (intOf t6).toNat)
        case atStart => exact ⟨0, by omega, rfl, Bel.refl _⟩
        case round =>
          obtain ⟨j, hj, rfl, hbr⟩ := hrel
          have HB1 := Lib.hid hbr
          clear hbr
          by_cases hlj : j < n
          · have hlj' : (j : Int) < n := by omega
            obtain ⟨eb, heb⟩ := HL.out.get hlj
            have hrb := (HL.out.rng hlj heb).2
            have hbw := HEB.out.trans HB1.out
            have hRb := Lib.hid (rangeAt_below (HW3.out.trans hbw).out hbb hrb)
            have hgr := ewld_below wr eb 30
            have bB := ewld_box wr eb 30
            have bA := (Bel.of hgr).box (HB1.out.box HAX.out)
            have c0 := bA.cell 0 (v := .int .i64 ea.k) rfl
            have c1 := bA.cell 2 (v := .int .i64 ea.o) rfl
            have d1 := bB.cell 1 (v := .int .i64 eb.t) rfl
            have L1 := look_bef (HMAP.out.bel (hbw.trans hgr)) i j
            have L2 := look_bef (HMAP.out.bel (hbw.trans hgr)) j i
            have HGR := Lib.hid (HB1.out.trans hgr)
            have HF := Lib.hid (fun (h1 : ea.k = 5) (h2 : eb.t = ea.o) => fork_bef HM.out HEA.out heb h1 h2)
            have HJ := Lib.hid (fun (h1 : ea.k = 6) (h2 : eb.t = ea.o) => join_bef HM.out HEA.out heb h1 h2)
            clear heb hrb hbw hgr bA bB
            cases ho : (eb.t == ea.o)
            · clear L1 L2
              cases k5 : (ea.k == 5)
              · cases k6 : (ea.k == 6)
                · go_wp2_with (first | (refine load_ev T36 _ rfl rfl rfl hRb.out ?_) | (refine ewld_store T36 _ _ rfl rfl _ rfl rfl rfl ?_))
                  go_roundw
                  case rel => exact ⟨j + 1, by omega, by go_num, HGR.out⟩
                  case measure => simp [intOf]; omega
                · go_wp2_with (first | (refine load_ev T36 _ rfl rfl rfl hRb.out ?_) | (refine ewld_store T36 _ _ rfl rfl _ rfl rfl rfl ?_))
                  go_roundw
                  case rel => exact ⟨j + 1, by omega, by go_num, HGR.out⟩
                  case measure => simp [intOf]; omega
              · have k6 : (ea.k == 6) = false := by rw [beq_eq_false_iff_ne, eq_of_beq k5]; decide
                go_wp2_with (first | (refine load_ev T36 _ rfl rfl rfl hRb.out ?_) | (refine ewld_store T36 _ _ rfl rfl _ rfl rfl rfl ?_))
                go_roundw
                case rel => exact ⟨j + 1, by omega, by go_num, HGR.out⟩
                case measure => simp [intOf]; omega
            · cases k5 : (ea.k == 5)
              · cases k6 : (ea.k == 6)
                · clear L1 L2
                  go_wp2_with (first | (refine load_ev T36 _ rfl rfl rfl hRb.out ?_) | (refine ewld_store T36 _ _ rfl rfl _ rfl rfl rfl ?_))
                  go_roundw
                  case rel => exact ⟨j + 1, by omega, by go_num, HGR.out⟩
                  case measure => simp [intOf]; omega
                · rw [HJ.out (eq_of_beq k6) (eq_of_beq ho)] at L2
                  clear L1
                  go_wp2_with (first | (refine load_ev T36 _ rfl rfl rfl hRb.out ?_) | (refine ewld_store T36 _ _ rfl rfl _ rfl rfl rfl ?_))
                  go_roundw
                  case rel => exact ⟨j + 1, by omega, by go_num, HGR.out⟩
                  case measure => simp [intOf]; omega
              · rw [HF.out (eq_of_beq k5) (eq_of_beq ho)] at L1
                have k6 : (ea.k == 6) = false := by rw [beq_eq_false_iff_ne, eq_of_beq k5]; decide
                clear L2
                go_wp2_with (first | (refine load_ev T36 _ rfl rfl rfl hRb.out ?_) | (refine ewld_store T36 _ _ rfl rfl _ rfl rfl rfl ?_))
                go_roundw
                case rel => exact ⟨j + 1, by omega, by go_num, HGR.out⟩
                case measure => simp [intOf]; omega
          · obtain rfl : j = n := by omega
            have HS := Lib.hid (HEB.out.trans HB1.out)
            go_wp2
            go_roundw
            case rel => exact ⟨i + 1, by omega, by go_num, HS.out⟩
            case measure => simp [intOf]; omega
      · have HS := Lib.hid (HW3.out.trans HB.out)
        go_wp2
        go_ret
        exact ⟨rfl, HS.out⟩

set_option maxRecDepth 100000 in
theorem lifted (os : Os) (started : os.Started) (H : Type) (enc : TypeId × Value → H) :
    ReturnsInHanded {} Try.checked os 9 .any (Rows.orderForksSpec.pre6 enc Try.prog Try.f9 Rows.orderForksRow.domain false) (Rows.orderForksSpec.post enc Try.prog Try.f9 false true false false) := by
  refine returnsInHanded_of_change_sized (C := Try.checked) own started (by kernel_rfl) Try.func9
    (ChangeSpec.witness6 (enc := enc) (C := Try.checked) false ⟨#[], #[.slice none 0 0], []⟩ 8 (by kernel_rfl) (by kernel_rfl) (by kernel_rfl) (by kernel_rfl)) ?_
  intro W base args ds gs before hval0 hW hcnd hsz0 _
  have hsz : (DataW.weightsEach Try.prog (Try.f9.params.toList ++ Rows.orderForksSpec.plain.varTypes Try.prog) (ds ++ gs)).all (· ≤ reachBytes) = true := hsz0
  clear hsz0
  have hval : ∀ (j : Nat) t v, Try.f9.params[j]? = some t → args[j]? = some v → Value.okWide Try.prog W .any base t v := hval0
  have hW' := hW
  obtain ⟨p, q, hA0, hV, rfl, hfz, hnd⟩ := hW
  have hA : DataW.TrodAll enc Try.prog W 0 (fun _ => true) true Try.f9.params.toList args.toList ds p := hA0
  rw [Try.params9] at hA hval hsz
  obtain ⟨v0, vs0, d0, ds0, p0, q0, hargs, rfl, rfl, h0, r0⟩ := trodAll_cons hA
  obtain ⟨rfl, rfl, rfl⟩ := trodAll_nil r0
  obtain rfl : args = #[v0] := by cases args; simp_all
  obtain ⟨rfl, rfl⟩ := trodVars_none hV
  have t0 := h0
  have lt0 : ∀ x ∈ p0, x.block < W.heap.size := by obtain ⟨m, hm⟩ := t0; exact DataW.trod_lt m _ _ _ hm
  obtain ⟨A0, n0, c0, l0, rfl, s0, m0, x0, g0, z0⟩ := open_evs Try.underlying22 Try.underlying30 ⟨rfl, rfl, rfl⟩ (by kernel_rfl) (by kernel_rfl) Try.underlying3 (hval 0 22 v0 rfl rfl) h0
  have y0 := reach_sl hsz (j := 0) rfl rfl Try.underlying22 (b := 24) (by kernel_rfl) z0
  clear hA0 hval0
  refine (walk W A0 n0 c0 l0 s0 m0 x0 g0).mono fun e W' ⟨he, bel⟩ => ?_
  subst he
  exact ⟨_, rfl, _, _, _, [], _, [], hW', trodAll_mk1 (shut_bool Try.underlying4 _), (trodAll_cons_mk (Below.trod laidOut (by kernel_rfl) (of_decide_eq_true (by kernel_rfl)) t0 bel lt0) trodAll_mk0), rfl, bel.frame _, fun h => by cases h⟩

theorem over : Rows.orderForksRow.holds Try.pinned (OpenSpec.ofChange Rows.orderForksSpec) :=
  OpenClaim.holds_of_wide 9 Try.f9 rfl rfl rfl rfl rfl rfl rfl ⟨rfl, rfl, rfl, rfl, rfl⟩ rfl rfl rfl rfl rfl (by kernel_rfl) Try.func9 (by kernel_rfl)
    (of_decide_eq_true (by kernel_rfl)) (by unfold Func.isWrapper; first | (rw [if_pos (by decide +kernel)]; kernel_rfl) | (rw [if_neg (by decide +kernel)]; exact ⟨rfl, rfl⟩))
    (fun os started H enc _ => lifted os started H enc)

theorem proved : Rows.OrderForksSaid := over
#print axioms proved
end Go.Proofs.Ytkkiflhnjpmalaa.LOrderForks

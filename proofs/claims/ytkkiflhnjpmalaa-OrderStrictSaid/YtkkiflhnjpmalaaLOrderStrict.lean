/- 'deadheatkeep.OrderStrict' returns true for every input and leaves its arguments as they are. No condition. -/
import Derived.Test.YtkkiflhnjpmalaaOpenTr
import Derived.Test.YtkkiflhnjpmalaaKeepOr
set_option linter.all false
set_option maxRecDepth 100000
namespace Go.Proofs.Ytkkiflhnjpmalaa.LOrderStrict
open Go Go.ChangeShapes Go.WideShapes Go.ChangeAt Go.RowKit

set_option maxHeartbeats 8000000 in
theorem walk (W : World) (A : Option Addr) (n c : Nat) (l : List Ev) (s : Sl W A n l) (m : n ≤ c) (x : c ≤ maxLen) (g : ∀ e ∈ l, EvOk e) :
    Calls Try.prog 6 #[.slice A n c] W fun e w' => e = .returned (.bool true) ∧ Below W.heap.size W w' := by
  unfold maxLen at x
  have hw0 : Bel W W := Bel.refl _
  have HL := Lib.hid s
  have HN := Lib.hid s.1
  clear s g
  cases h1 : (may l == 0)
  · go_enter Try.func6, Try.ntmps6
    go_wp2_with fail
    refine (ordered_any _).mono ?_
    rintro e1 w1 ⟨rfl, hb1⟩
    have hw1 := hw0.call hb1
    clear hb1
    go_wp2_with fail
    refine (may_any A n c l _ (HL.out.bel hw1)).mono ?_
    rintro e2 w2 ⟨rfl, hb2⟩
    have hw2 := hw1.call hb2
    clear hb2
    go_wp2
    go_ret
    exact ⟨rfl, hw2⟩
  · have hm := eq_of_beq h1
    have HM := Lib.hid hm
    have hn80 : n ≤ 80 := by rw [← HN.out]; exact ((may_iff l).1 hm).1
    clear hm
    go_enter Try.func6, Try.ntmps6
    go_wp2_with fail
    refine (ordered_any _).mono ?_
    rintro e1 w1 ⟨rfl, hb1⟩
    have hw1 := hw0.call hb1
    clear hb1
    go_wp2_with fail
    refine (may_any A n c l _ (HL.out.bel hw1)).mono ?_
    rintro e2 w2 ⟨rfl, hb2⟩
    have hw2 := hw1.call hb2
    clear hb2
    go_wp2_with fail
    refine (kahead_any A n c l _ (HL.out.bel hw2) HM.out).mono ?_
    rintro e3 w3 ⟨B, rfl, hmap, hb3⟩
    have HW3 := Lib.hid (hw2.call hb3)
    have HIN := Lib.hid (fun (p : Nat × Nat) (h : p ∈ prsA (bef l) l.length) => (mem_prsA.1 h).2.2)
    have HLK := Lib.hid (fun (w : World) (h : MapB w B (prsA (bef l) l.length)) (a b : Nat) => look_bef h a b)
    generalize prsA (bef l) l.length = ps at *
    have HMAP := Lib.hid hmap
    have H0 := Lib.hid (show Itr (w3.alloc (.mapIter (some B) ps.length #[] ps.length)) w3.heap.size B (prM ps) ps.length #[] from ⟨heap_alloc_new w3 _, (heap_alloc_old _ _ hmap.lt).trans hmap⟩)
    have HB0 := Lib.hid ((Bel.refl w3).alloc (.mapIter (some B) ps.length #[] ps.length))
    clear hmap hb3 hw2 hw1 hw0
    go_wp2_with (refine rangeNew Try.underlying42 _ rfl rfl rfl HMAP.out ?_)
    go_frame
    go_loopw [15] (fun _ wr => ∃ seen, Itr wr w3.heap.size B (prM ps) ps.length seen ∧ Bel w3 wr) (fun _ wr => wr.rangeLeft B w3.heap.size)
    case atStart => exact ⟨#[], H0.out, HB0.out⟩
    case round =>
      obtain ⟨seen, hI, hbr⟩ := hrel
      have HI := Lib.hid hI
      have HB := Lib.hid hbr
      clear hI hbr H0 HB0
      go_wp2_with (refine nextMap _ rfl rfl rfl HI.out (prM_old ps) ?_ ?_)
      · intro hall
        have HS := Lib.hid (HW3.out.trans HB.out)
        clear hall
        go_wp2
        go_ret
        exact ⟨rfl, HS.out⟩
      · intro e kv vv w4 he hkv hvv hI2 hg hlt
        obtain ⟨p, b, rfl, hp⟩ := prM_in he
        obtain rfl : Value.agg (prv p) = kv := hkv
        obtain rfl : Value.bool true = vv := hvv
        have HE := Lib.hid he
        have HI2 := Lib.hid hI2
        have HLT := Lib.hid hlt
        have HB2 := Lib.hid (Bel.of (HB.out.out.grown hg HB.out.size (by intro j hj; cases hj; exact Nat.le_refl _)))
        have HP := Lib.hid (HIN.out p hp)
        have hlt12 : (p.1 : Int) < p.2 := by have := bef_lt HP.out; omega
        clear he hI2 hlt hg hp
        have HX := Lib.hid (pwld_box w4 p 45)
        have HG5 := Lib.hid (pwld_below w4 p 45)
        have c0 := HX.out.cell 0 (v := .int .i64 p.1) rfl
        have c1 := HX.out.cell 1 (v := .int .i64 p.2) rfl
        have HC := Lib.hid (And.intro c0 c1)
        go_wp2_with (first | (refine entryMap _ rfl rfl rfl HI2.out HE.out (prM_nodup ps) (kv := .agg (prv p)) (vv := .bool true) rfl rfl ?_) | (refine pwld_store TPr _ _ rfl rfl _ rfl rfl rfl ?_))
        clear c0 c1
        go_loopw [26] (fun t26 wr => ∃ k : Nat, k ≤ n ∧ t26 = .int .i64 k ∧ Bel (pwld w4 p 45) wr) (fun t26 _ => n - (intOf t26).toNat)
        case atStart => exact ⟨0, by omega, rfl, Bel.refl _⟩
        case round =>
          obtain ⟨k, hk, rfl, hbr⟩ := hrel
          have HB5 := Lib.hid hbr
          clear hbr
          by_cases hlk : k < n
          · have hlk' : (k : Int) < n := by omega
            have c0 := HB5.out.cell HC.out.1
            have c1 := HB5.out.cell HC.out.2
            have hmp := HMAP.out.bel (HB2.out.trans (HG5.out.trans HB5.out))
            have L1 := HLK.out _ hmp p.2 k
            have L2 := HLK.out _ hmp p.1 k
            clear hmp
            cases hq : bef l p.2 k
            · rw [hq] at L1
              clear L2 hq
              go_wp2
              go_roundw
              case rel => exact ⟨k + 1, by omega, by go_num, HB5.out⟩
              case measure => simp [intOf]; omega
            · rw [hq] at L1
              rw [bef_trans HP.out hq] at L2
              clear hq
              go_wp2
              go_roundw
              case rel => exact ⟨k + 1, by omega, by go_num, HB5.out⟩
              case measure => simp [intOf]; omega
          · have HI5 := Lib.hid (HI2.out.grown (HG5.out.trans HB5.out))
            have HBF := Lib.hid (HB2.out.trans (HG5.out.trans HB5.out))
            go_wp2
            go_roundw
            case rel => exact ⟨_, HI5.out, HBF.out⟩
            case measure =>
              rw [HI5.out.left, HI.out.left]; exact HLT.out

set_option maxRecDepth 100000 in
theorem lifted (os : Os) (started : os.Started) (H : Type) (enc : TypeId × Value → H) :
    ReturnsInHanded {} Try.checked os 6 .any (Rows.orderStrictSpec.pre6 enc Try.prog Try.f6 Rows.orderStrictRow.domain false) (Rows.orderStrictSpec.post enc Try.prog Try.f6 false true false false) := by
  refine returnsInHanded_of_change_sized (C := Try.checked) own started (by kernel_rfl) Try.func6
    (ChangeSpec.witness6 (enc := enc) (C := Try.checked) false ⟨#[], #[.slice none 0 0], []⟩ 8 (by kernel_rfl) (by kernel_rfl) (by kernel_rfl) (by kernel_rfl)) ?_
  intro W base args ds gs before hval0 hW hcnd hsz0 _
  have hsz : (DataW.weightsEach Try.prog (Try.f6.params.toList ++ Rows.orderStrictSpec.plain.varTypes Try.prog) (ds ++ gs)).all (· ≤ reachBytes) = true := hsz0
  clear hsz0
  have hval : ∀ (j : Nat) t v, Try.f6.params[j]? = some t → args[j]? = some v → Value.okWide Try.prog W .any base t v := hval0
  have hW' := hW
  obtain ⟨p, q, hA0, hV, rfl, hfz, hnd⟩ := hW
  have hA : DataW.TrodAll enc Try.prog W 0 (fun _ => true) true Try.f6.params.toList args.toList ds p := hA0
  rw [Try.params6] at hA hval hsz
  obtain ⟨v0, vs0, d0, ds0, p0, q0, hargs, rfl, rfl, h0, r0⟩ := trodAll_cons hA
  obtain ⟨rfl, rfl, rfl⟩ := trodAll_nil r0
  obtain rfl : args = #[v0] := by cases args; simp_all
  obtain ⟨rfl, rfl⟩ := trodVars_none hV
  have t0 := h0
  have lt0 : ∀ x ∈ p0, x.block < W.heap.size := by obtain ⟨m, hm⟩ := t0; exact DataW.trod_lt m _ _ _ hm
  obtain ⟨A0, n0, c0, l0, rfl, s0, m0, x0, g0, z0⟩ := open_evs Try.underlying22 Try.underlying30 ⟨rfl, rfl, rfl⟩ (by kernel_rfl) (by kernel_rfl) Try.underlying3 (hval 0 22 v0 rfl rfl) h0
  have y0 := reach_sl hsz (j := 0) rfl rfl Try.underlying22 (b := 24) (by kernel_rfl) z0
  clear hA0 hval0
  refine (walk W A0 n0 c0 l0 s0 m0 x0 g0).mono fun e W' ⟨he, bel⟩ => ?_
  subst he
  exact ⟨_, rfl, _, _, _, [], _, [], hW', trodAll_mk1 (shut_bool Try.underlying4 _), (trodAll_cons_mk (Below.trod laidOut (by kernel_rfl) (of_decide_eq_true (by kernel_rfl)) t0 bel lt0) trodAll_mk0), rfl, bel.frame _, fun h => by cases h⟩

theorem over : Rows.orderStrictRow.holds Try.pinned (OpenSpec.ofChange Rows.orderStrictSpec) :=
  OpenClaim.holds_of_wide 6 Try.f6 rfl rfl rfl rfl rfl rfl rfl ⟨rfl, rfl, rfl, rfl, rfl⟩ rfl rfl rfl rfl rfl (by kernel_rfl) Try.func6 (by kernel_rfl)
    (of_decide_eq_true (by kernel_rfl)) (by unfold Func.isWrapper; first | (rw [if_pos (by decide +kernel)]; kernel_rfl) | (rw [if_neg (by decide +kernel)]; exact ⟨rfl, rfl⟩))
    (fun os started H enc _ => lifted os started H enc)

theorem proved : Rows.OrderStrictSaid := over
#print axioms proved
end Go.Proofs.Ytkkiflhnjpmalaa.LOrderStrict

/- 'deadheatkeep.TraceBegun' returns true for every input and leaves its arguments as they are. No condition. -/
import Derived.Test.YtioejkjbokcppaaOpenTr
import Derived.Test.YtioejkjbokcppaaKeepTr
import Derived.Test.YtioejkjbokcppaaHasInt
set_option linter.all false
namespace Go.Proofs.Ytioejkjbokcppaa.LTraceBegun
open Go Go.ChangeShapes Go.WideShapes Go.ChangeAt Go.RowKit

set_option maxHeartbeats 4000000 in
theorem walk (W : World) (A : Option Addr) (n c : Nat) (l : List Ev) (s : Sl W A n l) (m : n ≤ c) (x : c ≤ maxLen) (g : ∀ e ∈ l, EvOk e) :
    Calls Try.prog 9 #[.slice A n c] W fun e w' => e = .returned (.bool true) ∧ Below W.heap.size W w' := by
  have hw0 : Bel W W := Bel.refl _
  have HS := Lib.hid s
  unfold maxLen at x
  cases h1 : (may l != 0)
  · have HM := Lib.hid (show may l = 0 by simpa using h1)
    have hn80 : n ≤ 80 := by rw [← s.1]; exact ((may_iff l).1 HM.out).1
    have HT := Lib.hid (show threads l = begunTo l 6 by unfold threads; rw [if_pos HM.out])
    have hk6 := begunTo_len l 6
    have HF := Lib.hid (forks_begun HM.out)
    clear g h1
    go_enter Try.func9, Try.ntmps9
    go_wp2_with fail
    refine (traced_any _).mono ?_
    rintro e1 w1 ⟨rfl, hb1⟩
    have hw1 : Bel W w1 := hw0.call hb1
    clear hb1
    go_wp2_with fail
    refine (threads_any A n c l _ (HS.out.bel hw1.out)).mono ?_
    rintro e2 w2 ⟨v, rfl, hown, hb2⟩
    have hw2 : Bel W w2 := hw1.call hb2
    clear hb2
    rw [HM.out]
    obtain ⟨V, k, cv, rfl, hsi, hkm⟩ := (SlI.own hown).form
    have HI := Lib.hid hsi
    have hkl : (threads l).length = k := hsi.1
    obtain ⟨bb, oo, rfl, hc0⟩ := hsi.2 (by rw [← hkl, HT.out, ← List.take_length (l := l), HF.out _ (Nat.le_refl _)]; omega)
    have c0 := hc0 0 (by rw [← hkl, HT.out, ← List.take_length (l := l), HF.out _ (Nat.le_refl _)]; omega)
    have hk0 : 0 < k := by rw [← hkl, HT.out, ← List.take_length (l := l), HF.out _ (Nat.le_refl _)]; omega
    have h00 : (threads l)[0]?.getD 0 = 0 := by
      have hm0 : (0 : Int) ∈ begunTo l 1 := by rw [begunTo_one]; simp
      rw [HT.out]
      have : begunTo l 6 = 0 :: (begunTo l 6).drop 1 := by
        unfold begunTo
        rw [show List.range 6 = 0 :: [1, 2, 3, 4, 5] from rfl, List.filter_cons, if_pos (by simp [begun])]
        rfl
      rw [this]; rfl
    rw [h00] at c0
    have HKL := Lib.hid hkl
    clear hown hsi hc0 hkl h00
    go_wp2
    go_loopw [5, 22] (fun f t wr => ∃ i : Nat, i ≤ n ∧ t = .int .i64 i ∧ f = .int .i64 (forks (l.take i)) ∧ Bel w2 wr) (fun _ t _ => n - (intOf t).toNat)
    case atStart => exact ⟨0, by omega, rfl, by simp [forks], Bel.refl _⟩
    case round =>
      obtain ⟨i, hi, rfl, rfl, hbr⟩ := hrel
      have HB := Lib.hid hbr
      by_cases hlt : i < n
      · obtain ⟨bb2, off, e, rfl, hbb, he, hrg⟩ := s.at_ hlt
        have hlt' : (i : Int) < n := by omega
        have hR := Lib.hid (rangeAt_below (hw2.trans hbr).out hbb hrg)
        have HE := Lib.hid he
        have HW := Lib.hid (((may_iff l).1 HM.out).2 i e he)
        have hfi := HF.out i (by rw [s.1]; omega)
        have hfl := begunTo_len (l.take i) 6
        have hf6 : forks (l.take i) ≤ 5 := by omega
        clear he hrg s hfi hfl c0 hbr
        obtain ⟨c0, c1, c2⟩ := ewld_cells wr e 36
        have HEB := Lib.hid (ewld_below wr e 36)
        have hth : e.t ∈ threads l := by
          rw [HT.out, mem_begunTo]
          have h1 := isEv_t (wrong_isEv HW.out)
          have h2 := begun_mono (q := l.drop i) (wrong_thread HW.out)
          rw [List.take_append_drop] at h2
          exact ⟨h1.1, h1.2, h2⟩
        have HTh := Lib.hid (decide_eq_true hth)
        clear hth
        cases hk : (e.k == 5)
        · have HFk := Lib.hid (show forks (l.take (i + 1)) = forks (l.take i) by rw [take_snoc HE.out, forks_snoc, hk]; rfl)
          go_wp2_with (first | (refine load_ev T36 _ rfl rfl rfl hR.out ?_) | (refine ewld_store T36 _ _ rfl rfl _ rfl rfl rfl ?_))
          refine (hasint_any _ k cv (threads l) e.t _ (HI.out.keep (HB.out.trans HEB.out)) (by unfold maxLen at hkm; omega)).mono ?_
          rintro _ _ ⟨rfl, rfl⟩
          rw [HTh.out]
          go_wp2
          go_roundw
          case rel => exact ⟨i + 1, by omega, by go_num, by rw [HFk.out], HB.out.trans HEB.out⟩
          case measure => simp [intOf]; omega
        · have HFk := Lib.hid (show forks (l.take (i + 1)) = forks (l.take i) + 1 by rw [take_snoc HE.out, forks_snoc, hk]; rfl)
          have hob : e.o ∈ threads l := by
            rw [HT.out, mem_begunTo]
            have h1 := isEv_o (wrong_isEv HW.out)
            have h5 : e.k = 5 := by simpa using hk
            rw [h5] at h1
            have h2 : begun (l.take i ++ [e]) e.o = true := by rw [begun_snoc]; simp [h5]
            have h3 := begun_mono (q := l.drop (i + 1)) h2
            rw [← take_snoc HE.out, List.take_append_drop] at h3
            exact ⟨h1.1, h1.2, h3⟩
          have HOb := Lib.hid (decide_eq_true hob)
          clear hob
          go_wp2_with (first | (refine load_ev T36 _ rfl rfl rfl hR.out ?_) | (refine ewld_store T36 _ _ rfl rfl _ rfl rfl rfl ?_))
          refine (hasint_any _ k cv (threads l) e.o _ (HI.out.keep (HB.out.trans HEB.out)) (by unfold maxLen at hkm; omega)).mono ?_
          rintro _ _ ⟨rfl, rfl⟩
          rw [HOb.out]
          go_wp2_with fail
          refine (hasint_any _ k cv (threads l) e.t _ (HI.out.keep (HB.out.trans HEB.out)) (by unfold maxLen at hkm; omega)).mono ?_
          rintro _ _ ⟨rfl, rfl⟩
          rw [HTh.out]
          go_wp2
          go_roundw
          case rel => exact ⟨i + 1, by omega, by go_num, by rw [HFk.out]; go_num, HB.out.trans HEB.out⟩
          case measure => simp [intOf]; omega
      · obtain rfl : i = n := by omega
        have hkf : k = forks (l.take i) + 1 := by rw [← HKL.out, HT.out, ← HF.out i (by rw [s.1]; omega), take_all s]
        have c0' := HB.out.cell c0
        rw [Nat.add_zero] at c0'
        have hf6 : forks (l.take i) ≤ 5 := by
          have h1 := HF.out i (by rw [s.1]; omega)
          have h2 := begunTo_len (l.take i) 6
          omega
        clear c0 hbr
        subst hkf
        have hk0' : (0 : Int) < ((forks (l.take i) + 1 : Nat) : Int) := by omega
        have hfe : ((((forks (l.take i) + 1 : Nat)) : Int) == wrap64 ((forks (l.take i) : Int) + 1)) = true := by
          rw [IntWalk.wrap64_in _ (by omega)]; simp
        go_wp2
        go_ret
        exact ⟨ret_val (by first | rfl | simp), hw2.trans HB.out⟩
  · have HT := Lib.hid (show threads l = [] by unfold threads; rw [if_neg (by simpa using h1)])
    clear s g
    go_enter Try.func9, Try.ntmps9
    go_wp2_with fail
    refine (traced_any _).mono ?_
    rintro e1 w1 ⟨rfl, hb1⟩
    have hw1 : Bel W w1 := hw0.call hb1
    clear hb1
    go_wp2_with fail
    refine (threads_any A n c l _ (HS.out.bel hw1.out)).mono ?_
    rintro e2 w2 ⟨v, rfl, hown, hb2⟩
    have hw2 : Bel W w2 := hw1.call hb2
    clear hb2
    obtain ⟨V, k, cv, rfl, hsi, hkm⟩ := (SlI.own hown).form
    obtain rfl : k = 0 := by rw [← hsi.1, HT.out]; rfl
    clear hown hsi
    go_wp2
    go_ret
    exact ⟨rfl, hw2⟩

set_option maxRecDepth 100000 in
theorem lifted (os : Os) (started : os.Started) (H : Type) (enc : TypeId × Value → H) :
    ReturnsInHanded {} Try.checked os 9 .any (Rows.traceBegunSpec.pre6 enc Try.prog Try.f9 Rows.traceBegunRow.domain false) (Rows.traceBegunSpec.post enc Try.prog Try.f9 false true false false) := by
  refine returnsInHanded_of_change_sized (C := Try.checked) own started (by kernel_rfl) Try.func9
    (ChangeSpec.witness6 (enc := enc) (C := Try.checked) false ⟨#[], #[.slice none 0 0], []⟩ 8 (by kernel_rfl) (by kernel_rfl) (by kernel_rfl) (by kernel_rfl)) ?_
  intro W base args ds gs before hval0 hW hcnd hsz0 _
  have hsz : (DataW.weightsEach Try.prog (Try.f9.params.toList ++ Rows.traceBegunSpec.plain.varTypes Try.prog) (ds ++ gs)).all (· ≤ reachBytes) = true := hsz0
  clear hsz0
  have hval : ∀ (j : Nat) t v, Try.f9.params[j]? = some t → args[j]? = some v → Value.okWide Try.prog W .any base t v := hval0
  have hW' := hW
  obtain ⟨p, q, hA0, hV, rfl, hfz, hnd⟩ := hW
  have hA : DataW.TrodAll enc Try.prog W 0 (fun _ => true) true Try.f9.params.toList args.toList ds p := hA0
  rw [Try.params9] at hA hval hsz
  obtain ⟨v0, vs0, d0, ds0, p0, q0, hargs, rfl, rfl, h0, r0⟩ := trodAll_cons hA
  obtain ⟨rfl, rfl, rfl⟩ := trodAll_nil r0
  obtain rfl : args = #[v0] := by cases args; simp_all
  obtain ⟨rfl, rfl⟩ := trodVars_none hV
  have t0 := h0
  have lt0 : ∀ x ∈ p0, x.block < W.heap.size := by obtain ⟨m, hm⟩ := t0; exact DataW.trod_lt m _ _ _ hm
  obtain ⟨A0, n0, c0, l0, rfl, s0, m0, x0, g0, z0⟩ := open_evs Try.underlying22 Try.underlying36 ⟨rfl, rfl, rfl⟩ (by kernel_rfl) (by kernel_rfl) Try.underlying3 (hval 0 22 v0 rfl rfl) h0
  have y0 := reach_sl hsz (j := 0) rfl rfl Try.underlying22 (b := 24) (by kernel_rfl) z0
  clear hA0 hval0
  refine (walk W A0 n0 c0 l0 s0 m0 x0 g0).mono fun e W' ⟨he, bel⟩ => ?_
  subst he
  exact ⟨_, rfl, _, _, _, [], _, [], hW', trodAll_mk1 (shut_bool Try.underlying4 _), (trodAll_cons_mk (Below.trod laidOut (by kernel_rfl) (of_decide_eq_true (by kernel_rfl)) t0 bel lt0) trodAll_mk0), rfl, bel.frame _, fun h => by cases h⟩

theorem over : Rows.traceBegunRow.holds Try.pinned (OpenSpec.ofChange Rows.traceBegunSpec) :=
  OpenClaim.holds_of_wide 9 Try.f9 rfl rfl rfl rfl rfl rfl rfl ⟨rfl, rfl, rfl, rfl, rfl⟩ rfl rfl rfl rfl rfl (by kernel_rfl) Try.func9 (by kernel_rfl)
    (of_decide_eq_true (by kernel_rfl)) (by unfold Func.isWrapper; first | (rw [if_pos (by decide +kernel)]; kernel_rfl) | (rw [if_neg (by decide +kernel)]; exact ⟨rfl, rfl⟩))
    (fun os started H enc _ => lifted os started H enc)

theorem proved : Rows.TraceBegunSaid := over
#print axioms proved
end Go.Proofs.Ytioejkjbokcppaa.LTraceBegun

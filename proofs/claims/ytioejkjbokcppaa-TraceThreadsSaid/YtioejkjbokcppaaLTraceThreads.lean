/- 'deadheatlaw.TraceThreads' returns true for every input and leaves its arguments as they are. No condition. -/
import Derived.Test.YtioejkjbokcppaaOpenTr
import Derived.Test.YtioejkjbokcppaaKeepTr
import Derived.Test.YtioejkjbokcppaaHasInt
import Derived.Test.YtioejkjbokcppaaAppend
set_option linter.all false
namespace Go.Proofs.Ytioejkjbokcppaa.LTraceThreads
open Go Go.ChangeShapes Go.WideShapes Go.ChangeAt Go.RowKit

def want (l : List Ev) (k i : Nat) : List Int := begunTo l k ++ if did (l.take i) 5 k = true then [(k : Int)] else []
theorem want_zero (l : List Ev) (k : Nat) : want l k 0 = begunTo l k := by simp [want, did_nil]
theorem want_len (l : List Ev) (k i : Nat) : (want l k i).length ≤ k + 1 := by
  have := begunTo_len l k
  unfold want; rw [List.length_append]; split <;> simp <;> omega
theorem want_yes {l : List Ev} {k i : Nat} {e : Ev} (he : l[i]? = some e) (h1 : (e.k == 5) = true) (h2 : (e.o == (k : Int)) = true) (hd : did (l.take i) 5 k = false) : want l k (i + 1) = want l k i ++ [(k : Int)] := by
  unfold want
  rw [take_snoc he, did_snoc', h1, h2, hd]; simp
theorem want_no {l : List Ev} {k i : Nat} {e : Ev} (he : l[i]? = some e) (h : (e.k == 5 && e.o == (k : Int)) = false) : want l k (i + 1) = want l k i := by
  unfold want
  rw [take_snoc he, did_snoc', h, Bool.or_false]
theorem want_all {l : List Ev} {k n : Nat} (hk : 1 ≤ k) (hn : l.length = n) : want l k n = begunTo l (k + 1) := by
  unfold want
  rw [← hn, List.take_length]
  have hb : begun l k = did l 5 k := by unfold begun; simp; omega
  cases h : did l 5 k
  · rw [begunTo_no _ _ (by rw [hb, h])]; simp
  · rw [begunTo_yes _ _ (by rw [hb, h])]; simp

set_option maxHeartbeats 4000000 in
theorem walk (W : World) (A : Option Addr) (n c : Nat) (l : List Ev) (s : Sl W A n l) (m : n ≤ c) (x : c ≤ maxLen) (g : ∀ e ∈ l, EvOk e) :
    Calls Try.prog 5 #[.slice A n c] W fun e w' => e = .returned (.bool true) ∧ Below W.heap.size W w' := by
  have hw0 : Bel W W := Bel.refl _
  have HS := Lib.hid s
  unfold maxLen at x
  cases h1 : (may l != 0)
  · have HM := Lib.hid (show may l = 0 by simpa using h1)
    have hn80 : n ≤ 80 := by rw [← s.1]; exact ((may_iff l).1 HM.out).1
    have HT := Lib.hid (show threads l = begunTo l 6 by unfold threads; rw [if_pos HM.out])
    have HN := Lib.hid s.1
    obtain ⟨i0, hi0, hz0, hz1, hz2⟩ := info_parts int_info
    have J := Lib.hid (And.intro hi0 (And.intro hz0 (And.intro hz1 hz2)))
    clear g h1 s hi0 hz0 hz1 hz2
    go_enter Try.func5, Try.ntmps5
    go_wp2_with fail
    refine (threads_any A n c l _ HS.out).mono ?_
    rintro e1 w1 ⟨v, rfl, hown, hb1⟩
    have hw1 : Bel W w1 := hw0.call hb1
    clear hb1
    rw [HM.out]
    have HI := Lib.hid (SlI.own hown)
    clear hown
    go_wp2_with fail
    refine (rmay_any A n c l _ (HS.out.bel hw1.out) m x).mono ?_
    rintro e2 w2 ⟨rfl, hb2⟩
    have hw2 : Bel W w2 := hw1.call hb2
    rw [HM.out]
    have HI2 := Lib.hid (HI.out.keep (hb2))
    clear hb2
    have h00 : w2.heap.size < (w2.alloc (.cells #[.int .i64 0] 3)).heap.size := by simp
    have hO0 := Lib.hid (own_lit (Box.new w2 #[.int .i64 0] 3) (Nat.le_refl _) 1 1 (by simp [maxLen]) rfl)
    have hW0 := Lib.hid ((Bel.refl w2).alloc (.cells #[.int .i64 0] 3))
    clear h00
    go_wp2
    go_loopw [6, 7] (fun v6 t wr => ∃ k : Nat, 1 ≤ k ∧ k ≤ 6 ∧ t = .int .i64 k ∧ wr.ownsRow w2.heap.size 3 1 v6 (begunTo l k).length (intv (begunTo l k)) ∧ Bel w2 wr) (fun _ t _ => 6 - (intOf t).toNat)
    case atStart => exact ⟨1, by omega, by omega, rfl, by rw [begunTo_one]; exact hO0.out, hW0.out⟩
    case round =>
      obtain ⟨k, hk1, hk6, rfl, hown, hbr⟩ := hrel
      have HO := Lib.hid hown
      have HB := Lib.hid hbr
      clear hown hbr
      by_cases hlt : k < 6
      · have hltI : (k : Int) < 6 := by omega
        go_wp2
        go_loopw [6, 38] (fun v6 t wr => ∃ i : Nat, i ≤ n ∧ t = .int .i64 i ∧ wr.ownsRow w2.heap.size 3 1 v6 (want l k i).length (intv (want l k i)) ∧ Bel w2 wr) (fun _ t _ => n - (intOf t).toNat)
        case atStart => exact ⟨0, by omega, rfl, by rw [want_zero]; exact HO.out, HB.out⟩
        case round =>
          obtain ⟨i, hi, rfl, hown, hbr⟩ := hrel
          have HO1 := Lib.hid hown
          have HB1 := Lib.hid hbr
          clear hown hbr
          by_cases hlt2 : i < n
          · have hs2 := HS.out
            obtain ⟨bb, off, e, rfl, hbb, he, hrg⟩ := hs2.at_ hlt2
            have hlt' : (i : Int) < n := by omega
            have hR := Lib.hid (rangeAt_below (hw2.trans HB1.out).out hbb hrg)
            have HE := Lib.hid he
            have HW := Lib.hid (((may_iff l).1 HM.out).2 i e he)
            clear he hrg hs2
            have HEB := Lib.hid (ewld_below wr e 36)
            obtain ⟨c0, c1, c2⟩ := ewld_cells wr e 36
            cases h5 : (e.k == 5)
            · have HNo := Lib.hid (want_no (k := k) HE.out (by rw [h5]; rfl))
              go_wp2_with (first | (refine load_ev T36 _ rfl rfl rfl hR.out ?_) | (refine ewld_store T36 _ _ rfl rfl _ rfl rfl rfl ?_))
              go_roundw
              case rel => exact ⟨i + 1, by omega, by go_num, by rw [HNo.out]; exact own_bel HO1.out HEB.out, HB1.out.trans HEB.out⟩
              case measure => simp [intOf]; omega
            · cases h6 : (e.o == (k : Int))
              · have HNo := Lib.hid (want_no (k := k) HE.out (by rw [h5, h6]; rfl))
                go_wp2_with (first | (refine load_ev T36 _ rfl rfl rfl hR.out ?_) | (refine ewld_store T36 _ _ rfl rfl _ rfl rfl rfl ?_))
                go_roundw
                case rel => exact ⟨i + 1, by omega, by go_num, by rw [HNo.out]; exact own_bel HO1.out HEB.out, HB1.out.trans HEB.out⟩
                case measure => simp [intOf]; omega
              · have hdid : did (l.take i) 5 k = false := by
                  have hb := wrong_fork HW.out (eq_of_beq h5)
                  rw [eq_of_beq h6] at hb
                  unfold begun at hb
                  simp only [Bool.or_eq_false_iff] at hb
                  exact hb.2
                have HYes := Lib.hid (want_yes HE.out h5 h6 hdid)
                clear hdid
                obtain ⟨hi0, hz0, hz1, hz2⟩ := J.out
                have hlen := want_len l k i
                have hbase : w2.heap.size ≤ (ewld wr e 36).heap.size := (HB1.out.trans HEB.out).size
                have HOA := Lib.hid (own_alloc (own_bel HO1.out HEB.out) (.cells #[.int .i64 k] 3))
                go_wp2_with (first | (refine load_ev T36 _ rfl rfl rfl hR.out ?_) | (refine ewld_store T36 _ _ rfl rfl _ rfl rfl rfl ?_) | (at_builtin; refine wpList_plain rfl fun _ hK => wp_append_src (.tmp 51) (.tmp 53) _ rfl w2.heap.size 3 i0 _ 1 8 Try.underlying32 hi0 hz0 hz1 hz2 rfl (by omega) u6 (want l k i).length (intv (want l k i)) rfl HOA.out (some ⟨(ewld wr e 36).heap.size, 0, none⟩) 1 1 [.int .i64 k] rfl rfl (Src.box (Box.new _ _ _) 1) (by simp [Value.oneCell']) (by simp only [maxLen]; omega) (by omega) (by simp; omega) fun v2 w5 hown2 hg2 hat2 => hK _ _ ?_))
                have hbel2 := Lib.hid (show Bel w2 w5 from ((HB1.out.trans HEB.out).alloc _).out.trans (grown_below hg2 HOA.out (Nat.le_refl _) (by simp; omega)))
                clear hat2
                go_wp2
                go_roundw
                case rel => exact ⟨i + 1, by omega, by go_num, by rw [HYes.out]; simpa [intv] using hown2, hbel2.out⟩
                case measure => simp [intOf]; omega
          · obtain rfl : i = n := by omega
            have HWA := Lib.hid (want_all hk1 HN.out)
            go_wp2
            go_roundw
            case rel => exact ⟨k + 1, by omega, by omega, by go_num, by rw [← HWA.out]; exact HO1.out, HB1.out⟩
            case measure => simp [intOf]; omega
      · obtain rfl : k = 6 := by omega
        go_wp2_with fail
        refine (eqint_any v _ (threads l) (begunTo l 6) _ (HI2.out.keep HB.out) (SlI.own HO.out)).mono ?_
        rintro _ _ ⟨rfl, rfl⟩
        rw [HT.out]
        go_wp2
        go_ret
        exact ⟨ret_val (by simp), hw2.trans HB.out⟩
  · have HT := Lib.hid (show threads l = [] by unfold threads; rw [if_neg (by simpa using h1)])
    clear s g
    go_enter Try.func5, Try.ntmps5
    go_wp2_with fail
    refine (threads_any A n c l _ HS.out).mono ?_
    rintro e1 w1 ⟨v, rfl, hown, hb1⟩
    have hw1 : Bel W w1 := hw0.call hb1
    clear hb1
    obtain ⟨V, k, cv, rfl, hsi, hkm⟩ := (SlI.own hown).form
    obtain rfl : k = 0 := by rw [← hsi.1, HT.out]; rfl
    clear hown hsi
    go_wp2_with fail
    refine (rmay_any A n c l _ (HS.out.bel hw1.out) m x).mono ?_
    rintro e2 w2 ⟨rfl, hb2⟩
    have hw2 : Bel W w2 := hw1.call hb2
    clear hb2
    go_wp2
    go_ret
    exact ⟨ret_val (by simp), hw2⟩

set_option maxRecDepth 100000 in
theorem lifted (os : Os) (started : os.Started) (H : Type) (enc : TypeId × Value → H) :
    ReturnsInHanded {} Try.checked os 5 .any (Rows.traceThreadsSpec.pre6 enc Try.prog Try.f5 Rows.traceThreadsRow.domain false) (Rows.traceThreadsSpec.post enc Try.prog Try.f5 false true false false) := by
  refine returnsInHanded_of_change_sized (C := Try.checked) own started (by kernel_rfl) Try.func5
    (ChangeSpec.witness6 (enc := enc) (C := Try.checked) false ⟨#[], #[.slice none 0 0], []⟩ 8 (by kernel_rfl) (by kernel_rfl) (by kernel_rfl) (by kernel_rfl)) ?_
  intro W base args ds gs before hval0 hW hcnd hsz0 _
  have hsz : (DataW.weightsEach Try.prog (Try.f5.params.toList ++ Rows.traceThreadsSpec.plain.varTypes Try.prog) (ds ++ gs)).all (· ≤ reachBytes) = true := hsz0
  clear hsz0
  have hval : ∀ (j : Nat) t v, Try.f5.params[j]? = some t → args[j]? = some v → Value.okWide Try.prog W .any base t v := hval0
  have hW' := hW
  obtain ⟨p, q, hA0, hV, rfl, hfz, hnd⟩ := hW
  have hA : DataW.TrodAll enc Try.prog W 0 (fun _ => true) true Try.f5.params.toList args.toList ds p := hA0
  rw [Try.params5] at hA hval hsz
  obtain ⟨v0, vs0, d0, ds0, p0, q0, hargs, rfl, rfl, h0, r0⟩ := trodAll_cons hA
  obtain ⟨rfl, rfl, rfl⟩ := trodAll_nil r0
  obtain rfl : args = #[v0] := by cases args; simp_all
  obtain ⟨rfl, rfl⟩ := trodVars_none hV
  have t0 := h0
  have lt0 : ∀ x ∈ p0, x.block < W.heap.size := by obtain ⟨m, hm⟩ := t0; exact DataW.trod_lt m _ _ _ hm
  obtain ⟨A0, n0, c0, l0, rfl, s0, m0, x0, g0, z0⟩ := open_evs Try.underlying22 Try.underlying36 ⟨rfl, rfl, rfl⟩ (by kernel_rfl) (by kernel_rfl) Try.underlying3 (hval 0 22 v0 rfl rfl) h0
  have y0 := reach_sl hsz (j := 0) rfl rfl Try.underlying22 (b := 24) (by kernel_rfl) z0
  clear hA0 hval0
  refine (walk W A0 n0 c0 l0 s0 m0 x0 g0).mono fun e W' ⟨he, bel⟩ => ?_
  subst he
  exact ⟨_, rfl, _, _, _, [], _, [], hW', trodAll_mk1 (shut_bool Try.underlying4 _), (trodAll_cons_mk (Below.trod laidOut (by kernel_rfl) (of_decide_eq_true (by kernel_rfl)) t0 bel lt0) trodAll_mk0), rfl, bel.frame _, fun h => by cases h⟩

theorem over : Rows.traceThreadsRow.holds Try.pinned (OpenSpec.ofChange Rows.traceThreadsSpec) :=
  OpenClaim.holds_of_wide 5 Try.f5 rfl rfl rfl rfl rfl rfl rfl ⟨rfl, rfl, rfl, rfl, rfl⟩ rfl rfl rfl rfl rfl (by kernel_rfl) Try.func5 (by kernel_rfl)
    (of_decide_eq_true (by kernel_rfl)) (by unfold Func.isWrapper; first | (rw [if_pos (by decide +kernel)]; kernel_rfl) | (rw [if_neg (by decide +kernel)]; exact ⟨rfl, rfl⟩))
    (fun os started H enc _ => lifted os started H enc)

theorem proved : Rows.TraceThreadsSaid := over
#print axioms proved
end Go.Proofs.Ytioejkjbokcppaa.LTraceThreads

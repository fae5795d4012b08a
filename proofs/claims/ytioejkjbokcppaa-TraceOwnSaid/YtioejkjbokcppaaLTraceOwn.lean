/- 'deadheatkeep.TraceOwn' returns true for every input and leaves its arguments as they are. No condition. -/
import Derived.Test.YtioejkjbokcppaaOpenTr
import Derived.Test.YtioejkjbokcppaaKeepTr
set_option linter.all false
namespace Go.Proofs.Ytioejkjbokcppaa.LTraceOwn
open Go Go.ChangeShapes Go.WideShapes Go.ChangeAt Go.RowKit

theorem and_sets (f g : Nat → Bool) : bits .and .i64 (hset f) (hset g) = hset fun k => f k && g k := by
  have D : ∀ a b c d e a' b' c' d' e' : Bool, bits .and .i64 (hs5 a b c d e) (hs5 a' b' c' d' e') = hs5 (a && a') (b && b') (c && c') (d && d') (e && e') := by decide +kernel
  exact D ..
theorem or_sets (f g : Nat → Bool) : bits .or .i64 (hset f) (hset g) = hset fun k => f k || g k := by
  have D : ∀ a b c d e a' b' c' d' e' : Bool, bits .or .i64 (hs5 a b c d e) (hs5 a' b' c' d' e') = hs5 (a || a') (b || b') (c || c') (d || d') (e || e') := by decide +kernel
  exact D ..
/-- The locks of the threads below k. -/
def un (l : List Ev) (k : Nat) : Int := hset fun q => decide (0 ≤ owner l q ∧ owner l q < k)
theorem un_zero (l : List Ev) : un l 0 = 0 := by
  unfold un
  rw [hset_congr (g := fun _ => false) fun k _ => decide_eq_false (by omega)]
  rfl
theorem un_and (l : List Ev) (k : Nat) : bits .and .i64 (held l k) (un l k) = 0 := by
  unfold un held
  rw [and_sets, hset_congr (g := fun _ => false) fun q _ => by simp; omega]
  rfl
theorem un_or (l : List Ev) (k : Nat) : bits .or .i64 (un l k) (held l k) = un l (k + 1) := by
  unfold un held
  rw [or_sets]
  refine hset_congr fun q _ => ?_
  rw [Bool.eq_iff_iff]
  simp only [Bool.or_eq_true, decide_eq_true_eq]
  omega
def lastB (cur e : Ev) (q : Int) : Ev := if (e.k = 3 ∨ e.k = 4) ∧ e.o = q then e else cur
def lastE (l : List Ev) (q : Int) : Ev := l.foldl (fun cur e => lastB cur e q) ⟨0, 0, 0⟩
theorem lastE_nil (q : Int) : lastE [] q = ⟨0, 0, 0⟩ := rfl
theorem lastE_snoc (l : List Ev) (e : Ev) (q : Int) : lastE (l ++ [e]) q = lastB (lastE l q) e q := by simp [lastE, List.foldl_append]
theorem last_owner (l : List Ev) (q : Int) : ((lastE l q).k = 3 ∧ owner l q = (lastE l q).t) ∨ ((lastE l q).k ≠ 3 ∧ owner l q = -1) := by
  unfold lastE owner
  suffices H : ∀ (l : List Ev) (cur : Ev) (who : Int), ((cur.k = 3 ∧ who = cur.t) ∨ (cur.k ≠ 3 ∧ who = -1)) →
      (((l.foldl (fun cur e => lastB cur e q) cur).k = 3 ∧ l.foldl (fun who e => ownB who e q) who = (l.foldl (fun cur e => lastB cur e q) cur).t) ∨
       ((l.foldl (fun cur e => lastB cur e q) cur).k ≠ 3 ∧ l.foldl (fun who e => ownB who e q) who = -1)) from H l _ _ (.inr ⟨by decide, rfl⟩)
  intro l
  induction l with
  | nil => intro cur who h; exact h
  | cons e l ih =>
    intro cur who h
    refine ih _ _ ?_
    simp only [lastB, ownB]
    by_cases ho : e.o = q
    · by_cases h4 : e.k = 4
      · right; simp [ho, h4]
      · by_cases h3 : e.k = 3
        · left; simp [ho, h3]
        · simp [ho, h3, h4]; exact h
    · simp [ho]; exact h
theorem lastB_yes {cur e : Ev} {q : Int} (h : ((e.k == 3) || (e.k == 4)) = true) (h2 : (e.o == q) = true) : lastB cur e q = e := if_pos ⟨by simpa using h, eq_of_beq h2⟩
theorem lastB_obj {cur e : Ev} {q : Int} (h2 : (e.o == q) = false) : lastB cur e q = cur := if_neg (fun h => by rw [h.2] at h2; simp at h2)
theorem lastB_kind {cur e : Ev} {q : Int} (h3 : (e.k == 3) = false) (h4 : (e.k == 4) = false) : lastB cur e q = cur := if_neg (fun h => by
  simp only [beq_eq_false_iff_ne] at h3 h4
  rcases h.1 with h | h
  · exact h3 h
  · exact h4 h)
theorem held_bit (l : List Ev) (k : Int) (q : Nat) (hq : q < 5) : (bits .and .i64 (held l k / 2 ^ q) 1 == 1) = decide (owner l q = k) := has_bit (fun q => decide (owner l q = k)) q hq

set_option maxHeartbeats 8000000 in
theorem walk (W : World) (A : Option Addr) (n c : Nat) (l : List Ev) (s : Sl W A n l) (m : n ≤ c) (x : c ≤ maxLen) (g : ∀ e ∈ l, EvOk e) :
    Calls Try.prog 7 #[.slice A n c] W fun e w' => e = .returned (.bool true) ∧ Below W.heap.size W w' := by
  have hw0 : Bel W W := Bel.refl _
  have HS := Lib.hid s
  unfold maxLen at x
  clear g
  cases h1 : (may l == 0)
  · clear s
    go_enter Try.func7, Try.ntmps7
    go_wp2_with fail
    refine (traced_any _).mono ?_
    rintro e1 w1 ⟨rfl, hb1⟩
    have hw1 : Bel W w1 := hw0.call hb1
    clear hb1
    go_wp2_with fail
    refine (may_any A n c l _ (HS.out.bel hw1.out)).mono ?_
    rintro e2 w2 ⟨rfl, hb2⟩
    have hw2 : Bel W w2 := hw1.call hb2
    clear hb2
    go_wp2
    go_ret
    exact ⟨rfl, hw2⟩
  · have HM := Lib.hid (show may l = 0 by simpa using h1)
    have hn80 : n ≤ 80 := by rw [← s.1]; exact ((may_iff l).1 HM.out).1
    clear s
    go_enter Try.func7, Try.ntmps7
    go_wp2_with fail
    refine (traced_any _).mono ?_
    rintro e1 w1 ⟨rfl, hb1⟩
    have hw1 : Bel W w1 := hw0.call hb1
    clear hb1
    go_wp2_with fail
    refine (may_any A n c l _ (HS.out.bel hw1.out)).mono ?_
    rintro e2 w2 ⟨rfl, hb2⟩
    have hw2 : Bel W w2 := hw1.call hb2
    clear hb2
    go_wp2
    go_loopw [3, 16] (fun u t wr => ∃ k : Nat, k ≤ 6 ∧ t = .int .i64 k ∧ u = .int .i64 (un l k) ∧ Bel W wr) (fun _ t _ => 6 - (intOf t).toNat)
    case atStart => exact ⟨0, by omega, rfl, by rw [un_zero], hw2⟩
    case round =>
      obtain ⟨k, hk, rfl, rfl, hbr⟩ := hrel
      have HB := Lib.hid hbr
      clear hbr
      by_cases hlt : k < 6
      · have hltI : (k : Int) < 6 := by omega
        have HP := Lib.hid (show pheld l k = (held l k, 0) by unfold pheld; rw [if_pos HM.out, inB_yes (by omega) hltI]; rfl)
        have hand := un_and l k
        have HU := Lib.hid (un_or l k)
        go_wp2_with fail
        refine (held_any A n c l k _ (HS.out.bel HB.out.out)).mono ?_
        rintro e3 w3 ⟨rfl, hb3⟩
        have HB3 := Lib.hid (HB.out.call hb3)
        clear hb3
        rw [HP.out]
        have hor := HU.out
        go_wp2
        go_loopw [36] (fun t wr => ∃ q : Nat, q ≤ 5 ∧ t = .int .i64 q ∧ Bel W wr) (fun t _ => 5 - (intOf t).toNat)
        case atStart => exact ⟨0, by omega, rfl, HB3.out⟩
        case round =>
          obtain ⟨q, hq, rfl, hbr⟩ := hrel
          have HB4 := Lib.hid hbr
          clear hbr hand
          by_cases hq5 : q < 5
          · have hqI : (q : Int) < 5 := by omega
            have bz := Lib.hid (Box.new wr #[.int .i64 0, .int .i64 0, .int .i64 0] 36)
            go_wp2_with (refine storeT T36 _ _ rfl rfl rfl rfl rfl bz.out rfl (evv_all ⟨0, 0, 0⟩) ?_)
            have hz1 := bz.out.setRow (evv ⟨0, 0, 0⟩)
            have hz2 := below_setRow' ((Below.refl wr.heap.size wr).alloc (Nat.le_refl _) (.cells #[.int .i64 0, .int .i64 0, .int .i64 0] 36)) wr.heap.size (evv ⟨0, 0, 0⟩) (Nat.le_refl _)
            have hz1' := Lib.hid hz1
            have hz2' := Lib.hid (show Bel wr _ from hz2)
            clear hz1 hz2
            obtain ⟨w5, h5⟩ : ∃ w5, w5 = wr := ⟨_, rfl⟩
            subst h5
            go_loopw [42] (fun t wr => ∃ i : Nat, i ≤ n ∧ t = .int .i64 i ∧ Box wr w5.heap.size (evv (lastE (l.take i) q)) 36 ∧ Bel w5 wr) (fun t _ => n - (intOf t).toNat)
            case atStart => exact ⟨0, by omega, rfl, hz1'.out, hz2'.out⟩
            case round =>
              obtain ⟨i, hi, rfl, hbx, hbr⟩ := hrel
              have HBx := Lib.hid hbx
              have HB6 := Lib.hid hbr
              clear hbx hbr
              by_cases hlt2 : i < n
              · have hs2 := HS.out
                obtain ⟨bb, off, e, rfl, hbb, he, hrg⟩ := hs2.at_ hlt2
                have hlt' : (i : Int) < n := by omega
                have hR := Lib.hid (rangeAt_below (HB4.out.trans HB6.out).out hbb hrg)
                have HE := Lib.hid he
                clear he hrg hs2
                have HEB := Lib.hid (show Bel wr _ from ewld_below wr e 36)
                have HEX := Lib.hid (ewld_box wr e 36)
                have HBx2 := Lib.hid (HEB.out.box HBx.out)
                obtain ⟨c0, c1, c2⟩ := ewld_cells wr e 36
                cases h2 : (e.o == (q : Int))
                · cases h3 : (e.k == 3)
                  · cases h4 : (e.k == 4)
                    all_goals
                      go_wp2_with (first | (refine load_ev T36 _ rfl rfl rfl hR.out ?_) | (refine ewld_store T36 _ _ rfl rfl _ rfl rfl rfl ?_))
                      go_roundw
                      case rel => exact ⟨i + 1, by omega, by go_num, by rw [take_snoc HE.out, lastE_snoc, lastB_obj h2]; exact HBx2.out, HB6.out.trans HEB.out⟩
                      case measure => simp [intOf]; omega
                  · go_wp2_with (first | (refine load_ev T36 _ rfl rfl rfl hR.out ?_) | (refine ewld_store T36 _ _ rfl rfl _ rfl rfl rfl ?_))
                    go_roundw
                    case rel => exact ⟨i + 1, by omega, by go_num, by rw [take_snoc HE.out, lastE_snoc, lastB_obj h2]; exact HBx2.out, HB6.out.trans HEB.out⟩
                    case measure => simp [intOf]; omega
                · cases h3 : (e.k == 3)
                  · cases h4 : (e.k == 4)
                    · go_wp2_with (first | (refine load_ev T36 _ rfl rfl rfl hR.out ?_) | (refine ewld_store T36 _ _ rfl rfl _ rfl rfl rfl ?_))
                      go_roundw
                      case rel => exact ⟨i + 1, by omega, by go_num, by rw [take_snoc HE.out, lastE_snoc, lastB_kind h3 h4]; exact HBx2.out, HB6.out.trans HEB.out⟩
                      case measure => simp [intOf]; omega
                    · go_wp2_with (first | (refine load_ev T36 _ rfl rfl rfl hR.out ?_) | (refine ewld_store T36 _ _ rfl rfl _ rfl rfl rfl ?_) | (refine loadT T36 _ rfl rfl rfl HEX.out rfl ?_) | (refine storeT T36 _ _ rfl rfl rfl rfl rfl HBx2.out rfl (evv_all e) ?_))
                      go_roundw
                      case rel => exact ⟨i + 1, by omega, by go_num, by rw [take_snoc HE.out, lastE_snoc, lastB_yes (by first | rfl | (simp only [h3, h4]; rfl)) h2]; exact HBx2.out.setRow _, below_setRow' (HB6.out.trans HEB.out).out _ _ (Nat.le_refl _)⟩
                      case measure => simp [intOf]; omega
                  · have h4 : ((e.k == 3) || (e.k == 4)) = true := by rw [h3]; rfl
                    have H4 := Lib.hid h4
                    clear h4
                    go_wp2_with (first | (refine load_ev T36 _ rfl rfl rfl hR.out ?_) | (refine ewld_store T36 _ _ rfl rfl _ rfl rfl rfl ?_) | (refine loadT T36 _ rfl rfl rfl HEX.out rfl ?_) | (refine storeT T36 _ _ rfl rfl rfl rfl rfl HBx2.out rfl (evv_all e) ?_))
                    go_roundw
                    case rel => exact ⟨i + 1, by omega, by go_num, by rw [take_snoc HE.out, lastE_snoc, lastB_yes H4.out h2]; exact HBx2.out.setRow _, below_setRow' (HB6.out.trans HEB.out).out _ _ (Nat.le_refl _)⟩
                    case measure => simp [intOf]; omega
              · obtain rfl : i = n := by omega
                have hL := last_owner l q
                have hbit := held_bit l k q hq5
                have hbx := HBx.out
                rw [take_all HS.out] at hbx
                obtain ⟨c0, c1, c2⟩ := (⟨hbx.cell 0 rfl, hbx.cell 1 rfl, hbx.cell 2 rfl⟩ : wr.cell? ⟨w5.heap.size, 0, none⟩ = some (.int .i64 (lastE l q).k) ∧ wr.cell? ⟨w5.heap.size, 1, none⟩ = some (.int .i64 (lastE l q).t) ∧ wr.cell? ⟨w5.heap.size, 2, none⟩ = some (.int .i64 (lastE l q).o))
                clear hbx
                generalize lastE l q = L at *
                generalize owner l q = ow at *
                rcases hL with ⟨hL3, hLo⟩ | ⟨hL3, hLo⟩
                · subst hLo
                  have hk3 : (L.k == 3) = true := by simpa using hL3
                  have hd : decide (L.t = (k : Int)) = (L.t == (k : Int)) := rfl
                  rw [hd] at hbit
                  clear hL3 hd
                  cases hLt : (L.t == (k : Int))
                  all_goals
                    rw [hLt] at hbit
                    go_wp2
                    go_quiet (fail)
                    go_wp2
                    go_roundw
                    case rel => exact ⟨q + 1, by omega, by go_num, (HB4.out.trans HB6.out).drewN _⟩
                    case measure => simp [intOf]; omega
                · have hk3 : (L.k == 3) = false := by simpa using hL3
                  subst hLo
                  have hd : decide ((-1 : Int) = (k : Int)) = false := decide_eq_false (by omega)
                  rw [hd] at hbit
                  clear hL3 hd
                  go_wp2
                  go_quiet (fail)
                  go_wp2
                  go_roundw
                  case rel => exact ⟨q + 1, by omega, by go_num, (HB4.out.trans HB6.out).drewN _⟩
                  case measure => simp [intOf]; omega
          · obtain rfl : q = 5 := by omega
            go_wp2
            go_roundw
            case rel => exact ⟨k + 1, by omega, by go_num, by first | rfl | rw [HU.out], HB4.out⟩
            case measure => simp [intOf]; omega
      · obtain rfl : k = 6 := by omega
        go_wp2
        go_ret
        exact ⟨rfl, HB.out⟩

set_option maxRecDepth 100000 in
theorem lifted (os : Os) (started : os.Started) (H : Type) (enc : TypeId × Value → H) :
    ReturnsInHanded {} Try.checked os 7 .any (Rows.traceOwnSpec.pre6 enc Try.prog Try.f7 Rows.traceOwnRow.domain false) (Rows.traceOwnSpec.post enc Try.prog Try.f7 false true false false) := by
  refine returnsInHanded_of_change_sized (C := Try.checked) own started (by kernel_rfl) Try.func7
    (ChangeSpec.witness6 (enc := enc) (C := Try.checked) false ⟨#[], #[.slice none 0 0], []⟩ 8 (by kernel_rfl) (by kernel_rfl) (by kernel_rfl) (by kernel_rfl)) ?_
  intro W base args ds gs before hval0 hW hcnd hsz0 _
  have hsz : (DataW.weightsEach Try.prog (Try.f7.params.toList ++ Rows.traceOwnSpec.plain.varTypes Try.prog) (ds ++ gs)).all (· ≤ reachBytes) = true := hsz0
  clear hsz0
  have hval : ∀ (j : Nat) t v, Try.f7.params[j]? = some t → args[j]? = some v → Value.okWide Try.prog W .any base t v := hval0
  have hW' := hW
  obtain ⟨p, q, hA0, hV, rfl, hfz, hnd⟩ := hW
  have hA : DataW.TrodAll enc Try.prog W 0 (fun _ => true) true Try.f7.params.toList args.toList ds p := hA0
  rw [Try.params7] at hA hval hsz
  obtain ⟨v0, vs0, d0, ds0, p0, q0, hargs, rfl, rfl, h0, r0⟩ := trodAll_cons hA
  obtain ⟨rfl, rfl, rfl⟩ := trodAll_nil r0
  obtain rfl : args = #[v0] := by cases args; simp_all
  obtain ⟨rfl, rfl⟩ := trodVars_none hV
  have t0 := h0
  have lt0 : ∀ x ∈ p0, x.block < W.heap.size := by obtain ⟨m, hm⟩ := t0; exact DataW.trod_lt m _ _ _ hm
  obtain ⟨A0, n0, c0, l0, rfl, s0, m0, x0, g0, z0⟩ := open_evs Try.underlying22 Try.underlying36 ⟨rfl, rfl, rfl⟩ (by kernel_rfl) (by kernel_rfl) Try.underlying3 (hval 0 22 v0 rfl rfl) h0
  have y0 := reach_sl hsz (j := 0) rfl rfl Try.underlying22 (b := 24) (by kernel_rfl) z0
  clear hA0 hval0
  refine (walk W A0 n0 c0 l0 s0 m0 x0 g0).mono fun e W' ⟨he, bel⟩ => ?_
  subst he
  exact ⟨_, rfl, _, _, _, [], _, [], hW', trodAll_mk1 (shut_bool Try.underlying4 _), (trodAll_cons_mk (Below.trod laidOut (by kernel_rfl) (of_decide_eq_true (by kernel_rfl)) t0 bel lt0) trodAll_mk0), rfl, bel.frame _, fun h => by cases h⟩

theorem over : Rows.traceOwnRow.holds Try.pinned (OpenSpec.ofChange Rows.traceOwnSpec) :=
  OpenClaim.holds_of_wide 7 Try.f7 rfl rfl rfl rfl rfl rfl rfl ⟨rfl, rfl, rfl, rfl, rfl⟩ rfl rfl rfl rfl rfl (by kernel_rfl) Try.func7 (by kernel_rfl)
    (of_decide_eq_true (by kernel_rfl)) (by unfold Func.isWrapper; first | (rw [if_pos (by decide +kernel)]; kernel_rfl) | (rw [if_neg (by decide +kernel)]; exact ⟨rfl, rfl⟩))
    (fun os started H enc _ => lifted os started H enc)

theorem proved : Rows.TraceOwnSaid := over
#print axioms proved
end Go.Proofs.Ytioejkjbokcppaa.LTraceOwn

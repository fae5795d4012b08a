/- 'deadheatkeep.RaceSums' returns true for every input and leaves its arguments as they are. No condition. -/
import Derived.Test.YtdgoeibaekkhmaaOpenTr
import Derived.Test.YtdgoeibaekkhmaaKeepRc
import Derived.Test.YtdgoeibaekkhmaaFst
set_option linter.all false
set_option maxRecDepth 100000
namespace Go.Proofs.Ytdgoeibaekkhmaa.LRaceSums
open Go Go.ChangeShapes Go.WideShapes Go.ChangeAt Go.RowKit

theorem nodup_le : ∀ {a b : List Int}, a.Nodup → (∀ x ∈ a, x ∈ b) → a.length ≤ b.length
  | [], _, _, _ => Nat.zero_le _
  | x :: a, b, hn, hs => by
    have hn' := List.nodup_cons.1 hn
    have hx := hs x (by simp)
    have h1 := nodup_le (a := a) (b := b.erase x) hn'.2 fun y hy => (List.mem_erase_of_ne (fun e => hn'.1 (by rw [← e]; exact hy))).2 (hs y (by simp [hy]))
    rw [List.length_erase_of_mem hx] at h1
    have := List.length_pos_of_mem hx
    simp only [List.length_cons]; omega
theorem rc_obj {l : List Ev} {r : Rc} (h : r ∈ rcs l) : r.v = (evZ l r.b).o ∧ may l = 0 := by
  unfold rcs at h
  split at h
  · rename_i hm
    obtain ⟨a, b, _, h2, _, h4, _, h6, _⟩ := mem_rcsA h
    rw [evZ_at h2, h4]
    exact ⟨(conf_bin (l := l) h6).1, hm⟩
  · cases h
theorem rc_var {l : List Ev} {r : Rc} (h : r ∈ rcs l) : 0 ≤ r.v ∧ r.v < 8 := by
  unfold rcs at h
  split at h
  · rename_i hm
    obtain ⟨a, b, h1, _, _, h4, _, h6, _⟩ := mem_rcsA h
    have he := isEv_o (wrong_isEv (wrong_at hm h1))
    have hk := (conf_bin (l := l) h6).2.1
    unfold nobj at he
    rw [if_pos hk] at he
    rw [h4]; exact he
  · cases h
def vars (l : List Ev) : List Int := dd ((rcs l).map fV)
theorem secs_len (l : List Ev) : (secs l).length ≤ (rcs l).length := by
  have := dd_len ((rcs l).map fB)
  rw [List.length_map] at this; exact this
theorem vars_len (l : List Ev) : (vars l).length ≤ (secs l).length := by
  have h := nodup_le (a := vars l) (b := (secs l).map fun y => (evZ l y.toNat).o) (up_nodup (dd_up _)) fun x hx => by
    obtain ⟨r, hr, rfl⟩ := List.mem_map.1 (dd_mem.1 hx)
    refine List.mem_map.2 ⟨(r.b : Int), dd_mem.2 (List.mem_map.2 ⟨r, hr, rfl⟩), ?_⟩
    rw [show ((r.b : Int)).toNat = r.b by omega]
    exact (rc_obj hr).1.symm
  rwa [List.length_map] at h
theorem vars_none (l : List Ev) : (vars l).length = 0 ↔ (rcs l).length = 0 := by
  constructor
  · intro h
    have h0 := List.eq_nil_of_length_eq_zero h
    cases hr : rcs l with
    | nil => rfl
    | cons r rs =>
      have : fV r ∈ vars l := dd_mem.2 (List.mem_map.2 ⟨r, by rw [hr]; simp, rfl⟩)
      rw [h0] at this; cases this
  · intro h
    have := vars_len l; have := secs_len l; omega
theorem find_least {p : Int → Bool} {ss : List Int} (hs : ss.Pairwise (· < ·)) {z : Int} (hz : z ∈ ss) (hp : p z = true) : ∃ y, ss.find? p = some y ∧ y ≤ z := by
  induction ss with
  | nil => cases hz
  | cons s ss ih =>
    have hs' := List.pairwise_cons.1 hs
    cases hq : p s
    · rw [List.find?_cons_of_neg (by rw [hq]; decide)]
      rcases List.mem_cons.1 hz with h | h
      · subst h; rw [hq] at hp; cases hp
      · exact ih hs'.2 h
    · refine ⟨s, List.find?_cons_of_pos hq, ?_⟩
      rcases List.mem_cons.1 hz with h | h
      · omega
      · have := hs'.1 z h; omega
theorem fst_race {l : List Ev} {r : Rc} (h : r ∈ rcs l) : ∃ y : Int, fstA l r.v = y ∧ fstI l r.v = true ∧ fstE l r.v = 0 ∧ y ≤ (r.b : Int) := by
  obtain ⟨h1, hm⟩ := rc_obj h
  have hv : isV r.v = true := by have := rc_var h; exact inB_yes this.1 this.2
  obtain ⟨y, hy, hle⟩ := find_least (p := objB l r.v) (dd_up ((rcs l).map fB)) (z := (r.b : Int)) (dd_mem.2 (List.mem_map.2 ⟨r, h, rfl⟩)) (by
    unfold objB; rw [show ((r.b : Int)).toNat = r.b by omega, ← h1]; simp)
  have hf : fst l r.v = some y := by rw [fst_ok hm hv]; exact hy
  refine ⟨y, by unfold fstA; rw [hf]; rfl, by unfold fstI; rw [hf]; rfl, by unfold fstE; rw [if_neg (by rw [hm]; decide), hv]; rfl, hle⟩
set_option maxHeartbeats 16000000 in
theorem walk (W : World) (A : Option Addr) (n c : Nat) (l : List Ev) (s : Sl W A n l) (m : n ≤ c) (x : c ≤ maxLen) (g : ∀ e ∈ l, EvOk e) :
    Calls Try.prog 9 #[.slice A n c] W fun e w' => e = .returned (.bool true) ∧ Below W.heap.size W w' := by
  unfold maxLen at x
  have hw0 : Bel W W := Bel.refl _
  have HL := Lib.hid s
  clear s g
  cases h1 : (may l != 0)
  · have hm : may l = 0 := by simpa using h1
    have HM := Lib.hid hm
    have hln := rcs_len l
    have HLE1 := Lib.hid (secs_len l)
    have HLE2 := Lib.hid (vars_len l)
    have HLE3 := Lib.hid (vars_none l)
    clear hm
    go_enter Try.func9, Try.ntmps9
    go_wp2_with fail
    refine (raced_any _).mono ?_
    rintro e1 w1 ⟨rfl, hb1⟩
    have hw1 := hw0.call hb1
    clear hb1
    go_wp2_with fail
    refine (all_ok A n c l _ (HL.out.bel hw1) HM.out).mono ?_
    rintro e2 w2 ⟨v2, rfl, hown2, hb2⟩
    have hw2 := hw1.call hb2
    clear hb2
    obtain ⟨A2, c2, rfl, hs2, _⟩ := SlR.own hown2
    rw [HM.out]
    have HC2 := Lib.hid hs2
    clear hown2 hs2
    go_wp2_with fail
    refine (seconds_any A n c l _ (HL.out.bel hw2)).mono ?_
    rintro e3 w3 ⟨v3, rfl, hs3, hb3⟩
    have hw3 := hw2.call hb3
    replace HC2 := Lib.hid (HC2.out.bel (Bel.of hb3))
    clear hb3
    change SlI w3 v3 (secs l) at hs3
    rw [HM.out]
    have HC3 := Lib.hid hs3
    clear hs3
    go_wp2_with fail
    refine (vars_any A n c l _ (HL.out.bel hw3)).mono ?_
    rintro e4 w4 ⟨v4, rfl, hs4, hb4⟩
    have hw4 := hw3.call hb4
    replace HC2 := Lib.hid (HC2.out.bel (Bel.of hb4))
    replace HC3 := Lib.hid (HC3.out.bel (Bel.of hb4))
    clear hb4
    change SlI w4 v4 (vars l) at hs4
    rw [HM.out]
    have HC4 := Lib.hid hs4
    clear hs4
    obtain ⟨A3, n3, c3, rfl, hsi3, hmi3⟩ := SlI.form HC3.out
    obtain ⟨A4, n4, c4, rfl, hsi4, hmi4⟩ := SlI.form HC4.out
    have HS3 := Lib.hid hsi3
    have HS4 := Lib.hid hsi4
    have h3 : n3 ≤ (rcs l).length := by rw [← hsi3.1]; exact HLE1.out
    have h4 : n4 ≤ n3 := by rw [← hsi3.1, ← hsi4.1]; exact HLE2.out
    have h5 : n4 = 0 ↔ (rcs l).length = 0 := by rw [← hsi4.1]; exact HLE3.out
    have HIN := Lib.hid (fun (r : Rc) (h : r ∈ rcs l) => fst_race h)
    have HMS := Lib.hid (fun (r : Rc) (h : r ∈ rcs l) => show (r.b : Int) ∈ secs l from dd_mem.2 (List.mem_map.2 ⟨r, h, rfl⟩))
    have HMV := Lib.hid (fun (r : Rc) (h : r ∈ rcs l) => show r.v ∈ vars l from dd_mem.2 (List.mem_map.2 ⟨r, h, rfl⟩))
    generalize secs l = ss at *
    generalize vars l = vs at *
    unfold maxLen at hmi3 hmi4
    clear hsi3 hsi4 HLE1 HLE2 HLE3 HC3 HC4
    have HW4 := Lib.hid hw4
    generalize hnr : (rcs l).length = nr at *
    have h6 : ((nr : Int) == 0) = ((n4 : Int) == 0) := by
      by_cases hz : nr = 0
      · have := h5.2 hz; subst hz; subst this; rfl
      · have hz4 : n4 ≠ 0 := fun e => hz (h5.1 e)
        have e1 : ((nr : Int) == 0) = false := by simpa using hz
        have e2 : ((n4 : Int) == 0) = false := by simpa using hz4
        rw [e1, e2]
    have b3 : ¬ nr < n3 := by omega
    have b4 : ¬ n3 < n4 := by omega
    have HNR := Lib.hid hnr
    clear h3 h4 h5 hw0 hw1 hw2 hw3 hw4 hnr
    cases e2 : ((n4 : Int) == 0)
    all_goals
      rw [e2] at h6
      go_wp2
      go_loopw [80] (fun t80 wr => ∃ i : Nat, i ≤ nr ∧ t80 = .int .i64 i ∧ Bel w4 wr) (fun t80 _ => nr - (intOf t80).toNat)
      case atStart => exact ⟨0, by omega, rfl, Bel.refl _⟩
      case round =>
        obtain ⟨i, hi, rfl, hr⟩ := hrel
        have HR := Lib.hid hr
        clear hr h6 e2 b3 b4
        by_cases hli : i < nr
        · have hli' : (i : Int) < nr := by omega
          obtain ⟨bb, off, r, rfl, hbb, he, hrg⟩ := HC2.out.at_ hli
          have hR := Lib.hid (rangeAt_below HR.out.out hbb hrg)
          have hmem := List.mem_of_getElem? he
          obtain ⟨y, hy1, hy2, hy3, hy4⟩ := HIN.out r hmem
          have HY := Lib.hid (And.intro hy1 (And.intro hy2 hy3))
          have HD1 := Lib.hid (decide_eq_true (HMS.out r hmem))
          have HD2 := Lib.hid (decide_eq_true (HMV.out r hmem))
          have HB5 := Lib.hid (HR.out.trans (rwld_below wr r 31))
          have HX := Lib.hid (rwld_box wr r 31)
          have cb0 := HX.out.cell 2 (v := .int .i64 r.v) rfl
          clear he hrg hmem hy1 hy2 hy3
          go_wp2_with (first | (refine load_rc TRc _ rfl rfl rfl hR.out ?_) | (refine rwld_store TRc _ _ rfl rfl _ rfl rfl rfl ?_))
          refine (first_any A n c l r.v _ (HL.out.bel (HW4.out.trans HB5.out))).mono ?_
          rintro e6 w6 ⟨rfl, hb6⟩
          rw [HY.out.1, HY.out.2.1, HY.out.2.2]
          have HB6 := Lib.hid (HB5.out.trans (Bel.of hb6))
          have hX6 := Bel.box (Bel.of hb6) HX.out
          have cb1 := hX6.cell 1 (v := .int .i64 r.b) rfl
          have cb2 := hX6.cell 2 (v := .int .i64 r.v) rfl
          have HH1 := Lib.hid (hasint_any A3 n3 c3 ss (r.b : Int) w6 (HS3.out.keep HB6.out) hmi3)
          have HH2 := Lib.hid (hasint_any A4 n4 c4 vs r.v w6 (HS4.out.keep HB6.out) hmi4)
          rw [HD1.out] at HH1
          rw [HD2.out] at HH2
          clear cb0 hX6 hb6
          go_wp2_with (first | (go_at_call 21; (with_reducible refine HH1.out.mono ?_); rintro e w' ⟨rfl, rfl⟩) | (go_at_call 21; (with_reducible refine HH2.out.mono ?_); rintro e w' ⟨rfl, rfl⟩))
          go_roundw
          case rel => exact ⟨i + 1, by omega, by go_num, HB6.out⟩
          case measure => simp [intOf]; omega
        · obtain rfl : i = nr := by omega
          go_wp2
          go_ret
          exact ⟨rfl, HW4.out.trans HR.out⟩
  · have HM := Lib.hid (show may l ≠ 0 by simpa using h1)
    go_enter Try.func9, Try.ntmps9
    go_wp2_with fail
    refine (raced_any _).mono ?_
    rintro e1 w1 ⟨rfl, hb1⟩
    have hw1 := hw0.call hb1
    clear hb1
    go_wp2_with fail
    refine (all_bad A n c l _ (HL.out.bel hw1) HM.out).mono ?_
    rintro e2 w2 ⟨rfl, hb2⟩
    have hw2 := hw1.call hb2
    clear hb2
    go_wp2_with fail
    refine (seconds_any A n c l _ (HL.out.bel hw2)).mono ?_
    rintro e3 w3 ⟨v3, rfl, hs3, hb3⟩
    have hw3 := hw2.call hb3
    clear hb3
    rw [rcs_no HM.out] at hs3
    obtain ⟨A3, n3, c3, rfl, hsi, hmi⟩ := SlI.form hs3
    obtain rfl : n3 = 0 := by have := hsi.1; simp [dd, srt, Lib.compact, Lib.compactUpTo] at this; exact this.symm
    clear hs3 hsi hmi
    go_wp2_with fail
    refine (vars_any A n c l _ (HL.out.bel hw3)).mono ?_
    rintro e4 w4 ⟨v4, rfl, hs4, hb4⟩
    have hw4 := hw3.call hb4
    clear hb4
    rw [rcs_no HM.out] at hs4
    obtain ⟨A4, n4, c4, rfl, hsi, hmi⟩ := SlI.form hs4
    obtain rfl : n4 = 0 := by have := hsi.1; simp [dd, srt, Lib.compact, Lib.compactUpTo] at this; exact this.symm
    clear hs4 hsi hmi
    go_wp2
    go_ret
    exact ⟨rfl, hw4⟩

set_option maxRecDepth 100000 in
theorem lifted (os : Os) (started : os.Started) (H : Type) (enc : TypeId × Value → H) :
    ReturnsInHanded {} Try.checked os 9 .any (Rows.raceSumsSpec.pre6 enc Try.prog Try.f9 Rows.raceSumsRow.domain false) (Rows.raceSumsSpec.post enc Try.prog Try.f9 false true false false) := by
  refine returnsInHanded_of_change_sized (C := Try.checked) own started (by kernel_rfl) Try.func9
    (ChangeSpec.witness6 (enc := enc) (C := Try.checked) false ⟨#[], #[.slice none 0 0], []⟩ 8 (by kernel_rfl) (by kernel_rfl) (by kernel_rfl) (by kernel_rfl)) ?_
  intro W base args ds gs before hval0 hW hcnd hsz0 _
  have hsz : (DataW.weightsEach Try.prog (Try.f9.params.toList ++ Rows.raceSumsSpec.plain.varTypes Try.prog) (ds ++ gs)).all (· ≤ reachBytes) = true := hsz0
  clear hsz0
  have hval : ∀ (j : Nat) t v, Try.f9.params[j]? = some t → args[j]? = some v → Value.okWide Try.prog W .any base t v := hval0
  have hW' := hW
  obtain ⟨p, q, hA0, hV, rfl, hfz, hnd⟩ := hW
  have hA : DataW.TrodAll enc Try.prog W 0 (fun _ => true) true Try.f9.params.toList args.toList ds p := hA0
  rw [Try.params9] at hA hval hsz
  obtain ⟨v0, vs0, d0, ds0, p0, q0, hargs, rfl, rfl, h0, r0⟩ := trodAll_cons hA
  obtain ⟨rfl, rfl, rfl⟩ := trodAll_nil r0
  obtain rfl : args = #[v0] := by cases args; simp_all
  obtain ⟨rfl, rfl⟩ := trodVars_none hV
  have t0 := h0
  have lt0 : ∀ x ∈ p0, x.block < W.heap.size := by obtain ⟨m, hm⟩ := t0; exact DataW.trod_lt m _ _ _ hm
  obtain ⟨A0, n0, c0, l0, rfl, s0, m0, x0, g0, z0⟩ := open_evs Try.underlying22 Try.underlying43 ⟨rfl, rfl, rfl⟩ (by kernel_rfl) (by kernel_rfl) Try.underlying3 (hval 0 22 v0 rfl rfl) h0
  have y0 := reach_sl hsz (j := 0) rfl rfl Try.underlying22 (b := 24) (by kernel_rfl) z0
  clear hA0 hval0
  refine (walk W A0 n0 c0 l0 s0 m0 x0 g0).mono fun e W' ⟨he, bel⟩ => ?_
  subst he
  exact ⟨_, rfl, _, _, _, [], _, [], hW', trodAll_mk1 (shut_bool Try.underlying4 _), (trodAll_cons_mk (Below.trod laidOut (by kernel_rfl) (of_decide_eq_true (by kernel_rfl)) t0 bel lt0) trodAll_mk0), rfl, bel.frame _, fun h => by cases h⟩

theorem over : Rows.raceSumsRow.holds Try.pinned (OpenSpec.ofChange Rows.raceSumsSpec) :=
  OpenClaim.holds_of_wide 9 Try.f9 rfl rfl rfl rfl rfl rfl rfl ⟨rfl, rfl, rfl, rfl, rfl⟩ rfl rfl rfl rfl rfl (by kernel_rfl) Try.func9 (by kernel_rfl)
    (of_decide_eq_true (by kernel_rfl)) (by unfold Func.isWrapper; first | (rw [if_pos (by decide +kernel)]; kernel_rfl) | (rw [if_neg (by decide +kernel)]; exact ⟨rfl, rfl⟩))
    (fun os started H enc _ => lifted os started H enc)

theorem proved : Rows.RaceSumsSaid := over
#print axioms proved
end Go.Proofs.Ytdgoeibaekkhmaa.LRaceSums

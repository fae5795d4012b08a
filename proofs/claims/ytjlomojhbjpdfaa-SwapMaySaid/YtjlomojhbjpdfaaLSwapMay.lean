/- 'deadheatkeep.SwapMay' returns true for every input and leaves its arguments as they are. No condition. -/
import Derived.Test.YtjlomojhbjpdfaaOpen
import Derived.Test.YtjlomojhbjpdfaaOpenInts
import Derived.Test.YtjlomojhbjpdfaaSwU
import Derived.Test.YtjlomojhbjpdfaaSwS
import Derived.Test.YtjlomojhbjpdfaaKeepSw
import Derived.Test.YtjlomojhbjpdfaaTrace4
import Derived.Test.YtjlomojhbjpdfaaTwoR
set_option linter.all false
set_option maxRecDepth 100000
namespace Go.Proofs.Ytjlomojhbjpdfaa.LSwapMay
open Go Go.ChangeShapes Go.WideShapes Go.ChangeAt Go.RowKit

def fl (l : List Ev) (t : Int) (i : Nat) : List Ev := (l.take i).filter fun e => e.t == t
theorem held_eqv {l q : List Ev} (h : Eqv l q) (t : Int) : held l t = held q t := by
  unfold held
  refine hset_congr fun k _ => ?_
  rw [h.owner]
theorem fl_all {l q : List Ev} (h : Eqv l q) (t : Int) {n : Nat} (hn : l.length = n) (hm : q.length = n) : fl l t n = fl q t n := by
  unfold fl
  rw [← hn, List.take_length, hn, ← hm, List.take_length]
  exact h.proj t
theorem pheld_ok {l : List Ev} (h : may l = 0) {t : Nat} (ht : t < 6) : pheld l t = (held l t, 0) := by
  unfold pheld; rw [if_pos h, inB_yes (by omega) (by omega)]; rfl
set_option maxHeartbeats 16000000 in
theorem walkH (HS : SwapC) (HA : ApartC) (W : World) (A : Option Addr) (n c : Nat) (l : List Ev) (s : Sl W A n l) (m : n ≤ c) (x : c ≤ maxLen) (_g : ∀ e ∈ l, EvOk e)
    (B : Option Addr) (nb d : Nat) (js : List Int) (sj : SI W B nb js) (mj : nb ≤ d) (xj : d ≤ maxLen) (gj : ∀ x ∈ js, In64 x) :
    Calls Try.prog 8 #[.slice A n c, .slice B nb d] W fun e w' => e = .returned (.bool true) ∧ Below W.heap.size W w' := by
  have hw0 : Bel W W := Bel.refl _
  have HL := Lib.hid s
  have HJ := Lib.hid sj
  have HMX := Lib.hid (And.intro m (And.intro x (And.intro mj xj)))
  have HGJ := Lib.hid gj
  have HSW := Lib.hid (fun w => swapped_any HS HA w)
  have HSC := Lib.hid HS
  clear s m x HS HA sj mj xj gj
  cases h1 : (may l == 0)
  · go_enter Try.func8, Try.ntmps8
    go_wp2_with fail
    refine (HSW.out _).mono ?_
    rintro e1 w1 ⟨rfl, hb1⟩
    have hw1 := hw0.call hb1
    clear hb1
    go_wp2_with fail
    refine (may_any A n c l _ (HL.out.bel hw1)).mono ?_
    rintro e2 w2 ⟨rfl, hb2⟩
    have hw2 := hw1.call hb2
    clear hb2
    go_wp2
    go_ret
    exact ⟨rfl, hw2⟩
  · have hm := eq_of_beq h1
    have HM := Lib.hid hm
    have hn80 : n ≤ 80 := by rw [← HL.out.1]; exact ((may_iff l).1 hm).1
    obtain ⟨i0, hi0, hz0, hz1, hz2⟩ := info_parts ev_info
    have J := Lib.hid (And.intro hi0 (And.intro hz0 (And.intro hz1 hz2)))
    clear hm hi0 hz0 hz1 hz2 h1
    go_enter Try.func8, Try.ntmps8
    go_wp2_with fail
    refine (HSW.out _).mono ?_
    rintro e1 w1 ⟨rfl, hb1⟩
    have hw1 := hw0.call hb1
    clear hb1
    go_wp2_with fail
    refine (may_any A n c l _ (HL.out.bel hw1)).mono ?_
    rintro e2 w2 ⟨rfl, hb2⟩
    have hw2 := hw1.call hb2
    clear hb2
    rw [HM.out]
    go_wp2_with fail
    refine (swaps_any HSC.out A n c l B nb d js _ (HL.out.bel hw2) HMX.out.1 HMX.out.2.1 (SI.keep HJ.out hw2) HMX.out.2.2.1 HMX.out.2.2.2 HGJ.out HM.out).mono ?_
    rintro e w3 ⟨q, A3, d3, rfl, he3, hs3, hn3, hd3, hb3⟩
    have HE := Lib.hid he3
    have HMQ := Lib.hid (he3.may HM.out)
    have HW3 := Lib.hid (Bel.trans hw2 (Bel.of hb3))
    have HL3 := Lib.hid (HL.out.bel HW3.out)
    have HS3 := Lib.hid hs3
    have HD3 := Lib.hid (And.intro hn3 hd3)
    clear he3 hs3 hd3 hb3 hw0 hw1 hw2
    go_wp2
    go_loopw [22] (fun t wr => ∃ k : Nat, k ≤ 6 ∧ t = .int .i64 k ∧ Bel w3 wr) (fun t _ => 6 - (intOf t).toNat)
    case atStart => exact ⟨0, by omega, rfl, Bel.refl _⟩
    case round =>
      obtain ⟨k, hk, rfl, hbr⟩ := hrel
      have HB := Lib.hid hbr
      clear hbr
      by_cases hlt : k < 6
      · have hlt' : (k : Int) < 6 := by omega
        have HPL := Lib.hid (pheld_ok HM.out hlt)
        have HPQ := Lib.hid (show pheld q k = (held l k, 0) by rw [pheld_ok HMQ.out hlt, held_eqv HE.out])
        go_wp2_with fail
        refine (held_any A n c l k _ (HL3.out.bel HB.out)).mono ?_
        rintro e w4 ⟨rfl, hb4⟩
        rw [HPL.out]
        have HB4 := Lib.hid (HB.out.call hb4)
        clear hb4
        go_wp2_with fail
        refine (held_any A3 n d3 q k _ (HS3.out.bel HB4.out)).mono ?_
        rintro e w5 ⟨rfl, hb5⟩
        rw [HPQ.out]
        have HB5 := Lib.hid (HB4.out.call hb5)
        have HT0 := Lib.hid (TwoR.mk (World.ownsRow_nil _ _ _ _) (World.ownsRow_nil _ _ _ _) (fun g hg => by cases hg) (Bel.refl w5) : TwoR w5 (fl l k 0) (fl q k 0) (.slice none 0 0) (.slice none 0 0) w5)
        have hne : ((held l (k : Int)) != (held l (k : Int))) = false := by simp
        clear hb5
        generalize held l (k : Int) = hd at *
        go_wp2
        go_loopw [11, 12, 39] (fun v u t wr => ∃ i : Nat, i ≤ n ∧ t = .int .i64 i ∧ TwoR w5 (fl l k i) (fl q k i) v u wr) (fun _ _ t _ => n - (intOf t).toNat)
        case atStart => exact ⟨0, by omega, rfl, HT0.out⟩
        case round =>
          obtain ⟨i, hi, rfl, hr⟩ := hrel
          have HR := Lib.hid hr
          clear hr HT0
          by_cases hlti : i < n
          · obtain ⟨b, o, e, rfl, g1, he, r1⟩ := (HL3.out.bel HB5.out).at_ hlti
            obtain ⟨b', o', f, rfl, g2, hf, r2⟩ := (HS3.out.bel HB5.out).at_ hlti
            have hlti' : (i : Int) < n := by omega
            have RE := Lib.hid (fun (w' : World) (h : Bel w5 w') => rangeAt_below h.out g1 r1)
            have RF := Lib.hid (fun (w' : World) (h : Bel w5 w') => rangeAt_below h.out g2 r2)
            have RE0 := Lib.hid (RE.out _ HR.out.below)
            have RF0 := Lib.hid (RF.out _ HR.out.below)
            have ce : wr.cell? ⟨b, o + i * 3 + 1, none⟩ = some (.int .i64 e.t) := RE0.out 1 _ rfl
            have cf : wr.cell? ⟨b', o' + i * 3 + 1, none⟩ = some (.int .i64 f.t) := RF0.out 1 _ rfl
            have HLX := Lib.hid (show (fl l k i).length ≤ i from filter_len _ l i)
            have HLY := Lib.hid (show (fl q k i).length ≤ i from filter_len _ q i)
            have HR3 := Lib.hid (TwoR.bel HR.out ((Bel.refl wr).alloc (.cells (evv e) 23)))
            have HNW3 := Lib.hid (Box.news (l := evl e) (Box.new wr (evv e) 23))
            have HSZ3 := Lib.hid (HR.out.below.alloc (.cells (evv e) 23)).size
            have HR4 := Lib.hid (TwoR.bel HR.out ((Bel.refl wr).alloc (.cells (evv f) 23)))
            have HNW4 := Lib.hid (Box.news (l := evl f) (Box.new wr (evv f) 23))
            have HSZ4 := Lib.hid (HR.out.below.alloc (.cells (evv f) 23)).size
            have HEi := Lib.hid he
            have HFi := Lib.hid hf
            clear he hf r1 r2 g1 g2
            cases hek : (e.t == (k : Int))
            · have HX := Lib.hid (show fl l k (i + 1) = fl l k i from take_filter_no HEi.out hek)
              cases hfk : (f.t == (k : Int))
              · have HY := Lib.hid (show fl q k (i + 1) = fl q k i from take_filter_no HFi.out hfk)
                go_wp2
                go_roundw
                case rel => exact ⟨i + 1, by omega, by go_num, HR.out.to HX.out HY.out⟩
                case measure => simp [intOf]; omega
              · have HY := Lib.hid (show fl q k (i + 1) = fl q k i ++ [f] from take_filter_yes HFi.out hfk)
                go_wp2_with (first | (refine load_ev T36 _ rfl rfl rfl RF0.out ?_) | (refine build1 25 _ rfl rfl 23 i0 Try.underlying25 J.out.1 J.out.2.1 J.out.2.2.1 f rfl ?_) | (at_builtin; refine wpList_append_own_at _ rfl (.tmp 63) (.tmp 68) _ rfl w5.heap.size 23 i0 _ 3 24 Try.underlying25 J.out.1 J.out.2.1 J.out.2.2.1 J.out.2.2.2 rfl (by omega) _ (fl q k i).length _ rfl HR4.out.own2 _ 1 1 (evl f) rfl rfl HNW4.out (by simp [evl, Value.oneCell']) (by have := HLY.out; unfold maxLen; omega) (by have := HLY.out; omega) HSZ4.out ?_; intro v9 w9 hown9 hg9 hn9 hat9))
                refine ⟨⟨i + 1, by omega, by go_num, ?_⟩, by simp [intOf]; omega⟩
                exact (HR4.out.add2 hg9 hat9 hown9).to HX.out HY.out
            · have HX := Lib.hid (show fl l k (i + 1) = fl l k i ++ [e] from take_filter_yes HEi.out hek)
              cases hfk : (f.t == (k : Int))
              · have HY := Lib.hid (show fl q k (i + 1) = fl q k i from take_filter_no HFi.out hfk)
                go_wp2_with (first | (refine load_ev T36 _ rfl rfl rfl RE0.out ?_) | (refine build1 25 _ rfl rfl 23 i0 Try.underlying25 J.out.1 J.out.2.1 J.out.2.2.1 e rfl ?_) | (at_builtin; refine wpList_append_own_at _ rfl (.tmp 49) (.tmp 54) _ rfl w5.heap.size 23 i0 _ 3 24 Try.underlying25 J.out.1 J.out.2.1 J.out.2.2.1 J.out.2.2.2 rfl (by omega) _ (fl l k i).length _ rfl HR3.out.own1 _ 1 1 (evl e) rfl rfl HNW3.out (by simp [evl, Value.oneCell']) (by have := HLX.out; unfold maxLen; omega) (by have := HLX.out; omega) HSZ3.out ?_; intro v7 w7 hown7 hg7 hn7 hat7; have HR7 := Lib.hid (HR3.out.add1 hg7 hat7 hown7); have cf7 := RF.out _ HR7.out.below 1 _ rfl; have RF7 := Lib.hid (RF.out _ HR7.out.below); have HR8 := Lib.hid (TwoR.bel HR7.out ((Bel.refl w7).alloc (.cells (evv f) 23))); have HNW8 := Lib.hid (Box.news (l := evl f) (Box.new w7 (evv f) 23)); have HSZ8 := Lib.hid (HR7.out.below.alloc (.cells (evv f) 23)).size; clear hown7 hg7 hn7))
                refine ⟨⟨i + 1, by omega, by go_num, ?_⟩, by simp [intOf]; omega⟩
                exact HR7.out.to HX.out HY.out
              · have HY := Lib.hid (show fl q k (i + 1) = fl q k i ++ [f] from take_filter_yes HFi.out hfk)
                go_wp2_with (first | (refine load_ev T36 _ rfl rfl rfl RE0.out ?_) | (refine build1 25 _ rfl rfl 23 i0 Try.underlying25 J.out.1 J.out.2.1 J.out.2.2.1 e rfl ?_) | (at_builtin; refine wpList_append_own_at _ rfl (.tmp 49) (.tmp 54) _ rfl w5.heap.size 23 i0 _ 3 24 Try.underlying25 J.out.1 J.out.2.1 J.out.2.2.1 J.out.2.2.2 rfl (by omega) _ (fl l k i).length _ rfl HR3.out.own1 _ 1 1 (evl e) rfl rfl HNW3.out (by simp [evl, Value.oneCell']) (by have := HLX.out; unfold maxLen; omega) (by have := HLX.out; omega) HSZ3.out ?_; intro v7 w7 hown7 hg7 hn7 hat7; have HR7 := Lib.hid (HR3.out.add1 hg7 hat7 hown7); have cf7 := RF.out _ HR7.out.below 1 _ rfl; have RF7 := Lib.hid (RF.out _ HR7.out.below); have HR8 := Lib.hid (TwoR.bel HR7.out ((Bel.refl w7).alloc (.cells (evv f) 23))); have HNW8 := Lib.hid (Box.news (l := evl f) (Box.new w7 (evv f) 23)); have HSZ8 := Lib.hid (HR7.out.below.alloc (.cells (evv f) 23)).size; clear hown7 hg7 hn7) | (refine load_ev T36 _ rfl rfl rfl RF7.out ?_) | (refine build1 25 _ rfl rfl 23 i0 Try.underlying25 J.out.1 J.out.2.1 J.out.2.2.1 f rfl ?_) | (at_builtin; refine wpList_append_own_at _ rfl (.tmp 63) (.tmp 68) _ rfl w5.heap.size 23 i0 _ 3 24 Try.underlying25 J.out.1 J.out.2.1 J.out.2.2.1 J.out.2.2.2 rfl (by omega) _ (fl q k i).length _ rfl HR8.out.own2 _ 1 1 (evl f) rfl rfl HNW8.out (by simp [evl, Value.oneCell']) (by have := HLY.out; unfold maxLen; omega) (by have := HLY.out; omega) HSZ8.out ?_; intro v9 w9 hown9 hg9 hn9 hat9))
                refine ⟨⟨i + 1, by omega, by go_num, ?_⟩, by simp [intOf]; omega⟩
                exact (HR8.out.add2 hg9 hat9 hown9).to HX.out HY.out
          · obtain rfl : i = n := by omega
            have HEQ := Lib.hid (fl_all HE.out (k : Int) HL3.out.1 HS3.out.1)
            have HR2 := Lib.hid HR.out
            obtain ⟨AX, cX, hvx, sX, nX, mX⟩ := Sl.own HR.out.own1
            obtain ⟨AY, cY, hvy, sY, nY, mY⟩ := Sl.own HR.out.own2
            subst hvx; subst hvy
            have SX := Lib.hid sX
            have SY := Lib.hid sY
            have HBW := Lib.hid (HB5.out.trans HR2.out.below)
            clear sX sY HR
            go_wp2_with fail
            refine (eqev_any AX AY _ cX _ cY _ _ _ SX.out SY.out nX nY mX mY).mono ?_
            rintro e9 w9 ⟨rfl, hb9⟩
            rw [decide_eq_true HEQ.out]
            have HB9 := Lib.hid (HBW.out.call hb9)
            clear hb9
            go_wp2
            go_roundw
            case rel => exact ⟨k + 1, by omega, by go_num, HB9.out⟩
            case measure => simp [intOf]; omega
      · obtain rfl : k = 6 := by omega
        go_wp2_with fail
        refine (may_any A3 n d3 q _ (HS3.out.bel HB.out)).mono ?_
        rintro e w4 ⟨rfl, hb4⟩
        rw [HMQ.out]
        have HB4 := Lib.hid ((HW3.out.trans HB.out).call hb4)
        clear hb4
        go_wp2
        go_ret
        exact ⟨rfl, HB4.out⟩
theorem walk (W : World) (A : Option Addr) (n c : Nat) (l : List Ev) (s : Sl W A n l) (m : n ≤ c) (x : c ≤ maxLen) (g : ∀ e ∈ l, EvOk e) (B : Option Addr) (nb d : Nat) (js : List Int) (sj : SI W B nb js) (mj : nb ≤ d) (xj : d ≤ maxLen) (gj : ∀ x ∈ js, In64 x) :
    Calls Try.prog 8 #[.slice A n c, .slice B nb d] W fun e w' => e = .returned (.bool true) ∧ Below W.heap.size W w' := walkH swap_any apart_any W A n c l s m x g B nb d js sj mj xj gj
set_option maxRecDepth 100000 in
theorem lifted (os : Os) (started : os.Started) (H : Type) (enc : TypeId × Value → H) :
    ReturnsInHanded {} Try.checked os 8 .any (Rows.swapMaySpec.pre6 enc Try.prog Try.f8 Rows.swapMayRow.domain false) (Rows.swapMaySpec.post enc Try.prog Try.f8 false true false false) := by
  refine returnsInHanded_of_change_sized (C := Try.checked) own started (by kernel_rfl) Try.func8
    (ChangeSpec.witness6 (enc := enc) (C := Try.checked) false ⟨#[], #[.slice none 0 0, .slice none 0 0], []⟩ 8 (by kernel_rfl) (by kernel_rfl) (by kernel_rfl) (by kernel_rfl)) ?_
  intro W base args ds gs before hval0 hW hcnd hsz0 _
  have hsz : (DataW.weightsEach Try.prog (Try.f8.params.toList ++ Rows.swapMaySpec.plain.varTypes Try.prog) (ds ++ gs)).all (· ≤ reachBytes) = true := hsz0
  clear hsz0
  have hval : ∀ (j : Nat) t v, Try.f8.params[j]? = some t → args[j]? = some v → Value.okWide Try.prog W .any base t v := hval0
  have hW' := hW
  obtain ⟨p, q, hA0, hV, rfl, hfz, hnd⟩ := hW
  have hA : DataW.TrodAll enc Try.prog W 0 (fun _ => true) true Try.f8.params.toList args.toList ds p := hA0
  rw [Try.params8] at hA hval hsz
  obtain ⟨v0, vs0, d0, ds0, p0, q0, hargs, rfl, rfl, h0, r0⟩ := trodAll_cons hA
  obtain ⟨v1, vs1, d1, ds1, p1, q1, rfl, rfl, rfl, h1, r1⟩ := trodAll_cons r0
  obtain ⟨rfl, rfl, rfl⟩ := trodAll_nil r1
  obtain rfl : args = #[v0, v1] := by cases args; simp_all
  obtain ⟨rfl, rfl⟩ := trodVars_none hV
  have t0 := h0
  have lt0 : ∀ x ∈ p0, x.block < W.heap.size := by obtain ⟨m, hm⟩ := t0; exact DataW.trod_lt m _ _ _ hm
  have t1 := h1
  have lt1 : ∀ x ∈ p1, x.block < W.heap.size := by obtain ⟨m, hm⟩ := t1; exact DataW.trod_lt m _ _ _ hm
  obtain ⟨A0, n0, c0, l0, rfl, s0, m0, x0, g0, z0⟩ := open_evs Try.underlying25 Try.underlying23 ⟨rfl, rfl, rfl⟩ (by kernel_rfl) (by kernel_rfl) Try.underlying3 (hval 0 25 v0 rfl rfl) h0
  have y0 := reach_sl hsz (j := 0) rfl rfl Try.underlying25 (b := 24) (by kernel_rfl) z0
  obtain ⟨A1, n1, c1, l1, rfl, s1, m1, x1, g1⟩ := open_ints_arg Try.underlying40 Try.underlying3 (by kernel_rfl) (hval 1 40 v1 rfl rfl) h1
  clear hA0 hval0
  refine (walk W A0 n0 c0 l0 s0 m0 x0 g0 A1 n1 c1 l1 s1 m1 x1 g1).mono fun e W' ⟨he, bel⟩ => ?_
  subst he
  exact ⟨_, rfl, _, _, _, [], _, [], hW', trodAll_mk1 (shut_bool Try.underlying4 _), (trodAll_cons_mk (Below.trod laidOut (by kernel_rfl) (of_decide_eq_true (by kernel_rfl)) t0 bel lt0) (trodAll_cons_mk (Below.trod laidOut (by kernel_rfl) (of_decide_eq_true (by kernel_rfl)) t1 bel lt1) trodAll_mk0)), rfl, bel.frame _, fun h => by cases h⟩

theorem over : Rows.swapMayRow.holds Try.pinned (OpenSpec.ofChange Rows.swapMaySpec) :=
  OpenClaim.holds_of_wide 8 Try.f8 rfl rfl rfl rfl rfl rfl rfl ⟨rfl, rfl, rfl, rfl, rfl⟩ rfl rfl rfl rfl rfl (by kernel_rfl) Try.func8 (by kernel_rfl)
    (of_decide_eq_true (by kernel_rfl)) (by unfold Func.isWrapper; first | (rw [if_pos (by decide +kernel)]; kernel_rfl) | (rw [if_neg (by decide +kernel)]; exact ⟨rfl, rfl⟩))
    (fun os started H enc _ => lifted os started H enc)

theorem proved : Rows.SwapMaySaid := over
#print axioms proved
end Go.Proofs.Ytjlomojhbjpdfaa.LSwapMay

/- Contracts of the package ring: Graph. -/
import Derived.Test.YtjindfkomnjceaaRgN
import Derived.Test.YtjindfkomnjceaaRfG
import Derived.Test.YtjindfkomnjceaaTrace4
set_option linter.all false
set_option maxRecDepth 100000
namespace Go.Proofs.Ytjindfkomnjceaa
open Go Go.RowKit

/-- The pairs that the first k events make. -/
def edgeTo (l : List Ev) (k : Nat) (a b : Nat) : Bool := (List.range k).any (edgeAt l a b)
theorem edgeTo_all (l : List Ev) (a b : Nat) : edgeTo l l.length a b = edge l a b := rfl
theorem edgeTo_succ (l : List Ev) (k a b : Nat) : edgeTo l (k + 1) a b = (edgeTo l k a b || edgeAt l a b k) := by simp [edgeTo, List.range_succ]
theorem edgeAt_no {l : List Ev} {k : Nat} {e : Ev} (he : l[k]? = some e) (h : (e.k == 3) = false) (a b : Int) : edgeAt l a b k = false := by unfold edgeAt; rw [evA_at he, h]; rfl
theorem edgeAt_yes {l : List Ev} {k o : Nat} {e : Ev} (he : l[k]? = some e) (h : (e.k == 3) = true) (ho : e.o = o) (a b : Nat) : edgeAt l a b k = (decide (b = o) && decide (owner (l.take k) a = e.t)) := by
  unfold edgeAt; rw [evA_at he, h, ho, Bool.eq_iff_iff]; simp; intro _; omega
/-- .. and the first m locks of the next one. -/
def halfE (l : List Ev) (k o m : Nat) (t : Int) (a b : Nat) : Bool := edgeTo l k a b || (decide (a < m) && decide (b = o) && decide (owner (l.take k) a = t))
theorem halfE_zero (l : List Ev) (k o : Nat) (t : Int) : halfE l k o 0 t = edgeTo l k := by funext a b; simp [halfE]
theorem halfE_no {l : List Ev} {k o m : Nat} {t : Int} (h : decide (owner (l.take k) m = t) = false) : halfE l k o (m + 1) t = halfE l k o m t := by
  funext a b
  unfold halfE
  by_cases ha : a = m
  · subst ha; rw [h]; simp
  · congr 3
    exact decide_eq_decide.2 (by omega)
theorem halfE_yes {l : List Ev} {k o m : Nat} {t : Int} (h : decide (owner (l.take k) m = t) = true) : setP (halfE l k o m t) m o true = halfE l k o (m + 1) t := by
  funext a b
  unfold setP halfE
  by_cases hab : a = m ∧ b = o
  · rw [if_pos hab, hab.1, hab.2, h]; simp
  · rw [if_neg hab]
    by_cases ha : a = m
    · have hb : ¬ b = o := fun e => hab ⟨ha, e⟩
      simp [hb]
    · congr 3
      exact decide_eq_decide.2 (by omega)
theorem GBox.congr {w : World} {G : Nat} {P Q : Nat → Nat → Bool} (h : GBox w G P) (hq : ∀ a b, a < 5 → P a b = Q a b) : GBox w G Q := by
  have e : bs 25 (gcl P) = bs 25 (gcl Q) := bs_congr fun j hj => hq _ _ (by omega)
  unfold GBox at h ⊢
  rwa [e] at h
theorem halfE_full {w : World} {G : Nat} {l : List Ev} {k o : Nat} {e : Ev} (h : GBox w G (halfE l k o 5 e.t)) (he : l[k]? = some e) (h3 : (e.k == 3) = true) (ho : e.o = o) : GBox w G (edgeTo l (k + 1)) :=
  h.congr fun a b ha => by unfold halfE; rw [edgeTo_succ, edgeAt_yes he h3 ho]; simp [ha]
theorem edgeTo_no {l : List Ev} {k : Nat} {e : Ev} (he : l[k]? = some e) (h : (e.k == 3) = false) : edgeTo l (k + 1) = edgeTo l k := by
  funext a b; rw [edgeTo_succ, edgeAt_no he h, Bool.or_false]
theorem held_bit (l : List Ev) (k : Int) (q : Nat) (hq : q < 5) : (bits .and .i64 (held l k / 2 ^ q) 1 == 1) = decide (owner l q = k) := has_bit (fun q => decide (owner l q = k)) q hq
def GphPost (w : World) (l : List Ev) (e : Ending) (w' : World) : Prop :=
  Below w.heap.size w w' ∧ ((may l ≠ 0 ∧ e = .returned (.tuple #[.slice none 0 0, .int .i64 (may l)])) ∨
    (may l = 0 ∧ ∃ v, e = .returned (.tuple #[v, .int .i64 0]) ∧ w'.ownsRow w.heap.size 43 2 v (prsA (fun a b => edge l a b) 5).length (prc (prsA (fun a b => edge l a b) 5))))
set_option maxHeartbeats 8000000 in
theorem graph_any (A : Option Addr) (n c : Nat) (l : List Ev) (w : World) (hl : Sl w A n l) (hnc : n ≤ c) (hc : c ≤ 9223372036854775807) : Calls Try.prog 15 #[.slice A n c] w (GphPost w l) := by
  have HL := Lib.hid hl
  have HC := Lib.hid (check_any A n c l w hl)
  clear hl
  by_cases hm : may l = 0
  · have HM := Lib.hid hm
    have HC2 := HC.out
    rw [check_ok hm] at HC2
    have HC3 := Lib.hid HC2
    clear HC2 HC hm
    go_enter Try.func15, Try.ntmps15
    go_wp2_with fail
    refine HC3.out.mono ?_
    rintro e w1 ⟨rfl, hb1⟩
    have HB1 := Lib.hid (Bel.of hb1)
    have HG0 := Lib.hid (show GBox (w1.alloc (.cells (bs 25 fun _ => false) 74)) w1.heap.size (edgeTo l 0) from Box.new _ _ _)
    have HB0 := Lib.hid (HB1.out.alloc (.cells (bs 25 fun _ => false) 74))
    clear hb1
    go_wp2
    change Code.wp _ _ _ _ (w1.alloc (.cells (bs 25 fun _ => false) 74))
    generalize w1.alloc (.cells (bs 25 fun _ => false) 74) = W at *
    have HGW := Lib.hid HB1.out.size
    generalize w1.heap.size = G at *
    go_loopw [22] (fun t wr => ∃ i : Nat, i ≤ n ∧ t = .int .i64 i ∧ GBox wr G (edgeTo l i) ∧ Bel w wr) (fun t _ => n - (intOf t).toNat)
    case atStart => exact ⟨0, by omega, rfl, HG0.out, HB0.out⟩
    case round =>
      obtain ⟨i, hi, rfl, hg, hbr⟩ := hrel
      have HG := Lib.hid hg
      have HB := Lib.hid hbr
      clear hg hbr HG0 HB0
      by_cases hlt : i < n
      · obtain ⟨bb, off, e, rfl, hbb, he, hrg⟩ := (HL.out.bel HB.out).at_ hlt
        have hlt' : (i : Int) < n := by omega
        have hic : (i : Int) ≤ c := by omega
        have hR := Lib.hid hrg
        have HE := Lib.hid he
        have HW1 := Lib.hid (ewld_below wr e 35)
        have HB2 := Lib.hid (HB.out.trans HW1.out)
        have HG2 := Lib.hid (HG.out.bel HW1.out)
        obtain ⟨c0, c1, c2⟩ := ewld_cells wr e 35
        have F := Lib.hid (And.intro (fun (w' : World) (h : Bel (ewld wr e 35) w') => h.cell c0) (And.intro (fun (w' : World) (h : Bel (ewld wr e 35) w') => h.cell c1) (fun (w' : World) (h : Bel (ewld wr e 35) w') => h.cell c2)))
        clear hrg he hbb c1 c2
        cases h1 : (e.k == 3)
        · have HN := Lib.hid (edgeTo_no HE.out h1)
          go_wp2_with (first | (refine load_ev T36 _ rfl rfl rfl hR.out ?_) | (refine ewld_store T36 _ _ rfl rfl _ rfl rfl rfl ?_))
          go_roundw
          case rel => exact ⟨i + 1, by omega, by go_num, by rw [HN.out]; exact HG2.out, HB2.out⟩
          case measure => simp [intOf]; omega
        · have hk3 : e.k = 3 := eq_of_beq h1
          have hiv := wrong_isEv (((may_iff l).1 HM.out).2 i e HE.out)
          have ht := isEv_t hiv
          have ho := isEv_o hiv
          rw [hk3] at ho
          obtain ⟨o, hoe⟩ := Int.eq_ofNat_of_zero_le ho.1
          have ho5 : o < 5 := by have := ho.2; rw [hoe] at this; simp [nobj] at this; omega
          have HOE := Lib.hid hoe
          have HFL := Lib.hid (fun (w' : World) (h : GBox w' G (halfE l i o 5 e.t)) => halfE_full h HE.out h1 hoe)
          have HSL := Lib.hid (show Sl (ewld wr e 35) (some ⟨bb, off, none⟩) i (l.take i) from (HL.out.bel HB2.out).take (by omega))
          have HPH := Lib.hid (show ∀ w', Bel (ewld wr e 35) w' → Calls Try.prog 29 #[.slice (some ⟨bb, off, none⟩) i c, .int .i64 e.t] w' fun e' w2 => e' = .returned (.tuple #[.int .i64 (held (l.take i) e.t), .int .i64 0]) ∧ Below w'.heap.size w' w2 by
            intro w' hw'
            have h := held_any (some ⟨bb, off, none⟩) i c (l.take i) e.t w' (HSL.out.bel hw')
            have e9 : pheld (l.take i) e.t = (held (l.take i) e.t, 0) := by unfold pheld; rw [if_pos (may_take HM.out i), inB_yes ht.1 ht.2]; rfl
            rw [e9] at h
            exact h)
          have HX := Lib.hid (show Box (ewld wr e 35) wr.heap.size (evv e) 35 from ewld_box wr e _)
          have HGX := Lib.hid (show G < wr.heap.size from Box.lt HG.out)
          have HO5 := Lib.hid ho5
          clear hk3 hiv ht ho hoe ho5
          go_wp2_with (first | (refine load_ev T36 _ rfl rfl rfl hR.out ?_) | (refine ewld_store T36 _ _ rfl rfl _ rfl rfl rfl ?_))
          (refine region_bel (by kernel_rfl) (by kernel_rfl) ?_; (repeat (first | ((with_reducible refine BigFrame.wpQuiet_skip ?_ ?_); exact rfl; simp only [Act.put, Act.eval, List.setIfInBounds_toArray, List.set_cons_zero, List.set_cons_succ, Array.getD_eq_getD_getElem?, List.getElem?_toArray, List.getElem?_cons_zero, List.getElem?_cons_succ, Option.getD_some]) | (refine q_move _ rfl rfl ?_; simp only [Act.put, Act.eval, List.setIfInBounds_toArray, List.set_cons_zero, List.set_cons_succ, Array.getD_eq_getD_getElem?, List.getElem?_toArray, List.getElem?_cons_zero, List.getElem?_cons_succ, Option.getD_some]) | (refine q_assign _ rfl rfl ?_; simp only [Act.put, Act.eval, List.setIfInBounds_toArray, List.set_cons_zero, List.set_cons_succ, Array.getD_eq_getD_getElem?, List.getElem?_toArray, List.getElem?_cons_zero, List.getElem?_cons_succ, Option.getD_some]) | (refine q_any rfl ?_; apply Exists.intro; refine ⟨fun w hw => ?_, ?_⟩; (have fct0 := F.out.1 w hw; have fct1 := F.out.2.1 w hw; have fct2 := F.out.2.2 w hw; go_simp; first | exact ⟨rfl, rfl⟩ | rfl | (go_at_call 29; (with_reducible refine (HPH.out w hw).mono ?_); rintro e w' ⟨rfl, hb⟩; exact ⟨rfl, hw.call hb⟩)); simp only [Act.put, Act.eval, List.setIfInBounds_toArray, List.set_cons_zero, List.set_cons_succ, Array.getD_eq_getD_getElem?, List.getElem?_toArray, List.getElem?_cons_zero, List.getElem?_cons_succ, Option.getD_some]))); refine wpQuiet_nil ?_; intro w2 hw2)
          have HB3 := Lib.hid (HB2.out.trans hw2)
          have HG3 := Lib.hid (show GBox w2 G (halfE l i o 0 e.t) by rw [halfE_zero]; exact HG2.out.bel hw2)
          have HX3 := Lib.hid (hw2.box HX.out)
          generalize wr.heap.size = X at *
          rw [show (e.k != 3) = false by rw [bne, h1]; rfl]
          clear hw2 F HPH c0 h1
          go_wp2
          go_loopw [39] (fun t wq => ∃ m : Nat, m ≤ 5 ∧ t = .int .i64 m ∧ GBox wq G (halfE l i o m e.t) ∧ Box wq X (evv e) 35 ∧ Bel w wq) (fun t _ => 5 - (intOf t).toNat)
          case atStart => exact ⟨0, by omega, rfl, HG3.out, HX3.out, HB3.out⟩
          case round =>
            obtain ⟨m, hm5, rfl, hg, hx, hbq⟩ := hrel
            have HGQ := Lib.hid hg
            have HXQ := Lib.hid hx
            have HBQ := Lib.hid hbq
            clear hg hx hbq HG3 HX3 HB3
            by_cases hlm : m < 5
            · have hlm' : (m : Int) < 5 := by omega
              have hbit := held_bit (l.take i) e.t m hlm
              cases hb : decide (owner (l.take i) m = e.t)
              · rw [hb] at hbit
                have HN := Lib.hid (halfE_no (o := o) hb)
                clear hb
                go_wp2
                go_roundw
                case rel => exact ⟨m + 1, by omega, by go_num, by rw [HN.out]; exact HGQ.out, HXQ.out, HBQ.out⟩
                case measure => simp [intOf]; omega
              · rw [hb] at hbit
                have HN := Lib.hid (halfE_yes (o := o) hb)
                have co := HXQ.out.cell 2 (v := .int .i64 e.o) rfl
                rw [HOE.out] at co
                have ho' : (o : Int) < 5 := by have := HO5.out; omega
                have d0 := HGQ.out.cell hlm HO5.out
                have g0 := Box.frozen HGQ.out (m * 5 + o)
                have HLM := Lib.hid hlm
                clear hb
                go_wp2
                (refine wp_region_still_tail 5 (by kernel_rfl) (by kernel_rfl) ?_; simp only [List.take_succ_cons, List.take_zero, List.drop_succ_cons, List.drop_zero]; (repeat (first | ((with_reducible refine s_skip ?_ ?_); exact rfl; simp only [Act.put, Act.eval, List.setIfInBounds_toArray, List.set_cons_zero, List.set_cons_succ, Array.getD_eq_getD_getElem?, List.getElem?_toArray, List.getElem?_cons_zero, List.getElem?_cons_succ, Option.getD_some]) | ((with_reducible refine wpStill_step ?_); intro K hK; go_simp; (with_reducible refine hK _ ?_); clear hK K))); (with_reducible refine wpStill_nil ?_))
                change wpList _ _ _ _ _ (World.drew _)
                go_wp2
                go_roundw
                case rel => exact ⟨m + 1, by omega, by go_num, by rw [← HN.out]; exact GBox.set (HGQ.out.bel (Bel.refl _).drew) HLM.out HO5.out true, Box.set_ne (Box.bel HXQ.out (Bel.refl _).drew) _ _ (by have := HGX.out; simp; omega), Bel.of ((HBQ.out.trans (Bel.refl _).drew).out.setCell (by have := HGW.out; simp; omega) _)⟩
                case measure => simp [intOf]; omega
            · obtain rfl : m = 5 := by omega
              have HF5 := Lib.hid (HFL.out _ HGQ.out)
              go_wp2
              go_roundw
              case rel => exact ⟨i + 1, by omega, by go_num, HF5.out, HBQ.out⟩
              case measure => simp [intOf]; omega
      · obtain rfl : i = n := by omega
        have hg := HG.out
        have HE2 := Lib.hid (show GBox wr G (fun a b => edge l a b) from HG.out.congr fun a b _ => by rw [← HL.out.1]; exact edgeTo_all l a b)
        clear hg
        go_wp2_with fail
        refine (gpairs_any G _ wr HE2.out).mono ?_
        rintro e w2 ⟨v, rfl, ho, hb2⟩
        have HO := Lib.hid ho
        have HB3 := Lib.hid (HB.out.call hb2)
        have HZ := Lib.hid HB.out.size
        clear ho hb2
        go_wp2
        go_ret2
        exact ⟨HB3.out.out, .inr ⟨HM.out, v, rfl, own_drop_alloc HO.out HZ.out⟩⟩
  · have HM := Lib.hid hm
    have h1 : ((check l).2 != 0) = true := by rw [show (check l).2 = may l from rfl]; simpa using hm
    have HE := Lib.hid (show (check l).2 = may l from rfl)
    clear hm
    go_enter Try.func15, Try.ntmps15
    go_wp2_with fail
    refine HC.out.mono ?_
    rintro e w1 ⟨rfl, hb1⟩
    have HB1 := Lib.hid (Bel.of hb1)
    clear hb1
    go_wp2
    go_ret2
    exact ⟨HB1.out.out, .inl ⟨HM.out, rfl⟩⟩
def GphOk (w : World) (l : List Ev) (e : Ending) (w' : World) : Prop :=
  ∃ v, e = .returned (.tuple #[v, .int .i64 0]) ∧ w'.ownsRow w.heap.size 43 2 v (prsA (fun a b => edge l a b) 5).length (prc (prsA (fun a b => edge l a b) 5)) ∧ Below w.heap.size w w'
theorem graph_ok (A : Option Addr) (n c : Nat) (l : List Ev) (w : World) (hl : Sl w A n l) (hnc : n ≤ c) (hc : c ≤ 9223372036854775807) (hm : may l = 0) : Calls Try.prog 15 #[.slice A n c] w (GphOk w l) :=
  (graph_any A n c l w hl hnc hc).mono fun e w' ⟨hb, h⟩ => by
    rcases h with ⟨h, _⟩ | ⟨_, v, h1, h2⟩
    · exact absurd hm h
    · exact ⟨v, h1, h2, hb⟩
theorem graph_no (A : Option Addr) (n c : Nat) (l : List Ev) (w : World) (hl : Sl w A n l) (hnc : n ≤ c) (hc : c ≤ 9223372036854775807) (hm : may l ≠ 0) :
    Calls Try.prog 15 #[.slice A n c] w fun e w' => e = .returned (.tuple #[.slice none 0 0, .int .i64 (may l)]) ∧ Below w.heap.size w w' :=
  (graph_any A n c l w hl hnc hc).mono fun e w' ⟨hb, h⟩ => by
    rcases h with ⟨_, h⟩ | ⟨h, _⟩
    · exact ⟨h, hb⟩
    · exact absurd h hm
end Go.Proofs.Ytjindfkomnjceaa

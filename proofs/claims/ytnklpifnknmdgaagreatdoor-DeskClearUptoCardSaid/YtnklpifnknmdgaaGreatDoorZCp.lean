import Derived.Test.YtnklpifnknmdgaaGreatDoorZRfG
import Derived.Test.YtnklpifnknmdgaaGreatDoorZTrace4
import Derived.Test.YtnklpifnknmdgaaGreatDoorZRgS
import Derived.Test.YtnklpifnknmdgaaGreatDoorZOr
import Derived.Test.YtnklpifnknmdgaaGreatDoorRows
import Derived.WalkKit
import Derived.WalkSpells
import Derived.WalkLawsBesides
import Derived.Lib.Hide
import Derived.IntWalk
import Derived.Test.YtnklpifnknmdgaaGreatDoorZTr
import Derived.Test.YtnklpifnknmdgaaGreatDoorZGu
import Derived.Test.YtnklpifnknmdgaaGreatDoorZKeepTw
set_option linter.all false
set_option maxRecDepth 100000
namespace Go.Proofs.YtnklpifnknmdgaaGreatDoor
open Go Go.RowKit

def edgeTo (l : List Ev) (k : Nat) (a b : Nat) : Bool := (List.range k).any (edgeAt l a b)
theorem edgeTo_all (l : List Ev) (a b : Nat) : edgeTo l l.length a b = edge l a b := rfl
theorem edgeTo_succ (l : List Ev) (k a b : Nat) : edgeTo l (k + 1) a b = (edgeTo l k a b || edgeAt l a b k) := by simp [edgeTo, List.range_succ]
theorem edgeAt_no {l : List Ev} {k : Nat} {e : Ev} (he : l[k]? = some e) (h : (e.k == 3) = false) (a b : Int) : edgeAt l a b k = false := by unfold edgeAt; rw [evA_at he, h]; rfl
theorem edgeAt_yes {l : List Ev} {k o : Nat} {e : Ev} (he : l[k]? = some e) (h : (e.k == 3) = true) (ho : e.o = o) (a b : Nat) : edgeAt l a b k = (decide (b = o) && decide (owner (l.take k) a = e.t)) := by
  unfold edgeAt; rw [evA_at he, h, ho, Bool.eq_iff_iff]; simp; intro _; omega
def halfE (l : List Ev) (k o m : Nat) (t : Int) (a b : Nat) : Bool := edgeTo l k a b || (decide (a < m) && decide (b = o) && decide (owner (l.take k) a = t))
theorem halfE_zero (l : List Ev) (k o : Nat) (t : Int) : halfE l k o 0 t = edgeTo l k := by funext a b; simp [halfE]
theorem halfE_no {l : List Ev} {k o m : Nat} {t : Int} (h : decide (owner (l.take k) m = t) = false) : halfE l k o (m + 1) t = halfE l k o m t := by
  funext a b
  unfold halfE
  by_cases ha : a = m
  · subst ha; rw [h]; simp
  · congr 3
    exact decide_eq_decide.2 (by omega)
theorem halfE_yes {l : List Ev} {k o m : Nat} {t : Int} (h : decide (owner (l.take k) m = t) = true) : setP (halfE l k o m t) m o true = halfE l k o (m + 1) t := by
  funext a b
  unfold setP halfE
  by_cases hab : a = m ∧ b = o
  · rw [if_pos hab, hab.1, hab.2, h]; simp
  · rw [if_neg hab]
    by_cases ha : a = m
    · have hb : ¬ b = o := fun e => hab ⟨ha, e⟩
      simp [hb]
    · congr 3
      exact decide_eq_decide.2 (by omega)
theorem GBox.congr {w : World} {G : Nat} {P Q : Nat → Nat → Bool} (h : GBox w G P) (hq : ∀ a b, a < 5 → P a b = Q a b) : GBox w G Q := by
  have e : bs 25 (gcl P) = bs 25 (gcl Q) := bs_congr fun j hj => hq _ _ (by omega)
  unfold GBox at h ⊢
  rwa [e] at h
theorem halfE_full {w : World} {G : Nat} {l : List Ev} {k o : Nat} {e : Ev} (h : GBox w G (halfE l k o 5 e.t)) (he : l[k]? = some e) (h3 : (e.k == 3) = true) (ho : e.o = o) : GBox w G (edgeTo l (k + 1)) :=
  h.congr fun a b ha => by unfold halfE; rw [edgeTo_succ, edgeAt_yes he h3 ho]; simp [ha]
theorem edgeTo_no {l : List Ev} {k : Nat} {e : Ev} (he : l[k]? = some e) (h : (e.k == 3) = false) : edgeTo l (k + 1) = edgeTo l k := by
  funext a b; rw [edgeTo_succ, edgeAt_no he h, Bool.or_false]
theorem held_bit (l : List Ev) (k : Int) (q : Nat) (hq : q < 5) : (bits .and .i64 (held l k / 2 ^ q) 1 == 1) = decide (owner l q = k) := has_bit (fun q => decide (owner l q = k)) q hq
def GphPost (w : World) (l : List Ev) (e : Ending) (w' : World) : Prop :=
  Below w.heap.size w w' ∧ ((may l ≠ 0 ∧ e = .returned (.tuple #[.slice none 0 0, .int .i64 (may l)])) ∨
    (may l = 0 ∧ ∃ v, e = .returned (.tuple #[v, .int .i64 0]) ∧ w'.ownsRow w.heap.size 112 2 v (prsA (fun a b => edge l a b) 5).length (prc (prsA (fun a b => edge l a b) 5))))
set_option maxHeartbeats 8000000 in
theorem graph_any (A : Option Addr) (n c : Nat) (l : List Ev) (w : World) (hl : Sl w A n l) (hnc : n ≤ c) (hc : c ≤ 9223372036854775807) : Calls Tryz.prog 114 #[.slice A n c] w (GphPost w l) := by
  have HL := Lib.hid hl
  have HC := Lib.hid (check_any A n c l w hl)
  clear hl
  by_cases hm : may l = 0
  · have HM := Lib.hid hm
    have HC2 := HC.out
    rw [check_ok hm] at HC2
    have HC3 := Lib.hid HC2
    clear HC2 HC hm
    go_enter Tryz.func114, Tryz.ntmps114
    go_wp2_with fail
    refine HC3.out.mono ?_
    rintro e w1 ⟨rfl, hb1⟩
    have HB1 := Lib.hid (Bel.of hb1)
    have HG0 := Lib.hid (show GBox (w1.alloc (.cells (bs 25 fun _ => false) 204)) w1.heap.size (edgeTo l 0) from Box.new _ _ _)
    have HB0 := Lib.hid (HB1.out.alloc (.cells (bs 25 fun _ => false) 204))
    clear hb1
    go_wp2
    change Code.wp _ _ _ _ (w1.alloc (.cells (bs 25 fun _ => false) 204))
    generalize w1.alloc (.cells (bs 25 fun _ => false) 204) = W at *
    have HGW := Lib.hid HB1.out.size
    generalize w1.heap.size = G at *
    go_loopw [22] (fun t wr => ∃ i : Nat, i ≤ n ∧ t = .int .i64 i ∧ GBox wr G (edgeTo l i) ∧ Bel w wr) (fun t _ => n - (intOf t).toNat)
    case atStart => exact ⟨0, by omega, rfl, HG0.out, HB0.out⟩
    case round =>
      obtain ⟨i, hi, rfl, hg, hbr⟩ := hrel
      have HG := Lib.hid hg
      have HB := Lib.hid hbr
      clear hg hbr HG0 HB0
      by_cases hlt : i < n
      · obtain ⟨bb, off, e, rfl, hbb, he, hrg⟩ := (HL.out.bel HB.out).at_ hlt
        have hlt' : (i : Int) < n := by omega
        have hic : (i : Int) ≤ c := by omega
        have hR := Lib.hid hrg
        have HE := Lib.hid he
        have HW1 := Lib.hid (ewld_below wr e 45)
        have HB2 := Lib.hid (HB.out.trans HW1.out)
        have HG2 := Lib.hid (HG.out.bel HW1.out)
        obtain ⟨c0, c1, c2⟩ := ewld_cells wr e 45
        have F := Lib.hid (And.intro (fun (w' : World) (h : Bel (ewld wr e 45) w') => h.cell c0) (And.intro (fun (w' : World) (h : Bel (ewld wr e 45) w') => h.cell c1) (fun (w' : World) (h : Bel (ewld wr e 45) w') => h.cell c2)))
        clear hrg he hbb c1 c2
        cases h1 : (e.k == 3)
        · have HN := Lib.hid (edgeTo_no HE.out h1)
          go_wp2_with (first | (refine load_ev T36 _ rfl rfl rfl hR.out ?_) | (refine ewld_store T36 _ _ rfl rfl _ rfl rfl rfl ?_))
          go_roundw
          case rel => exact ⟨i + 1, by omega, by go_num, by rw [HN.out]; exact HG2.out, HB2.out⟩
          case measure => simp [intOf]; omega
        · have hk3 : e.k = 3 := eq_of_beq h1
          have hiv := wrong_isEv (((may_iff l).1 HM.out).2 i e HE.out)
          have ht := isEv_t hiv
          have ho := isEv_o hiv
          rw [hk3] at ho
          obtain ⟨o, hoe⟩ := Int.eq_ofNat_of_zero_le ho.1
          have ho5 : o < 5 := by have := ho.2; rw [hoe] at this; simp [nobj] at this; omega
          have HOE := Lib.hid hoe
          have HFL := Lib.hid (fun (w' : World) (h : GBox w' G (halfE l i o 5 e.t)) => halfE_full h HE.out h1 hoe)
          have HSL := Lib.hid (show Sl (ewld wr e 45) (some ⟨bb, off, none⟩) i (l.take i) from (HL.out.bel HB2.out).take (by omega))
          have HPH := Lib.hid (show ∀ w', Bel (ewld wr e 45) w' → Calls Tryz.prog 147 #[.slice (some ⟨bb, off, none⟩) i c, .int .i64 e.t] w' fun e' w2 => e' = .returned (.tuple #[.int .i64 (held (l.take i) e.t), .int .i64 0]) ∧ Below w'.heap.size w' w2 by
            intro w' hw'
            have h := held_any (some ⟨bb, off, none⟩) i c (l.take i) e.t w' (HSL.out.bel hw')
            have e9 : pheld (l.take i) e.t = (held (l.take i) e.t, 0) := by unfold pheld; rw [if_pos (may_take HM.out i), inB_yes ht.1 ht.2]; rfl
            rw [e9] at h
            exact h)
          have HX := Lib.hid (show Box (ewld wr e 45) wr.heap.size (evv e) 45 from ewld_box wr e _)
          have HGX := Lib.hid (show G < wr.heap.size from Box.lt HG.out)
          have HO5 := Lib.hid ho5
          clear hk3 hiv ht ho hoe ho5
          go_wp2_with (first | (refine load_ev T36 _ rfl rfl rfl hR.out ?_) | (refine ewld_store T36 _ _ rfl rfl _ rfl rfl rfl ?_))
          (refine region_bel (by kernel_rfl) (by kernel_rfl) ?_; (repeat (first | ((with_reducible refine BigFrame.wpQuiet_skip ?_ ?_); exact rfl; simp only [Act.put, Act.eval, List.setIfInBounds_toArray, List.set_cons_zero, List.set_cons_succ, Array.getD_eq_getD_getElem?, List.getElem?_toArray, List.getElem?_cons_zero, List.getElem?_cons_succ, Option.getD_some]) | (refine q_move _ rfl rfl ?_; simp only [Act.put, Act.eval, List.setIfInBounds_toArray, List.set_cons_zero, List.set_cons_succ, Array.getD_eq_getD_getElem?, List.getElem?_toArray, List.getElem?_cons_zero, List.getElem?_cons_succ, Option.getD_some]) | (refine q_assign _ rfl rfl ?_; simp only [Act.put, Act.eval, List.setIfInBounds_toArray, List.set_cons_zero, List.set_cons_succ, Array.getD_eq_getD_getElem?, List.getElem?_toArray, List.getElem?_cons_zero, List.getElem?_cons_succ, Option.getD_some]) | (refine q_any rfl ?_; apply Exists.intro; refine ⟨fun w hw => ?_, ?_⟩; (have fct0 := F.out.1 w hw; have fct1 := F.out.2.1 w hw; have fct2 := F.out.2.2 w hw; go_simp; first | exact ⟨rfl, rfl⟩ | rfl | (go_at_call 147; (with_reducible refine (HPH.out w hw).mono ?_); rintro e w' ⟨rfl, hb⟩; exact ⟨rfl, hw.call hb⟩)); simp only [Act.put, Act.eval, List.setIfInBounds_toArray, List.set_cons_zero, List.set_cons_succ, Array.getD_eq_getD_getElem?, List.getElem?_toArray, List.getElem?_cons_zero, List.getElem?_cons_succ, Option.getD_some]))); refine wpQuiet_nil ?_; intro w2 hw2)
          have HB3 := Lib.hid (HB2.out.trans hw2)
          have HG3 := Lib.hid (show GBox w2 G (halfE l i o 0 e.t) by rw [halfE_zero]; exact HG2.out.bel hw2)
          have HX3 := Lib.hid (hw2.box HX.out)
          generalize wr.heap.size = X at *
          rw [show (e.k != 3) = false by rw [bne, h1]; rfl]
          clear hw2 F HPH c0 h1
          go_wp2
          go_loopw [39] (fun t wq => ∃ m : Nat, m ≤ 5 ∧ t = .int .i64 m ∧ GBox wq G (halfE l i o m e.t) ∧ Box wq X (evv e) 45 ∧ Bel w wq) (fun t _ => 5 - (intOf t).toNat)
          case atStart => exact ⟨0, by omega, rfl, HG3.out, HX3.out, HB3.out⟩
          case round =>
            obtain ⟨m, hm5, rfl, hg, hx, hbq⟩ := hrel
            have HGQ := Lib.hid hg
            have HXQ := Lib.hid hx
            have HBQ := Lib.hid hbq
            clear hg hx hbq HG3 HX3 HB3
            by_cases hlm : m < 5
            · have hlm' : (m : Int) < 5 := by omega
              have hbit := held_bit (l.take i) e.t m hlm
              cases hb : decide (owner (l.take i) m = e.t)
              · rw [hb] at hbit
                have HN := Lib.hid (halfE_no (o := o) hb)
                clear hb
                go_wp2
                go_roundw
                case rel => exact ⟨m + 1, by omega, by go_num, by rw [HN.out]; exact HGQ.out, HXQ.out, HBQ.out⟩
                case measure => simp [intOf]; omega
              · rw [hb] at hbit
                have HN := Lib.hid (halfE_yes (o := o) hb)
                have co := HXQ.out.cell 2 (v := .int .i64 e.o) rfl
                rw [HOE.out] at co
                have ho' : (o : Int) < 5 := by have := HO5.out; omega
                have d0 := HGQ.out.cell hlm HO5.out
                have g0 := Box.frozen HGQ.out (m * 5 + o)
                have HLM := Lib.hid hlm
                clear hb
                go_wp2
                (refine wp_region_still_tail 5 (by kernel_rfl) (by kernel_rfl) ?_; simp only [List.take_succ_cons, List.take_zero, List.drop_succ_cons, List.drop_zero]; (repeat (first | ((with_reducible refine s_skip ?_ ?_); exact rfl; simp only [Act.put, Act.eval, List.setIfInBounds_toArray, List.set_cons_zero, List.set_cons_succ, Array.getD_eq_getD_getElem?, List.getElem?_toArray, List.getElem?_cons_zero, List.getElem?_cons_succ, Option.getD_some]) | ((with_reducible refine wpStill_step ?_); intro K hK; go_simp; (with_reducible refine hK _ ?_); clear hK K))); (with_reducible refine wpStill_nil ?_))
                change wpList _ _ _ _ _ (World.drew _)
                go_wp2
                go_roundw
                case rel => exact ⟨m + 1, by omega, by go_num, by rw [← HN.out]; exact GBox.set (HGQ.out.bel (Bel.refl _).drew) HLM.out HO5.out true, Box.set_ne (Box.bel HXQ.out (Bel.refl _).drew) _ _ (by have := HGX.out; simp; omega), Bel.of ((HBQ.out.trans (Bel.refl _).drew).out.setCell (by have := HGW.out; simp; omega) _)⟩
                case measure => simp [intOf]; omega
            · obtain rfl : m = 5 := by omega
              have HF5 := Lib.hid (HFL.out _ HGQ.out)
              go_wp2
              go_roundw
              case rel => exact ⟨i + 1, by omega, by go_num, HF5.out, HBQ.out⟩
              case measure => simp [intOf]; omega
      · obtain rfl : i = n := by omega
        have hg := HG.out
        have HE2 := Lib.hid (show GBox wr G (fun a b => edge l a b) from HG.out.congr fun a b _ => by rw [← HL.out.1]; exact edgeTo_all l a b)
        clear hg
        go_wp2_with fail
        refine (gpairs_any G _ wr HE2.out).mono ?_
        rintro e w2 ⟨v, rfl, ho, hb2⟩
        have HO := Lib.hid ho
        have HB3 := Lib.hid (HB.out.call hb2)
        have HZ := Lib.hid HB.out.size
        clear ho hb2
        go_wp2
        go_ret2
        exact ⟨HB3.out.out, .inr ⟨HM.out, v, rfl, own_drop_alloc HO.out HZ.out⟩⟩
  · have HM := Lib.hid hm
    have h1 : ((check l).2 != 0) = true := by rw [show (check l).2 = may l from rfl]; simpa using hm
    have HE := Lib.hid (show (check l).2 = may l from rfl)
    clear hm
    go_enter Tryz.func114, Tryz.ntmps114
    go_wp2_with fail
    refine HC.out.mono ?_
    rintro e w1 ⟨rfl, hb1⟩
    have HB1 := Lib.hid (Bel.of hb1)
    clear hb1
    go_wp2
    go_ret2
    exact ⟨HB1.out.out, .inl ⟨HM.out, rfl⟩⟩
def GphOk (w : World) (l : List Ev) (e : Ending) (w' : World) : Prop :=
  ∃ v, e = .returned (.tuple #[v, .int .i64 0]) ∧ w'.ownsRow w.heap.size 112 2 v (prsA (fun a b => edge l a b) 5).length (prc (prsA (fun a b => edge l a b) 5)) ∧ Below w.heap.size w w'
theorem graph_ok (A : Option Addr) (n c : Nat) (l : List Ev) (w : World) (hl : Sl w A n l) (hnc : n ≤ c) (hc : c ≤ 9223372036854775807) (hm : may l = 0) : Calls Tryz.prog 114 #[.slice A n c] w (GphOk w l) :=
  (graph_any A n c l w hl hnc hc).mono fun e w' ⟨hb, h⟩ => by
    rcases h with ⟨h, _⟩ | ⟨_, v, h1, h2⟩
    · exact absurd hm h
    · exact ⟨v, h1, h2, hb⟩
end Go.Proofs.YtnklpifnknmdgaaGreatDoor
set_option linter.all false
set_option maxRecDepth 100000
namespace Go.Proofs.YtnklpifnknmdgaaGreatDoor
open Go Go.RowKit

theorem isLock_any (a : Int) (w : World) : Calls Tryz.prog 177 #[.int .i64 a] w fun e w' => e = .returned (.bool (inB a 5)) ∧ w = w' := by
  by_cases h0 : 0 ≤ a
  · by_cases h1 : a < 5
    · go_enter Tryz.func177, Tryz.ntmps177
      go_wp2
      go_ret
      exact ⟨by rw [inB_yes h0 h1]; rfl, rfl⟩
    · go_enter Tryz.func177, Tryz.ntmps177
      go_wp2
      go_ret
      exact ⟨by rw [inB_no (by omega)]; rfl, rfl⟩
  · go_enter Tryz.func177, Tryz.ntmps177
    go_wp2
    go_ret
    exact ⟨by rw [inB_no (by omega)]; rfl, rfl⟩
theorem qbad_in (x : Int × Int) : qbad x = !(inB x.1 5 && inB x.2 5) := by
  rw [Bool.eq_iff_iff]; simp [qbad, outs, inB]; omega
theorem pq_nil : Pq [] = fun _ _ => false := by funext a b; simp [Pq]
theorem pq_snoc (l : List (Int × Int)) (a b : Nat) : Pq (l ++ [((a : Int), (b : Int))]) = setP (Pq l) a b true := by
  funext x y
  unfold setP
  by_cases h : x = a ∧ y = b
  · rw [if_pos h, h.1, h.2]; simp [Pq]
  · rw [if_neg h]
    unfold Pq
    congr 1
    rw [List.mem_append, List.mem_singleton, Prod.mk.injEq]
    apply propext
    constructor
    · rintro (h9 | h9)
      · exact h9
      · exact absurd ⟨by omega, by omega⟩ h
    · exact .inl
structure RgoR (w : World) (l : List (Int × Int)) (i : Nat) (wr : World) : Prop where
  ok : (l.take i).any qbad = false
  res : Box wr w.heap.size (bs 25 fun _ => false) 204
  now : GBox wr (w.heap.size + 1) (Pq (l.take i))
  bel : Bel w wr
def GoB (l : List (Int × Int)) (e : Ending) : Prop :=
  (l.any qbad = true ∧ e = .returned (.tuple #[.agg (bs 25 fun _ => false), .int .i64 1])) ∨ (l.any qbad = false ∧ e = .returned (.tuple #[.agg (bs 25 (gcl (Pq l))), .int .i64 0]))
set_option maxHeartbeats 8000000 in
theorem graphOf_any (A : Option Addr) (n c : Nat) (l : List (Int × Int)) (w : World) (h : SlQ w A n l) (hnc : n ≤ c) (hc : c ≤ maxLen) : Calls Tryz.prog 145 #[.slice A n c] w fun e w' => GoB l e ∧ Below w.heap.size w w' := by
  obtain ⟨b1, b2, hB, hs⟩ := boxes2 w (bs 25 fun _ => false) (bs 25 fun _ => false) 204 204
  have H0 := Lib.hid (RgoR.mk (w := w) (l := l) (i := 0) rfl b1 (by rw [List.take_zero, pq_nil]; exact b2) (Bel.of hB))
  have HL := Lib.hid h
  unfold maxLen at hc
  clear b1 b2 hB hs h
  go_enter Tryz.func145, Tryz.ntmps145
  go_wp2
  change Code.wp _ _ _ _ ((w.alloc (.cells (bs 25 fun _ => false) 204)).alloc (.cells (bs 25 fun _ => false) 204))
  generalize ((w.alloc (.cells (bs 25 fun _ => false) 204)).alloc (.cells (bs 25 fun _ => false) 204)) = W at *
  go_loopw [9] (fun t wr => ∃ i : Nat, i ≤ n ∧ t = .int .i64 i ∧ RgoR w l i wr) (fun t _ => n - (intOf t).toNat)
  case atStart => exact ⟨0, by omega, rfl, H0.out⟩
  case round =>
    obtain ⟨i, hi, rfl, hr⟩ := hrel
    have HR := Lib.hid hr
    clear hr H0
    by_cases hlt : i < n
    · obtain ⟨bb, off, ⟨x, y⟩, rfl, hbb, he, hrg⟩ := (HL.out.bel HR.out.bel).at_ hlt
      have hlt' : (i : Int) < n := by omega
      have hic : (i : Int) ≤ c := by omega
      have HRG := Lib.hid hrg
      have HE := Lib.hid he
      have HT := Lib.hid (show l.take (i + 1) = l.take i ++ [(x, y)] by rw [List.take_add_one, he]; rfl)
      have HX := Lib.hid (qwld_box wr (x, y) 112)
      have HBW := Lib.hid (HR.out.bel.trans (qwld_below wr (x, y) 112))
      have c0 := HX.out.cell 0 (v := .int .i64 x) rfl
      have c1 := HX.out.cell 1 (v := .int .i64 y) rfl
      have HRS := Lib.hid ((qwld_below wr (x, y) 112).box HR.out.res)
      have HNW := Lib.hid (HR.out.now.bel (qwld_below wr (x, y) 112))
      clear hrg he hbb
      cases hb : (inB x 5 && inB y 5)
      · have HBAD := Lib.hid (show l.any qbad = true by
          rw [List.any_eq_true]
          exact ⟨(x, y), List.mem_of_getElem? HE.out, by rw [qbad_in, hb]; rfl⟩)
        cases hx : inB x 5
        · clear hb
          have hres := HRS.out
          go_wp2_with (first | (refine load_qr TPr _ rfl rfl rfl HRG.out ?_) | (refine qwld_store TPr _ _ rfl rfl _ rfl rfl rfl ?_) | (go_at_call 177; (with_reducible refine (isLock_any _ _).mono ?_); rintro e w' ⟨rfl, rfl⟩) | (refine storeB (c' := bs 25 fun _ => false) _ _ _ rfl rfl rfl rfl hres rfl (by rw [bs_size]; exact TGr) (bs_all _ _) ?_))
          refine bodyPost_ret (res_ct Tryz.results145 rfl (hres.setRow (bs 25 fun _ => false)) (by rw [bs_size]; exact TGr)) rfl ⟨.inl ⟨HBAD.out, rfl⟩, ?_⟩
          exact below_setRow' HBW.out.out _ _ (Nat.le_refl _)
        · have hy : inB y 5 = false := by rw [hx] at hb; simpa using hb
          have hres := HRS.out
          clear hb
          go_wp2_with (first | (refine load_qr TPr _ rfl rfl rfl HRG.out ?_) | (refine qwld_store TPr _ _ rfl rfl _ rfl rfl rfl ?_) | (go_at_call 177; (with_reducible refine (isLock_any _ _).mono ?_); rintro e w' ⟨rfl, rfl⟩) | (refine storeB (c' := bs 25 fun _ => false) _ _ _ rfl rfl rfl rfl hres rfl (by rw [bs_size]; exact TGr) (bs_all _ _) ?_))
          refine bodyPost_ret (res_ct Tryz.results145 rfl (hres.setRow (bs 25 fun _ => false)) (by rw [bs_size]; exact TGr)) rfl ⟨.inl ⟨HBAD.out, rfl⟩, ?_⟩
          exact below_setRow' HBW.out.out _ _ (Nat.le_refl _)
      · have hxy : inB x 5 = true ∧ inB y 5 = true := by simpa using hb
        obtain ⟨hx, hy⟩ := hxy
        obtain ⟨a, rfl⟩ := Int.eq_ofNat_of_zero_le (inB_iff.1 hx).1
        obtain ⟨b, rfl⟩ := Int.eq_ofNat_of_zero_le (inB_iff.1 hy).1
        have ha : a < 5 := by have := (inB_iff.1 hx).2; omega
        have hb5 : b < 5 := by have := (inB_iff.1 hy).2; omega
        have ha' : (a : Int) < 5 := by omega
        have hb' : (b : Int) < 5 := by omega
        have HGB := Lib.hid (show qbad ((a : Int), (b : Int)) = false by rw [qbad_in, hb]; rfl)
        have d0 := HNW.out.cell ha hb5
        have g0 := Box.frozen HNW.out (a * 5 + b)
        have HA := Lib.hid ha
        have HB5 := Lib.hid hb5
        clear hb ha hb5
        go_wp2_with (first | (refine load_qr TPr _ rfl rfl rfl HRG.out ?_) | (refine qwld_store TPr _ _ rfl rfl _ rfl rfl rfl ?_) | (go_at_call 177; (with_reducible refine (isLock_any _ _).mono ?_); rintro e w' ⟨rfl, rfl⟩))
        (refine wp_region_still_tail 6 (by kernel_rfl) (by kernel_rfl) ?_; simp only [List.take_succ_cons, List.take_zero, List.drop_succ_cons, List.drop_zero]; (repeat (first | ((with_reducible refine s_skip ?_ ?_); exact rfl; simp only [Act.put, Act.eval, List.setIfInBounds_toArray, List.set_cons_zero, List.set_cons_succ, Array.getD_eq_getD_getElem?, List.getElem?_toArray, List.getElem?_cons_zero, List.getElem?_cons_succ, Option.getD_some]) | ((with_reducible refine wpStill_step ?_); intro K hK; go_simp; (with_reducible refine hK _ ?_); clear hK K))); (with_reducible refine wpStill_nil ?_))
        change wpList _ _ _ _ _ (World.drew _)
        go_wp2
        go_roundw
        case rel => exact ⟨i + 1, by omega, by go_num, ⟨by rw [HT.out, List.any_append, HR.out.ok, List.any_cons, HGB.out]; rfl, Box.set_ne (Box.bel HRS.out (Bel.refl _).drew) _ _ (by simp), by rw [HT.out, pq_snoc]; exact GBox.set (HNW.out.bel (Bel.refl _).drew) HA.out HB5.out true, Bel.of ((HBW.out.trans (Bel.refl _).drew).out.setCell (by simp) _)⟩⟩
        case measure => simp [intOf]; omega
    · obtain rfl : i = n := by omega
      have ht : l.take i = l := List.take_of_length_le (by rw [HL.out.1]; exact Nat.le_refl _)
      have hok := HR.out.ok
      have hnow := HR.out.now
      rw [ht] at hok hnow
      have HOK := Lib.hid hok
      have HS := Lib.hid (show (bs 25 (gcl (Pq l))).size = 25 from bs_size _ _)
      have hres := HR.out.res
      clear ht hok
      go_wp2_with (first | (refine loadB _ _ rfl rfl rfl hnow (by rw [bs_size]; exact TGr) ?_) | (refine storeB _ _ _ rfl rfl rfl rfl hres (by rw [bs_size, bs_size]) (by rw [bs_size]; exact TGr) (bs_all _ _) ?_))
      refine bodyPost_ret (res_ct Tryz.results145 rfl (hres.setRow (bs 25 (gcl (Pq l)))) (by rw [bs_size]; exact TGr)) rfl ⟨.inr ⟨HOK.out, rfl⟩, ?_⟩
      exact below_setRow' HR.out.bel.out _ _ (Nat.le_refl _)
end Go.Proofs.YtnklpifnknmdgaaGreatDoor
set_option linter.all false
set_option maxRecDepth 100000
namespace Go.Proofs.YtnklpifnknmdgaaGreatDoor
open Go Go.RowKit

def edL (l : List Ev) : List (Int × Int) := (prsA (fun a b => edge l a b) 5).map intp
theorem edL_mem {l : List Ev} {x : Int × Int} : x ∈ edL l ↔ ∃ a b : Nat, x = ((a : Int), (b : Int)) ∧ a < 5 ∧ b < 5 ∧ edge l a b = true := by
  unfold edL
  rw [List.mem_map]
  constructor
  · rintro ⟨⟨a, b⟩, hp, rfl⟩
    obtain ⟨h1, h2, h3⟩ := mem_prsA.1 hp
    exact ⟨a, b, rfl, h1, h2, h3⟩
  · rintro ⟨a, b, rfl, h1, h2, h3⟩
    exact ⟨(a, b), mem_prsA.2 ⟨h1, h2, h3⟩, rfl⟩
theorem edL_in (l : List Ev) : (edL l).any qbad = false := by
  rw [List.any_eq_false]
  intro x hx
  obtain ⟨a, b, rfl, h1, h2, _⟩ := edL_mem.1 hx
  rw [qbad_in, inB_yes (by omega) (by omega), inB_yes (by omega) (by omega)]
  simp
def GphQ (w : World) (l : List Ev) (e : Ending) (w' : World) : Prop :=
  ∃ A c, e = .returned (.tuple #[.slice A (edL l).length c, .int .i64 0]) ∧ SlQ w' A (edL l).length (edL l) ∧ (edL l).length ≤ c ∧ c ≤ maxLen ∧ Below w.heap.size w w'
theorem graph_q (A : Option Addr) (n c : Nat) (l : List Ev) (w : World) (hl : Sl w A n l) (hnc : n ≤ c) (hc : c ≤ 9223372036854775807) (hm : may l = 0) : Calls Tryz.prog 114 #[.slice A n c] w (GphQ w l) :=
  (graph_ok A n c l w hl hnc hc hm).mono fun e w' ⟨v, h1, h2, h3⟩ => by
    rw [prc_qrc] at h2
    obtain ⟨A1, c1, rfl, hs, hn, hm⟩ := SlQ.own h2
    have e : (prsA (fun a b => edge l a b) 5).length = (edL l).length := by unfold edL; rw [List.length_map]
    rw [e] at h1 hs hn
    exact ⟨A1, c1, h1, hs, hn, hm, h3⟩

end Go.Proofs.YtnklpifnknmdgaaGreatDoor
set_option linter.all false
set_option maxRecDepth 100000
namespace Go.Proofs.YtnklpifnknmdgaaGreatDoor
open Go Go.RowKit

end Go.Proofs.YtnklpifnknmdgaaGreatDoor
set_option linter.all false
set_option maxRecDepth 100000
namespace Go.Proofs.YtnklpifnknmdgaaGreatDoor
open Go Go.RowKit

def Ok (l : List Ev) : Prop := may l = 0 ∧ rcs l ≠ []
theorem rc_ex {l : List Ev} : rcsA l ≠ [] ↔ ∃ a b, a < l.length ∧ b < l.length ∧ racB l a b = true := by
  unfold rcsA
  constructor
  · intro h
    obtain ⟨p, hp⟩ := List.exists_mem_of_ne_nil _ (fun e => h (by rw [e]; rfl) : prsA (racB l) l.length ≠ [])
    exact ⟨p.1, p.2, mem_prsA.1 hp⟩
  · rintro ⟨a, b, h1, h2, h3⟩ e
    have : (a, b) ∈ prsA (racB l) l.length := mem_prsA.2 ⟨h1, h2, h3⟩
    rw [List.map_eq_nil_iff.1 e] at this
    cases this
theorem ok_iff {l : List Ev} : Ok l ↔ may l = 0 ∧ ∃ a b, a < l.length ∧ b < l.length ∧ racB l a b = true := by
  unfold Ok
  constructor
  · rintro ⟨h1, h2⟩; rw [rcs_ok h1, rc_ex] at h2; exact ⟨h1, h2⟩
  · rintro ⟨h1, h2⟩; exact ⟨h1, by rw [rcs_ok h1, rc_ex]; exact h2⟩
inductive Red : List Ev → Nat → List Ev → Prop
  | done {l : List Ev} {i : Nat} : (∀ j, j < l.length → ¬ Ok (l.eraseIdx j)) → Red l i l
  | rem {l : List Ev} {i : Nat} {m : List Ev} : i < l.length → Ok (l.eraseIdx i) → Red (l.eraseIdx i) i m → Red l i m
  | skip {l : List Ev} {i : Nat} {m : List Ev} : i < l.length → ¬ Ok (l.eraseIdx i) → Red l (i + 1) m → Red l i m
  | wrap {l : List Ev} {i : Nat} {m : List Ev} : l.length ≤ i → Red l 0 m → Red l i m
def Bare (l : List Ev) : Prop := ∀ j, j < l.length → ¬ Ok (l.eraseIdx j)
theorem Red.stop {l : List Ev} {i : Nat} {m : List Ev} (h : Red l i m) (hb : Bare l) : m = l := by
  induction h with
  | done => rfl
  | rem h1 h2 _ _ => exact absurd h2 (hb _ h1)
  | skip _ _ _ ih => exact ih hb
  | wrap _ _ ih => exact ih hb
theorem Red.uniq {l : List Ev} {i : Nat} {m m' : List Ev} (h : Red l i m) (k : Red l i m') : m = m' := by
  induction h with
  | done h => exact (k.stop h).symm
  | @rem l i m h1 h2 h3 ih =>
    cases k with
    | done g => exact absurd h2 (g _ h1)
    | rem _ _ g => exact ih g
    | skip _ g _ => exact absurd h2 g
    | wrap g _ => omega
  | @skip l i m h1 h2 h3 ih =>
    cases k with
    | done g => exact h3.stop g
    | rem _ g _ => exact absurd g h2
    | skip _ _ g => exact ih g
    | wrap g _ => omega
  | @wrap l i m h1 h2 ih =>
    cases k with
    | done g => exact h2.stop g
    | rem g _ _ => omega
    | skip g _ _ => omega
    | wrap _ g => exact ih g
theorem Red.sub {l : List Ev} {i : Nat} {m : List Ev} (h : Red l i m) : m.Sublist l := by
  induction h with
  | done => exact List.Sublist.refl _
  | rem _ _ _ ih => exact ih.trans (List.eraseIdx_sublist ..)
  | skip _ _ _ ih => exact ih
  | wrap _ _ ih => exact ih
end Go.Proofs.YtnklpifnknmdgaaGreatDoor
set_option linter.all false
set_option maxRecDepth 100000
namespace Go.Proofs.YtnklpifnknmdgaaGreatDoor
open Go Go.RowKit

end Go.Proofs.YtnklpifnknmdgaaGreatDoor
set_option linter.all false
set_option maxRecDepth 100000
namespace Go.Proofs.YtnklpifnknmdgaaGreatDoor
open Go Go.RowKit

end Go.Proofs.YtnklpifnknmdgaaGreatDoor
namespace Go.Proofs.YtnklpifnknmdgaaGreatDoor
open Go Go.RowKit

end Go.Proofs.YtnklpifnknmdgaaGreatDoor
namespace Go.Proofs.YtnklpifnknmdgaaGreatDoor
open Go Go.RowKit

end Go.Proofs.YtnklpifnknmdgaaGreatDoor
namespace Go.Proofs.YtnklpifnknmdgaaGreatDoor
open Go Go.RowKit

end Go.Proofs.YtnklpifnknmdgaaGreatDoor
namespace Go.Proofs.YtnklpifnknmdgaaGreatDoor
open Go Go.RowKit

end Go.Proofs.YtnklpifnknmdgaaGreatDoor
namespace Go.Proofs.YtnklpifnknmdgaaGreatDoor
open Go Go.RowKit

end Go.Proofs.YtnklpifnknmdgaaGreatDoor
set_option linter.all false
set_option maxRecDepth 100000
namespace Go.Proofs.YtnklpifnknmdgaaGreatDoor
open Go Go.RowKit

end Go.Proofs.YtnklpifnknmdgaaGreatDoor
namespace Go.Proofs.YtnklpifnknmdgaaGreatDoor
open Go Go.RowKit

end Go.Proofs.YtnklpifnknmdgaaGreatDoor
namespace Go.Proofs.YtnklpifnknmdgaaGreatDoor
open Go Go.RowKit

end Go.Proofs.YtnklpifnknmdgaaGreatDoor
namespace Go.Proofs.YtnklpifnknmdgaaGreatDoor
open Go Go.RowKit

end Go.Proofs.YtnklpifnknmdgaaGreatDoor
namespace Go.Proofs.YtnklpifnknmdgaaGreatDoor
open Go Go.RowKit

end Go.Proofs.YtnklpifnknmdgaaGreatDoor
namespace Go.Proofs.YtnklpifnknmdgaaGreatDoor
open Go Go.RowKit

end Go.Proofs.YtnklpifnknmdgaaGreatDoor
namespace Go.Proofs.YtnklpifnknmdgaaGreatDoor
open Go Go.RowKit

end Go.Proofs.YtnklpifnknmdgaaGreatDoor
set_option linter.all false
set_option maxRecDepth 100000
namespace Go.Proofs.YtnklpifnknmdgaaGreatDoor
open Go Go.RowKit

end Go.Proofs.YtnklpifnknmdgaaGreatDoor
set_option linter.all false
set_option maxRecDepth 100000
namespace Go.Proofs.YtnklpifnknmdgaaGreatDoor
open Go Go.RowKit

end Go.Proofs.YtnklpifnknmdgaaGreatDoor
set_option linter.all false
set_option maxRecDepth 100000
namespace Go.Proofs.YtnklpifnknmdgaaGreatDoor
open Go Go.RowKit

theorem wpList_append_srcE {P : Program} {ops : Array Oper} {rest : List Oper} {o : Oper} {a : Act} {w : World} {Q : Exit → Act → World → Prop} (hgd : o.guard = none) (s x : Operand) (t : TypeId)
    (ho : o.op = .call { callee := .builtin .append, args := #[s, x], argTypes := #[t, t] })
    (base : Nat) (e : TypeId) (i : TypeInfo) (z : Value) (size bytes : Nat) (ht : P.underlying t = some (.slice e)) (hi : P.info? e = some i) (hz : i.zero = some z)
    (hsize : i.size = size) (hby : i.bytes = bytes) (hzs : z.cells.size = size) (hsz : 0 < size)
    (v : Value) (n : Nat) (xs : List Value) (hv : a.eval s = v) (hown : w.ownsRow base e size v n xs)
    (A : Option Addr) (m c : Nat) (news : List Value) (hx : a.eval x = .slice A m c) (hl : news.length = m * size) (hs : Src w A m news) (h1 : ∀ u ∈ news, u.oneCell' = true)
    (h63 : n + m ≤ maxLen) (hbytes : (n + m) * bytes ≤ 140737488355328) (hbase : base ≤ w.heap.size)
    (h : ∀ v' w', w'.ownsRow base e size v' (n + m) (xs ++ news) → w.grownBy w' v.ownBlock → (v'.ownBlock = v.ownBlock ∨ v'.ownBlock = some w.heap.size) → wpList P ops Q rest (a.put o.dst v') w') : wpList P ops Q (o :: rest) a w :=
  wpList_plain hgd fun _ hK => wp_append_src s x t ho base e i z size bytes ht hi hz hsize hby hzs hsz v n xs hv hown A m c news hx hl hs h1 h63 hbytes hbase (fun v' w' a b c => hK _ _ (h v' w' a b c))
def CpPost (w : World) (n : Nat) (l : List Ev) (e : Ending) (w' : World) : Prop := ∃ v, e = .returned v ∧ w'.ownsRow w.heap.size 45 3 v n (evc l) ∧ Below w.heap.size w w'
end Go.Proofs.YtnklpifnknmdgaaGreatDoor

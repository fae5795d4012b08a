/- 'deadheatkeep.BoardOwn' returns true for every input and leaves its arguments as they are. No condition. -/
import Derived.Test.YtindncbckdmjdaaOpen
import Derived.Test.YtindncbckdmjdaaBdT
import Derived.Test.YtindncbckdmjdaaEqEv
import Derived.Test.YtindncbckdmjdaaCp
import Derived.Test.YtindncbckdmjdaaGrowU
set_option linter.all false
set_option maxRecDepth 100000
namespace Go.Proofs.Ytindncbckdmjdaa.LBoardOwn
open Go Go.ChangeShapes Go.WideShapes Go.ChangeAt Go.RowKit

theorem store_to {P : Program} {ops : Array Oper} {rest : List Oper} {op : Oper} {a : Act} {w wz : World} {Q : Exit → Act → World → Prop} (hgd : op.guard = none) (ty : TypeId) (x y : Operand) (ho : op.op = .store ty x y)
    (b o : Nat) (cells : Array Value) (hx : a.eval x = .pointer (some ⟨b, o, none⟩)) (hy : a.eval y = .agg cells) (ht : w.there b o cells.size) (hi : (P.info? ty).map (·.size) = some cells.size) (h1 : cells.all (·.oneCell') = true)
    (hw : wz = w.setCells b o cells.toList) (h : wpList P ops Q rest (a.put op.dst undef) wz) : wpList P ops Q (op :: rest) a w := by
  subst hw
  exact wpList_store_mid hgd ty x y ho b o cells hx hy ht hi h1 h
theorem grownCells (X : Nat) : ∀ (vs : List Value) (o : Nat) (w : World), w.grownBy (w.setCells X o vs) (some X)
  | [], _, w => World.grownBy.refl w _
  | v :: r, o, w => by
    rw [World.setCells]
    have h := grownCells X r (o + 1) (w.setCell ⟨X, o, none⟩ v)
    have h1 : w.grownBy (w.setCell ⟨X, o, none⟩ v) (some X) := ⟨rfl, rfl, rfl, by simp [World.setCell], fun k _ hk => heap_setCell_other w ⟨X, o, none⟩ k v (fun e => hk (congrArg some e))⟩
    exact h1.trans h
/-- The first k events of a slice may be written. -/
def ThA (w : World) (A : Option Addr) (k : Nat) : Prop := ∀ j, j < k → ∃ g, A = some ⟨g, 0, none⟩ ∧ w.there g (j * 3) 3
theorem ThA.own {w : World} {base n : Nat} {t : TypeId} {A : Option Addr} {c : Nat} {xs : List Value} (h : w.ownsRow base t 3 (.slice A n c) n xs) : ThA w A n := fun j hj => by
  rcases h.2 with ⟨he, h0⟩ | ⟨g, cap, cur, he, _, h3, h4, _, h6, _⟩
  · omega
  · cases he
    have hb : Box w g cur t := h3
    refine ⟨g, rfl, fun i hi => ⟨?_, hb.frozen _⟩⟩
    have h1 : j * 3 + i < cur.size := by omega
    rw [hb.cell _ (Array.getElem?_eq_getElem h1)]
    rfl
/-- The loop that writes over what was handed out. -/
structure Ovr (w0 w : World) (A : Option Addr) (n c : Nat) : Prop where
  th : ThA w A n
  grown : w0.grownBy w (Value.slice A n c).ownBlock
set_option maxHeartbeats 16000000 in
theorem walk (W : World) (A : Option Addr) (n c : Nat) (l : List Ev) (s : Sl W A n l) (m : n ≤ c) (x : c ≤ maxLen) (g : ∀ e ∈ l, EvOk e) (ev : Ev) (_kev : EvOk ev) :
    Calls Try.prog 11 #[.slice A n c, .agg (evv ev)] W fun e w' => e = .returned (.bool true) ∧ Below W.heap.size W w' := by
  unfold maxLen at x
  have HL := Lib.hid s
  have HX0 := Lib.hid (Box.new W (evv ev) 46)
  have HW0 := Lib.hid ((Bel.refl W).alloc (.cells (evv ev) 46))
  have HMS := Lib.hid (show (W.alloc (.cells (evv ev) 46)).heap.size = W.heap.size + 1 by simp)
  clear s g
  go_enter Try.func11, Try.ntmps11
  go_wp2_with fail
  refine (bnew_any _).mono ?_
  rintro e1 w1 ⟨rfl, hbx1, hb1⟩
  generalize W.alloc (.cells (evv ev) 46) = W1 at *
  have HB1 := Lib.hid (show Bd w1 W1.heap.size W1.heap.size 0 (.slice none 0 0) [] from ⟨hbx1, World.ownsRow_nil _ _ _ _, fun g hg => (by cases hg), by decide⟩)
  have HW1 := Lib.hid (Bel.of hb1)
  clear hbx1 hb1
  have HMW := Lib.hid (HW1.out.size)
  have HMW0 := Lib.hid (HW0.out.size)
  have HLW := Lib.hid (fun (wr : World) (h : Below W1.heap.size W1 wr) => (HL.out.bel HW0.out.out).below h (Nat.le_refl _))
  have HXW := Lib.hid (fun (wr : World) (h : Below W1.heap.size W1 wr) => HX0.out.below h HX0.out.lt)
  have HZ := Lib.hid (show Below W1.heap.size W1 w1 from HW1.out.out)
  have HTOP := Lib.hid (fun (wr : World) (h : Below W1.heap.size W1 wr) => show Below W.heap.size W wr from HW0.out.out.trans (h.mono HW0.out.size))
  clear HX0 HL HW0 HW1 HMS
  generalize W1.heap.size = M at *
  go_wp2_with fail
  refine (tell_any M M (.slice none 0 0) [] ⟨2, 0, 0⟩ _ HB1.out HMW.out).mono ?_
  rintro e2 w2 ⟨v2, rfl, hbd2, hg2, _⟩
  rw [show tellA [] ⟨2, 0, 0⟩ = (0, 0) by decide +kernel]
  have HB2 := Lib.hid hbd2
  have HZ2 := Lib.hid (HZ.out.trans (hg2.below HB1.out (Nat.le_refl _) HMW.out))
  clear hbd2 hg2 HB1 HZ
  go_wp2
  go_loopw [28] (fun t wr => ∃ (i : Nat) (v : Value) (L : List Ev), i ≤ n ∧ t = .int .i64 i ∧ Bd wr M M 0 v L ∧ Below M W1 wr) (fun t _ => n - (intOf t).toNat)
  case atStart => exact ⟨0, v2, _, by omega, rfl, HB2.out, HZ2.out⟩
  case round =>
    obtain ⟨i, v, L, hi, rfl, hbd, hbr⟩ := hrel
    have HB := Lib.hid hbd
    have HZ := Lib.hid hbr
    have HMr := Lib.hid (show M ≤ wr.heap.size from Nat.le_of_lt hbd.box.lt)
    clear hbd hbr HB2 HZ2
    by_cases hlt : i < n
    · have hlt' : (i : Int) < n := by omega
      obtain ⟨bb, off, e, rfl, hbb, he, hrg⟩ := (HLW.out wr HZ.out).at_ hlt
      have hR := Lib.hid hrg
      have HEB := Lib.hid (show Bel wr _ from ewld_below wr e 46)
      have HEX := Lib.hid (ewld_box wr e 46)
      have hwi : IntKind.i64.wrap ((i : Int) + 1) = (i : Int) + 1 := IntWalk.i64_in _ (by omega)
      clear hrg hbb he
      have HB3 := Lib.hid (HB.out.bel HEB.out)
      have HN3 := Lib.hid (Nat.le_trans HMr.out HEB.out.size)
      go_wp2_with (first | (refine load_ev T36 _ rfl rfl rfl hR.out ?_) | (refine ewld_store T36 _ _ rfl rfl _ rfl rfl rfl ?_) | (refine loadB _ _ rfl rfl rfl HEX.out T36 ?_))
      refine (tell_any M M v L e _ HB3.out HN3.out).mono ?_
      rintro e4 w4 ⟨v4, rfl, hbd4, hg4, _⟩
      have HB4 := Lib.hid hbd4
      have HZ4 := Lib.hid ((HZ.out.trans (HEB.out.out.mono HMr.out)).trans (hg4.below HB3.out (Nat.le_refl _) HN3.out))
      clear hbd4 hg4
      generalize tellA L e = ta
      go_wp2
      go_roundw
      case rel => exact ⟨i + 1, v4, _, by omega, by go_num, HB4.out, HZ4.out⟩
      case measure => simp [intOf]; omega
    · obtain rfl : i = n := by omega
      have HLN := Lib.hid (show L.length ≤ 80 from ((may_iff L).1 HB.out.ok).1)
      go_wp2_with fail
      refine (btrace_any M M v L _ HB.out).mono ?_
      rintro e5 w5 ⟨v5, rfl, ho5, hb5⟩
      obtain ⟨A5, c5, rfl, hs5, hn5, hm5⟩ := Sl.own ho5
      have HO5 := Lib.hid ho5
      have HS5 := Lib.hid hs5
      have HC5 := Lib.hid (And.intro hn5 hm5)
      have H5 := Lib.hid (Bel.of hb5)
      clear ho5 hs5 hb5 hn5 hm5
      go_wp2_with fail
      refine (copyev_any A5 L.length c5 L w5 HS5.out (by have := HLN.out; omega)).mono ?_
      rintro e6 w6 ⟨v6, rfl, ho6, hb6⟩
      have HO6 := Lib.hid ho6
      have H6 := Lib.hid (Bel.of hb6)
      have HT0 := Lib.hid (show Ovr w6 w6 A5 L.length c5 from ⟨.own (own_bel HO5.out (Bel.of hb6)), World.grownBy.refl w6 _⟩)
      have HLE := Lib.hid (show L.length ≤ c5 from HC5.out.1)
      have HCM := Lib.hid (show c5 ≤ maxLen from HC5.out.2)
      clear ho6 hb6 HC5
      generalize hq : L.length = q at *
      have HQ := Lib.hid hq
      have hle := HLE.out
      have hcm := HCM.out
      unfold maxLen at hcm
      clear hq
      go_wp2
      go_loopw [42] (fun t wz => ∃ j : Nat, j ≤ q ∧ t = .int .i64 j ∧ Ovr w6 wz A5 q c5) (fun t _ => q - (intOf t).toNat)
      case atStart => exact ⟨0, by omega, rfl, HT0.out⟩
      case round =>
        obtain ⟨j, hj, rfl, hinv⟩ := hrel
        have HI := Lib.hid hinv
        clear hinv HT0
        by_cases hlt : j < q
        · have hlt' : (j : Int) < q := by omega
          obtain ⟨g, rfl, hth⟩ := HI.out.th j hlt
          have HTH := Lib.hid hth
          obtain ⟨wz, hwz⟩ : ∃ wz, wz = wr.setCells g (j * 3) (evv ⟨77, 0, 0⟩).toList := ⟨_, rfl⟩
          have HWZ := Lib.hid hwz
          have HIZ := Lib.hid (show Ovr w6 wz (some ⟨g, 0, none⟩) q c5 by
            rw [hwz]
            refine ⟨fun k hk => ?_, HI.out.grown.trans (grownCells g _ _ wr)⟩
            obtain ⟨g', h1, h2⟩ := HI.out.th k hk
            cases h1
            exact ⟨g, rfl, World.there_setCells h2 _ _ _⟩)
          clear hwz hth
          go_wp2_with (refine store_to rfl 46 _ _ rfl g (j * 3) (evv ⟨77, 0, 0⟩) rfl rfl HTH.out (by kernel_rfl) (evv_all _) HWZ.out ?_)
          go_roundw
          case rel => exact ⟨j + 1, by omega, by go_num, HIZ.out⟩
          case measure => simp [intOf]; omega
        · obtain rfl : j = q := by omega
          -- behind the loop: the board and the copy stand
          have HG := Lib.hid HI.out.grown
          have HBZ := Lib.hid (show Bd wr M M 0 v L from by
            have h5 := HB.out.bel (H5.out.trans H6.out)
            have hA : ∀ g, (Value.slice A5 j c5).ownBlock = some g → M < g ∧ v.ownBlock ≠ some g := fun g hg => by
              have h1 := (own_lt HO5.out hg).1
              exact ⟨Nat.lt_of_lt_of_le HB.out.box.lt h1, fun e => by have := (own_lt HB.out.own e).2; omega⟩
            exact ⟨h5.box.grown HG.out (fun e => by have := (hA M e.symm).1; omega), own_keep h5.own fun g hg hl => HG.out.block g hl (fun e => (hA g e.symm).2 hg), h5.ne, h5.ok⟩)
          have HOZ := Lib.hid (show wr.ownsRow w5.heap.size 46 3 v6 j (evc L) from own_keep HO6.out fun g hg hl => HG.out.block g hl (fun e => by
            have h1 := (own_lt HO6.out hg).1
            have h2 := (own_lt HO5.out e.symm).2
            omega))
          have HZZ := Lib.hid (show Below M W1 wr from ((HZ.out.trans ((H5.out.trans H6.out).out.mono HMr.out)).trans ⟨HG.out.os, HG.out.tape, HG.out.output, HG.out.size, fun k hk => HG.out.block k (by have := HMr.out; have := (H5.out.trans H6.out).size; omega) (fun e => by
            have h1 := (own_lt HO5.out e.symm).1
            have := HMr.out; omega)⟩))
          have HVS := Lib.hid (show ∀ g, v6.ownBlock = some g → g ≠ M ∧ v.ownBlock ≠ some g from fun g hg => by
            have h1 := (own_lt HO6.out hg).1
            have h2 := H5.out.size
            have h3 := HB.out.box.lt
            refine ⟨by omega, fun e => ?_⟩
            have h4 := (own_lt HB.out.own e).2
            omega)
          have H5M := Lib.hid (show M ≤ w5.heap.size from Nat.le_trans (Nat.le_of_lt HB.out.box.lt) H5.out.size)
          have H5R := Lib.hid (show w5.heap.size ≤ wr.heap.size from Nat.le_trans H6.out.size HG.out.size)
          clear HI HG HS5 H5 H6 HB HZ HO5 HO6
          go_wp2_with fail
          refine (btrace_any M M v L _ HBZ.out).mono ?_
          rintro e7 w7 ⟨v7, rfl, ho7, hb7⟩
          obtain ⟨A7, c7, rfl, hs7, hn7, hm7⟩ := Sl.own ho7
          have HO7 := Lib.hid (own_bel HOZ.out (Bel.of hb7))
          obtain ⟨A6, c6, rfl, hs6, hn6, hm6⟩ := Sl.own HO7.out
          have HB7 := Lib.hid (HBZ.out.bel (Bel.of hb7))
          have HZ7 := Lib.hid (HZZ.out.trans (hb7.mono (Nat.le_of_lt HBZ.out.box.lt)))
          have H57 := Lib.hid (Nat.le_trans H5R.out hb7.size)
          go_wp2_with fail
          refine (eqev_any A7 A6 L.length c7 j c6 L L _ hs7 hs6 hn7 hn6 hm7 hm6).mono ?_
          rintro e8 w8 ⟨rfl, hb8⟩
          rw [decide_eq_true rfl]
          have HO8 := Lib.hid (own_bel HO7.out (Bel.of hb8))
          have HB8 := Lib.hid (HB7.out.bel (Bel.of hb8))
          have HZ8 := Lib.hid (HZ7.out.trans (hb8.mono (Nat.le_of_lt HB7.out.box.lt)))
          have H58 := Lib.hid (Nat.le_trans H57.out hb8.size)
          have HX8 := Lib.hid (HXW.out w8 HZ8.out)
          have HN8 := Lib.hid (Nat.le_of_lt HB8.out.box.lt)
          clear ho7 hb7 hs7 hn7 hm7 hs6 hn6 hm6 hb8 HO7 HB7 HZ7 H57 HBZ HOZ HZZ H5R
          go_wp2_with (refine loadB _ _ rfl rfl rfl HX8.out T36 ?_)
          refine (tell_any M M v L ev _ HB8.out HN8.out).mono ?_
          rintro e9 w9 ⟨v9, rfl, hbd9, hg9, hat9⟩
          have HB9 := Lib.hid hbd9
          have HZ9 := Lib.hid (HZ8.out.trans (hg9.below HB8.out (Nat.le_refl _) HN8.out))
          have HO9 := Lib.hid (hg9.own HO8.out HVS.out)
          have H59 := Lib.hid (Nat.le_trans H58.out hg9.size)
          have HX9 := Lib.hid (HXW.out w9 HZ9.out)
          have HTL := Lib.hid (check_tell HB8.out.ok ev)
          clear hbd9 hg9 hat9 HO8 HB8 HZ8 H58 HX8 HN8
          by_cases h0 : (tellA L ev).2 = 0
          · obtain ⟨t1, t2, t3⟩ := HTL.out.2.1 h0
            have h0' : ((tellA L ev).2 != 0) = false := by simp [h0]
            rw [t3, HQ.out]
            have HBT := Lib.hid (show Bd w9 M M 0 v9 (L ++ [ev]) from by have := HB9.out; rwa [t1] at this)
            have HMr := Lib.hid (Nat.le_of_lt HBT.out.box.lt)
            have HLE2 := Lib.hid (show (L ++ [ev]).length = j + 1 by rw [List.length_append, HQ.out]; rfl)
            have HLJ := Lib.hid (show j ≤ 80 by have := HLN.out; omega)
            have hv6 : ∀ g, (Value.slice A6 j c6).ownBlock = some g → g < w9.heap.size := fun g hg => (own_lt HO9.out hg).2
            have HV6 := Lib.hid hv6
            clear h0 t1 t2 t3 hv6
            obtain ⟨i0, hi0, hz0, hz1, hz2⟩ := info_parts ev_info
            have J := Lib.hid (And.intro hi0 (And.intro hz0 (And.intro hz1 hz2)))
            clear hi0 hz0 hz1 hz2
            go_wp2_with fail
            have FX := fun (y : World) (hy : Below w9.heap.size w9 y) => (Bel.of hy).box HX9.out
            refine region_growU 10 (by kernel_rfl) ?_
            (repeat (first | ((first | refine wpU_goN 0 (by simp only [List.getElem?_toArray, List.getElem?_cons_zero, List.getElem?_cons_succ] <;> rfl) (by decide +kernel) (by decide +kernel) (by kernel_rfl) (by rfl) (by exact fun _ _ _ _ h => h) (Nat.le_refl _) ?_ | refine wpU_goN 1 (by simp only [List.getElem?_toArray, List.getElem?_cons_zero, List.getElem?_cons_succ] <;> rfl) (by decide +kernel) (by decide +kernel) (by kernel_rfl) (by rfl) (by exact fun _ _ _ _ h => h) (Nat.le_refl _) ?_ | refine wpU_goN 2 (by simp only [List.getElem?_toArray, List.getElem?_cons_zero, List.getElem?_cons_succ] <;> rfl) (by decide +kernel) (by decide +kernel) (by kernel_rfl) (by rfl) (by exact fun _ _ _ _ h => h) (Nat.le_refl _) ?_ | refine wpU_goN 3 (by simp only [List.getElem?_toArray, List.getElem?_cons_zero, List.getElem?_cons_succ] <;> rfl) (by decide +kernel) (by decide +kernel) (by kernel_rfl) (by rfl) (by exact fun _ _ _ _ h => h) (Nat.le_refl _) ?_ | refine wpU_goN 4 (by simp only [List.getElem?_toArray, List.getElem?_cons_zero, List.getElem?_cons_succ] <;> rfl) (by decide +kernel) (by decide +kernel) (by kernel_rfl) (by rfl) (by exact fun _ _ _ _ h => h) (Nat.le_refl _) ?_ | refine wpU_goN 5 (by simp only [List.getElem?_toArray, List.getElem?_cons_zero, List.getElem?_cons_succ] <;> rfl) (by decide +kernel) (by decide +kernel) (by kernel_rfl) (by rfl) (by exact fun _ _ _ _ h => h) (Nat.le_refl _) ?_ | refine wpU_goN 7 (by simp only [List.getElem?_toArray, List.getElem?_cons_zero, List.getElem?_cons_succ] <;> rfl) (by decide +kernel) (by decide +kernel) (by kernel_rfl) (by rfl) (by exact fun _ _ _ _ h => h) (Nat.le_refl _) ?_ | refine wpU_goN 8 (by simp only [List.getElem?_toArray, List.getElem?_cons_zero, List.getElem?_cons_succ] <;> rfl) (by decide +kernel) (by decide +kernel) (by kernel_rfl) (by rfl) (by exact fun _ _ _ _ h => h) (Nat.le_refl _) ?_); apply Exists.intro; refine ⟨fun w1 h1 => ?_, ?_⟩; (first | exact g_move _ rfl | exact g_assign _ rfl | exact g_load _ _ rfl T36 rfl (FX w1 h1) | (go_simp; first | exact ⟨rfl, rfl⟩ | rfl)); simp only [Act.put, Act.eval, List.setIfInBounds_toArray, List.set_cons_zero, List.set_cons_succ, Array.getD_eq_getD_getElem?, List.getElem?_toArray, List.getElem?_cons_zero, List.getElem?_cons_succ, Option.getD_some]) | ((first | refine wpU_skip 0 (by simp only [List.getElem?_toArray, List.getElem?_cons_zero, List.getElem?_cons_succ] <;> rfl) (by decide +kernel) (by decide +kernel) (by kernel_rfl) (by rfl) (by exact fun _ _ _ _ h => h) (Nat.le_refl _) ?_ | refine wpU_skip 1 (by simp only [List.getElem?_toArray, List.getElem?_cons_zero, List.getElem?_cons_succ] <;> rfl) (by decide +kernel) (by decide +kernel) (by kernel_rfl) (by rfl) (by exact fun _ _ _ _ h => h) (Nat.le_refl _) ?_ | refine wpU_skip 2 (by simp only [List.getElem?_toArray, List.getElem?_cons_zero, List.getElem?_cons_succ] <;> rfl) (by decide +kernel) (by decide +kernel) (by kernel_rfl) (by rfl) (by exact fun _ _ _ _ h => h) (Nat.le_refl _) ?_ | refine wpU_skip 3 (by simp only [List.getElem?_toArray, List.getElem?_cons_zero, List.getElem?_cons_succ] <;> rfl) (by decide +kernel) (by decide +kernel) (by kernel_rfl) (by rfl) (by exact fun _ _ _ _ h => h) (Nat.le_refl _) ?_ | refine wpU_skip 4 (by simp only [List.getElem?_toArray, List.getElem?_cons_zero, List.getElem?_cons_succ] <;> rfl) (by decide +kernel) (by decide +kernel) (by kernel_rfl) (by rfl) (by exact fun _ _ _ _ h => h) (Nat.le_refl _) ?_ | refine wpU_skip 5 (by simp only [List.getElem?_toArray, List.getElem?_cons_zero, List.getElem?_cons_succ] <;> rfl) (by decide +kernel) (by decide +kernel) (by kernel_rfl) (by rfl) (by exact fun _ _ _ _ h => h) (Nat.le_refl _) ?_ | refine wpU_skip 7 (by simp only [List.getElem?_toArray, List.getElem?_cons_zero, List.getElem?_cons_succ] <;> rfl) (by decide +kernel) (by decide +kernel) (by kernel_rfl) (by rfl) (by exact fun _ _ _ _ h => h) (Nat.le_refl _) ?_ | refine wpU_skip 8 (by simp only [List.getElem?_toArray, List.getElem?_cons_zero, List.getElem?_cons_succ] <;> rfl) (by decide +kernel) (by decide +kernel) (by kernel_rfl) (by rfl) (by exact fun _ _ _ _ h => h) (Nat.le_refl _) ?_); simp only [Act.put, Act.eval, List.setIfInBounds_toArray, List.set_cons_zero, List.set_cons_succ, Array.getD_eq_getD_getElem?, List.getElem?_toArray, List.getElem?_cons_zero, List.getElem?_cons_succ, Option.getD_some]) | ((first | refine wpU_goA 0 (by simp only [List.getElem?_toArray, List.getElem?_cons_zero, List.getElem?_cons_succ] <;> rfl) (by decide +kernel) (by decide +kernel) (by kernel_rfl) (by rfl) (by exact fun _ _ _ _ h => h) ?_ | refine wpU_goA 1 (by simp only [List.getElem?_toArray, List.getElem?_cons_zero, List.getElem?_cons_succ] <;> rfl) (by decide +kernel) (by decide +kernel) (by kernel_rfl) (by rfl) (by exact fun _ _ _ _ h => h) ?_ | refine wpU_goA 2 (by simp only [List.getElem?_toArray, List.getElem?_cons_zero, List.getElem?_cons_succ] <;> rfl) (by decide +kernel) (by decide +kernel) (by kernel_rfl) (by rfl) (by exact fun _ _ _ _ h => h) ?_ | refine wpU_goA 3 (by simp only [List.getElem?_toArray, List.getElem?_cons_zero, List.getElem?_cons_succ] <;> rfl) (by decide +kernel) (by decide +kernel) (by kernel_rfl) (by rfl) (by exact fun _ _ _ _ h => h) ?_ | refine wpU_goA 4 (by simp only [List.getElem?_toArray, List.getElem?_cons_zero, List.getElem?_cons_succ] <;> rfl) (by decide +kernel) (by decide +kernel) (by kernel_rfl) (by rfl) (by exact fun _ _ _ _ h => h) ?_ | refine wpU_goA 5 (by simp only [List.getElem?_toArray, List.getElem?_cons_zero, List.getElem?_cons_succ] <;> rfl) (by decide +kernel) (by decide +kernel) (by kernel_rfl) (by rfl) (by exact fun _ _ _ _ h => h) ?_ | refine wpU_goA 7 (by simp only [List.getElem?_toArray, List.getElem?_cons_zero, List.getElem?_cons_succ] <;> rfl) (by decide +kernel) (by decide +kernel) (by kernel_rfl) (by rfl) (by exact fun _ _ _ _ h => h) ?_ | refine wpU_goA 8 (by simp only [List.getElem?_toArray, List.getElem?_cons_zero, List.getElem?_cons_succ] <;> rfl) (by decide +kernel) (by decide +kernel) (by kernel_rfl) (by rfl) (by exact fun _ _ _ _ h => h) ?_); apply Exists.intro; refine ⟨fun w1 => ?_, ?_⟩; (first | exact a_move _ rfl | exact a_assign _ rfl | (go_simp; first | exact ⟨rfl, rfl⟩ | rfl)); simp only [Act.put, Act.eval, List.setIfInBounds_toArray, List.set_cons_zero, List.set_cons_succ, Array.getD_eq_getD_getElem?, List.getElem?_toArray, List.getElem?_cons_zero, List.getElem?_cons_succ, Option.getD_some])))
            clear FX
            (refine wpU_two 6 9 (by decide +kernel) ?_ ?_ <;> (intro y1 hy1; refine op_wanted (by simp only [List.getElem?_toArray, List.getElem?_cons_zero, List.getElem?_cons_succ] <;> rfl) rfl ?_))
            · try go_simp
              refine (btrace_any M M v9 (L ++ [ev]) _ (HBT.out.bel hy1)).mono ?_
              rintro e10 u1 ⟨v10, rfl, ho7, hb10⟩
              rw [HLE2.out] at ho7
              refine ⟨hb10.mono hy1.size, ?_⟩
              try simp only [Act.put, Act.eval, List.setIfInBounds_toArray, List.set_cons_zero, List.set_cons_succ, Array.getD_eq_getD_getElem?, List.getElem?_toArray, List.getElem?_cons_zero, List.getElem?_cons_succ, Option.getD_some]
              have hbs : w9.heap.size ≤ y1.heap.size := hy1.size
              have hE1 := hy1.trans (Bel.of hb10)
              (refine wpU_one 9 (by decide +kernel) ?_; intro y2 hy2; refine op_wanted (by simp only [List.getElem?_toArray, List.getElem?_cons_zero, List.getElem?_cons_succ] <;> rfl) rfl ?_)
              refine wp_build1 22 _ rfl 46 i0 Try.underlying22 J.out.1 J.out.2.1 J.out.2.2.1 ev rfl ?_
              refine ⟨Below.alloc (Below.refl _ _) (hE1.trans hy2).size _, ?_⟩
              simp only [Act.put, Act.eval, List.setIfInBounds_toArray, List.set_cons_zero, List.set_cons_succ, Array.getD_eq_getD_getElem?, List.getElem?_toArray, List.getElem?_cons_zero, List.getElem?_cons_succ, Option.getD_some]
              have hbx := Box.new y2 (evv ev) 46
              have hE := (hE1.trans hy2).alloc (.cells (evv ev) 46)
              have ho7 := own_bel ho7 (hy2.alloc (.cells (evv ev) 46))
              generalize y2.alloc (.cells (evv ev) 46) = y3 at *
              generalize y2.heap.size = yb at *
              clear hy1 hb10 hE1 hy2
              refine wpU_now (by decide +kernel) ?_
              intro y5 hy5
              refine op_wanted (by simp only [List.getElem?_toArray, List.getElem?_cons_zero, List.getElem?_cons_succ] <;> rfl) rfl ?_
              refine wp_append_src (.tmp 78) (.tmp 80) _ rfl w5.heap.size 46 i0 _ 3 24 Try.underlying22 J.out.1 J.out.2.1 J.out.2.2.1 J.out.2.2.2 rfl (by omega) (.slice A6 j c6) j (evc L) rfl (own_bel HO9.out (hE.trans hy5)) (some ⟨yb, 0, none⟩) 1 1 (evl ev) rfl rfl (Src.box (show Box y5 yb (evl ev).toArray 46 from hy5.box hbx) 1) (by simp [evl, Value.oneCell']) (by have := HLJ.out; unfold maxLen; omega) (by have := HLJ.out; omega) (Nat.le_trans H59.out (hE.trans hy5).size) ?_
              intro v3 u3 ho3 hg3 hat3
              simp only [Act.put, Act.eval, List.setIfInBounds_toArray, List.set_cons_zero, List.set_cons_succ, Array.getD_eq_getD_getElem?, List.getElem?_toArray, List.getElem?_cons_zero, List.getElem?_cons_succ, Option.getD_some]
              rw [show evc L ++ evl ev = evc (L ++ [ev]) by rw [evc_append]; rfl] at ho3
              refine wpU_next 11 (by decide +kernel) (by decide +kernel) ?_
              intro y6 hy6
              refine op_wanted (by simp only [List.getElem?_toArray, List.getElem?_cons_zero, List.getElem?_cons_succ] <;> rfl) rfl ?_
              have hvX := own_bel ho7 hy5
              have hvY := own_keep hvX fun g hg hl => hg3.block g hl (fun e => by
                have h1 := (own_lt ho7 hg).1
                have h2 := HV6.out g e.symm
                have h3 := hbs
                omega)
              obtain ⟨A7', c7', rfl, hs7, hn7, hm7⟩ := Sl.own (own_bel hvY hy6)
              obtain ⟨A3, c3, rfl, hs3, hn3, hm3⟩ := Sl.own (own_bel ho3 hy6)
              go_simp
              refine (eqev_any A7' A3 (j + 1) c7' (j + 1) c3 (L ++ [ev]) (L ++ [ev]) y6 hs7 hs3 hn7 hn3 hm7 hm3).mono ?_
              rintro e12 w12 ⟨rfl, hb12⟩
              rw [decide_eq_true rfl]
              try simp only [Act.put, Act.eval, List.setIfInBounds_toArray, List.set_cons_zero, List.set_cons_succ, Array.getD_eq_getD_getElem?, List.getElem?_toArray, List.getElem?_cons_zero, List.getElem?_cons_succ, Option.getD_some]
              have hU : Below M w9 w12 := by
                have k1 : Below M w9 y5 := (hE.trans hy5).out.mono HMr.out
                have k2 : Below M y5 u3 := ⟨hg3.os, hg3.tape, hg3.output, hg3.size, fun k hk => hg3.block k (by have := k1.size; have := HMr.out; omega) (fun e => by
                  have h1 := (own_lt HO9.out e.symm).1
                  have h2 := H5M.out
                  omega)⟩
                have k3 := k1.trans k2
                exact (k3.trans (hy6.out.mono (Nat.le_trans HMr.out k3.size))).trans (hb12.mono (Nat.le_trans (Nat.le_trans HMr.out k3.size) hy6.size))
              refine wpU_next 12 (by decide +kernel) (by decide +kernel) ?_
              intro y8 hy8
              refine op_wanted (by simp only [List.getElem?_toArray, List.getElem?_cons_zero, List.getElem?_cons_succ] <;> rfl) rfl ?_
              go_simp
              refine wpU_next 13 (by decide +kernel) (by decide +kernel) ?_
              intro y9 hy9
              refine op_wanted (by simp only [List.getElem?_toArray, List.getElem?_cons_zero, List.getElem?_cons_succ] <;> rfl) rfl ?_
              go_simp
              refine wpU_done (by decide +kernel) ?_ _
              intro y10 hy10
              have HF := Lib.hid (HTOP.out y10 ((HZ9.out.trans hU).trans (((hy8.trans hy9).trans hy10).out.mono (Nat.le_trans HMr.out hU.size))))
              clear hU hy8 hy9 hy10 hb12 hs7 hn7 hm7 hs3 hn3 hm3 hvX hvY hy6 ho3 hg3 hat3 hy5 ho7 hbx hE hbs
              go_wp2
              go_ret
              exact ⟨rfl, HF.out⟩
            · refine wp_build1 22 _ rfl 46 i0 Try.underlying22 J.out.1 J.out.2.1 J.out.2.2.1 ev rfl ?_
              refine ⟨Below.alloc (Below.refl _ _) hy1.size _, ?_⟩
              simp only [Act.put, Act.eval, List.setIfInBounds_toArray, List.set_cons_zero, List.set_cons_succ, Array.getD_eq_getD_getElem?, List.getElem?_toArray, List.getElem?_cons_zero, List.getElem?_cons_succ, Option.getD_some]
              have hbx0 := Box.new y1 (evv ev) 46
              have hE1 := hy1.alloc (.cells (evv ev) 46)
              generalize y1.alloc (.cells (evv ev) 46) = y3 at *
              generalize y1.heap.size = yb at *
              (refine wpU_one 6 (by decide +kernel) ?_; intro y2 hy2; refine op_wanted (by simp only [List.getElem?_toArray, List.getElem?_cons_zero, List.getElem?_cons_succ] <;> rfl) rfl ?_)
              go_simp
              have hE2 := hE1.trans hy2
              refine (btrace_any M M v9 (L ++ [ev]) _ (HBT.out.bel hE2)).mono ?_
              rintro e10 u1 ⟨v10, rfl, ho7, hb10⟩
              rw [HLE2.out] at ho7
              refine ⟨hb10.mono hE2.size, ?_⟩
              try simp only [Act.put, Act.eval, List.setIfInBounds_toArray, List.set_cons_zero, List.set_cons_succ, Array.getD_eq_getD_getElem?, List.getElem?_toArray, List.getElem?_cons_zero, List.getElem?_cons_succ, Option.getD_some]
              have hbs : w9.heap.size ≤ y2.heap.size := hE2.size
              have hE := hE2.trans (Bel.of hb10)
              have hbx := (hy2.trans (Bel.of hb10)).box hbx0
              clear hy1 hb10 hE1 hE2 hy2 hbx0
              refine wpU_now (by decide +kernel) ?_
              intro y5 hy5
              refine op_wanted (by simp only [List.getElem?_toArray, List.getElem?_cons_zero, List.getElem?_cons_succ] <;> rfl) rfl ?_
              refine wp_append_src (.tmp 78) (.tmp 80) _ rfl w5.heap.size 46 i0 _ 3 24 Try.underlying22 J.out.1 J.out.2.1 J.out.2.2.1 J.out.2.2.2 rfl (by omega) (.slice A6 j c6) j (evc L) rfl (own_bel HO9.out (hE.trans hy5)) (some ⟨yb, 0, none⟩) 1 1 (evl ev) rfl rfl (Src.box (show Box y5 yb (evl ev).toArray 46 from hy5.box hbx) 1) (by simp [evl, Value.oneCell']) (by have := HLJ.out; unfold maxLen; omega) (by have := HLJ.out; omega) (Nat.le_trans H59.out (hE.trans hy5).size) ?_
              intro v3 u3 ho3 hg3 hat3
              simp only [Act.put, Act.eval, List.setIfInBounds_toArray, List.set_cons_zero, List.set_cons_succ, Array.getD_eq_getD_getElem?, List.getElem?_toArray, List.getElem?_cons_zero, List.getElem?_cons_succ, Option.getD_some]
              rw [show evc L ++ evl ev = evc (L ++ [ev]) by rw [evc_append]; rfl] at ho3
              refine wpU_next 11 (by decide +kernel) (by decide +kernel) ?_
              intro y6 hy6
              refine op_wanted (by simp only [List.getElem?_toArray, List.getElem?_cons_zero, List.getElem?_cons_succ] <;> rfl) rfl ?_
              have hvX := own_bel ho7 hy5
              have hvY := own_keep hvX fun g hg hl => hg3.block g hl (fun e => by
                have h1 := (own_lt ho7 hg).1
                have h2 := HV6.out g e.symm
                have h3 := hbs
                omega)
              obtain ⟨A7', c7', rfl, hs7, hn7, hm7⟩ := Sl.own (own_bel hvY hy6)
              obtain ⟨A3, c3, rfl, hs3, hn3, hm3⟩ := Sl.own (own_bel ho3 hy6)
              go_simp
              refine (eqev_any A7' A3 (j + 1) c7' (j + 1) c3 (L ++ [ev]) (L ++ [ev]) y6 hs7 hs3 hn7 hn3 hm7 hm3).mono ?_
              rintro e12 w12 ⟨rfl, hb12⟩
              rw [decide_eq_true rfl]
              try simp only [Act.put, Act.eval, List.setIfInBounds_toArray, List.set_cons_zero, List.set_cons_succ, Array.getD_eq_getD_getElem?, List.getElem?_toArray, List.getElem?_cons_zero, List.getElem?_cons_succ, Option.getD_some]
              have hU : Below M w9 w12 := by
                have k1 : Below M w9 y5 := (hE.trans hy5).out.mono HMr.out
                have k2 : Below M y5 u3 := ⟨hg3.os, hg3.tape, hg3.output, hg3.size, fun k hk => hg3.block k (by have := k1.size; have := HMr.out; omega) (fun e => by
                  have h1 := (own_lt HO9.out e.symm).1
                  have h2 := H5M.out
                  omega)⟩
                have k3 := k1.trans k2
                exact (k3.trans (hy6.out.mono (Nat.le_trans HMr.out k3.size))).trans (hb12.mono (Nat.le_trans (Nat.le_trans HMr.out k3.size) hy6.size))
              refine wpU_next 12 (by decide +kernel) (by decide +kernel) ?_
              intro y8 hy8
              refine op_wanted (by simp only [List.getElem?_toArray, List.getElem?_cons_zero, List.getElem?_cons_succ] <;> rfl) rfl ?_
              go_simp
              refine wpU_next 13 (by decide +kernel) (by decide +kernel) ?_
              intro y9 hy9
              refine op_wanted (by simp only [List.getElem?_toArray, List.getElem?_cons_zero, List.getElem?_cons_succ] <;> rfl) rfl ?_
              go_simp
              refine wpU_done (by decide +kernel) ?_ _
              intro y10 hy10
              have HF := Lib.hid (HTOP.out y10 ((HZ9.out.trans hU).trans (((hy8.trans hy9).trans hy10).out.mono (Nat.le_trans HMr.out hU.size))))
              clear hU hy8 hy9 hy10 hb12 hs7 hn7 hm7 hs3 hn3 hm3 hvX hvY hy6 ho3 hg3 hat3 hy5 ho7 hbx hE hbs
              go_wp2
              go_ret
              exact ⟨rfl, HF.out⟩
          · obtain ⟨t1, t2⟩ := HTL.out.2.2 h0
            have h0' : ((tellA L ev).2 != 0) = true := by simp [h0]
            rw [t2]
            have HBT := Lib.hid (show Bd w9 M M 0 v9 L from by have := HB9.out; rwa [t1] at this)
            clear h0 t1 t2
            go_wp2_with fail
            refine (btrace_any M M v9 L _ HBT.out).mono ?_
            rintro e10 w10 ⟨v10, rfl, ho10, hb10⟩
            obtain ⟨A10, c10, rfl, hs10, hn10, hm10⟩ := Sl.own ho10
            obtain ⟨A6', c6', he6, hs6, hn6, hm6⟩ := Sl.own (own_bel HO9.out (Bel.of hb10))
            cases he6
            have HZ10 := Lib.hid (HZ9.out.trans (hb10.mono (Nat.le_of_lt HBT.out.box.lt)))
            have HM10 := Lib.hid (Nat.le_trans (Nat.le_of_lt HBT.out.box.lt) hb10.size)
            go_wp2_with fail
            refine (eqev_any A10 A6 L.length c10 j c6 L L _ hs10 hs6 hn10 hn6 hm10 hm6).mono ?_
            rintro e11 w11 ⟨rfl, hb11⟩
            rw [decide_eq_true rfl]
            have HF := Lib.hid (HTOP.out w11 (HZ10.out.trans (hb11.mono HM10.out)))
            clear ho10 hb10 hs10 hn10 hm10 hs6 hn6 hm6 hb11
            go_wp2
            go_ret
            exact ⟨rfl, HF.out⟩
set_option maxRecDepth 100000 in
theorem lifted (os : Os) (started : os.Started) (H : Type) (enc : TypeId × Value → H) :
    ReturnsInHanded {} Try.checked os 11 .any (Rows.boardOwnSpec.pre6 enc Try.prog Try.f11 Rows.boardOwnRow.domain false) (Rows.boardOwnSpec.post enc Try.prog Try.f11 false true false false) := by
  refine returnsInHanded_of_change_sized (C := Try.checked) own started (by kernel_rfl) Try.func11
    (ChangeSpec.witness6 (enc := enc) (C := Try.checked) false ⟨#[], #[.slice none 0 0, .agg #[.int .i64 0, .int .i64 0, .int .i64 0]], []⟩ 8 (by kernel_rfl) (by kernel_rfl) (by kernel_rfl) (by kernel_rfl)) ?_
  intro W base args ds gs before hval0 hW hcnd hsz0 _
  have hsz : (DataW.weightsEach Try.prog (Try.f11.params.toList ++ Rows.boardOwnSpec.plain.varTypes Try.prog) (ds ++ gs)).all (· ≤ reachBytes) = true := hsz0
  clear hsz0
  have hval : ∀ (j : Nat) t v, Try.f11.params[j]? = some t → args[j]? = some v → Value.okWide Try.prog W .any base t v := hval0
  have hW' := hW
  obtain ⟨p, q, hA0, hV, rfl, hfz, hnd⟩ := hW
  have hA : DataW.TrodAll enc Try.prog W 0 (fun _ => true) true Try.f11.params.toList args.toList ds p := hA0
  rw [Try.params11] at hA hval hsz
  obtain ⟨v0, vs0, d0, ds0, p0, q0, hargs, rfl, rfl, h0, r0⟩ := trodAll_cons hA
  obtain ⟨v1, vs1, d1, ds1, p1, q1, rfl, rfl, rfl, h1, r1⟩ := trodAll_cons r0
  obtain ⟨rfl, rfl, rfl⟩ := trodAll_nil r1
  obtain rfl : args = #[v0, v1] := by cases args; simp_all
  obtain ⟨rfl, rfl⟩ := trodVars_none hV
  have t0 := h0
  have lt0 : ∀ x ∈ p0, x.block < W.heap.size := by obtain ⟨m, hm⟩ := t0; exact DataW.trod_lt m _ _ _ hm
  have t1 := h1
  have lt1 : ∀ x ∈ p1, x.block < W.heap.size := by obtain ⟨m, hm⟩ := t1; exact DataW.trod_lt m _ _ _ hm
  obtain ⟨A0, n0, c0, l0, rfl, s0, m0, x0, g0, z0⟩ := open_evs Try.underlying22 Try.underlying46 ⟨rfl, rfl, rfl⟩ (by kernel_rfl) (by kernel_rfl) Try.underlying3 (hval 0 22 v0 rfl rfl) h0
  have y0 := reach_sl hsz (j := 0) rfl rfl Try.underlying22 (b := 24) (by kernel_rfl) z0
  obtain ⟨a1, rfl, k1⟩ := open_ev Try.underlying46 ⟨rfl, rfl, rfl⟩ (by kernel_rfl) (by kernel_rfl) Try.underlying3 (hval 1 46 v1 rfl rfl) h1
  clear hA0 hval0
  refine (walk W A0 n0 c0 l0 s0 m0 x0 g0 a1 k1).mono fun e W' ⟨he, bel⟩ => ?_
  subst he
  exact ⟨_, rfl, _, _, _, [], _, [], hW', trodAll_mk1 (shut_bool Try.underlying4 _), (trodAll_cons_mk (Below.trod laidOut (by kernel_rfl) (of_decide_eq_true (by kernel_rfl)) t0 bel lt0) (trodAll_cons_mk (Below.trod laidOut (by kernel_rfl) (of_decide_eq_true (by kernel_rfl)) t1 bel lt1) trodAll_mk0)), rfl, bel.frame _, fun h => by cases h⟩

theorem over : Rows.boardOwnRow.holds Try.pinned (OpenSpec.ofChange Rows.boardOwnSpec) :=
  OpenClaim.holds_of_wide 11 Try.f11 rfl rfl rfl rfl rfl rfl rfl ⟨rfl, rfl, rfl, rfl, rfl⟩ rfl rfl rfl rfl rfl (by kernel_rfl) Try.func11 (by kernel_rfl)
    (of_decide_eq_true (by kernel_rfl)) (by unfold Func.isWrapper; first | (rw [if_pos (by decide +kernel)]; kernel_rfl) | (rw [if_neg (by decide +kernel)]; exact ⟨rfl, rfl⟩))
    (fun os started H enc _ => lifted os started H enc)

theorem proved : Rows.BoardOwnSaid := over
#print axioms proved
end Go.Proofs.Ytindncbckdmjdaa.LBoardOwn

/- 'deadheatkeep.TraceMore' returns true for every input and leaves its arguments as they are. No condition. -/
import Derived.Test.YtioejkjbokcppaaOpenTr
import Derived.Test.YtioejkjbokcppaaKeepTr
import Derived.Test.YtioejkjbokcppaaAppend
set_option linter.all false
namespace Go.Proofs.Ytioejkjbokcppaa.LTraceMore
open Go Go.ChangeShapes Go.WideShapes Go.ChangeAt Go.RowKit

set_option maxHeartbeats 4000000 in
theorem walk (W0 : World) (A : Option Addr) (n c : Nat) (l : List Ev) (s : Sl W0 A n l) (m : n ≤ c) (x : c ≤ maxLen) (g : ∀ e ∈ l, EvOk e) (y : n * 24 ≤ 140737488351232) (a1 : Ev) (k1 : EvOk a1)
    (A2 : Option Addr) (n2 c2 : Nat) (l2 : List Ev) (s2 : Sl W0 A2 n2 l2) (m2 : n2 ≤ c2) (x2 : c2 ≤ maxLen) (g2 : ∀ e ∈ l2, EvOk e) (y2 : n2 * 24 ≤ 140737488351232) :
    Calls Try.prog 8 #[.slice A n c, .agg (evv a1), .slice A2 n2 c2] W0 fun e w' => e = .returned (.bool true) ∧ Below W0.heap.size W0 w' := by
  obtain ⟨b1, hB, hs⟩ := boxes1 W0 (evv a1) 36
  have hsl := s.bel hB
  have hsl2 := s2.bel hB
  generalize hW : W0.alloc (.cells (evv a1) 36) = W at *
  have hw0 : Bel W W := Bel.refl _
  have HS := Lib.hid hsl
  have HS2 := Lib.hid hsl2
  have HX := Lib.hid b1
  have L1 : W0.heap.size < W.heap.size := by omega
  have HT := Lib.hid (fun (w1 : World) (h : Bel W w1) => hB.trans (h.out.mono (Nat.le_of_lt L1)))
  unfold maxLen at x x2
  clear hB hs b1 hsl hsl2 g g2 k1
  cases h1 : (may l == 0)
  · clear s s2
    go_enter Try.func8, Try.ntmps8
    go_wp2_with fail
    refine (traced_any _).mono ?_
    rintro e1 w1 ⟨rfl, hb1⟩
    have hw1 : Bel W w1 := hw0.call hb1
    clear hb1
    go_wp2_with fail
    refine (may_any A n c l _ (HS.out.bel hw1.out)).mono ?_
    rintro e2 w2 ⟨rfl, hb2⟩
    have hw2 : Bel W w2 := hw1.call hb2
    clear hb2
    go_wp2
    go_ret
    exact ⟨rfl, HT.out _ hw2⟩
  · have HM := Lib.hid (show may l = 0 by simpa using h1)
    have hn80 : n ≤ 80 := by rw [← s.1]; exact ((may_iff l).1 HM.out).1
    by_cases hbig : 80 < n + 1 + n2
    · have hbig' : (80 : Int) < (n : Int) + 1 + n2 := by omega
      clear s s2
      go_enter Try.func8, Try.ntmps8
      go_wp2_with fail
      refine (traced_any _).mono ?_
      rintro e1 w1 ⟨rfl, hb1⟩
      have hw1 : Bel W w1 := hw0.call hb1
      clear hb1
      go_wp2_with fail
      refine (may_any A n c l _ (HS.out.bel hw1.out)).mono ?_
      rintro e2 w2 ⟨rfl, hb2⟩
      have hw2 : Bel W w2 := hw1.call hb2
      clear hb2
      go_wp2
      go_ret
      exact ⟨rfl, HT.out _ hw2⟩
    · have hbig' : (n : Int) + 1 + n2 ≤ 80 := by omega
      have HN := Lib.hid s.1
      have HN2 := Lib.hid s2.1
      obtain ⟨i0, hi0, hz0, hz1, hz2⟩ := info_parts ev_info
      have J := Lib.hid (And.intro hi0 (And.intro hz0 (And.intro hz1 hz2)))
      clear s s2 hi0 hz0 hz1 hz2
      cases hwx : (wrong l a1 != 0)
      · have HC1 := Lib.hid (check_ok (may_snoc a1 HM.out (by rw [HN.out]; omega) (by simpa using hwx)))
        go_enter Try.func8, Try.ntmps8
        go_wp2_with fail
        refine (traced_any _).mono ?_
        rintro e1 w1 ⟨rfl, hb1⟩
        have hw1 : Bel W w1 := hw0.call hb1
        clear hb1
        go_wp2_with fail
        refine (may_any A n c l _ (HS.out.bel hw1.out)).mono ?_
        rintro e2 w2 ⟨rfl, hb2⟩
        have hw2 : Bel W w2 := hw1.call hb2
        clear hb2
        go_wp2
        refine region_grow (by kernel_rfl) ?_
        have hbxx := fun (w1 : World) (h1 : Below w2.heap.size w2 w1) => (hw2.trans h1).box HX.out
        (repeat (first | (refine wpG_go 0 (by simp only [List.getElem?_toArray, List.getElem?_cons_zero, List.getElem?_cons_succ] <;> rfl) (by decide +kernel) (by decide +kernel) (by kernel_rfl) (by rfl) (by exact fun _ _ _ _ h => h) (Nat.le_refl _) ?_; apply Exists.intro; refine ⟨fun w1 h1 => ?_, ?_⟩; (first | exact g_move _ rfl | exact g_assign _ rfl | exact g_load _ _ rfl T36 rfl (hbxx w1 h1) | (go_simp; first | exact ⟨rfl, rfl⟩ | rfl)); simp only [Act.put, Act.eval, List.setIfInBounds_toArray, List.set_cons_zero, List.set_cons_succ, Array.getD_eq_getD_getElem?, List.getElem?_toArray, List.getElem?_cons_zero, List.getElem?_cons_succ, Option.getD_some]) | (refine wpG_go 2 (by simp only [List.getElem?_toArray, List.getElem?_cons_zero, List.getElem?_cons_succ] <;> rfl) (by decide +kernel) (by decide +kernel) (by kernel_rfl) (by rfl) (by exact fun _ _ _ _ h => h) (Nat.le_refl _) ?_; apply Exists.intro; refine ⟨fun w1 h1 => ?_, ?_⟩; (first | exact g_move _ rfl | exact g_assign _ rfl | exact g_load _ _ rfl T36 rfl (hbxx w1 h1) | (go_simp; first | exact ⟨rfl, rfl⟩ | rfl)); simp only [Act.put, Act.eval, List.setIfInBounds_toArray, List.set_cons_zero, List.set_cons_succ, Array.getD_eq_getD_getElem?, List.getElem?_toArray, List.getElem?_cons_zero, List.getElem?_cons_succ, Option.getD_some]) | (refine wpG_skip 0 (by simp only [List.getElem?_toArray, List.getElem?_cons_zero, List.getElem?_cons_succ] <;> rfl) (by decide +kernel) (by decide +kernel) (by kernel_rfl) (by rfl) (by exact fun _ _ _ _ h => h) (Nat.le_refl _) ?_; simp only [Act.put, Act.eval, List.setIfInBounds_toArray, List.set_cons_zero, List.set_cons_succ, Array.getD_eq_getD_getElem?, List.getElem?_toArray, List.getElem?_cons_zero, List.getElem?_cons_succ, Option.getD_some]) | (refine wpG_skip 2 (by simp only [List.getElem?_toArray, List.getElem?_cons_zero, List.getElem?_cons_succ] <;> rfl) (by decide +kernel) (by decide +kernel) (by kernel_rfl) (by rfl) (by exact fun _ _ _ _ h => h) (Nat.le_refl _) ?_; simp only [Act.put, Act.eval, List.setIfInBounds_toArray, List.set_cons_zero, List.set_cons_succ, Array.getD_eq_getD_getElem?, List.getElem?_toArray, List.getElem?_cons_zero, List.getElem?_cons_succ, Option.getD_some])))
        obtain ⟨hi0, hz0, hz1, hz2⟩ := J.out
        (refine wpG_two 1 3 (by decide +kernel) ?_ ?_ <;> (intro wax hwax; refine op_wanted (by simp only [List.getElem?_toArray, List.getElem?_cons_zero, List.getElem?_cons_succ] <;> rfl) rfl ?_))
        have hsx := HS.out.bel (hw2.trans hwax).out
        refine wp_append_src (.const (.slice none 0 0)) (.tmp 26) _ rfl w2.heap.size 36 i0 _ 3 24 Try.underlying22 hi0 hz0 hz1 hz2 rfl (by omega) (.slice none 0 0) 0 [] rfl (World.ownsRow_nil ..) A n c (evc l) rfl (by rw [evc_length, HN.out]) hsx.src (evc_one _) (by simp only [maxLen]; omega) (by omega) hwax.size fun v4x wbx hown howng _ => ⟨grown_below howng (World.ownsRow_nil _ w2.heap.size 36 3) (Nat.le_refl _) hwax.size, ?_⟩
        have hwb : Bel w2 wbx := hwax.out.trans (grown_below howng (World.ownsRow_nil _ w2.heap.size 36 3) (Nat.le_refl _) hwax.size)
        (refine wpG_one 3 (by decide +kernel) ?_; intro wcx hwc; refine op_wanted (by simp only [List.getElem?_toArray, List.getElem?_cons_zero, List.getElem?_cons_succ] <;> rfl) rfl ?_)
        refine wp_build1 _ _ rfl _ i0 Try.underlying22 hi0 hz0 hz1 a1 rfl ⟨Below.alloc (Below.refl _ _) (hwb.trans hwc).size _, ?_⟩
        have bxx := Box.new wcx (evv a1) 36
        have hw6x := (hwb.trans hwc).alloc (.cells (evv a1) 36)
        have ho6x := own_alloc (own_bel hown hwc) (.cells (evv a1) 36)
        clear hown howng hsx hwax hwb hwc
        generalize wcx.alloc (.cells (evv a1) 36) = w6x at *
        generalize wcx.heap.size = Bx at *
        rotate_left
        refine wp_build1 _ _ rfl _ i0 Try.underlying22 hi0 hz0 hz1 a1 rfl ⟨Below.alloc (Below.refl _ _) hwax.size _, ?_⟩
        (refine wpG_one 1 (by decide +kernel) ?_; intro wcx hwc; refine op_wanted (by simp only [List.getElem?_toArray, List.getElem?_cons_zero, List.getElem?_cons_succ] <;> rfl) rfl ?_)
        have hwb := (hwax.alloc (.cells (evv a1) 36)).trans hwc
        have hsx := HS.out.bel (hw2.trans hwb).out
        have bx0 := hwc.box (Box.new wax (evv a1) 36)
        refine wp_append_src (.const (.slice none 0 0)) (.tmp 26) _ rfl w2.heap.size 36 i0 _ 3 24 Try.underlying22 hi0 hz0 hz1 hz2 rfl (by omega) (.slice none 0 0) 0 [] rfl (World.ownsRow_nil ..) A n c (evc l) rfl (by rw [evc_length, HN.out]) hsx.src (evc_one _) (by simp only [maxLen]; omega) (by omega) hwb.size fun v4x w6x hown howng _ => ⟨grown_below howng (World.ownsRow_nil _ w2.heap.size 36 3) (Nat.le_refl _) hwb.size, ?_⟩
        have hw6x : Bel w2 w6x := hwb.out.trans (grown_below howng (World.ownsRow_nil _ w2.heap.size 36 3) (Nat.le_refl _) hwb.size)
        have bxx := bx0.grown howng (by simp [Value.ownBlock])
        have ho6x := hown
        clear hown howng hsx hwax hwb hwc bx0
        generalize wax.heap.size = Bx at *
        all_goals
          (refine wpG_one 4 (by decide +kernel) ?_; intro w7x hw7x; refine op_wanted (by simp only [List.getElem?_toArray, List.getElem?_cons_zero, List.getElem?_cons_succ] <;> rfl) rfl ?_)
          have ho7 := own_bel ho6x hw7x
          refine wp_append_src (.tmp 27) (.tmp 29) _ rfl w2.heap.size 36 i0 _ 3 24 Try.underlying22 hi0 hz0 hz1 hz2 rfl (by omega) v4x (0 + n) ([] ++ evc l) rfl ho7 (some ⟨Bx, 0, none⟩) 1 1 (evc [a1]) rfl rfl (Src.box (l := evc [a1]) (hw7x.box bxx) 1) (evc_one _) (by simp only [maxLen]; omega) (by omega) (hw6x.trans hw7x).size fun v8x w8x hown howng _ => ⟨grown_below howng ho7 (Nat.le_refl _) (hw6x.trans hw7x).size, ?_⟩
          have hw8x : Bel w2 w8x := (hw6x.trans hw7x).out.trans (grown_below howng ho7 (Nat.le_refl _) (hw6x.trans hw7x).size)
          have ho8x : w8x.ownsRow w2.heap.size 36 3 v8x (n + 1) (evc (l ++ [a1])) := by rw [evc_append]; simpa using hown
          clear hown howng ho7 ho6x bxx hw6x hw7x
          (refine wpG_one 5 (by decide +kernel) ?_; intro w10x hw10x; refine op_wanted (by simp only [List.getElem?_toArray, List.getElem?_cons_zero, List.getElem?_cons_succ] <;> rfl) rfl ?_)
          obtain ⟨A8x, c8x, rfl, hs8, hc8, hm8⟩ := Sl.own (own_bel ho8x hw10x)
          have HS8 := Lib.hid hs8
          clear hs8 ho8x hi0 hz0 hz1 hz2
          go_simp
          refine (check_any A8x _ c8x _ _ HS8.out).mono ?_
          rintro e11 w11x ⟨rfl, hb11⟩
          refine ⟨hb11.mono (hw8x.trans hw10x).size, ?_⟩
          have hw11x : Bel w2 w11x := (hw8x.trans hw10x).trans hb11
          have hNx := hw11x.size
          clear hb11 hw8x hw10x HS8
          (repeat (first | (refine wpG_go 6 (by simp only [List.getElem?_toArray, List.getElem?_cons_zero, List.getElem?_cons_succ] <;> rfl) (by decide +kernel) (by decide +kernel) (by kernel_rfl) (by rfl) (by exact fun _ _ _ _ h => h) hNx ?_; apply Exists.intro; refine ⟨fun w1 h1 => ?_, ?_⟩; (first | exact g_move _ rfl | exact g_assign _ rfl | (go_simp; first | exact ⟨rfl, rfl⟩ | rfl)); simp only [Act.put, Act.eval, List.setIfInBounds_toArray, List.set_cons_zero, List.set_cons_succ, Array.getD_eq_getD_getElem?, List.getElem?_toArray, List.getElem?_cons_zero, List.getElem?_cons_succ, Option.getD_some]) | (refine wpG_go 7 (by simp only [List.getElem?_toArray, List.getElem?_cons_zero, List.getElem?_cons_succ] <;> rfl) (by decide +kernel) (by decide +kernel) (by kernel_rfl) (by rfl) (by exact fun _ _ _ _ h => h) hNx ?_; apply Exists.intro; refine ⟨fun w1 h1 => ?_, ?_⟩; (first | exact g_move _ rfl | exact g_assign _ rfl | (go_simp; first | exact ⟨rfl, rfl⟩ | rfl)); simp only [Act.put, Act.eval, List.setIfInBounds_toArray, List.set_cons_zero, List.set_cons_succ, Array.getD_eq_getD_getElem?, List.getElem?_toArray, List.getElem?_cons_zero, List.getElem?_cons_succ, Option.getD_some]) | (refine wpG_go 8 (by simp only [List.getElem?_toArray, List.getElem?_cons_zero, List.getElem?_cons_succ] <;> rfl) (by decide +kernel) (by decide +kernel) (by kernel_rfl) (by rfl) (by exact fun _ _ _ _ h => h) hNx ?_; apply Exists.intro; refine ⟨fun w1 h1 => ?_, ?_⟩; (first | exact g_move _ rfl | exact g_assign _ rfl | (go_simp; first | exact ⟨rfl, rfl⟩ | rfl)); simp only [Act.put, Act.eval, List.setIfInBounds_toArray, List.set_cons_zero, List.set_cons_succ, Array.getD_eq_getD_getElem?, List.getElem?_toArray, List.getElem?_cons_zero, List.getElem?_cons_succ, Option.getD_some]) | (refine wpG_go 9 (by simp only [List.getElem?_toArray, List.getElem?_cons_zero, List.getElem?_cons_succ] <;> rfl) (by decide +kernel) (by decide +kernel) (by kernel_rfl) (by rfl) (by exact fun _ _ _ _ h => h) hNx ?_; apply Exists.intro; refine ⟨fun w1 h1 => ?_, ?_⟩; (first | exact g_move _ rfl | exact g_assign _ rfl | (go_simp; first | exact ⟨rfl, rfl⟩ | rfl)); simp only [Act.put, Act.eval, List.setIfInBounds_toArray, List.set_cons_zero, List.set_cons_succ, Array.getD_eq_getD_getElem?, List.getElem?_toArray, List.getElem?_cons_zero, List.getElem?_cons_succ, Option.getD_some]) | (refine wpG_go 10 (by simp only [List.getElem?_toArray, List.getElem?_cons_zero, List.getElem?_cons_succ] <;> rfl) (by decide +kernel) (by decide +kernel) (by kernel_rfl) (by rfl) (by exact fun _ _ _ _ h => h) hNx ?_; apply Exists.intro; refine ⟨fun w1 h1 => ?_, ?_⟩; (first | exact g_move _ rfl | exact g_assign _ rfl | (go_simp; first | exact ⟨rfl, rfl⟩ | rfl)); simp only [Act.put, Act.eval, List.setIfInBounds_toArray, List.set_cons_zero, List.set_cons_succ, Array.getD_eq_getD_getElem?, List.getElem?_toArray, List.getElem?_cons_zero, List.getElem?_cons_succ, Option.getD_some]) | (refine wpG_skip 6 (by simp only [List.getElem?_toArray, List.getElem?_cons_zero, List.getElem?_cons_succ] <;> rfl) (by decide +kernel) (by decide +kernel) (by kernel_rfl) (by rfl) (by exact fun _ _ _ _ h => h) hNx ?_; simp only [Act.put, Act.eval, List.setIfInBounds_toArray, List.set_cons_zero, List.set_cons_succ, Array.getD_eq_getD_getElem?, List.getElem?_toArray, List.getElem?_cons_zero, List.getElem?_cons_succ, Option.getD_some]) | (refine wpG_skip 7 (by simp only [List.getElem?_toArray, List.getElem?_cons_zero, List.getElem?_cons_succ] <;> rfl) (by decide +kernel) (by decide +kernel) (by kernel_rfl) (by rfl) (by exact fun _ _ _ _ h => h) hNx ?_; simp only [Act.put, Act.eval, List.setIfInBounds_toArray, List.set_cons_zero, List.set_cons_succ, Array.getD_eq_getD_getElem?, List.getElem?_toArray, List.getElem?_cons_zero, List.getElem?_cons_succ, Option.getD_some]) | (refine wpG_skip 8 (by simp only [List.getElem?_toArray, List.getElem?_cons_zero, List.getElem?_cons_succ] <;> rfl) (by decide +kernel) (by decide +kernel) (by kernel_rfl) (by rfl) (by exact fun _ _ _ _ h => h) hNx ?_; simp only [Act.put, Act.eval, List.setIfInBounds_toArray, List.set_cons_zero, List.set_cons_succ, Array.getD_eq_getD_getElem?, List.getElem?_toArray, List.getElem?_cons_zero, List.getElem?_cons_succ, Option.getD_some]) | (refine wpG_skip 9 (by simp only [List.getElem?_toArray, List.getElem?_cons_zero, List.getElem?_cons_succ] <;> rfl) (by decide +kernel) (by decide +kernel) (by kernel_rfl) (by rfl) (by exact fun _ _ _ _ h => h) hNx ?_; simp only [Act.put, Act.eval, List.setIfInBounds_toArray, List.set_cons_zero, List.set_cons_succ, Array.getD_eq_getD_getElem?, List.getElem?_toArray, List.getElem?_cons_zero, List.getElem?_cons_succ, Option.getD_some]) | (refine wpG_skip 10 (by simp only [List.getElem?_toArray, List.getElem?_cons_zero, List.getElem?_cons_succ] <;> rfl) (by decide +kernel) (by decide +kernel) (by kernel_rfl) (by rfl) (by exact fun _ _ _ _ h => h) hNx ?_; simp only [Act.put, Act.eval, List.setIfInBounds_toArray, List.set_cons_zero, List.set_cons_succ, Array.getD_eq_getD_getElem?, List.getElem?_toArray, List.getElem?_cons_zero, List.getElem?_cons_succ, Option.getD_some])))
          (refine wpG_done (by decide +kernel) ?_ _; intro w12x hw12x)
          have hw13x := hw2.trans (hw11x.trans hw12x)
          clear hw11x hw12x
          rw [HC1.out]
          go_wp2
          refine region_grow (by kernel_rfl) ?_
          have hbxz := fun (w1 : World) (h1 : Below w12x.heap.size w12x w1) => (hw13x.trans h1).box HX.out
          (repeat (first | (refine wpG_go 0 (by simp only [List.getElem?_toArray, List.getElem?_cons_zero, List.getElem?_cons_succ] <;> rfl) (by decide +kernel) (by decide +kernel) (by kernel_rfl) (by rfl) (by exact fun _ _ _ _ h => h) (Nat.le_refl _) ?_; apply Exists.intro; refine ⟨fun w1 h1 => ?_, ?_⟩; (first | exact g_move _ rfl | exact g_assign _ rfl | exact g_load _ _ rfl T36 rfl (hbxz w1 h1) | (go_simp; first | exact ⟨rfl, rfl⟩ | rfl)); simp only [Act.put, Act.eval, List.setIfInBounds_toArray, List.set_cons_zero, List.set_cons_succ, Array.getD_eq_getD_getElem?, List.getElem?_toArray, List.getElem?_cons_zero, List.getElem?_cons_succ, Option.getD_some]) | (refine wpG_go 2 (by simp only [List.getElem?_toArray, List.getElem?_cons_zero, List.getElem?_cons_succ] <;> rfl) (by decide +kernel) (by decide +kernel) (by kernel_rfl) (by rfl) (by exact fun _ _ _ _ h => h) (Nat.le_refl _) ?_; apply Exists.intro; refine ⟨fun w1 h1 => ?_, ?_⟩; (first | exact g_move _ rfl | exact g_assign _ rfl | exact g_load _ _ rfl T36 rfl (hbxz w1 h1) | (go_simp; first | exact ⟨rfl, rfl⟩ | rfl)); simp only [Act.put, Act.eval, List.setIfInBounds_toArray, List.set_cons_zero, List.set_cons_succ, Array.getD_eq_getD_getElem?, List.getElem?_toArray, List.getElem?_cons_zero, List.getElem?_cons_succ, Option.getD_some]) | (refine wpG_go 5 (by simp only [List.getElem?_toArray, List.getElem?_cons_zero, List.getElem?_cons_succ] <;> rfl) (by decide +kernel) (by decide +kernel) (by kernel_rfl) (by rfl) (by exact fun _ _ _ _ h => h) (Nat.le_refl _) ?_; apply Exists.intro; refine ⟨fun w1 h1 => ?_, ?_⟩; (first | exact g_move _ rfl | exact g_assign _ rfl | exact g_load _ _ rfl T36 rfl (hbxz w1 h1) | (go_simp; first | exact ⟨rfl, rfl⟩ | rfl)); simp only [Act.put, Act.eval, List.setIfInBounds_toArray, List.set_cons_zero, List.set_cons_succ, Array.getD_eq_getD_getElem?, List.getElem?_toArray, List.getElem?_cons_zero, List.getElem?_cons_succ, Option.getD_some]) | (refine wpG_skip 0 (by simp only [List.getElem?_toArray, List.getElem?_cons_zero, List.getElem?_cons_succ] <;> rfl) (by decide +kernel) (by decide +kernel) (by kernel_rfl) (by rfl) (by exact fun _ _ _ _ h => h) (Nat.le_refl _) ?_; simp only [Act.put, Act.eval, List.setIfInBounds_toArray, List.set_cons_zero, List.set_cons_succ, Array.getD_eq_getD_getElem?, List.getElem?_toArray, List.getElem?_cons_zero, List.getElem?_cons_succ, Option.getD_some]) | (refine wpG_skip 2 (by simp only [List.getElem?_toArray, List.getElem?_cons_zero, List.getElem?_cons_succ] <;> rfl) (by decide +kernel) (by decide +kernel) (by kernel_rfl) (by rfl) (by exact fun _ _ _ _ h => h) (Nat.le_refl _) ?_; simp only [Act.put, Act.eval, List.setIfInBounds_toArray, List.set_cons_zero, List.set_cons_succ, Array.getD_eq_getD_getElem?, List.getElem?_toArray, List.getElem?_cons_zero, List.getElem?_cons_succ, Option.getD_some]) | (refine wpG_skip 5 (by simp only [List.getElem?_toArray, List.getElem?_cons_zero, List.getElem?_cons_succ] <;> rfl) (by decide +kernel) (by decide +kernel) (by kernel_rfl) (by rfl) (by exact fun _ _ _ _ h => h) (Nat.le_refl _) ?_; simp only [Act.put, Act.eval, List.setIfInBounds_toArray, List.set_cons_zero, List.set_cons_succ, Array.getD_eq_getD_getElem?, List.getElem?_toArray, List.getElem?_cons_zero, List.getElem?_cons_succ, Option.getD_some])))
          obtain ⟨hi0, hz0, hz1, hz2⟩ := J.out
          (refine wpG_two 1 3 (by decide +kernel) ?_ ?_ <;> (intro waz hwaz; refine op_wanted (by simp only [List.getElem?_toArray, List.getElem?_cons_zero, List.getElem?_cons_succ] <;> rfl) rfl ?_))
          have hsx := HS.out.bel (hw13x.trans hwaz).out
          refine wp_append_src (.const (.slice none 0 0)) (.tmp 35) _ rfl w12x.heap.size 36 i0 _ 3 24 Try.underlying22 hi0 hz0 hz1 hz2 rfl (by omega) (.slice none 0 0) 0 [] rfl (World.ownsRow_nil ..) A n c (evc l) rfl (by rw [evc_length, HN.out]) hsx.src (evc_one _) (by simp only [maxLen]; omega) (by omega) hwaz.size fun v4z wbz hown howng _ => ⟨grown_below howng (World.ownsRow_nil _ w12x.heap.size 36 3) (Nat.le_refl _) hwaz.size, ?_⟩
          have hwb : Bel w12x wbz := hwaz.out.trans (grown_below howng (World.ownsRow_nil _ w12x.heap.size 36 3) (Nat.le_refl _) hwaz.size)
          (refine wpG_one 3 (by decide +kernel) ?_; intro wcz hwc; refine op_wanted (by simp only [List.getElem?_toArray, List.getElem?_cons_zero, List.getElem?_cons_succ] <;> rfl) rfl ?_)
          refine wp_build1 _ _ rfl _ i0 Try.underlying22 hi0 hz0 hz1 a1 rfl ⟨Below.alloc (Below.refl _ _) (hwb.trans hwc).size _, ?_⟩
          have bxz := Box.new wcz (evv a1) 36
          have hw6z := (hwb.trans hwc).alloc (.cells (evv a1) 36)
          have ho6z := own_alloc (own_bel hown hwc) (.cells (evv a1) 36)
          clear hown howng hsx hwaz hwb hwc
          generalize wcz.alloc (.cells (evv a1) 36) = w6z at *
          generalize wcz.heap.size = Bz at *
          rotate_left
          refine wp_build1 _ _ rfl _ i0 Try.underlying22 hi0 hz0 hz1 a1 rfl ⟨Below.alloc (Below.refl _ _) hwaz.size _, ?_⟩
          (refine wpG_one 1 (by decide +kernel) ?_; intro wcz hwc; refine op_wanted (by simp only [List.getElem?_toArray, List.getElem?_cons_zero, List.getElem?_cons_succ] <;> rfl) rfl ?_)
          have hwb := (hwaz.alloc (.cells (evv a1) 36)).trans hwc
          have hsx := HS.out.bel (hw13x.trans hwb).out
          have bx0 := hwc.box (Box.new waz (evv a1) 36)
          refine wp_append_src (.const (.slice none 0 0)) (.tmp 35) _ rfl w12x.heap.size 36 i0 _ 3 24 Try.underlying22 hi0 hz0 hz1 hz2 rfl (by omega) (.slice none 0 0) 0 [] rfl (World.ownsRow_nil ..) A n c (evc l) rfl (by rw [evc_length, HN.out]) hsx.src (evc_one _) (by simp only [maxLen]; omega) (by omega) hwb.size fun v4z w6z hown howng _ => ⟨grown_below howng (World.ownsRow_nil _ w12x.heap.size 36 3) (Nat.le_refl _) hwb.size, ?_⟩
          have hw6z : Bel w12x w6z := hwb.out.trans (grown_below howng (World.ownsRow_nil _ w12x.heap.size 36 3) (Nat.le_refl _) hwb.size)
          have bxz := bx0.grown howng (by simp [Value.ownBlock])
          have ho6z := hown
          clear hown howng hsx hwaz hwb hwc bx0
          generalize waz.heap.size = Bz at *
          all_goals
            (refine wpG_one 4 (by decide +kernel) ?_; intro w7z hw7z; refine op_wanted (by simp only [List.getElem?_toArray, List.getElem?_cons_zero, List.getElem?_cons_succ] <;> rfl) rfl ?_)
            have ho7 := own_bel ho6z hw7z
            refine wp_append_src (.tmp 36) (.tmp 38) _ rfl w12x.heap.size 36 i0 _ 3 24 Try.underlying22 hi0 hz0 hz1 hz2 rfl (by omega) v4z (0 + n) ([] ++ evc l) rfl ho7 (some ⟨Bz, 0, none⟩) 1 1 (evc [a1]) rfl rfl (Src.box (l := evc [a1]) (hw7z.box bxz) 1) (evc_one _) (by simp only [maxLen]; omega) (by omega) (hw6z.trans hw7z).size fun v8z w8z hown howng _ => ⟨grown_below howng ho7 (Nat.le_refl _) (hw6z.trans hw7z).size, ?_⟩
            have hw8z : Bel w12x w8z := (hw6z.trans hw7z).out.trans (grown_below howng ho7 (Nat.le_refl _) (hw6z.trans hw7z).size)
            have ho8z : w8z.ownsRow w12x.heap.size 36 3 v8z (n + 1) (evc (l ++ [a1])) := by rw [evc_append]; simpa using hown
            clear hown howng ho7 ho6z bxz hw6z hw7z
            (refine wpG_one 6 (by decide +kernel) ?_; intro wdz hwd; refine op_wanted (by simp only [List.getElem?_toArray, List.getElem?_cons_zero, List.getElem?_cons_succ] <;> rfl) rfl ?_)
            have ho9 := own_bel ho8z hwd
            have hsx := HS2.out.bel (hw13x.trans (hw8z.trans hwd)).out
            refine wp_append_src (.tmp 39) (.tmp 40) _ rfl w12x.heap.size 36 i0 _ 3 24 Try.underlying22 hi0 hz0 hz1 hz2 rfl (by omega) v8z (n + 1) (evc (l ++ [a1])) rfl ho9 A2 n2 c2 (evc l2) rfl (by rw [evc_length, HN2.out]) hsx.src (evc_one _) (by simp only [maxLen]; omega) (by omega) (hw8z.trans hwd).size fun v9z w9z hown howng _ => ⟨grown_below howng ho9 (Nat.le_refl _) (hw8z.trans hwd).size, ?_⟩
            have hw9z : Bel w12x w9z := (hw8z.trans hwd).out.trans (grown_below howng ho9 (Nat.le_refl _) (hw8z.trans hwd).size)
            have ho8z : w9z.ownsRow w12x.heap.size 36 3 v9z (n + 1 + n2) (evc (l ++ a1 :: l2)) := by rw [show l ++ a1 :: l2 = (l ++ [a1]) ++ l2 by simp, evc_append]; exact hown
            clear hown howng ho9 hsx hw8z hwd
            have hw8z := hw9z
            (refine wpG_one 7 (by decide +kernel) ?_; intro w10z hw10z; refine op_wanted (by simp only [List.getElem?_toArray, List.getElem?_cons_zero, List.getElem?_cons_succ] <;> rfl) rfl ?_)
            obtain ⟨A8z, c8z, rfl, hs8, hc8, hm8⟩ := Sl.own (own_bel ho8z hw10z)
            have HS8 := Lib.hid hs8
            clear hs8 ho8z hi0 hz0 hz1 hz2
            go_simp
            refine (check_any A8z _ c8z _ _ HS8.out).mono ?_
            rintro e11 w11z ⟨rfl, hb11⟩
            refine ⟨hb11.mono (hw8z.trans hw10z).size, ?_⟩
            have hw11z : Bel w12x w11z := (hw8z.trans hw10z).trans hb11
            have hNz := hw11z.size
            clear hb11 hw8z hw10z HS8
            (repeat (first | (refine wpG_go 8 (by simp only [List.getElem?_toArray, List.getElem?_cons_zero, List.getElem?_cons_succ] <;> rfl) (by decide +kernel) (by decide +kernel) (by kernel_rfl) (by rfl) (by exact fun _ _ _ _ h => h) hNz ?_; apply Exists.intro; refine ⟨fun w1 h1 => ?_, ?_⟩; (first | exact g_move _ rfl | exact g_assign _ rfl | (go_simp; first | exact ⟨rfl, rfl⟩ | rfl)); simp only [Act.put, Act.eval, List.setIfInBounds_toArray, List.set_cons_zero, List.set_cons_succ, Array.getD_eq_getD_getElem?, List.getElem?_toArray, List.getElem?_cons_zero, List.getElem?_cons_succ, Option.getD_some]) | (refine wpG_go 9 (by simp only [List.getElem?_toArray, List.getElem?_cons_zero, List.getElem?_cons_succ] <;> rfl) (by decide +kernel) (by decide +kernel) (by kernel_rfl) (by rfl) (by exact fun _ _ _ _ h => h) hNz ?_; apply Exists.intro; refine ⟨fun w1 h1 => ?_, ?_⟩; (first | exact g_move _ rfl | exact g_assign _ rfl | (go_simp; first | exact ⟨rfl, rfl⟩ | rfl)); simp only [Act.put, Act.eval, List.setIfInBounds_toArray, List.set_cons_zero, List.set_cons_succ, Array.getD_eq_getD_getElem?, List.getElem?_toArray, List.getElem?_cons_zero, List.getElem?_cons_succ, Option.getD_some]) | (refine wpG_go 10 (by simp only [List.getElem?_toArray, List.getElem?_cons_zero, List.getElem?_cons_succ] <;> rfl) (by decide +kernel) (by decide +kernel) (by kernel_rfl) (by rfl) (by exact fun _ _ _ _ h => h) hNz ?_; apply Exists.intro; refine ⟨fun w1 h1 => ?_, ?_⟩; (first | exact g_move _ rfl | exact g_assign _ rfl | (go_simp; first | exact ⟨rfl, rfl⟩ | rfl)); simp only [Act.put, Act.eval, List.setIfInBounds_toArray, List.set_cons_zero, List.set_cons_succ, Array.getD_eq_getD_getElem?, List.getElem?_toArray, List.getElem?_cons_zero, List.getElem?_cons_succ, Option.getD_some]) | (refine wpG_go 11 (by simp only [List.getElem?_toArray, List.getElem?_cons_zero, List.getElem?_cons_succ] <;> rfl) (by decide +kernel) (by decide +kernel) (by kernel_rfl) (by rfl) (by exact fun _ _ _ _ h => h) hNz ?_; apply Exists.intro; refine ⟨fun w1 h1 => ?_, ?_⟩; (first | exact g_move _ rfl | exact g_assign _ rfl | (go_simp; first | exact ⟨rfl, rfl⟩ | rfl)); simp only [Act.put, Act.eval, List.setIfInBounds_toArray, List.set_cons_zero, List.set_cons_succ, Array.getD_eq_getD_getElem?, List.getElem?_toArray, List.getElem?_cons_zero, List.getElem?_cons_succ, Option.getD_some]) | (refine wpG_go 12 (by simp only [List.getElem?_toArray, List.getElem?_cons_zero, List.getElem?_cons_succ] <;> rfl) (by decide +kernel) (by decide +kernel) (by kernel_rfl) (by rfl) (by exact fun _ _ _ _ h => h) hNz ?_; apply Exists.intro; refine ⟨fun w1 h1 => ?_, ?_⟩; (first | exact g_move _ rfl | exact g_assign _ rfl | (go_simp; first | exact ⟨rfl, rfl⟩ | rfl)); simp only [Act.put, Act.eval, List.setIfInBounds_toArray, List.set_cons_zero, List.set_cons_succ, Array.getD_eq_getD_getElem?, List.getElem?_toArray, List.getElem?_cons_zero, List.getElem?_cons_succ, Option.getD_some]) | (refine wpG_skip 8 (by simp only [List.getElem?_toArray, List.getElem?_cons_zero, List.getElem?_cons_succ] <;> rfl) (by decide +kernel) (by decide +kernel) (by kernel_rfl) (by rfl) (by exact fun _ _ _ _ h => h) hNz ?_; simp only [Act.put, Act.eval, List.setIfInBounds_toArray, List.set_cons_zero, List.set_cons_succ, Array.getD_eq_getD_getElem?, List.getElem?_toArray, List.getElem?_cons_zero, List.getElem?_cons_succ, Option.getD_some]) | (refine wpG_skip 9 (by simp only [List.getElem?_toArray, List.getElem?_cons_zero, List.getElem?_cons_succ] <;> rfl) (by decide +kernel) (by decide +kernel) (by kernel_rfl) (by rfl) (by exact fun _ _ _ _ h => h) hNz ?_; simp only [Act.put, Act.eval, List.setIfInBounds_toArray, List.set_cons_zero, List.set_cons_succ, Array.getD_eq_getD_getElem?, List.getElem?_toArray, List.getElem?_cons_zero, List.getElem?_cons_succ, Option.getD_some]) | (refine wpG_skip 10 (by simp only [List.getElem?_toArray, List.getElem?_cons_zero, List.getElem?_cons_succ] <;> rfl) (by decide +kernel) (by decide +kernel) (by kernel_rfl) (by rfl) (by exact fun _ _ _ _ h => h) hNz ?_; simp only [Act.put, Act.eval, List.setIfInBounds_toArray, List.set_cons_zero, List.set_cons_succ, Array.getD_eq_getD_getElem?, List.getElem?_toArray, List.getElem?_cons_zero, List.getElem?_cons_succ, Option.getD_some]) | (refine wpG_skip 11 (by simp only [List.getElem?_toArray, List.getElem?_cons_zero, List.getElem?_cons_succ] <;> rfl) (by decide +kernel) (by decide +kernel) (by kernel_rfl) (by rfl) (by exact fun _ _ _ _ h => h) hNz ?_; simp only [Act.put, Act.eval, List.setIfInBounds_toArray, List.set_cons_zero, List.set_cons_succ, Array.getD_eq_getD_getElem?, List.getElem?_toArray, List.getElem?_cons_zero, List.getElem?_cons_succ, Option.getD_some]) | (refine wpG_skip 12 (by simp only [List.getElem?_toArray, List.getElem?_cons_zero, List.getElem?_cons_succ] <;> rfl) (by decide +kernel) (by decide +kernel) (by kernel_rfl) (by rfl) (by exact fun _ _ _ _ h => h) hNz ?_; simp only [Act.put, Act.eval, List.setIfInBounds_toArray, List.set_cons_zero, List.set_cons_succ, Array.getD_eq_getD_getElem?, List.getElem?_toArray, List.getElem?_cons_zero, List.getElem?_cons_succ, Option.getD_some])))
            (refine wpG_done (by decide +kernel) ?_ _; intro w12z hw12z)
            have hw13z := hw13x.trans (hw11z.trans hw12z)
            clear hw11z hw12z
            go_wp2
            go_ret
            exact ⟨ret_val (by simp), HT.out _ hw13z⟩

      · have HC1 := Lib.hid (show check (l ++ [a1]) = ((n : Int), wrong l a1) by rw [check_snoc a1 [] HM.out (by rw [HN.out]; simp; omega) (by simpa using hwx), HN.out])
        have HC2 := Lib.hid (show check (l ++ a1 :: l2) = ((n : Int), wrong l a1) by rw [check_snoc a1 l2 HM.out (by rw [HN.out, HN2.out]; omega) (by simpa using hwx), HN.out])
        have hwy : (wrong l a1 == 0) = false := by simpa using hwx
        go_enter Try.func8, Try.ntmps8
        go_wp2_with fail
        refine (traced_any _).mono ?_
        rintro e1 w1 ⟨rfl, hb1⟩
        have hw1 : Bel W w1 := hw0.call hb1
        clear hb1
        go_wp2_with fail
        refine (may_any A n c l _ (HS.out.bel hw1.out)).mono ?_
        rintro e2 w2 ⟨rfl, hb2⟩
        have hw2 : Bel W w2 := hw1.call hb2
        clear hb2
        go_wp2
        refine region_grow (by kernel_rfl) ?_
        have hbxx := fun (w1 : World) (h1 : Below w2.heap.size w2 w1) => (hw2.trans h1).box HX.out
        (repeat (first | (refine wpG_go 0 (by simp only [List.getElem?_toArray, List.getElem?_cons_zero, List.getElem?_cons_succ] <;> rfl) (by decide +kernel) (by decide +kernel) (by kernel_rfl) (by rfl) (by exact fun _ _ _ _ h => h) (Nat.le_refl _) ?_; apply Exists.intro; refine ⟨fun w1 h1 => ?_, ?_⟩; (first | exact g_move _ rfl | exact g_assign _ rfl | exact g_load _ _ rfl T36 rfl (hbxx w1 h1) | (go_simp; first | exact ⟨rfl, rfl⟩ | rfl)); simp only [Act.put, Act.eval, List.setIfInBounds_toArray, List.set_cons_zero, List.set_cons_succ, Array.getD_eq_getD_getElem?, List.getElem?_toArray, List.getElem?_cons_zero, List.getElem?_cons_succ, Option.getD_some]) | (refine wpG_go 2 (by simp only [List.getElem?_toArray, List.getElem?_cons_zero, List.getElem?_cons_succ] <;> rfl) (by decide +kernel) (by decide +kernel) (by kernel_rfl) (by rfl) (by exact fun _ _ _ _ h => h) (Nat.le_refl _) ?_; apply Exists.intro; refine ⟨fun w1 h1 => ?_, ?_⟩; (first | exact g_move _ rfl | exact g_assign _ rfl | exact g_load _ _ rfl T36 rfl (hbxx w1 h1) | (go_simp; first | exact ⟨rfl, rfl⟩ | rfl)); simp only [Act.put, Act.eval, List.setIfInBounds_toArray, List.set_cons_zero, List.set_cons_succ, Array.getD_eq_getD_getElem?, List.getElem?_toArray, List.getElem?_cons_zero, List.getElem?_cons_succ, Option.getD_some]) | (refine wpG_skip 0 (by simp only [List.getElem?_toArray, List.getElem?_cons_zero, List.getElem?_cons_succ] <;> rfl) (by decide +kernel) (by decide +kernel) (by kernel_rfl) (by rfl) (by exact fun _ _ _ _ h => h) (Nat.le_refl _) ?_; simp only [Act.put, Act.eval, List.setIfInBounds_toArray, List.set_cons_zero, List.set_cons_succ, Array.getD_eq_getD_getElem?, List.getElem?_toArray, List.getElem?_cons_zero, List.getElem?_cons_succ, Option.getD_some]) | (refine wpG_skip 2 (by simp only [List.getElem?_toArray, List.getElem?_cons_zero, List.getElem?_cons_succ] <;> rfl) (by decide +kernel) (by decide +kernel) (by kernel_rfl) (by rfl) (by exact fun _ _ _ _ h => h) (Nat.le_refl _) ?_; simp only [Act.put, Act.eval, List.setIfInBounds_toArray, List.set_cons_zero, List.set_cons_succ, Array.getD_eq_getD_getElem?, List.getElem?_toArray, List.getElem?_cons_zero, List.getElem?_cons_succ, Option.getD_some])))
        obtain ⟨hi0, hz0, hz1, hz2⟩ := J.out
        (refine wpG_two 1 3 (by decide +kernel) ?_ ?_ <;> (intro wax hwax; refine op_wanted (by simp only [List.getElem?_toArray, List.getElem?_cons_zero, List.getElem?_cons_succ] <;> rfl) rfl ?_))
        have hsx := HS.out.bel (hw2.trans hwax).out
        refine wp_append_src (.const (.slice none 0 0)) (.tmp 26) _ rfl w2.heap.size 36 i0 _ 3 24 Try.underlying22 hi0 hz0 hz1 hz2 rfl (by omega) (.slice none 0 0) 0 [] rfl (World.ownsRow_nil ..) A n c (evc l) rfl (by rw [evc_length, HN.out]) hsx.src (evc_one _) (by simp only [maxLen]; omega) (by omega) hwax.size fun v4x wbx hown howng _ => ⟨grown_below howng (World.ownsRow_nil _ w2.heap.size 36 3) (Nat.le_refl _) hwax.size, ?_⟩
        have hwb : Bel w2 wbx := hwax.out.trans (grown_below howng (World.ownsRow_nil _ w2.heap.size 36 3) (Nat.le_refl _) hwax.size)
        (refine wpG_one 3 (by decide +kernel) ?_; intro wcx hwc; refine op_wanted (by simp only [List.getElem?_toArray, List.getElem?_cons_zero, List.getElem?_cons_succ] <;> rfl) rfl ?_)
        refine wp_build1 _ _ rfl _ i0 Try.underlying22 hi0 hz0 hz1 a1 rfl ⟨Below.alloc (Below.refl _ _) (hwb.trans hwc).size _, ?_⟩
        have bxx := Box.new wcx (evv a1) 36
        have hw6x := (hwb.trans hwc).alloc (.cells (evv a1) 36)
        have ho6x := own_alloc (own_bel hown hwc) (.cells (evv a1) 36)
        clear hown howng hsx hwax hwb hwc
        generalize wcx.alloc (.cells (evv a1) 36) = w6x at *
        generalize wcx.heap.size = Bx at *
        rotate_left
        refine wp_build1 _ _ rfl _ i0 Try.underlying22 hi0 hz0 hz1 a1 rfl ⟨Below.alloc (Below.refl _ _) hwax.size _, ?_⟩
        (refine wpG_one 1 (by decide +kernel) ?_; intro wcx hwc; refine op_wanted (by simp only [List.getElem?_toArray, List.getElem?_cons_zero, List.getElem?_cons_succ] <;> rfl) rfl ?_)
        have hwb := (hwax.alloc (.cells (evv a1) 36)).trans hwc
        have hsx := HS.out.bel (hw2.trans hwb).out
        have bx0 := hwc.box (Box.new wax (evv a1) 36)
        refine wp_append_src (.const (.slice none 0 0)) (.tmp 26) _ rfl w2.heap.size 36 i0 _ 3 24 Try.underlying22 hi0 hz0 hz1 hz2 rfl (by omega) (.slice none 0 0) 0 [] rfl (World.ownsRow_nil ..) A n c (evc l) rfl (by rw [evc_length, HN.out]) hsx.src (evc_one _) (by simp only [maxLen]; omega) (by omega) hwb.size fun v4x w6x hown howng _ => ⟨grown_below howng (World.ownsRow_nil _ w2.heap.size 36 3) (Nat.le_refl _) hwb.size, ?_⟩
        have hw6x : Bel w2 w6x := hwb.out.trans (grown_below howng (World.ownsRow_nil _ w2.heap.size 36 3) (Nat.le_refl _) hwb.size)
        have bxx := bx0.grown howng (by simp [Value.ownBlock])
        have ho6x := hown
        clear hown howng hsx hwax hwb hwc bx0
        generalize wax.heap.size = Bx at *
        all_goals
          (refine wpG_one 4 (by decide +kernel) ?_; intro w7x hw7x; refine op_wanted (by simp only [List.getElem?_toArray, List.getElem?_cons_zero, List.getElem?_cons_succ] <;> rfl) rfl ?_)
          have ho7 := own_bel ho6x hw7x
          refine wp_append_src (.tmp 27) (.tmp 29) _ rfl w2.heap.size 36 i0 _ 3 24 Try.underlying22 hi0 hz0 hz1 hz2 rfl (by omega) v4x (0 + n) ([] ++ evc l) rfl ho7 (some ⟨Bx, 0, none⟩) 1 1 (evc [a1]) rfl rfl (Src.box (l := evc [a1]) (hw7x.box bxx) 1) (evc_one _) (by simp only [maxLen]; omega) (by omega) (hw6x.trans hw7x).size fun v8x w8x hown howng _ => ⟨grown_below howng ho7 (Nat.le_refl _) (hw6x.trans hw7x).size, ?_⟩
          have hw8x : Bel w2 w8x := (hw6x.trans hw7x).out.trans (grown_below howng ho7 (Nat.le_refl _) (hw6x.trans hw7x).size)
          have ho8x : w8x.ownsRow w2.heap.size 36 3 v8x (n + 1) (evc (l ++ [a1])) := by rw [evc_append]; simpa using hown
          clear hown howng ho7 ho6x bxx hw6x hw7x
          (refine wpG_one 5 (by decide +kernel) ?_; intro w10x hw10x; refine op_wanted (by simp only [List.getElem?_toArray, List.getElem?_cons_zero, List.getElem?_cons_succ] <;> rfl) rfl ?_)
          obtain ⟨A8x, c8x, rfl, hs8, hc8, hm8⟩ := Sl.own (own_bel ho8x hw10x)
          have HS8 := Lib.hid hs8
          clear hs8 ho8x hi0 hz0 hz1 hz2
          go_simp
          refine (check_any A8x _ c8x _ _ HS8.out).mono ?_
          rintro e11 w11x ⟨rfl, hb11⟩
          refine ⟨hb11.mono (hw8x.trans hw10x).size, ?_⟩
          have hw11x : Bel w2 w11x := (hw8x.trans hw10x).trans hb11
          have hNx := hw11x.size
          clear hb11 hw8x hw10x HS8
          (repeat (first | (refine wpG_go 6 (by simp only [List.getElem?_toArray, List.getElem?_cons_zero, List.getElem?_cons_succ] <;> rfl) (by decide +kernel) (by decide +kernel) (by kernel_rfl) (by rfl) (by exact fun _ _ _ _ h => h) hNx ?_; apply Exists.intro; refine ⟨fun w1 h1 => ?_, ?_⟩; (first | exact g_move _ rfl | exact g_assign _ rfl | (go_simp; first | exact ⟨rfl, rfl⟩ | rfl)); simp only [Act.put, Act.eval, List.setIfInBounds_toArray, List.set_cons_zero, List.set_cons_succ, Array.getD_eq_getD_getElem?, List.getElem?_toArray, List.getElem?_cons_zero, List.getElem?_cons_succ, Option.getD_some]) | (refine wpG_go 7 (by simp only [List.getElem?_toArray, List.getElem?_cons_zero, List.getElem?_cons_succ] <;> rfl) (by decide +kernel) (by decide +kernel) (by kernel_rfl) (by rfl) (by exact fun _ _ _ _ h => h) hNx ?_; apply Exists.intro; refine ⟨fun w1 h1 => ?_, ?_⟩; (first | exact g_move _ rfl | exact g_assign _ rfl | (go_simp; first | exact ⟨rfl, rfl⟩ | rfl)); simp only [Act.put, Act.eval, List.setIfInBounds_toArray, List.set_cons_zero, List.set_cons_succ, Array.getD_eq_getD_getElem?, List.getElem?_toArray, List.getElem?_cons_zero, List.getElem?_cons_succ, Option.getD_some]) | (refine wpG_go 8 (by simp only [List.getElem?_toArray, List.getElem?_cons_zero, List.getElem?_cons_succ] <;> rfl) (by decide +kernel) (by decide +kernel) (by kernel_rfl) (by rfl) (by exact fun _ _ _ _ h => h) hNx ?_; apply Exists.intro; refine ⟨fun w1 h1 => ?_, ?_⟩; (first | exact g_move _ rfl | exact g_assign _ rfl | (go_simp; first | exact ⟨rfl, rfl⟩ | rfl)); simp only [Act.put, Act.eval, List.setIfInBounds_toArray, List.set_cons_zero, List.set_cons_succ, Array.getD_eq_getD_getElem?, List.getElem?_toArray, List.getElem?_cons_zero, List.getElem?_cons_succ, Option.getD_some]) | (refine wpG_go 9 (by simp only [List.getElem?_toArray, List.getElem?_cons_zero, List.getElem?_cons_succ] <;> rfl) (by decide +kernel) (by decide +kernel) (by kernel_rfl) (by rfl) (by exact fun _ _ _ _ h => h) hNx ?_; apply Exists.intro; refine ⟨fun w1 h1 => ?_, ?_⟩; (first | exact g_move _ rfl | exact g_assign _ rfl | (go_simp; first | exact ⟨rfl, rfl⟩ | rfl)); simp only [Act.put, Act.eval, List.setIfInBounds_toArray, List.set_cons_zero, List.set_cons_succ, Array.getD_eq_getD_getElem?, List.getElem?_toArray, List.getElem?_cons_zero, List.getElem?_cons_succ, Option.getD_some]) | (refine wpG_go 10 (by simp only [List.getElem?_toArray, List.getElem?_cons_zero, List.getElem?_cons_succ] <;> rfl) (by decide +kernel) (by decide +kernel) (by kernel_rfl) (by rfl) (by exact fun _ _ _ _ h => h) hNx ?_; apply Exists.intro; refine ⟨fun w1 h1 => ?_, ?_⟩; (first | exact g_move _ rfl | exact g_assign _ rfl | (go_simp; first | exact ⟨rfl, rfl⟩ | rfl)); simp only [Act.put, Act.eval, List.setIfInBounds_toArray, List.set_cons_zero, List.set_cons_succ, Array.getD_eq_getD_getElem?, List.getElem?_toArray, List.getElem?_cons_zero, List.getElem?_cons_succ, Option.getD_some]) | (refine wpG_skip 6 (by simp only [List.getElem?_toArray, List.getElem?_cons_zero, List.getElem?_cons_succ] <;> rfl) (by decide +kernel) (by decide +kernel) (by kernel_rfl) (by rfl) (by exact fun _ _ _ _ h => h) hNx ?_; simp only [Act.put, Act.eval, List.setIfInBounds_toArray, List.set_cons_zero, List.set_cons_succ, Array.getD_eq_getD_getElem?, List.getElem?_toArray, List.getElem?_cons_zero, List.getElem?_cons_succ, Option.getD_some]) | (refine wpG_skip 7 (by simp only [List.getElem?_toArray, List.getElem?_cons_zero, List.getElem?_cons_succ] <;> rfl) (by decide +kernel) (by decide +kernel) (by kernel_rfl) (by rfl) (by exact fun _ _ _ _ h => h) hNx ?_; simp only [Act.put, Act.eval, List.setIfInBounds_toArray, List.set_cons_zero, List.set_cons_succ, Array.getD_eq_getD_getElem?, List.getElem?_toArray, List.getElem?_cons_zero, List.getElem?_cons_succ, Option.getD_some]) | (refine wpG_skip 8 (by simp only [List.getElem?_toArray, List.getElem?_cons_zero, List.getElem?_cons_succ] <;> rfl) (by decide +kernel) (by decide +kernel) (by kernel_rfl) (by rfl) (by exact fun _ _ _ _ h => h) hNx ?_; simp only [Act.put, Act.eval, List.setIfInBounds_toArray, List.set_cons_zero, List.set_cons_succ, Array.getD_eq_getD_getElem?, List.getElem?_toArray, List.getElem?_cons_zero, List.getElem?_cons_succ, Option.getD_some]) | (refine wpG_skip 9 (by simp only [List.getElem?_toArray, List.getElem?_cons_zero, List.getElem?_cons_succ] <;> rfl) (by decide +kernel) (by decide +kernel) (by kernel_rfl) (by rfl) (by exact fun _ _ _ _ h => h) hNx ?_; simp only [Act.put, Act.eval, List.setIfInBounds_toArray, List.set_cons_zero, List.set_cons_succ, Array.getD_eq_getD_getElem?, List.getElem?_toArray, List.getElem?_cons_zero, List.getElem?_cons_succ, Option.getD_some]) | (refine wpG_skip 10 (by simp only [List.getElem?_toArray, List.getElem?_cons_zero, List.getElem?_cons_succ] <;> rfl) (by decide +kernel) (by decide +kernel) (by kernel_rfl) (by rfl) (by exact fun _ _ _ _ h => h) hNx ?_; simp only [Act.put, Act.eval, List.setIfInBounds_toArray, List.set_cons_zero, List.set_cons_succ, Array.getD_eq_getD_getElem?, List.getElem?_toArray, List.getElem?_cons_zero, List.getElem?_cons_succ, Option.getD_some])))
          (refine wpG_done (by decide +kernel) ?_ _; intro w12x hw12x)
          have hw13x := hw2.trans (hw11x.trans hw12x)
          clear hw11x hw12x
          rw [HC1.out]
          go_wp2
          refine region_grow (by kernel_rfl) ?_
          have hbxz := fun (w1 : World) (h1 : Below w12x.heap.size w12x w1) => (hw13x.trans h1).box HX.out
          (repeat (first | (refine wpG_go 0 (by simp only [List.getElem?_toArray, List.getElem?_cons_zero, List.getElem?_cons_succ] <;> rfl) (by decide +kernel) (by decide +kernel) (by kernel_rfl) (by rfl) (by exact fun _ _ _ _ h => h) (Nat.le_refl _) ?_; apply Exists.intro; refine ⟨fun w1 h1 => ?_, ?_⟩; (first | exact g_move _ rfl | exact g_assign _ rfl | exact g_load _ _ rfl T36 rfl (hbxz w1 h1) | (go_simp; first | exact ⟨rfl, rfl⟩ | rfl)); simp only [Act.put, Act.eval, List.setIfInBounds_toArray, List.set_cons_zero, List.set_cons_succ, Array.getD_eq_getD_getElem?, List.getElem?_toArray, List.getElem?_cons_zero, List.getElem?_cons_succ, Option.getD_some]) | (refine wpG_go 2 (by simp only [List.getElem?_toArray, List.getElem?_cons_zero, List.getElem?_cons_succ] <;> rfl) (by decide +kernel) (by decide +kernel) (by kernel_rfl) (by rfl) (by exact fun _ _ _ _ h => h) (Nat.le_refl _) ?_; apply Exists.intro; refine ⟨fun w1 h1 => ?_, ?_⟩; (first | exact g_move _ rfl | exact g_assign _ rfl | exact g_load _ _ rfl T36 rfl (hbxz w1 h1) | (go_simp; first | exact ⟨rfl, rfl⟩ | rfl)); simp only [Act.put, Act.eval, List.setIfInBounds_toArray, List.set_cons_zero, List.set_cons_succ, Array.getD_eq_getD_getElem?, List.getElem?_toArray, List.getElem?_cons_zero, List.getElem?_cons_succ, Option.getD_some]) | (refine wpG_go 5 (by simp only [List.getElem?_toArray, List.getElem?_cons_zero, List.getElem?_cons_succ] <;> rfl) (by decide +kernel) (by decide +kernel) (by kernel_rfl) (by rfl) (by exact fun _ _ _ _ h => h) (Nat.le_refl _) ?_; apply Exists.intro; refine ⟨fun w1 h1 => ?_, ?_⟩; (first | exact g_move _ rfl | exact g_assign _ rfl | exact g_load _ _ rfl T36 rfl (hbxz w1 h1) | (go_simp; first | exact ⟨rfl, rfl⟩ | rfl)); simp only [Act.put, Act.eval, List.setIfInBounds_toArray, List.set_cons_zero, List.set_cons_succ, Array.getD_eq_getD_getElem?, List.getElem?_toArray, List.getElem?_cons_zero, List.getElem?_cons_succ, Option.getD_some]) | (refine wpG_skip 0 (by simp only [List.getElem?_toArray, List.getElem?_cons_zero, List.getElem?_cons_succ] <;> rfl) (by decide +kernel) (by decide +kernel) (by kernel_rfl) (by rfl) (by exact fun _ _ _ _ h => h) (Nat.le_refl _) ?_; simp only [Act.put, Act.eval, List.setIfInBounds_toArray, List.set_cons_zero, List.set_cons_succ, Array.getD_eq_getD_getElem?, List.getElem?_toArray, List.getElem?_cons_zero, List.getElem?_cons_succ, Option.getD_some]) | (refine wpG_skip 2 (by simp only [List.getElem?_toArray, List.getElem?_cons_zero, List.getElem?_cons_succ] <;> rfl) (by decide +kernel) (by decide +kernel) (by kernel_rfl) (by rfl) (by exact fun _ _ _ _ h => h) (Nat.le_refl _) ?_; simp only [Act.put, Act.eval, List.setIfInBounds_toArray, List.set_cons_zero, List.set_cons_succ, Array.getD_eq_getD_getElem?, List.getElem?_toArray, List.getElem?_cons_zero, List.getElem?_cons_succ, Option.getD_some]) | (refine wpG_skip 5 (by simp only [List.getElem?_toArray, List.getElem?_cons_zero, List.getElem?_cons_succ] <;> rfl) (by decide +kernel) (by decide +kernel) (by kernel_rfl) (by rfl) (by exact fun _ _ _ _ h => h) (Nat.le_refl _) ?_; simp only [Act.put, Act.eval, List.setIfInBounds_toArray, List.set_cons_zero, List.set_cons_succ, Array.getD_eq_getD_getElem?, List.getElem?_toArray, List.getElem?_cons_zero, List.getElem?_cons_succ, Option.getD_some])))
          obtain ⟨hi0, hz0, hz1, hz2⟩ := J.out
          (refine wpG_two 1 3 (by decide +kernel) ?_ ?_ <;> (intro waz hwaz; refine op_wanted (by simp only [List.getElem?_toArray, List.getElem?_cons_zero, List.getElem?_cons_succ] <;> rfl) rfl ?_))
          have hsx := HS.out.bel (hw13x.trans hwaz).out
          refine wp_append_src (.const (.slice none 0 0)) (.tmp 35) _ rfl w12x.heap.size 36 i0 _ 3 24 Try.underlying22 hi0 hz0 hz1 hz2 rfl (by omega) (.slice none 0 0) 0 [] rfl (World.ownsRow_nil ..) A n c (evc l) rfl (by rw [evc_length, HN.out]) hsx.src (evc_one _) (by simp only [maxLen]; omega) (by omega) hwaz.size fun v4z wbz hown howng _ => ⟨grown_below howng (World.ownsRow_nil _ w12x.heap.size 36 3) (Nat.le_refl _) hwaz.size, ?_⟩
          have hwb : Bel w12x wbz := hwaz.out.trans (grown_below howng (World.ownsRow_nil _ w12x.heap.size 36 3) (Nat.le_refl _) hwaz.size)
          (refine wpG_one 3 (by decide +kernel) ?_; intro wcz hwc; refine op_wanted (by simp only [List.getElem?_toArray, List.getElem?_cons_zero, List.getElem?_cons_succ] <;> rfl) rfl ?_)
          refine wp_build1 _ _ rfl _ i0 Try.underlying22 hi0 hz0 hz1 a1 rfl ⟨Below.alloc (Below.refl _ _) (hwb.trans hwc).size _, ?_⟩
          have bxz := Box.new wcz (evv a1) 36
          have hw6z := (hwb.trans hwc).alloc (.cells (evv a1) 36)
          have ho6z := own_alloc (own_bel hown hwc) (.cells (evv a1) 36)
          clear hown howng hsx hwaz hwb hwc
          generalize wcz.alloc (.cells (evv a1) 36) = w6z at *
          generalize wcz.heap.size = Bz at *
          rotate_left
          refine wp_build1 _ _ rfl _ i0 Try.underlying22 hi0 hz0 hz1 a1 rfl ⟨Below.alloc (Below.refl _ _) hwaz.size _, ?_⟩
          (refine wpG_one 1 (by decide +kernel) ?_; intro wcz hwc; refine op_wanted (by simp only [List.getElem?_toArray, List.getElem?_cons_zero, List.getElem?_cons_succ] <;> rfl) rfl ?_)
          have hwb := (hwaz.alloc (.cells (evv a1) 36)).trans hwc
          have hsx := HS.out.bel (hw13x.trans hwb).out
          have bx0 := hwc.box (Box.new waz (evv a1) 36)
          refine wp_append_src (.const (.slice none 0 0)) (.tmp 35) _ rfl w12x.heap.size 36 i0 _ 3 24 Try.underlying22 hi0 hz0 hz1 hz2 rfl (by omega) (.slice none 0 0) 0 [] rfl (World.ownsRow_nil ..) A n c (evc l) rfl (by rw [evc_length, HN.out]) hsx.src (evc_one _) (by simp only [maxLen]; omega) (by omega) hwb.size fun v4z w6z hown howng _ => ⟨grown_below howng (World.ownsRow_nil _ w12x.heap.size 36 3) (Nat.le_refl _) hwb.size, ?_⟩
          have hw6z : Bel w12x w6z := hwb.out.trans (grown_below howng (World.ownsRow_nil _ w12x.heap.size 36 3) (Nat.le_refl _) hwb.size)
          have bxz := bx0.grown howng (by simp [Value.ownBlock])
          have ho6z := hown
          clear hown howng hsx hwaz hwb hwc bx0
          generalize waz.heap.size = Bz at *
          all_goals
            (refine wpG_one 4 (by decide +kernel) ?_; intro w7z hw7z; refine op_wanted (by simp only [List.getElem?_toArray, List.getElem?_cons_zero, List.getElem?_cons_succ] <;> rfl) rfl ?_)
            have ho7 := own_bel ho6z hw7z
            refine wp_append_src (.tmp 36) (.tmp 38) _ rfl w12x.heap.size 36 i0 _ 3 24 Try.underlying22 hi0 hz0 hz1 hz2 rfl (by omega) v4z (0 + n) ([] ++ evc l) rfl ho7 (some ⟨Bz, 0, none⟩) 1 1 (evc [a1]) rfl rfl (Src.box (l := evc [a1]) (hw7z.box bxz) 1) (evc_one _) (by simp only [maxLen]; omega) (by omega) (hw6z.trans hw7z).size fun v8z w8z hown howng _ => ⟨grown_below howng ho7 (Nat.le_refl _) (hw6z.trans hw7z).size, ?_⟩
            have hw8z : Bel w12x w8z := (hw6z.trans hw7z).out.trans (grown_below howng ho7 (Nat.le_refl _) (hw6z.trans hw7z).size)
            have ho8z : w8z.ownsRow w12x.heap.size 36 3 v8z (n + 1) (evc (l ++ [a1])) := by rw [evc_append]; simpa using hown
            clear hown howng ho7 ho6z bxz hw6z hw7z
            (refine wpG_one 6 (by decide +kernel) ?_; intro wdz hwd; refine op_wanted (by simp only [List.getElem?_toArray, List.getElem?_cons_zero, List.getElem?_cons_succ] <;> rfl) rfl ?_)
            have ho9 := own_bel ho8z hwd
            have hsx := HS2.out.bel (hw13x.trans (hw8z.trans hwd)).out
            refine wp_append_src (.tmp 39) (.tmp 40) _ rfl w12x.heap.size 36 i0 _ 3 24 Try.underlying22 hi0 hz0 hz1 hz2 rfl (by omega) v8z (n + 1) (evc (l ++ [a1])) rfl ho9 A2 n2 c2 (evc l2) rfl (by rw [evc_length, HN2.out]) hsx.src (evc_one _) (by simp only [maxLen]; omega) (by omega) (hw8z.trans hwd).size fun v9z w9z hown howng _ => ⟨grown_below howng ho9 (Nat.le_refl _) (hw8z.trans hwd).size, ?_⟩
            have hw9z : Bel w12x w9z := (hw8z.trans hwd).out.trans (grown_below howng ho9 (Nat.le_refl _) (hw8z.trans hwd).size)
            have ho8z : w9z.ownsRow w12x.heap.size 36 3 v9z (n + 1 + n2) (evc (l ++ a1 :: l2)) := by rw [show l ++ a1 :: l2 = (l ++ [a1]) ++ l2 by simp, evc_append]; exact hown
            clear hown howng ho9 hsx hw8z hwd
            have hw8z := hw9z
            (refine wpG_one 7 (by decide +kernel) ?_; intro w10z hw10z; refine op_wanted (by simp only [List.getElem?_toArray, List.getElem?_cons_zero, List.getElem?_cons_succ] <;> rfl) rfl ?_)
            obtain ⟨A8z, c8z, rfl, hs8, hc8, hm8⟩ := Sl.own (own_bel ho8z hw10z)
            have HS8 := Lib.hid hs8
            clear hs8 ho8z hi0 hz0 hz1 hz2
            go_simp
            refine (check_any A8z _ c8z _ _ HS8.out).mono ?_
            rintro e11 w11z ⟨rfl, hb11⟩
            refine ⟨hb11.mono (hw8z.trans hw10z).size, ?_⟩
            have hw11z : Bel w12x w11z := (hw8z.trans hw10z).trans hb11
            have hNz := hw11z.size
            clear hb11 hw8z hw10z HS8
            (repeat (first | (refine wpG_go 8 (by simp only [List.getElem?_toArray, List.getElem?_cons_zero, List.getElem?_cons_succ] <;> rfl) (by decide +kernel) (by decide +kernel) (by kernel_rfl) (by rfl) (by exact fun _ _ _ _ h => h) hNz ?_; apply Exists.intro; refine ⟨fun w1 h1 => ?_, ?_⟩; (first | exact g_move _ rfl | exact g_assign _ rfl | (go_simp; first | exact ⟨rfl, rfl⟩ | rfl)); simp only [Act.put, Act.eval, List.setIfInBounds_toArray, List.set_cons_zero, List.set_cons_succ, Array.getD_eq_getD_getElem?, List.getElem?_toArray, List.getElem?_cons_zero, List.getElem?_cons_succ, Option.getD_some]) | (refine wpG_go 9 (by simp only [List.getElem?_toArray, List.getElem?_cons_zero, List.getElem?_cons_succ] <;> rfl) (by decide +kernel) (by decide +kernel) (by kernel_rfl) (by rfl) (by exact fun _ _ _ _ h => h) hNz ?_; apply Exists.intro; refine ⟨fun w1 h1 => ?_, ?_⟩; (first | exact g_move _ rfl | exact g_assign _ rfl | (go_simp; first | exact ⟨rfl, rfl⟩ | rfl)); simp only [Act.put, Act.eval, List.setIfInBounds_toArray, List.set_cons_zero, List.set_cons_succ, Array.getD_eq_getD_getElem?, List.getElem?_toArray, List.getElem?_cons_zero, List.getElem?_cons_succ, Option.getD_some]) | (refine wpG_go 10 (by simp only [List.getElem?_toArray, List.getElem?_cons_zero, List.getElem?_cons_succ] <;> rfl) (by decide +kernel) (by decide +kernel) (by kernel_rfl) (by rfl) (by exact fun _ _ _ _ h => h) hNz ?_; apply Exists.intro; refine ⟨fun w1 h1 => ?_, ?_⟩; (first | exact g_move _ rfl | exact g_assign _ rfl | (go_simp; first | exact ⟨rfl, rfl⟩ | rfl)); simp only [Act.put, Act.eval, List.setIfInBounds_toArray, List.set_cons_zero, List.set_cons_succ, Array.getD_eq_getD_getElem?, List.getElem?_toArray, List.getElem?_cons_zero, List.getElem?_cons_succ, Option.getD_some]) | (refine wpG_go 11 (by simp only [List.getElem?_toArray, List.getElem?_cons_zero, List.getElem?_cons_succ] <;> rfl) (by decide +kernel) (by decide +kernel) (by kernel_rfl) (by rfl) (by exact fun _ _ _ _ h => h) hNz ?_; apply Exists.intro; refine ⟨fun w1 h1 => ?_, ?_⟩; (first | exact g_move _ rfl | exact g_assign _ rfl | (go_simp; first | exact ⟨rfl, rfl⟩ | rfl)); simp only [Act.put, Act.eval, List.setIfInBounds_toArray, List.set_cons_zero, List.set_cons_succ, Array.getD_eq_getD_getElem?, List.getElem?_toArray, List.getElem?_cons_zero, List.getElem?_cons_succ, Option.getD_some]) | (refine wpG_go 12 (by simp only [List.getElem?_toArray, List.getElem?_cons_zero, List.getElem?_cons_succ] <;> rfl) (by decide +kernel) (by decide +kernel) (by kernel_rfl) (by rfl) (by exact fun _ _ _ _ h => h) hNz ?_; apply Exists.intro; refine ⟨fun w1 h1 => ?_, ?_⟩; (first | exact g_move _ rfl | exact g_assign _ rfl | (go_simp; first | exact ⟨rfl, rfl⟩ | rfl)); simp only [Act.put, Act.eval, List.setIfInBounds_toArray, List.set_cons_zero, List.set_cons_succ, Array.getD_eq_getD_getElem?, List.getElem?_toArray, List.getElem?_cons_zero, List.getElem?_cons_succ, Option.getD_some]) | (refine wpG_skip 8 (by simp only [List.getElem?_toArray, List.getElem?_cons_zero, List.getElem?_cons_succ] <;> rfl) (by decide +kernel) (by decide +kernel) (by kernel_rfl) (by rfl) (by exact fun _ _ _ _ h => h) hNz ?_; simp only [Act.put, Act.eval, List.setIfInBounds_toArray, List.set_cons_zero, List.set_cons_succ, Array.getD_eq_getD_getElem?, List.getElem?_toArray, List.getElem?_cons_zero, List.getElem?_cons_succ, Option.getD_some]) | (refine wpG_skip 9 (by simp only [List.getElem?_toArray, List.getElem?_cons_zero, List.getElem?_cons_succ] <;> rfl) (by decide +kernel) (by decide +kernel) (by kernel_rfl) (by rfl) (by exact fun _ _ _ _ h => h) hNz ?_; simp only [Act.put, Act.eval, List.setIfInBounds_toArray, List.set_cons_zero, List.set_cons_succ, Array.getD_eq_getD_getElem?, List.getElem?_toArray, List.getElem?_cons_zero, List.getElem?_cons_succ, Option.getD_some]) | (refine wpG_skip 10 (by simp only [List.getElem?_toArray, List.getElem?_cons_zero, List.getElem?_cons_succ] <;> rfl) (by decide +kernel) (by decide +kernel) (by kernel_rfl) (by rfl) (by exact fun _ _ _ _ h => h) hNz ?_; simp only [Act.put, Act.eval, List.setIfInBounds_toArray, List.set_cons_zero, List.set_cons_succ, Array.getD_eq_getD_getElem?, List.getElem?_toArray, List.getElem?_cons_zero, List.getElem?_cons_succ, Option.getD_some]) | (refine wpG_skip 11 (by simp only [List.getElem?_toArray, List.getElem?_cons_zero, List.getElem?_cons_succ] <;> rfl) (by decide +kernel) (by decide +kernel) (by kernel_rfl) (by rfl) (by exact fun _ _ _ _ h => h) hNz ?_; simp only [Act.put, Act.eval, List.setIfInBounds_toArray, List.set_cons_zero, List.set_cons_succ, Array.getD_eq_getD_getElem?, List.getElem?_toArray, List.getElem?_cons_zero, List.getElem?_cons_succ, Option.getD_some]) | (refine wpG_skip 12 (by simp only [List.getElem?_toArray, List.getElem?_cons_zero, List.getElem?_cons_succ] <;> rfl) (by decide +kernel) (by decide +kernel) (by kernel_rfl) (by rfl) (by exact fun _ _ _ _ h => h) hNz ?_; simp only [Act.put, Act.eval, List.setIfInBounds_toArray, List.set_cons_zero, List.set_cons_succ, Array.getD_eq_getD_getElem?, List.getElem?_toArray, List.getElem?_cons_zero, List.getElem?_cons_succ, Option.getD_some])))
            (refine wpG_done (by decide +kernel) ?_ _; intro w12z hw12z)
            have hw13z := hw13x.trans (hw11z.trans hw12z)
            clear hw11z hw12z
            rw [HC2.out]
            go_wp2
            go_ret
            exact ⟨ret_val (by simp), HT.out _ hw13z⟩

set_option maxRecDepth 100000 in
theorem lifted (os : Os) (started : os.Started) (H : Type) (enc : TypeId × Value → H) :
    ReturnsInHanded {} Try.checked os 8 .any (Rows.traceMoreSpec.pre6 enc Try.prog Try.f8 Rows.traceMoreRow.domain false) (Rows.traceMoreSpec.post enc Try.prog Try.f8 false true false false) := by
  refine returnsInHanded_of_change_sized (C := Try.checked) own started (by kernel_rfl) Try.func8
    (ChangeSpec.witness6 (enc := enc) (C := Try.checked) false ⟨#[], #[.slice none 0 0, .agg #[.int .i64 0, .int .i64 0, .int .i64 0], .slice none 0 0], []⟩ 8 (by kernel_rfl) (by kernel_rfl) (by kernel_rfl) (by kernel_rfl)) ?_
  intro W base args ds gs before hval0 hW hcnd hsz0 _
  have hsz : (DataW.weightsEach Try.prog (Try.f8.params.toList ++ Rows.traceMoreSpec.plain.varTypes Try.prog) (ds ++ gs)).all (· ≤ reachBytes) = true := hsz0
  clear hsz0
  have hval : ∀ (j : Nat) t v, Try.f8.params[j]? = some t → args[j]? = some v → Value.okWide Try.prog W .any base t v := hval0
  have hW' := hW
  obtain ⟨p, q, hA0, hV, rfl, hfz, hnd⟩ := hW
  have hA : DataW.TrodAll enc Try.prog W 0 (fun _ => true) true Try.f8.params.toList args.toList ds p := hA0
  rw [Try.params8] at hA hval hsz
  obtain ⟨v0, vs0, d0, ds0, p0, q0, hargs, rfl, rfl, h0, r0⟩ := trodAll_cons hA
  obtain ⟨v1, vs1, d1, ds1, p1, q1, rfl, rfl, rfl, h1, r1⟩ := trodAll_cons r0
  obtain ⟨v2, vs2, d2, ds2, p2, q2, rfl, rfl, rfl, h2, r2⟩ := trodAll_cons r1
  obtain ⟨rfl, rfl, rfl⟩ := trodAll_nil r2
  obtain rfl : args = #[v0, v1, v2] := by cases args; simp_all
  obtain ⟨rfl, rfl⟩ := trodVars_none hV
  have t0 := h0
  have lt0 : ∀ x ∈ p0, x.block < W.heap.size := by obtain ⟨m, hm⟩ := t0; exact DataW.trod_lt m _ _ _ hm
  have t1 := h1
  have lt1 : ∀ x ∈ p1, x.block < W.heap.size := by obtain ⟨m, hm⟩ := t1; exact DataW.trod_lt m _ _ _ hm
  have t2 := h2
  have lt2 : ∀ x ∈ p2, x.block < W.heap.size := by obtain ⟨m, hm⟩ := t2; exact DataW.trod_lt m _ _ _ hm
  obtain ⟨A0, n0, c0, l0, rfl, s0, m0, x0, g0, z0⟩ := open_evs Try.underlying22 Try.underlying36 ⟨rfl, rfl, rfl⟩ (by kernel_rfl) (by kernel_rfl) Try.underlying3 (hval 0 22 v0 rfl rfl) h0
  have y0 := reach_sl hsz (j := 0) rfl rfl Try.underlying22 (b := 24) (by kernel_rfl) z0
  obtain ⟨a1, rfl, k1⟩ := open_ev Try.underlying36 ⟨rfl, rfl, rfl⟩ (by kernel_rfl) (by kernel_rfl) Try.underlying3 (hval 1 36 v1 rfl rfl) h1
  obtain ⟨A2, n2, c2, l2, rfl, s2, m2, x2, g2, z2⟩ := open_evs Try.underlying22 Try.underlying36 ⟨rfl, rfl, rfl⟩ (by kernel_rfl) (by kernel_rfl) Try.underlying3 (hval 2 22 v2 rfl rfl) h2
  have y2 := reach_sl hsz (j := 2) rfl rfl Try.underlying22 (b := 24) (by kernel_rfl) z2
  clear hA0 hval0
  refine (walk W A0 n0 c0 l0 s0 m0 x0 g0 y0 a1 k1 A2 n2 c2 l2 s2 m2 x2 g2 y2).mono fun e W' ⟨he, bel⟩ => ?_
  subst he
  exact ⟨_, rfl, _, _, _, [], _, [], hW', trodAll_mk1 (shut_bool Try.underlying4 _), (trodAll_cons_mk (Below.trod laidOut (by kernel_rfl) (of_decide_eq_true (by kernel_rfl)) t0 bel lt0) (trodAll_cons_mk (Below.trod laidOut (by kernel_rfl) (of_decide_eq_true (by kernel_rfl)) t1 bel lt1) (trodAll_cons_mk (Below.trod laidOut (by kernel_rfl) (of_decide_eq_true (by kernel_rfl)) t2 bel lt2) trodAll_mk0))), rfl, bel.frame _, fun h => by cases h⟩

theorem over : Rows.traceMoreRow.holds Try.pinned (OpenSpec.ofChange Rows.traceMoreSpec) :=
  OpenClaim.holds_of_wide 8 Try.f8 rfl rfl rfl rfl rfl rfl rfl ⟨rfl, rfl, rfl, rfl, rfl⟩ rfl rfl rfl rfl rfl (by kernel_rfl) Try.func8 (by kernel_rfl)
    (of_decide_eq_true (by kernel_rfl)) (by unfold Func.isWrapper; first | (rw [if_pos (by decide +kernel)]; kernel_rfl) | (rw [if_neg (by decide +kernel)]; exact ⟨rfl, rfl⟩))
    (fun os started H enc _ => lifted os started H enc)

theorem proved : Rows.TraceMoreSaid := over
#print axioms proved
end Go.Proofs.Ytioejkjbokcppaa.LTraceMore

/- 'deadheatkeep.FastAgain' returns true for every input and leaves its arguments as they are. No condition. -/
import Derived.Test.YtbkciglapambgaaOpen
import Derived.Test.YtbkciglapambgaaKeepFa
import Derived.Test.YtbkciglapambgaaRest
import Derived.Test.YtbkciglapambgaaRefTr
import Derived.Deep.DeepCutAuto
set_option linter.all false
set_option maxRecDepth 100000
namespace Go.Proofs.Ytbkciglapambgaa.LFastAgain
open Go Go.ChangeShapes Go.WideShapes Go.ChangeAt Go.RowKit

theorem fflags_dup {l : List Ev} {i : Nat} (hm : may l = 0) (hi : i < l.length) (hw : kZ l i = 2) (hl : l.length < 80) : fflags (dup l i) = (fflags l).map (shE i) := by
  rw [fflags_ok (may_dup hm hi hw hl), fflags_ok hm, dup_len hi]
  obtain ⟨d, hd⟩ := Nat.exists_eq_add_of_le (show i + 1 ≤ l.length from hi)
  have := gl_dup hi hw d
  rwa [← hd] at this
theorem dup_parts {l : List Ev} {i : Nat} {e : Ev} (he : l[i]? = some e) : dup l i = l.take (i + 1) ++ [e] ++ l.drop (i + 1) := by
  have h1 := List.getElem?_eq_some_iff.1 he
  unfold dup
  rw [List.drop_eq_getElem_cons h1.1, h1.2]; simp
set_option maxHeartbeats 8000000 in
theorem walk (W : World) (A : Option Addr) (n c : Nat) (l : List Ev) (s : Sl W A n l) (m : n ≤ c) (x : c ≤ maxLen) (g : ∀ e ∈ l, EvOk e) (t : Int) (kt : In64 t) :
    Calls Try.prog 11 #[.slice A n c, .int .i64 t] W fun e w' => e = .returned (.bool true) ∧ Below W.heap.size W w' := by
  unfold maxLen at x
  have hw0 : Bel W W := Bel.refl _
  have HL := Lib.hid s
  have HN := Lib.hid s.1
  clear s g
  cases h1 : (may l == 0)
  · clear kt
    go_enter Try.func11, Try.ntmps11
    go_wp2_with fail
    refine (fasted_any _).mono ?_
    rintro e1 w1 ⟨rfl, hb1⟩
    have hw1 := hw0.call hb1
    clear hb1
    go_wp2_with fail
    refine (may_any A n c l _ (HL.out.bel hw1)).mono ?_
    rintro e2 w2 ⟨rfl, hb2⟩
    have hw2 := hw1.call hb2
    clear hb2
    go_wp2
    go_ret
    exact ⟨rfl, hw2⟩
  · have hm := eq_of_beq h1
    have HM := Lib.hid hm
    have hn80 : n ≤ 80 := by rw [← HN.out]; exact ((may_iff l).1 hm).1
    clear hm
    by_cases hn0 : n = 0
    · subst hn0
      clear kt
      go_enter Try.func11, Try.ntmps11
      go_wp2_with fail
      refine (fasted_any _).mono ?_
      rintro e1 w1 ⟨rfl, hb1⟩
      have hw1 := hw0.call hb1
      clear hb1
      go_wp2_with fail
      refine (may_any A 0 c l _ (HL.out.bel hw1)).mono ?_
      rintro e2 w2 ⟨rfl, hb2⟩
      have hw2 := hw1.call hb2
      clear hb2
      go_wp2
      go_ret
      exact ⟨rfl, hw2⟩
    by_cases hn79 : 79 < n
    · have hn79' : (79 : Int) < n := by omega
      have hnz : ((n : Int) == 0) = false := by simp; omega
      clear kt
      go_enter Try.func11, Try.ntmps11
      go_wp2_with fail
      refine (fasted_any _).mono ?_
      rintro e1 w1 ⟨rfl, hb1⟩
      have hw1 := hw0.call hb1
      clear hb1
      go_wp2_with fail
      refine (may_any A n c l _ (HL.out.bel hw1)).mono ?_
      rintro e2 w2 ⟨rfl, hb2⟩
      have hw2 := hw1.call hb2
      clear hb2
      go_wp2
      go_ret
      exact ⟨rfl, hw2⟩
    have hn79' : (n : Int) ≤ 79 := by omega
    have hnz : ((n : Int) == 0) = false := by simp; omega
    have hk0 := Int.emod_nonneg t (show (n : Int) ≠ 0 by omega)
    have hk1 := Int.emod_lt_of_pos t (show (0 : Int) < n by omega)
    have HRT := Lib.hid (fun w => rest_any t n kt (by omega) (by omega) w)
    clear kt
    generalize t % (n : Int) = t' at *
    obtain ⟨i, rfl⟩ := Int.eq_ofNat_of_zero_le hk0
    have hi : i < n := by omega
    have hi' : (i : Int) < n := by omega
    have hic : (i : Int) + 1 ≤ c := by omega
    have hic' : (i : Int) + 1 ≤ n := by omega
    have hnc : (n : Int) ≤ c := by omega
    have hwr : IntKind.i64.wrap ((i : Int) + 1) = i + 1 := IntWalk.i64_in _ (by omega)
    have HWR := Lib.hid hwr
    obtain ⟨bb, off, ⟨ek, et, eo⟩, rfl, hbb, he, hrg⟩ := HL.out.at_ hi
    have HE := Lib.hid he
    have HRG := Lib.hid hrg
    have HBB := Lib.hid hbb
    have HKZ := Lib.hid (show kZ l i = ek by unfold kZ; rw [eZ_at he])
    clear he hrg hk0 hk1 hbb hwr
    by_cases hw : ek = 2
    · subst hw
      have hil : i < l.length := by rw [HN.out]; exact hi
      have HDP := Lib.hid (dup_parts HE.out)
      have HMD := Lib.hid (may_dup HM.out hil HKZ.out (by rw [HN.out]; omega))
      have HFD := Lib.hid (fflags_dup HM.out hil HKZ.out (by rw [HN.out]; omega))
      obtain ⟨fl, hfl⟩ : ∃ fl, fflags l = fl := ⟨_, rfl⟩
      obtain ⟨nf, hnf⟩ : ∃ nf, fl.length = nf := ⟨_, rfl⟩
      have hnf80 : nf ≤ 80 := by rw [← hnf, ← hfl, fflags_ok HM.out, HN.out]; exact Nat.le_trans (gl_len _ l n) hn80
      have HFL := Lib.hid hfl
      have HNF := Lib.hid hnf
      have HLO := Lib.hid (fun (e : Ev) (h : e ∈ fl) => show 0 ≤ e.k ∧ e.k < n by rw [← hfl, fflags_ok HM.out, HN.out] at h; exact gl_low h)
      obtain ⟨i0, hi0, hz0, hz1, hz2⟩ := info_parts ev_info
      have J := Lib.hid (And.intro hi0 (And.intro hz0 (And.intro hz1 hz2)))
      clear hi0 hz0 hz1 hz2 hfl hnf
      go_enter Try.func11, Try.ntmps11
      go_wp2_with fail
      refine (fasted_any _).mono ?_
      rintro e1 w1 ⟨rfl, hb1⟩
      have hw1 := hw0.call hb1
      clear hb1
      go_wp2_with fail
      refine (may_any _ n c l _ (HL.out.bel hw1)).mono ?_
      rintro e2 w2 ⟨rfl, hb2⟩
      have hw2 := hw1.call hb2
      clear hb2
      go_wp2_with fail
      refine (HRT.out _).mono ?_
      rintro _ _ ⟨rfl, rfl⟩
      have c0 : w2.cell? ⟨bb, off + i * 3, none⟩ = some (.int .i64 2) := rangeAt_below hw2.out HBB.out HRG.out 0 (.int .i64 2) rfl
      go_wp2_with fail
      refine (frun_any _ n c l _ (HL.out.bel hw2)).mono ?_
      rintro e3 w3 ⟨v3, rfl, hown3, hb3⟩
      have hw3 := hw2.call hb3
      clear hb3
      clear c0
      rw [HM.out]
      rw [HFL.out, HNF.out] at hown3
      obtain ⟨A3, c3, rfl, hs3, hq3, hx3⟩ := Sl.own hown3
      have HS3 := Lib.hid hs3
      have HW3 := Lib.hid hw3
      clear hown3 hs3 hq3 hx3 hw2 hw1 hw0
      have hwr := HWR.out
      go_wp2
      refine region_grow (by kernel_rfl) ?_
      have HLE := Lib.hid (fun (w1 : World) (h1 : Below w3.heap.size w3 w1) => rangeAt_below (hw3.trans h1).out HBB.out HRG.out)
      (repeat (first | ((first | refine wpG_go 0 (by simp only [List.getElem?_toArray, List.getElem?_cons_zero, List.getElem?_cons_succ] <;> rfl) (by decide +kernel) (by decide +kernel) (by kernel_rfl) (by rfl) (by exact fun _ _ _ _ h => h) (Nat.le_refl _) ?_ | refine wpG_go 1 (by simp only [List.getElem?_toArray, List.getElem?_cons_zero, List.getElem?_cons_succ] <;> rfl) (by decide +kernel) (by decide +kernel) (by kernel_rfl) (by rfl) (by exact fun _ _ _ _ h => h) (Nat.le_refl _) ?_ | refine wpG_go 2 (by simp only [List.getElem?_toArray, List.getElem?_cons_zero, List.getElem?_cons_succ] <;> rfl) (by decide +kernel) (by decide +kernel) (by kernel_rfl) (by rfl) (by exact fun _ _ _ _ h => h) (Nat.le_refl _) ?_ | refine wpG_go 3 (by simp only [List.getElem?_toArray, List.getElem?_cons_zero, List.getElem?_cons_succ] <;> rfl) (by decide +kernel) (by decide +kernel) (by kernel_rfl) (by rfl) (by exact fun _ _ _ _ h => h) (Nat.le_refl _) ?_ | refine wpG_go 5 (by simp only [List.getElem?_toArray, List.getElem?_cons_zero, List.getElem?_cons_succ] <;> rfl) (by decide +kernel) (by decide +kernel) (by kernel_rfl) (by rfl) (by exact fun _ _ _ _ h => h) (Nat.le_refl _) ?_ | refine wpG_go 6 (by simp only [List.getElem?_toArray, List.getElem?_cons_zero, List.getElem?_cons_succ] <;> rfl) (by decide +kernel) (by decide +kernel) (by kernel_rfl) (by rfl) (by exact fun _ _ _ _ h => h) (Nat.le_refl _) ?_ | refine wpG_go 7 (by simp only [List.getElem?_toArray, List.getElem?_cons_zero, List.getElem?_cons_succ] <;> rfl) (by decide +kernel) (by decide +kernel) (by kernel_rfl) (by rfl) (by exact fun _ _ _ _ h => h) (Nat.le_refl _) ?_ | refine wpG_go 8 (by simp only [List.getElem?_toArray, List.getElem?_cons_zero, List.getElem?_cons_succ] <;> rfl) (by decide +kernel) (by decide +kernel) (by kernel_rfl) (by rfl) (by exact fun _ _ _ _ h => h) (Nat.le_refl _) ?_ | refine wpG_go 11 (by simp only [List.getElem?_toArray, List.getElem?_cons_zero, List.getElem?_cons_succ] <;> rfl) (by decide +kernel) (by decide +kernel) (by kernel_rfl) (by rfl) (by exact fun _ _ _ _ h => h) (Nat.le_refl _) ?_ | refine wpG_go 12 (by simp only [List.getElem?_toArray, List.getElem?_cons_zero, List.getElem?_cons_succ] <;> rfl) (by decide +kernel) (by decide +kernel) (by kernel_rfl) (by rfl) (by exact fun _ _ _ _ h => h) (Nat.le_refl _) ?_ | refine wpG_go 13 (by simp only [List.getElem?_toArray, List.getElem?_cons_zero, List.getElem?_cons_succ] <;> rfl) (by decide +kernel) (by decide +kernel) (by kernel_rfl) (by rfl) (by exact fun _ _ _ _ h => h) (Nat.le_refl _) ?_ | refine wpG_go 14 (by simp only [List.getElem?_toArray, List.getElem?_cons_zero, List.getElem?_cons_succ] <;> rfl) (by decide +kernel) (by decide +kernel) (by kernel_rfl) (by rfl) (by exact fun _ _ _ _ h => h) (Nat.le_refl _) ?_); apply Exists.intro; refine ⟨fun w1 h1 => ?_, ?_⟩; (first | exact g_move _ rfl | exact g_assign _ rfl | exact g_load_mid _ _ rfl rfl (HLE.out w1 h1) T36 (evv ⟨2, et, eo⟩) rfl | (go_simp; first | exact ⟨rfl, rfl⟩ | rfl)); simp only [Act.put, Act.eval, List.setIfInBounds_toArray, List.set_cons_zero, List.set_cons_succ, Array.getD_eq_getD_getElem?, List.getElem?_toArray, List.getElem?_cons_zero, List.getElem?_cons_succ, Option.getD_some]) | ((first | refine wpG_skip 0 (by simp only [List.getElem?_toArray, List.getElem?_cons_zero, List.getElem?_cons_succ] <;> rfl) (by decide +kernel) (by decide +kernel) (by kernel_rfl) (by rfl) (by exact fun _ _ _ _ h => h) (Nat.le_refl _) ?_ | refine wpG_skip 1 (by simp only [List.getElem?_toArray, List.getElem?_cons_zero, List.getElem?_cons_succ] <;> rfl) (by decide +kernel) (by decide +kernel) (by kernel_rfl) (by rfl) (by exact fun _ _ _ _ h => h) (Nat.le_refl _) ?_ | refine wpG_skip 2 (by simp only [List.getElem?_toArray, List.getElem?_cons_zero, List.getElem?_cons_succ] <;> rfl) (by decide +kernel) (by decide +kernel) (by kernel_rfl) (by rfl) (by exact fun _ _ _ _ h => h) (Nat.le_refl _) ?_ | refine wpG_skip 3 (by simp only [List.getElem?_toArray, List.getElem?_cons_zero, List.getElem?_cons_succ] <;> rfl) (by decide +kernel) (by decide +kernel) (by kernel_rfl) (by rfl) (by exact fun _ _ _ _ h => h) (Nat.le_refl _) ?_ | refine wpG_skip 5 (by simp only [List.getElem?_toArray, List.getElem?_cons_zero, List.getElem?_cons_succ] <;> rfl) (by decide +kernel) (by decide +kernel) (by kernel_rfl) (by rfl) (by exact fun _ _ _ _ h => h) (Nat.le_refl _) ?_ | refine wpG_skip 6 (by simp only [List.getElem?_toArray, List.getElem?_cons_zero, List.getElem?_cons_succ] <;> rfl) (by decide +kernel) (by decide +kernel) (by kernel_rfl) (by rfl) (by exact fun _ _ _ _ h => h) (Nat.le_refl _) ?_ | refine wpG_skip 7 (by simp only [List.getElem?_toArray, List.getElem?_cons_zero, List.getElem?_cons_succ] <;> rfl) (by decide +kernel) (by decide +kernel) (by kernel_rfl) (by rfl) (by exact fun _ _ _ _ h => h) (Nat.le_refl _) ?_ | refine wpG_skip 8 (by simp only [List.getElem?_toArray, List.getElem?_cons_zero, List.getElem?_cons_succ] <;> rfl) (by decide +kernel) (by decide +kernel) (by kernel_rfl) (by rfl) (by exact fun _ _ _ _ h => h) (Nat.le_refl _) ?_ | refine wpG_skip 11 (by simp only [List.getElem?_toArray, List.getElem?_cons_zero, List.getElem?_cons_succ] <;> rfl) (by decide +kernel) (by decide +kernel) (by kernel_rfl) (by rfl) (by exact fun _ _ _ _ h => h) (Nat.le_refl _) ?_ | refine wpG_skip 12 (by simp only [List.getElem?_toArray, List.getElem?_cons_zero, List.getElem?_cons_succ] <;> rfl) (by decide +kernel) (by decide +kernel) (by kernel_rfl) (by rfl) (by exact fun _ _ _ _ h => h) (Nat.le_refl _) ?_ | refine wpG_skip 13 (by simp only [List.getElem?_toArray, List.getElem?_cons_zero, List.getElem?_cons_succ] <;> rfl) (by decide +kernel) (by decide +kernel) (by kernel_rfl) (by rfl) (by exact fun _ _ _ _ h => h) (Nat.le_refl _) ?_ | refine wpG_skip 14 (by simp only [List.getElem?_toArray, List.getElem?_cons_zero, List.getElem?_cons_succ] <;> rfl) (by decide +kernel) (by decide +kernel) (by kernel_rfl) (by rfl) (by exact fun _ _ _ _ h => h) (Nat.le_refl _) ?_); simp only [Act.put, Act.eval, List.setIfInBounds_toArray, List.set_cons_zero, List.set_cons_succ, Array.getD_eq_getD_getElem?, List.getElem?_toArray, List.getElem?_cons_zero, List.getElem?_cons_succ, Option.getD_some])))
      obtain ⟨hi0, hz0, hz1, hz2⟩ := J.out
      (refine wpG_two 4 9 (by decide +kernel) ?_ ?_ <;> (intro wax hwax; refine op_wanted (by simp only [List.getElem?_toArray, List.getElem?_cons_zero, List.getElem?_cons_succ] <;> rfl) rfl ?_))
      have hsx := (HL.out.bel (hw3.trans hwax)).take (show i + 1 ≤ n from hi)
      refine wp_append_src (.const (.slice none 0 0)) (.tmp 45) _ rfl w3.heap.size 50 i0 _ 3 24 Try.underlying22 hi0 hz0 hz1 hz2 rfl (by omega) (.slice none 0 0) 0 [] rfl (World.ownsRow_nil ..) (some ⟨bb, off, none⟩) (i + 1) c (evc (l.take (i + 1))) rfl (by rw [evc_length, hsx.1]) hsx.src (evc_one _) (by simp only [maxLen]; omega) (by omega) hwax.size fun v4x wbx hown howng _ => ⟨grown_below howng (World.ownsRow_nil _ w3.heap.size 50 3) (Nat.le_refl _) hwax.size, ?_⟩
      have hwb : Bel w3 wbx := hwax.out.trans (grown_below howng (World.ownsRow_nil _ w3.heap.size 50 3) (Nat.le_refl _) hwax.size)
      (refine wpG_one 9 (by decide +kernel) ?_; intro wcx hwc; refine op_wanted (by simp only [List.getElem?_toArray, List.getElem?_cons_zero, List.getElem?_cons_succ] <;> rfl) rfl ?_)
      refine wp_build1 _ _ rfl _ i0 Try.underlying22 hi0 hz0 hz1 ⟨2, et, eo⟩ rfl ⟨Below.alloc (Below.refl _ _) (hwb.trans hwc).size _, ?_⟩
      have bxx := Box.new wcx (evv ⟨2, et, eo⟩) 50
      have hw6x := (hwb.trans hwc).alloc (.cells (evv ⟨2, et, eo⟩) 50)
      have ho6x := own_alloc (own_bel hown hwc) (.cells (evv ⟨2, et, eo⟩) 50)
      clear hown howng hsx hwax hwb hwc
      generalize wcx.alloc (.cells (evv ⟨2, et, eo⟩) 50) = w6x at *
      generalize wcx.heap.size = Bx at *
      rotate_left
      refine wp_build1 _ _ rfl _ i0 Try.underlying22 hi0 hz0 hz1 ⟨2, et, eo⟩ rfl ⟨Below.alloc (Below.refl _ _) hwax.size _, ?_⟩
      (refine wpG_one 4 (by decide +kernel) ?_; intro wcx hwc; refine op_wanted (by simp only [List.getElem?_toArray, List.getElem?_cons_zero, List.getElem?_cons_succ] <;> rfl) rfl ?_)
      have hwb := (hwax.alloc (.cells (evv ⟨2, et, eo⟩) 50)).trans hwc
      have hsx := (HL.out.bel (hw3.trans hwb)).take (show i + 1 ≤ n from hi)
      have bx0 := hwc.box (Box.new wax (evv ⟨2, et, eo⟩) 50)
      refine wp_append_src (.const (.slice none 0 0)) (.tmp 45) _ rfl w3.heap.size 50 i0 _ 3 24 Try.underlying22 hi0 hz0 hz1 hz2 rfl (by omega) (.slice none 0 0) 0 [] rfl (World.ownsRow_nil ..) (some ⟨bb, off, none⟩) (i + 1) c (evc (l.take (i + 1))) rfl (by rw [evc_length, hsx.1]) hsx.src (evc_one _) (by simp only [maxLen]; omega) (by omega) hwb.size fun v4x w6x hown howng _ => ⟨grown_below howng (World.ownsRow_nil _ w3.heap.size 50 3) (Nat.le_refl _) hwb.size, ?_⟩
      have hw6x : Bel w3 w6x := hwb.out.trans (grown_below howng (World.ownsRow_nil _ w3.heap.size 50 3) (Nat.le_refl _) hwb.size)
      have bxx := bx0.grown howng (by simp [Value.ownBlock])
      have ho6x := hown
      clear hown howng hsx hwax hwb hwc bx0
      generalize wax.heap.size = Bx at *
      all_goals
        (refine wpG_one 10 (by decide +kernel) ?_; intro w7x hw7x; refine op_wanted (by simp only [List.getElem?_toArray, List.getElem?_cons_zero, List.getElem?_cons_succ] <;> rfl) rfl ?_)
        have ho7 := own_bel ho6x hw7x
        refine wp_append_src (.tmp 46) (.tmp 51) _ rfl w3.heap.size 50 i0 _ 3 24 Try.underlying22 hi0 hz0 hz1 hz2 rfl (by omega) v4x (0 + (i + 1)) ([] ++ evc (l.take (i + 1))) rfl ho7 (some ⟨Bx, 0, none⟩) 1 1 (evc [⟨2, et, eo⟩]) rfl rfl (Src.box (l := evc [⟨2, et, eo⟩]) (hw7x.box bxx) 1) (evc_one _) (by simp only [maxLen]; omega) (by omega) (hw6x.trans hw7x).size fun v8x w8x hown howng _ => ⟨grown_below howng ho7 (Nat.le_refl _) (hw6x.trans hw7x).size, ?_⟩
        have hw8x : Bel w3 w8x := (hw6x.trans hw7x).out.trans (grown_below howng ho7 (Nat.le_refl _) (hw6x.trans hw7x).size)
        have ho8x : w8x.ownsRow w3.heap.size 50 3 v8x (i + 1 + 1) (evc (l.take (i + 1) ++ [⟨2, et, eo⟩])) := by rw [evc_append]; simpa using hown
        clear hown howng ho7 ho6x bxx hw6x hw7x
        (refine wpG_one 15 (by decide +kernel) ?_; intro w9x hw9x; refine op_wanted (by simp only [List.getElem?_toArray, List.getElem?_cons_zero, List.getElem?_cons_succ] <;> rfl) rfl ?_)
        have ho9 := own_bel ho8x hw9x
        have hs9 := (HL.out.bel (hw3.trans (hw8x.trans hw9x))).drop (c := c) hi m
        refine wp_append_src (.tmp 52) (.tmp 56) _ rfl w3.heap.size 50 i0 _ 3 24 Try.underlying22 hi0 hz0 hz1 hz2 rfl (by omega) v8x (i + 1 + 1) _ rfl ho9 _ (n - (i + 1)) _ (evc (l.drop (i + 1))) rfl (by rw [evc_length, hs9.1]) hs9.src (evc_one _) (by simp only [maxLen]; omega) (by omega) (hw8x.trans hw9x).size fun v10x w10x hown howng _ => ⟨grown_below howng ho9 (Nat.le_refl _) (hw8x.trans hw9x).size, ?_⟩
        have hw10x : Bel w3 w10x := (hw8x.trans hw9x).out.trans (grown_below howng ho9 (Nat.le_refl _) (hw8x.trans hw9x).size)
        have ho10x : w10x.ownsRow w3.heap.size 50 3 v10x (i + 1 + 1 + (n - (i + 1))) (evc (dup l i)) := by rw [HDP.out, evc_append]; exact hown
        clear hown howng ho9 ho8x hs9 hw8x hw9x
        (refine wpG_one 16 (by decide +kernel) ?_; intro w11x hw11x; refine op_wanted (by simp only [List.getElem?_toArray, List.getElem?_cons_zero, List.getElem?_cons_succ] <;> rfl) rfl ?_)
        obtain ⟨A11, c11, rfl, hs11, _⟩ := Sl.own (own_bel ho10x hw11x)
        have HS11 := Lib.hid hs11
        clear hs11 ho10x hi0 hz0 hz1 hz2
        go_simp
        refine (frun_any A11 _ c11 _ _ HS11.out).mono ?_
        rintro e12 w12x ⟨v12, rfl, hown12, hb12⟩
        refine ⟨hb12.mono (hw10x.trans hw11x).size, ?_⟩
        have hw12x : Bel w3 w12x := (hw10x.trans hw11x).trans hb12
        have hNx := hw12x.size
        rw [HFD.out, HFL.out, List.length_map, HNF.out] at hown12
        obtain ⟨A12, c12, rfl, hs12, _⟩ := Sl.own hown12
        have HS12 := Lib.hid hs12
        clear hb12 hw10x hw11x HS11 hown12 hs12
        (repeat (first | ((first | refine wpG_go 17 (by simp only [List.getElem?_toArray, List.getElem?_cons_zero, List.getElem?_cons_succ] <;> rfl) (by decide +kernel) (by decide +kernel) (by kernel_rfl) (by rfl) (by exact fun _ _ _ _ h => h) hNx ?_ | refine wpG_go 18 (by simp only [List.getElem?_toArray, List.getElem?_cons_zero, List.getElem?_cons_succ] <;> rfl) (by decide +kernel) (by decide +kernel) (by kernel_rfl) (by rfl) (by exact fun _ _ _ _ h => h) hNx ?_ | refine wpG_go 19 (by simp only [List.getElem?_toArray, List.getElem?_cons_zero, List.getElem?_cons_succ] <;> rfl) (by decide +kernel) (by decide +kernel) (by kernel_rfl) (by rfl) (by exact fun _ _ _ _ h => h) hNx ?_ | refine wpG_go 20 (by simp only [List.getElem?_toArray, List.getElem?_cons_zero, List.getElem?_cons_succ] <;> rfl) (by decide +kernel) (by decide +kernel) (by kernel_rfl) (by rfl) (by exact fun _ _ _ _ h => h) hNx ?_ | refine wpG_go 21 (by simp only [List.getElem?_toArray, List.getElem?_cons_zero, List.getElem?_cons_succ] <;> rfl) (by decide +kernel) (by decide +kernel) (by kernel_rfl) (by rfl) (by exact fun _ _ _ _ h => h) hNx ?_); apply Exists.intro; refine ⟨fun w1 h1 => ?_, ?_⟩; (first | exact g_move _ rfl | exact g_assign _ rfl | (go_simp; first | exact ⟨rfl, rfl⟩ | rfl)); simp only [Act.put, Act.eval, List.setIfInBounds_toArray, List.set_cons_zero, List.set_cons_succ, Array.getD_eq_getD_getElem?, List.getElem?_toArray, List.getElem?_cons_zero, List.getElem?_cons_succ, Option.getD_some]) | ((first | refine wpG_skip 17 (by simp only [List.getElem?_toArray, List.getElem?_cons_zero, List.getElem?_cons_succ] <;> rfl) (by decide +kernel) (by decide +kernel) (by kernel_rfl) (by rfl) (by exact fun _ _ _ _ h => h) hNx ?_ | refine wpG_skip 18 (by simp only [List.getElem?_toArray, List.getElem?_cons_zero, List.getElem?_cons_succ] <;> rfl) (by decide +kernel) (by decide +kernel) (by kernel_rfl) (by rfl) (by exact fun _ _ _ _ h => h) hNx ?_ | refine wpG_skip 19 (by simp only [List.getElem?_toArray, List.getElem?_cons_zero, List.getElem?_cons_succ] <;> rfl) (by decide +kernel) (by decide +kernel) (by kernel_rfl) (by rfl) (by exact fun _ _ _ _ h => h) hNx ?_ | refine wpG_skip 20 (by simp only [List.getElem?_toArray, List.getElem?_cons_zero, List.getElem?_cons_succ] <;> rfl) (by decide +kernel) (by decide +kernel) (by kernel_rfl) (by rfl) (by exact fun _ _ _ _ h => h) hNx ?_ | refine wpG_skip 21 (by simp only [List.getElem?_toArray, List.getElem?_cons_zero, List.getElem?_cons_succ] <;> rfl) (by decide +kernel) (by decide +kernel) (by kernel_rfl) (by rfl) (by exact fun _ _ _ _ h => h) hNx ?_); simp only [Act.put, Act.eval, List.setIfInBounds_toArray, List.set_cons_zero, List.set_cons_succ, Array.getD_eq_getD_getElem?, List.getElem?_toArray, List.getElem?_cons_zero, List.getElem?_cons_succ, Option.getD_some])))
        (refine wpG_done (by decide +kernel) ?_ _; intro w13x hw13x; try simp only [Act.put, Act.eval, List.setIfInBounds_toArray, List.set_cons_zero, List.set_cons_succ, Array.getD_eq_getD_getElem?, List.getElem?_toArray, List.getElem?_cons_zero, List.getElem?_cons_succ, Option.getD_some])
        have HW13 := Lib.hid (hw3.trans (hw12x.trans hw13x))
        have HS13 := Lib.hid (HS12.out.bel hw13x)
        have HS3' := Lib.hid (HS3.out.bel (hw12x.trans hw13x))
        clear hw12x hw13x HLE
        rw [HMD.out]
        generalize (if c = i + 1 then (some ⟨bb, off, none⟩ : Option Addr) else some ⟨bb, off + (i + 1) * 3, none⟩) = pz at *
      · clear hwr
        have hne : ((nf : Int) != (nf : Int)) = false := by simp
        go_wp2
        go_loopw [76] (fun t76 wr => ∃ k : Nat, k ≤ nf ∧ t76 = .int .i64 k ∧ Bel w13x wr) (fun t76 _ => nf - (intOf t76).toNat)
        case atStart => exact ⟨0, by omega, rfl, Bel.refl _⟩
        case round =>
          obtain ⟨k, hk, rfl, hr⟩ := hrel
          have HR := Lib.hid hr
          clear hr
          by_cases hlt : k < nf
          · have hlt' : (k : Int) < nf := by omega
            obtain ⟨fb, foff, ⟨ea, ev, eq⟩, rfl, hfb, hfe, hfr⟩ := HS3'.out.at_ hlt
            obtain ⟨gb, goff, e2, rfl, hgb, hge, hgr⟩ := HS13.out.at_ hlt
            rw [List.getElem?_map, hfe] at hge
            simp only [Option.map_some, Option.some.injEq] at hge
            subst hge
            have hlo : 0 ≤ ea ∧ ea < n := HLO.out _ (List.mem_of_getElem? hfe)
            have hR := Lib.hid (rangeAt_below HR.out.out hfb hfr)
            have HGR := Lib.hid (fun (w' : World) (h : Bel wr w') => rangeAt_below (HR.out.trans h).out hgb hgr)
            have HB5 := Lib.hid (show Bel wr _ from ewld_below wr ⟨ea, ev, eq⟩ 33)
            have HX := Lib.hid (ewld_box wr ⟨ea, ev, eq⟩ 33)
            have hx0 := HX.out.cell 0 (v := .int .i64 ea) rfl
            have hf0 := HX.out.frozen 0
            have f1 : IntKind.i64.wrap (ea + 1) = ea + 1 := IntWalk.i64_in _ (by omega)
            have G := grd_fl
            clear hfe hfr hgr hfb hgb
            by_cases hc : (i : Int) < ea
            · have hsh : shE i ⟨ea, ev, eq⟩ = ⟨ea + 1, ev, eq⟩ := by unfold shE; rw [if_pos hc]
              have HGR2 := HGR.out
              rw [hsh] at HGR2
              have HG2 := Lib.hid HGR2
              have NE := neq_fl ⟨ea + 1, ev, eq⟩ ⟨ea + 1, ev, eq⟩
              rw [decide_eq_true rfl] at NE
              have HX6 := Lib.hid (show Box ((ewld wr ⟨ea, ev, eq⟩ 33).setCell ⟨wr.heap.size, 0, none⟩ (.int .i64 (ea + 1))) wr.heap.size (evv ⟨ea + 1, ev, eq⟩) 33 from HX.out.set 0 (.int .i64 (ea + 1)))
              have HB6 := Lib.hid (show Bel wr ((ewld wr ⟨ea, ev, eq⟩ 33).setCell ⟨wr.heap.size, 0, none⟩ (.int .i64 (ea + 1))) from HB5.out.out.setCell (Nat.le_refl _) _)
              clear hsh HGR2 hlo
              go_upto_region 17 with (first | (refine load_ev TFl _ rfl rfl rfl hR.out ?_) | (refine ewld_store TFl _ _ rfl rfl _ rfl rfl rfl ?_))
              generalize (ewld wr ⟨ea, ev, eq⟩ 33).setCell ⟨wr.heap.size, 0, none⟩ (.int .i64 (ea + 1)) = w6 at *
              have hX6 := HX6.out
              have HG3 := Lib.hid (fun (w' : World) (h : Bel w6 w') => HG2.out w' (HB6.out.trans h))
              clear hx0 hf0 f1 hc
              (refine region_bel (by kernel_rfl) (by kernel_rfl) ?_; (repeat (first | ((with_reducible refine BigFrame.wpQuiet_skip ?_ ?_); exact rfl; simp only [Act.put, Act.eval, List.setIfInBounds_toArray, List.set_cons_zero, List.set_cons_succ, Array.getD_eq_getD_getElem?, List.getElem?_toArray, List.getElem?_cons_zero, List.getElem?_cons_succ, Option.getD_some]) | (refine q_move _ rfl rfl ?_; simp only [Act.put, Act.eval, List.setIfInBounds_toArray, List.set_cons_zero, List.set_cons_succ, Array.getD_eq_getD_getElem?, List.getElem?_toArray, List.getElem?_cons_zero, List.getElem?_cons_succ, Option.getD_some]) | (refine q_assign _ rfl rfl ?_; simp only [Act.put, Act.eval, List.setIfInBounds_toArray, List.set_cons_zero, List.set_cons_succ, Array.getD_eq_getD_getElem?, List.getElem?_toArray, List.getElem?_cons_zero, List.getElem?_cons_succ, Option.getD_some]) | (refine q_load _ _ rfl rfl rfl hX6 TFl ?_; simp only [Act.put, Act.eval, List.setIfInBounds_toArray, List.set_cons_zero, List.set_cons_succ, Array.getD_eq_getD_getElem?, List.getElem?_toArray, List.getElem?_cons_zero, List.getElem?_cons_succ, Option.getD_some]) | (refine q_load_mid _ _ rfl rfl rfl HG3.out TFl (evv ⟨ea + 1, ev, eq⟩) rfl ?_; simp only [Act.put, Act.eval, List.setIfInBounds_toArray, List.set_cons_zero, List.set_cons_succ, Array.getD_eq_getD_getElem?, List.getElem?_toArray, List.getElem?_cons_zero, List.getElem?_cons_succ, Option.getD_some]) | (refine q_any rfl ?_; apply Exists.intro; refine ⟨fun w hw => ?_, ?_⟩; (go_simp; first | exact ⟨rfl, rfl⟩ | rfl); simp only [Act.put, Act.eval, List.setIfInBounds_toArray, List.set_cons_zero, List.set_cons_succ, Array.getD_eq_getD_getElem?, List.getElem?_toArray, List.getElem?_cons_zero, List.getElem?_cons_succ, Option.getD_some]))); refine wpQuiet_nil ?_; intro w2 hw2)
              have HW7 := Lib.hid ((HR.out.trans HB6.out).trans hw2)
              clear hw2 hX6
              go_wp2
              go_roundw
              case rel => exact ⟨k + 1, by omega, by go_num, HW7.out⟩
              case measure => simp [intOf]; omega
            · have hsh : shE i ⟨ea, ev, eq⟩ = ⟨ea, ev, eq⟩ := by unfold shE; rw [if_neg hc]
              have HGR2 := HGR.out
              rw [hsh] at HGR2
              have HG2 := Lib.hid HGR2
              have NE := neq_fl ⟨ea, ev, eq⟩ ⟨ea, ev, eq⟩
              rw [decide_eq_true rfl] at NE
              have hc' : ea ≤ (i : Int) := by omega
              clear hsh HGR2 hlo hc
              go_upto_region 17 with (first | (refine load_ev TFl _ rfl rfl rfl hR.out ?_) | (refine ewld_store TFl _ _ rfl rfl _ rfl rfl rfl ?_))
              generalize ewld wr ⟨ea, ev, eq⟩ 33 = w6 at *
              have hX6 := HX.out
              have HG3 := Lib.hid (fun (w' : World) (h : Bel w6 w') => HG2.out w' (HB5.out.trans h))
              clear hx0 hf0 f1 hc'
              (refine region_bel (by kernel_rfl) (by kernel_rfl) ?_; (repeat (first | ((with_reducible refine BigFrame.wpQuiet_skip ?_ ?_); exact rfl; simp only [Act.put, Act.eval, List.setIfInBounds_toArray, List.set_cons_zero, List.set_cons_succ, Array.getD_eq_getD_getElem?, List.getElem?_toArray, List.getElem?_cons_zero, List.getElem?_cons_succ, Option.getD_some]) | (refine q_move _ rfl rfl ?_; simp only [Act.put, Act.eval, List.setIfInBounds_toArray, List.set_cons_zero, List.set_cons_succ, Array.getD_eq_getD_getElem?, List.getElem?_toArray, List.getElem?_cons_zero, List.getElem?_cons_succ, Option.getD_some]) | (refine q_assign _ rfl rfl ?_; simp only [Act.put, Act.eval, List.setIfInBounds_toArray, List.set_cons_zero, List.set_cons_succ, Array.getD_eq_getD_getElem?, List.getElem?_toArray, List.getElem?_cons_zero, List.getElem?_cons_succ, Option.getD_some]) | (refine q_load _ _ rfl rfl rfl hX6 TFl ?_; simp only [Act.put, Act.eval, List.setIfInBounds_toArray, List.set_cons_zero, List.set_cons_succ, Array.getD_eq_getD_getElem?, List.getElem?_toArray, List.getElem?_cons_zero, List.getElem?_cons_succ, Option.getD_some]) | (refine q_load_mid _ _ rfl rfl rfl HG3.out TFl (evv ⟨ea, ev, eq⟩) rfl ?_; simp only [Act.put, Act.eval, List.setIfInBounds_toArray, List.set_cons_zero, List.set_cons_succ, Array.getD_eq_getD_getElem?, List.getElem?_toArray, List.getElem?_cons_zero, List.getElem?_cons_succ, Option.getD_some]) | (refine q_any rfl ?_; apply Exists.intro; refine ⟨fun w hw => ?_, ?_⟩; (go_simp; first | exact ⟨rfl, rfl⟩ | rfl); simp only [Act.put, Act.eval, List.setIfInBounds_toArray, List.set_cons_zero, List.set_cons_succ, Array.getD_eq_getD_getElem?, List.getElem?_toArray, List.getElem?_cons_zero, List.getElem?_cons_succ, Option.getD_some]))); refine wpQuiet_nil ?_; intro w2 hw2)
              have HW7 := Lib.hid ((HR.out.trans HB5.out).trans hw2)
              clear hw2 hX6
              go_wp2
              go_roundw
              case rel => exact ⟨k + 1, by omega, by go_num, HW7.out⟩
              case measure => simp [intOf]; omega
          · obtain rfl : k = nf := by omega
            go_wp2
            go_ret
            exact ⟨rfl, HW13.out.trans HR.out⟩
      · clear hwr
        have hne : ((nf : Int) != (nf : Int)) = false := by simp
        go_wp2
        go_loopw [76] (fun t76 wr => ∃ k : Nat, k ≤ nf ∧ t76 = .int .i64 k ∧ Bel w13x wr) (fun t76 _ => nf - (intOf t76).toNat)
        case atStart => exact ⟨0, by omega, rfl, Bel.refl _⟩
        case round =>
          obtain ⟨k, hk, rfl, hr⟩ := hrel
          have HR := Lib.hid hr
          clear hr
          by_cases hlt : k < nf
          · have hlt' : (k : Int) < nf := by omega
            obtain ⟨fb, foff, ⟨ea, ev, eq⟩, rfl, hfb, hfe, hfr⟩ := HS3'.out.at_ hlt
            obtain ⟨gb, goff, e2, rfl, hgb, hge, hgr⟩ := HS13.out.at_ hlt
            rw [List.getElem?_map, hfe] at hge
            simp only [Option.map_some, Option.some.injEq] at hge
            subst hge
            have hlo : 0 ≤ ea ∧ ea < n := HLO.out _ (List.mem_of_getElem? hfe)
            have hR := Lib.hid (rangeAt_below HR.out.out hfb hfr)
            have HGR := Lib.hid (fun (w' : World) (h : Bel wr w') => rangeAt_below (HR.out.trans h).out hgb hgr)
            have HB5 := Lib.hid (show Bel wr _ from ewld_below wr ⟨ea, ev, eq⟩ 33)
            have HX := Lib.hid (ewld_box wr ⟨ea, ev, eq⟩ 33)
            have hx0 := HX.out.cell 0 (v := .int .i64 ea) rfl
            have hf0 := HX.out.frozen 0
            have f1 : IntKind.i64.wrap (ea + 1) = ea + 1 := IntWalk.i64_in _ (by omega)
            have G := grd_fl
            clear hfe hfr hgr hfb hgb
            by_cases hc : (i : Int) < ea
            · have hsh : shE i ⟨ea, ev, eq⟩ = ⟨ea + 1, ev, eq⟩ := by unfold shE; rw [if_pos hc]
              have HGR2 := HGR.out
              rw [hsh] at HGR2
              have HG2 := Lib.hid HGR2
              have NE := neq_fl ⟨ea + 1, ev, eq⟩ ⟨ea + 1, ev, eq⟩
              rw [decide_eq_true rfl] at NE
              have HX6 := Lib.hid (show Box ((ewld wr ⟨ea, ev, eq⟩ 33).setCell ⟨wr.heap.size, 0, none⟩ (.int .i64 (ea + 1))) wr.heap.size (evv ⟨ea + 1, ev, eq⟩) 33 from HX.out.set 0 (.int .i64 (ea + 1)))
              have HB6 := Lib.hid (show Bel wr ((ewld wr ⟨ea, ev, eq⟩ 33).setCell ⟨wr.heap.size, 0, none⟩ (.int .i64 (ea + 1))) from HB5.out.out.setCell (Nat.le_refl _) _)
              clear hsh HGR2 hlo
              go_upto_region 17 with (first | (refine load_ev TFl _ rfl rfl rfl hR.out ?_) | (refine ewld_store TFl _ _ rfl rfl _ rfl rfl rfl ?_))
              generalize (ewld wr ⟨ea, ev, eq⟩ 33).setCell ⟨wr.heap.size, 0, none⟩ (.int .i64 (ea + 1)) = w6 at *
              have hX6 := HX6.out
              have HG3 := Lib.hid (fun (w' : World) (h : Bel w6 w') => HG2.out w' (HB6.out.trans h))
              clear hx0 hf0 f1 hc
              (refine region_bel (by kernel_rfl) (by kernel_rfl) ?_; (repeat (first | ((with_reducible refine BigFrame.wpQuiet_skip ?_ ?_); exact rfl; simp only [Act.put, Act.eval, List.setIfInBounds_toArray, List.set_cons_zero, List.set_cons_succ, Array.getD_eq_getD_getElem?, List.getElem?_toArray, List.getElem?_cons_zero, List.getElem?_cons_succ, Option.getD_some]) | (refine q_move _ rfl rfl ?_; simp only [Act.put, Act.eval, List.setIfInBounds_toArray, List.set_cons_zero, List.set_cons_succ, Array.getD_eq_getD_getElem?, List.getElem?_toArray, List.getElem?_cons_zero, List.getElem?_cons_succ, Option.getD_some]) | (refine q_assign _ rfl rfl ?_; simp only [Act.put, Act.eval, List.setIfInBounds_toArray, List.set_cons_zero, List.set_cons_succ, Array.getD_eq_getD_getElem?, List.getElem?_toArray, List.getElem?_cons_zero, List.getElem?_cons_succ, Option.getD_some]) | (refine q_load _ _ rfl rfl rfl hX6 TFl ?_; simp only [Act.put, Act.eval, List.setIfInBounds_toArray, List.set_cons_zero, List.set_cons_succ, Array.getD_eq_getD_getElem?, List.getElem?_toArray, List.getElem?_cons_zero, List.getElem?_cons_succ, Option.getD_some]) | (refine q_load_mid _ _ rfl rfl rfl HG3.out TFl (evv ⟨ea + 1, ev, eq⟩) rfl ?_; simp only [Act.put, Act.eval, List.setIfInBounds_toArray, List.set_cons_zero, List.set_cons_succ, Array.getD_eq_getD_getElem?, List.getElem?_toArray, List.getElem?_cons_zero, List.getElem?_cons_succ, Option.getD_some]) | (refine q_any rfl ?_; apply Exists.intro; refine ⟨fun w hw => ?_, ?_⟩; (go_simp; first | exact ⟨rfl, rfl⟩ | rfl); simp only [Act.put, Act.eval, List.setIfInBounds_toArray, List.set_cons_zero, List.set_cons_succ, Array.getD_eq_getD_getElem?, List.getElem?_toArray, List.getElem?_cons_zero, List.getElem?_cons_succ, Option.getD_some]))); refine wpQuiet_nil ?_; intro w2 hw2)
              have HW7 := Lib.hid ((HR.out.trans HB6.out).trans hw2)
              clear hw2 hX6
              go_wp2
              go_roundw
              case rel => exact ⟨k + 1, by omega, by go_num, HW7.out⟩
              case measure => simp [intOf]; omega
            · have hsh : shE i ⟨ea, ev, eq⟩ = ⟨ea, ev, eq⟩ := by unfold shE; rw [if_neg hc]
              have HGR2 := HGR.out
              rw [hsh] at HGR2
              have HG2 := Lib.hid HGR2
              have NE := neq_fl ⟨ea, ev, eq⟩ ⟨ea, ev, eq⟩
              rw [decide_eq_true rfl] at NE
              have hc' : ea ≤ (i : Int) := by omega
              clear hsh HGR2 hlo hc
              go_upto_region 17 with (first | (refine load_ev TFl _ rfl rfl rfl hR.out ?_) | (refine ewld_store TFl _ _ rfl rfl _ rfl rfl rfl ?_))
              generalize ewld wr ⟨ea, ev, eq⟩ 33 = w6 at *
              have hX6 := HX.out
              have HG3 := Lib.hid (fun (w' : World) (h : Bel w6 w') => HG2.out w' (HB5.out.trans h))
              clear hx0 hf0 f1 hc'
              (refine region_bel (by kernel_rfl) (by kernel_rfl) ?_; (repeat (first | ((with_reducible refine BigFrame.wpQuiet_skip ?_ ?_); exact rfl; simp only [Act.put, Act.eval, List.setIfInBounds_toArray, List.set_cons_zero, List.set_cons_succ, Array.getD_eq_getD_getElem?, List.getElem?_toArray, List.getElem?_cons_zero, List.getElem?_cons_succ, Option.getD_some]) | (refine q_move _ rfl rfl ?_; simp only [Act.put, Act.eval, List.setIfInBounds_toArray, List.set_cons_zero, List.set_cons_succ, Array.getD_eq_getD_getElem?, List.getElem?_toArray, List.getElem?_cons_zero, List.getElem?_cons_succ, Option.getD_some]) | (refine q_assign _ rfl rfl ?_; simp only [Act.put, Act.eval, List.setIfInBounds_toArray, List.set_cons_zero, List.set_cons_succ, Array.getD_eq_getD_getElem?, List.getElem?_toArray, List.getElem?_cons_zero, List.getElem?_cons_succ, Option.getD_some]) | (refine q_load _ _ rfl rfl rfl hX6 TFl ?_; simp only [Act.put, Act.eval, List.setIfInBounds_toArray, List.set_cons_zero, List.set_cons_succ, Array.getD_eq_getD_getElem?, List.getElem?_toArray, List.getElem?_cons_zero, List.getElem?_cons_succ, Option.getD_some]) | (refine q_load_mid _ _ rfl rfl rfl HG3.out TFl (evv ⟨ea, ev, eq⟩) rfl ?_; simp only [Act.put, Act.eval, List.setIfInBounds_toArray, List.set_cons_zero, List.set_cons_succ, Array.getD_eq_getD_getElem?, List.getElem?_toArray, List.getElem?_cons_zero, List.getElem?_cons_succ, Option.getD_some]) | (refine q_any rfl ?_; apply Exists.intro; refine ⟨fun w hw => ?_, ?_⟩; (go_simp; first | exact ⟨rfl, rfl⟩ | rfl); simp only [Act.put, Act.eval, List.setIfInBounds_toArray, List.set_cons_zero, List.set_cons_succ, Array.getD_eq_getD_getElem?, List.getElem?_toArray, List.getElem?_cons_zero, List.getElem?_cons_succ, Option.getD_some]))); refine wpQuiet_nil ?_; intro w2 hw2)
              have HW7 := Lib.hid ((HR.out.trans HB5.out).trans hw2)
              clear hw2 hX6
              go_wp2
              go_roundw
              case rel => exact ⟨k + 1, by omega, by go_num, HW7.out⟩
              case measure => simp [intOf]; omega
          · obtain rfl : k = nf := by omega
            go_wp2
            go_ret
            exact ⟨rfl, HW13.out.trans HR.out⟩
    · have hek : (ek != 2) = true := by simp; exact hw
      go_enter Try.func11, Try.ntmps11
      go_wp2_with fail
      refine (fasted_any _).mono ?_
      rintro e1 w1 ⟨rfl, hb1⟩
      have hw1 := hw0.call hb1
      clear hb1
      go_wp2_with fail
      refine (may_any _ n c l _ (HL.out.bel hw1)).mono ?_
      rintro e2 w2 ⟨rfl, hb2⟩
      have hw2 := hw1.call hb2
      clear hb2
      go_wp2_with fail
      refine (HRT.out _).mono ?_
      rintro _ _ ⟨rfl, rfl⟩
      have c0 : w2.cell? ⟨bb, off + i * 3, none⟩ = some (.int .i64 ek) := rangeAt_below hw2.out HBB.out HRG.out 0 (.int .i64 ek) rfl
      go_wp2
      go_ret
      exact ⟨rfl, hw2⟩

set_option maxRecDepth 100000 in
theorem lifted (os : Os) (started : os.Started) (H : Type) (enc : TypeId × Value → H) :
    ReturnsInHanded {} Try.checked os 11 .any (Rows.fastAgainSpec.pre6 enc Try.prog Try.f11 Rows.fastAgainRow.domain false) (Rows.fastAgainSpec.post enc Try.prog Try.f11 false true false false) := by
  refine returnsInHanded_of_change_sized (C := Try.checked) own started (by kernel_rfl) Try.func11
    (ChangeSpec.witness6 (enc := enc) (C := Try.checked) false ⟨#[], #[.slice none 0 0, .int .i64 0], []⟩ 8 (by kernel_rfl) (by kernel_rfl) (by kernel_rfl) (by kernel_rfl)) ?_
  intro W base args ds gs before hval0 hW hcnd hsz0 _
  have hsz : (DataW.weightsEach Try.prog (Try.f11.params.toList ++ Rows.fastAgainSpec.plain.varTypes Try.prog) (ds ++ gs)).all (· ≤ reachBytes) = true := hsz0
  clear hsz0
  have hval : ∀ (j : Nat) t v, Try.f11.params[j]? = some t → args[j]? = some v → Value.okWide Try.prog W .any base t v := hval0
  have hW' := hW
  obtain ⟨p, q, hA0, hV, rfl, hfz, hnd⟩ := hW
  have hA : DataW.TrodAll enc Try.prog W 0 (fun _ => true) true Try.f11.params.toList args.toList ds p := hA0
  rw [Try.params11] at hA hval hsz
  obtain ⟨v0, vs0, d0, ds0, p0, q0, hargs, rfl, rfl, h0, r0⟩ := trodAll_cons hA
  obtain ⟨v1, vs1, d1, ds1, p1, q1, rfl, rfl, rfl, h1, r1⟩ := trodAll_cons r0
  obtain ⟨rfl, rfl, rfl⟩ := trodAll_nil r1
  obtain rfl : args = #[v0, v1] := by cases args; simp_all
  obtain ⟨rfl, rfl⟩ := trodVars_none hV
  have t0 := h0
  have lt0 : ∀ x ∈ p0, x.block < W.heap.size := by obtain ⟨m, hm⟩ := t0; exact DataW.trod_lt m _ _ _ hm
  have t1 := h1
  have lt1 : ∀ x ∈ p1, x.block < W.heap.size := by obtain ⟨m, hm⟩ := t1; exact DataW.trod_lt m _ _ _ hm
  obtain ⟨A0, n0, c0, l0, rfl, s0, m0, x0, g0, z0⟩ := open_evs Try.underlying22 Try.underlying50 ⟨rfl, rfl, rfl⟩ (by kernel_rfl) (by kernel_rfl) Try.underlying3 (hval 0 22 v0 rfl rfl) h0
  have y0 := reach_sl hsz (j := 0) rfl rfl Try.underlying22 (b := 24) (by kernel_rfl) z0
  obtain ⟨a1, rfl, _, _, x1⟩ := open_int Try.underlying3 (hval 1 3 v1 rfl rfl) h1
  have k1 := in64_of x1
  clear hA0 hval0
  refine (walk W A0 n0 c0 l0 s0 m0 x0 g0 a1 k1).mono fun e W' ⟨he, bel⟩ => ?_
  subst he
  exact ⟨_, rfl, _, _, _, [], _, [], hW', trodAll_mk1 (shut_bool Try.underlying4 _), (trodAll_cons_mk (Below.trod laidOut (by kernel_rfl) (of_decide_eq_true (by kernel_rfl)) t0 bel lt0) (trodAll_cons_mk (Below.trod laidOut (by kernel_rfl) (of_decide_eq_true (by kernel_rfl)) t1 bel lt1) trodAll_mk0)), rfl, bel.frame _, fun h => by cases h⟩

theorem over : Rows.fastAgainRow.holds Try.pinned (OpenSpec.ofChange Rows.fastAgainSpec) :=
  OpenClaim.holds_of_wide 11 Try.f11 rfl rfl rfl rfl rfl rfl rfl ⟨rfl, rfl, rfl, rfl, rfl⟩ rfl rfl rfl rfl rfl (by kernel_rfl) Try.func11 (by kernel_rfl)
    (of_decide_eq_true (by kernel_rfl)) (by unfold Func.isWrapper; first | (rw [if_pos (by decide +kernel)]; kernel_rfl) | (rw [if_neg (by decide +kernel)]; exact ⟨rfl, rfl⟩))
    (fun os started H enc _ => lifted os started H enc)

theorem proved : Rows.FastAgainSaid := over
#print axioms proved
end Go.Proofs.Ytbkciglapambgaa.LFastAgain

/- 'deadheatkeep.TraceLess' returns true for every input and leaves its arguments as they are. No condition. -/
import Derived.Test.YtioejkjbokcppaaOpenTr
import Derived.Test.YtioejkjbokcppaaKeepTr
import Derived.Test.YtioejkjbokcppaaRest
import Derived.Test.YtioejkjbokcppaaAppend
set_option linter.all false
namespace Go.Proofs.Ytioejkjbokcppaa.LTraceLess
open Go Go.ChangeShapes Go.WideShapes Go.ChangeAt Go.RowKit

set_option maxHeartbeats 4000000 in
theorem walk (W : World) (A : Option Addr) (n c : Nat) (l : List Ev) (s : Sl W A n l) (m : n ≤ c) (x : c ≤ maxLen) (g : ∀ e ∈ l, EvOk e) (t : Int) (kt : In64 t) :
    Calls Try.prog 10 #[.slice A n c, .int .i64 t] W fun e w' => e = .returned (.bool true) ∧ Below W.heap.size W w' := by
  have hw0 : Bel W W := Bel.refl _
  have HS := Lib.hid s
  unfold maxLen at x
  cases h1 : (may l == 0)
  · clear s g kt
    go_enter Try.func10, Try.ntmps10
    go_wp2_with fail
    refine (traced_any _).mono ?_
    rintro e1 w1 ⟨rfl, hb1⟩
    have hw1 : Bel W w1 := hw0.call hb1
    clear hb1
    go_wp2_with fail
    refine (may_any A n c l _ (HS.out.bel hw1.out)).mono ?_
    rintro e2 w2 ⟨rfl, hb2⟩
    have hw2 : Bel W w2 := hw1.call hb2
    clear hb2
    go_wp2
    go_ret
    exact ⟨rfl, hw2⟩
  · have HM := Lib.hid (show may l = 0 by simpa using h1)
    by_cases hn : n = 0
    · subst hn
      clear s g kt
      go_enter Try.func10, Try.ntmps10
      go_wp2_with fail
      refine (traced_any _).mono ?_
      rintro e1 w1 ⟨rfl, hb1⟩
      have hw1 : Bel W w1 := hw0.call hb1
      clear hb1
      go_wp2_with fail
      refine (may_any A 0 c l _ (HS.out.bel hw1.out)).mono ?_
      rintro e2 w2 ⟨rfl, hb2⟩
      have hw2 : Bel W w2 := hw1.call hb2
      clear hb2
      go_wp2
      go_ret
      exact ⟨rfl, hw2⟩
    · have hn0 : ((n : Int) == 0) = false := by simp; omega
      have hn80 : n ≤ 80 := by rw [← s.1]; exact ((may_iff l).1 HM.out).1
      have hk0 := Int.emod_nonneg t (show (n : Int) ≠ 0 by omega)
      have hk1 := Int.emod_lt_of_pos t (show (0 : Int) < n by omega)
      have HR := Lib.hid (fun w => rest_any t n kt (by omega) (by omega) w)
      generalize t % (n : Int) = r at *
      obtain ⟨k, rfl⟩ := Int.eq_ofNat_of_zero_le hk0
      have hk : k < n := by omega
      have hk' : (k : Int) < n := by omega
      have hkc : (k : Int) ≤ c := by omega
      have hnc : (n : Int) ≤ c := by omega
      have hwr : IntKind.i64.wrap ((k : Int) + 1) = k + 1 := IntWalk.i64_in _ (by omega)
      have hk1' : (k : Int) + 1 ≤ n := by omega
      obtain ⟨i0, hi0, hz0, hz1, hz2⟩ := info_parts ev_info
      have J := Lib.hid (And.intro hi0 (And.intro hz0 (And.intro hz1 hz2)))
      have HWR := Lib.hid hwr
      obtain ⟨bb, off, e, rfl, hbb, he, hrg⟩ := s.at_ hk
      have HE := Lib.hid he
      have HRG := Lib.hid hrg
      clear he hrg
      clear s g kt hk0 hk1 hi0 hz0 hz1 hz2 hn hwr
      go_enter Try.func10, Try.ntmps10
      go_wp2_with fail
      refine (traced_any _).mono ?_
      rintro e1 w1 ⟨rfl, hb1⟩
      have hw1 : Bel W w1 := hw0.call hb1
      clear hb1
      go_wp2_with fail
      refine (may_any _ n c l _ (HS.out.bel hw1.out)).mono ?_
      rintro e2 w2 ⟨rfl, hb2⟩
      have hw2 : Bel W w2 := hw1.call hb2
      clear hb2
      go_wp2_with fail
      refine (HR.out _).mono ?_
      rintro _ _ ⟨rfl, rfl⟩
      have hwr := HWR.out
      go_wp2
      refine region_grow (by kernel_rfl) ?_
      (repeat (first | (refine wpG_go 0 (by simp only [List.getElem?_toArray, List.getElem?_cons_zero, List.getElem?_cons_succ] <;> rfl) (by decide +kernel) (by decide +kernel) (by kernel_rfl) (by rfl) (by exact fun _ _ _ _ h => h) (Nat.le_refl _) ?_; apply Exists.intro; refine ⟨fun w1 h1 => ?_, ?_⟩; (first | exact g_move _ rfl | exact g_assign _ rfl | (go_simp; first | exact ⟨rfl, rfl⟩ | rfl)); simp only [Act.put, Act.eval, List.setIfInBounds_toArray, List.set_cons_zero, List.set_cons_succ, Array.getD_eq_getD_getElem?, List.getElem?_toArray, List.getElem?_cons_zero, List.getElem?_cons_succ, Option.getD_some]) | (refine wpG_go 1 (by simp only [List.getElem?_toArray, List.getElem?_cons_zero, List.getElem?_cons_succ] <;> rfl) (by decide +kernel) (by decide +kernel) (by kernel_rfl) (by rfl) (by exact fun _ _ _ _ h => h) (Nat.le_refl _) ?_; apply Exists.intro; refine ⟨fun w1 h1 => ?_, ?_⟩; (first | exact g_move _ rfl | exact g_assign _ rfl | (go_simp; first | exact ⟨rfl, rfl⟩ | rfl)); simp only [Act.put, Act.eval, List.setIfInBounds_toArray, List.set_cons_zero, List.set_cons_succ, Array.getD_eq_getD_getElem?, List.getElem?_toArray, List.getElem?_cons_zero, List.getElem?_cons_succ, Option.getD_some]) | (refine wpG_go 2 (by simp only [List.getElem?_toArray, List.getElem?_cons_zero, List.getElem?_cons_succ] <;> rfl) (by decide +kernel) (by decide +kernel) (by kernel_rfl) (by rfl) (by exact fun _ _ _ _ h => h) (Nat.le_refl _) ?_; apply Exists.intro; refine ⟨fun w1 h1 => ?_, ?_⟩; (first | exact g_move _ rfl | exact g_assign _ rfl | (go_simp; first | exact ⟨rfl, rfl⟩ | rfl)); simp only [Act.put, Act.eval, List.setIfInBounds_toArray, List.set_cons_zero, List.set_cons_succ, Array.getD_eq_getD_getElem?, List.getElem?_toArray, List.getElem?_cons_zero, List.getElem?_cons_succ, Option.getD_some]) | (refine wpG_go 4 (by simp only [List.getElem?_toArray, List.getElem?_cons_zero, List.getElem?_cons_succ] <;> rfl) (by decide +kernel) (by decide +kernel) (by kernel_rfl) (by rfl) (by exact fun _ _ _ _ h => h) (Nat.le_refl _) ?_; apply Exists.intro; refine ⟨fun w1 h1 => ?_, ?_⟩; (first | exact g_move _ rfl | exact g_assign _ rfl | (go_simp; first | exact ⟨rfl, rfl⟩ | rfl)); simp only [Act.put, Act.eval, List.setIfInBounds_toArray, List.set_cons_zero, List.set_cons_succ, Array.getD_eq_getD_getElem?, List.getElem?_toArray, List.getElem?_cons_zero, List.getElem?_cons_succ, Option.getD_some]) | (refine wpG_go 5 (by simp only [List.getElem?_toArray, List.getElem?_cons_zero, List.getElem?_cons_succ] <;> rfl) (by decide +kernel) (by decide +kernel) (by kernel_rfl) (by rfl) (by exact fun _ _ _ _ h => h) (Nat.le_refl _) ?_; apply Exists.intro; refine ⟨fun w1 h1 => ?_, ?_⟩; (first | exact g_move _ rfl | exact g_assign _ rfl | (go_simp; first | exact ⟨rfl, rfl⟩ | rfl)); simp only [Act.put, Act.eval, List.setIfInBounds_toArray, List.set_cons_zero, List.set_cons_succ, Array.getD_eq_getD_getElem?, List.getElem?_toArray, List.getElem?_cons_zero, List.getElem?_cons_succ, Option.getD_some]) | (refine wpG_go 6 (by simp only [List.getElem?_toArray, List.getElem?_cons_zero, List.getElem?_cons_succ] <;> rfl) (by decide +kernel) (by decide +kernel) (by kernel_rfl) (by rfl) (by exact fun _ _ _ _ h => h) (Nat.le_refl _) ?_; apply Exists.intro; refine ⟨fun w1 h1 => ?_, ?_⟩; (first | exact g_move _ rfl | exact g_assign _ rfl | (go_simp; first | exact ⟨rfl, rfl⟩ | rfl)); simp only [Act.put, Act.eval, List.setIfInBounds_toArray, List.set_cons_zero, List.set_cons_succ, Array.getD_eq_getD_getElem?, List.getElem?_toArray, List.getElem?_cons_zero, List.getElem?_cons_succ, Option.getD_some]) | (refine wpG_go 7 (by simp only [List.getElem?_toArray, List.getElem?_cons_zero, List.getElem?_cons_succ] <;> rfl) (by decide +kernel) (by decide +kernel) (by kernel_rfl) (by rfl) (by exact fun _ _ _ _ h => h) (Nat.le_refl _) ?_; apply Exists.intro; refine ⟨fun w1 h1 => ?_, ?_⟩; (first | exact g_move _ rfl | exact g_assign _ rfl | (go_simp; first | exact ⟨rfl, rfl⟩ | rfl)); simp only [Act.put, Act.eval, List.setIfInBounds_toArray, List.set_cons_zero, List.set_cons_succ, Array.getD_eq_getD_getElem?, List.getElem?_toArray, List.getElem?_cons_zero, List.getElem?_cons_succ, Option.getD_some]) | (refine wpG_skip 0 (by simp only [List.getElem?_toArray, List.getElem?_cons_zero, List.getElem?_cons_succ] <;> rfl) (by decide +kernel) (by decide +kernel) (by kernel_rfl) (by rfl) (by exact fun _ _ _ _ h => h) (Nat.le_refl _) ?_; simp only [Act.put, Act.eval, List.setIfInBounds_toArray, List.set_cons_zero, List.set_cons_succ, Array.getD_eq_getD_getElem?, List.getElem?_toArray, List.getElem?_cons_zero, List.getElem?_cons_succ, Option.getD_some]) | (refine wpG_skip 1 (by simp only [List.getElem?_toArray, List.getElem?_cons_zero, List.getElem?_cons_succ] <;> rfl) (by decide +kernel) (by decide +kernel) (by kernel_rfl) (by rfl) (by exact fun _ _ _ _ h => h) (Nat.le_refl _) ?_; simp only [Act.put, Act.eval, List.setIfInBounds_toArray, List.set_cons_zero, List.set_cons_succ, Array.getD_eq_getD_getElem?, List.getElem?_toArray, List.getElem?_cons_zero, List.getElem?_cons_succ, Option.getD_some]) | (refine wpG_skip 2 (by simp only [List.getElem?_toArray, List.getElem?_cons_zero, List.getElem?_cons_succ] <;> rfl) (by decide +kernel) (by decide +kernel) (by kernel_rfl) (by rfl) (by exact fun _ _ _ _ h => h) (Nat.le_refl _) ?_; simp only [Act.put, Act.eval, List.setIfInBounds_toArray, List.set_cons_zero, List.set_cons_succ, Array.getD_eq_getD_getElem?, List.getElem?_toArray, List.getElem?_cons_zero, List.getElem?_cons_succ, Option.getD_some]) | (refine wpG_skip 4 (by simp only [List.getElem?_toArray, List.getElem?_cons_zero, List.getElem?_cons_succ] <;> rfl) (by decide +kernel) (by decide +kernel) (by kernel_rfl) (by rfl) (by exact fun _ _ _ _ h => h) (Nat.le_refl _) ?_; simp only [Act.put, Act.eval, List.setIfInBounds_toArray, List.set_cons_zero, List.set_cons_succ, Array.getD_eq_getD_getElem?, List.getElem?_toArray, List.getElem?_cons_zero, List.getElem?_cons_succ, Option.getD_some]) | (refine wpG_skip 5 (by simp only [List.getElem?_toArray, List.getElem?_cons_zero, List.getElem?_cons_succ] <;> rfl) (by decide +kernel) (by decide +kernel) (by kernel_rfl) (by rfl) (by exact fun _ _ _ _ h => h) (Nat.le_refl _) ?_; simp only [Act.put, Act.eval, List.setIfInBounds_toArray, List.set_cons_zero, List.set_cons_succ, Array.getD_eq_getD_getElem?, List.getElem?_toArray, List.getElem?_cons_zero, List.getElem?_cons_succ, Option.getD_some]) | (refine wpG_skip 6 (by simp only [List.getElem?_toArray, List.getElem?_cons_zero, List.getElem?_cons_succ] <;> rfl) (by decide +kernel) (by decide +kernel) (by kernel_rfl) (by rfl) (by exact fun _ _ _ _ h => h) (Nat.le_refl _) ?_; simp only [Act.put, Act.eval, List.setIfInBounds_toArray, List.set_cons_zero, List.set_cons_succ, Array.getD_eq_getD_getElem?, List.getElem?_toArray, List.getElem?_cons_zero, List.getElem?_cons_succ, Option.getD_some]) | (refine wpG_skip 7 (by simp only [List.getElem?_toArray, List.getElem?_cons_zero, List.getElem?_cons_succ] <;> rfl) (by decide +kernel) (by decide +kernel) (by kernel_rfl) (by rfl) (by exact fun _ _ _ _ h => h) (Nat.le_refl _) ?_; simp only [Act.put, Act.eval, List.setIfInBounds_toArray, List.set_cons_zero, List.set_cons_succ, Array.getD_eq_getD_getElem?, List.getElem?_toArray, List.getElem?_cons_zero, List.getElem?_cons_succ, Option.getD_some])))
      obtain ⟨hi0, hz0, hz1, hz2⟩ := J.out
      (refine wpG_one 3 (by decide +kernel) ?_; intro w3 hw3; refine op_wanted (by simp only [List.getElem?_toArray, List.getElem?_cons_zero, List.getElem?_cons_succ] <;> rfl) rfl ?_)
      have hs3 := (HS.out.bel (hw2.trans hw3).out)
      refine wp_append_src (.const (.slice none 0 0)) (.tmp 22) _ rfl w2.heap.size 36 i0 _ 3 24 Try.underlying22 hi0 hz0 hz1 hz2 rfl (by omega) (.slice none 0 0) 0 [] rfl (World.ownsRow_nil ..) (some ⟨bb, off, none⟩) k c (evc (l.take k)) rfl (by rw [evc_length, (hs3.take (Nat.le_of_lt hk)).1]) (hs3.take (Nat.le_of_lt hk)).src (evc_one _) (by simp only [maxLen]; omega) (by omega) hw3.size fun v4 w4 hown4 hg4 _ => ⟨grown_below hg4 (World.ownsRow_nil _ w2.heap.size 36 3) (Nat.le_refl _) hw3.size, ?_⟩
      have hw4 : Bel w2 w4 := hw3.out.trans (grown_below hg4 (World.ownsRow_nil _ w2.heap.size 36 3) (Nat.le_refl _) hw3.size)
      (refine wpG_one 8 (by decide +kernel) ?_; intro w5 hw5; refine op_wanted (by simp only [List.getElem?_toArray, List.getElem?_cons_zero, List.getElem?_cons_succ] <;> rfl) rfl ?_)
      have hs5 := (HS.out.bel (hw2.trans (hw4.trans hw5)).out)
      have ho5 := own_bel hown4 hw5
      refine wp_append_src (.tmp 23) (.tmp 27) _ rfl w2.heap.size 36 i0 _ 3 24 Try.underlying22 hi0 hz0 hz1 hz2 rfl (by omega) v4 (0 + k) ([] ++ evc (l.take k)) rfl ho5 _ (n - (k + 1)) _ (evc (l.drop (k + 1))) rfl (by rw [evc_length, (hs5.drop (c := c) hk m).1]) (hs5.drop (c := c) hk m).src (evc_one _) (by simp only [maxLen]; omega) (by omega) (hw4.trans hw5).size fun v6 w6 hown6 hg6 _ => ⟨grown_below hg6 ho5 (Nat.le_refl _) (hw4.trans hw5).size, ?_⟩
      have hw6 : Bel w2 w6 := (hw4.trans hw5).out.trans (grown_below hg6 ho5 (Nat.le_refl _) (hw4.trans hw5).size)
      have hN6 := hw6.size
      have hm6 : w6.ownsRow w2.heap.size 36 3 v6 (k + (n - (k + 1))) (evc (l.take k ++ l.drop (k + 1))) := by rw [evc_append]; simpa using hown6
      clear hown4 hown6 ho5 hs3 hs5 hg4 hg6 hi0 hz0 hz1 hz2 hwr
      (repeat (first | (refine wpG_go 9 (by simp only [List.getElem?_toArray, List.getElem?_cons_zero, List.getElem?_cons_succ] <;> rfl) (by decide +kernel) (by decide +kernel) (by kernel_rfl) (by rfl) (by exact fun _ _ _ _ h => h) hN6 ?_; apply Exists.intro; refine ⟨fun w1 h1 => ?_, ?_⟩; (first | exact g_move _ rfl | exact g_assign _ rfl | (go_simp; first | exact ⟨rfl, rfl⟩ | rfl)); simp only [Act.put, Act.eval, List.setIfInBounds_toArray, List.set_cons_zero, List.set_cons_succ, Array.getD_eq_getD_getElem?, List.getElem?_toArray, List.getElem?_cons_zero, List.getElem?_cons_succ, Option.getD_some]) | (refine wpG_skip 9 (by simp only [List.getElem?_toArray, List.getElem?_cons_zero, List.getElem?_cons_succ] <;> rfl) (by decide +kernel) (by decide +kernel) (by kernel_rfl) (by rfl) (by exact fun _ _ _ _ h => h) hN6 ?_; simp only [Act.put, Act.eval, List.setIfInBounds_toArray, List.set_cons_zero, List.set_cons_succ, Array.getD_eq_getD_getElem?, List.getElem?_toArray, List.getElem?_cons_zero, List.getElem?_cons_succ, Option.getD_some])))
      (refine wpG_done (by decide +kernel) ?_ _; intro w7 hw7)
      obtain ⟨A7, c7, rfl, hs7, hc7, hm7⟩ := Sl.own (own_bel hm6 hw7)
      have HS7 := Lib.hid hs7
      have HW7 := Lib.hid (hw2.trans (hw6.trans hw7))
      clear hm6 hs7
      have hr7 := rangeAt_below HW7.out.out hbb HRG.out
      have c0 : w7.cell? ⟨bb, off + k * 3, none⟩ = some (.int .i64 e.k) := by simpa using hr7 0 _ rfl
      clear hr7
      by_cases h3 : 3 ≤ e.k
      · by_cases h6 : e.k ≤ 6
        · go_wp2
          all_goals
            go_ret
            exact ⟨rfl, HW7.out⟩
        · have hb := may_less (p := l.take k) (q := l.drop (k + 1)) (e := e) ⟨by omega, by omega, by omega, by omega⟩ (by rw [take_cons_drop HE.out]; exact HM.out)
          have HB := Lib.hid hb
          clear hb
          go_wp2_with (go_at_call 22; refine (may_any A7 _ c7 _ _ HS7.out).mono ?_; rintro e8 w8 ⟨rfl, hb8⟩; rw [HB.out])
          all_goals
            go_ret
            exact ⟨rfl, HW7.out.call hb8⟩
      · have hb := may_less (p := l.take k) (q := l.drop (k + 1)) (e := e) ⟨by omega, by omega, by omega, by omega⟩ (by rw [take_cons_drop HE.out]; exact HM.out)
        have HB := Lib.hid hb
        clear hb
        go_wp2_with (go_at_call 22; refine (may_any A7 _ c7 _ _ HS7.out).mono ?_; rintro e8 w8 ⟨rfl, hb8⟩; rw [HB.out])
        all_goals
          go_ret
          exact ⟨rfl, HW7.out.call hb8⟩

set_option maxRecDepth 100000 in
theorem lifted (os : Os) (started : os.Started) (H : Type) (enc : TypeId × Value → H) :
    ReturnsInHanded {} Try.checked os 10 .any (Rows.traceLessSpec.pre6 enc Try.prog Try.f10 Rows.traceLessRow.domain false) (Rows.traceLessSpec.post enc Try.prog Try.f10 false true false false) := by
  refine returnsInHanded_of_change_sized (C := Try.checked) own started (by kernel_rfl) Try.func10
    (ChangeSpec.witness6 (enc := enc) (C := Try.checked) false ⟨#[], #[.slice none 0 0, .int .i64 0], []⟩ 8 (by kernel_rfl) (by kernel_rfl) (by kernel_rfl) (by kernel_rfl)) ?_
  intro W base args ds gs before hval0 hW hcnd hsz0 _
  have hsz : (DataW.weightsEach Try.prog (Try.f10.params.toList ++ Rows.traceLessSpec.plain.varTypes Try.prog) (ds ++ gs)).all (· ≤ reachBytes) = true := hsz0
  clear hsz0
  have hval : ∀ (j : Nat) t v, Try.f10.params[j]? = some t → args[j]? = some v → Value.okWide Try.prog W .any base t v := hval0
  have hW' := hW
  obtain ⟨p, q, hA0, hV, rfl, hfz, hnd⟩ := hW
  have hA : DataW.TrodAll enc Try.prog W 0 (fun _ => true) true Try.f10.params.toList args.toList ds p := hA0
  rw [Try.params10] at hA hval hsz
  obtain ⟨v0, vs0, d0, ds0, p0, q0, hargs, rfl, rfl, h0, r0⟩ := trodAll_cons hA
  obtain ⟨v1, vs1, d1, ds1, p1, q1, rfl, rfl, rfl, h1, r1⟩ := trodAll_cons r0
  obtain ⟨rfl, rfl, rfl⟩ := trodAll_nil r1
  obtain rfl : args = #[v0, v1] := by cases args; simp_all
  obtain ⟨rfl, rfl⟩ := trodVars_none hV
  have t0 := h0
  have lt0 : ∀ x ∈ p0, x.block < W.heap.size := by obtain ⟨m, hm⟩ := t0; exact DataW.trod_lt m _ _ _ hm
  have t1 := h1
  have lt1 : ∀ x ∈ p1, x.block < W.heap.size := by obtain ⟨m, hm⟩ := t1; exact DataW.trod_lt m _ _ _ hm
  obtain ⟨A0, n0, c0, l0, rfl, s0, m0, x0, g0, z0⟩ := open_evs Try.underlying22 Try.underlying36 ⟨rfl, rfl, rfl⟩ (by kernel_rfl) (by kernel_rfl) Try.underlying3 (hval 0 22 v0 rfl rfl) h0
  have y0 := reach_sl hsz (j := 0) rfl rfl Try.underlying22 (b := 24) (by kernel_rfl) z0
  obtain ⟨a1, rfl, _, _, x1⟩ := open_int Try.underlying3 (hval 1 3 v1 rfl rfl) h1
  have k1 := in64_of x1
  clear hA0 hval0
  refine (walk W A0 n0 c0 l0 s0 m0 x0 g0 a1 k1).mono fun e W' ⟨he, bel⟩ => ?_
  subst he
  exact ⟨_, rfl, _, _, _, [], _, [], hW', trodAll_mk1 (shut_bool Try.underlying4 _), (trodAll_cons_mk (Below.trod laidOut (by kernel_rfl) (of_decide_eq_true (by kernel_rfl)) t0 bel lt0) (trodAll_cons_mk (Below.trod laidOut (by kernel_rfl) (of_decide_eq_true (by kernel_rfl)) t1 bel lt1) trodAll_mk0)), rfl, bel.frame _, fun h => by cases h⟩

theorem over : Rows.traceLessRow.holds Try.pinned (OpenSpec.ofChange Rows.traceLessSpec) :=
  OpenClaim.holds_of_wide 10 Try.f10 rfl rfl rfl rfl rfl rfl rfl ⟨rfl, rfl, rfl, rfl, rfl⟩ rfl rfl rfl rfl rfl (by kernel_rfl) Try.func10 (by kernel_rfl)
    (of_decide_eq_true (by kernel_rfl)) (by unfold Func.isWrapper; first | (rw [if_pos (by decide +kernel)]; kernel_rfl) | (rw [if_neg (by decide +kernel)]; exact ⟨rfl, rfl⟩))
    (fun os started H enc _ => lifted os started H enc)

theorem proved : Rows.TraceLessSaid := over
#print axioms proved
end Go.Proofs.Ytioejkjbokcppaa.LTraceLess

/- 'deadheatkeep.SwapBack' returns true for every input and leaves its arguments as they are. No condition. -/
import Derived.Test.YtjlomojhbjpdfaaOpen
import Derived.Test.YtjlomojhbjpdfaaSwU
import Derived.Test.YtjlomojhbjpdfaaSwS
import Derived.Test.YtjlomojhbjpdfaaKeepSw
set_option linter.all false
set_option maxRecDepth 100000
namespace Go.Proofs.Ytjlomojhbjpdfaa.LSwapBack
open Go Go.ChangeShapes Go.WideShapes Go.ChangeAt Go.RowKit

theorem swap_ne {k : Nat} {l r : List Ev} (h : SwAt k l r) : r ≠ l := fun e => by
  subst e
  have hl := h.lt
  have ha : r[k]? = some (evZ r k) := by unfold evZ; rw [List.getElem?_eq_getElem (by omega)]; rfl
  have hb : r[k + 1]? = some (evZ r (k + 1)) := by unfold evZ; rw [List.getElem?_eq_getElem hl]; rfl
  have h1 := h.get k
  have h2 : tr k k = k + 1 := by unfold tr; rw [if_pos rfl]
  rw [h2, ha, hb] at h1
  have h3 := h.dep ha hb
  have h4 : evZ r (k + 1) = evZ r k := Option.some.inj h1
  rw [h4, dep_self] at h3
  cases h3
set_option maxHeartbeats 8000000 in
theorem walkH (HS : SwapC) (HA : ApartC) (W : World) (A : Option Addr) (n c : Nat) (l : List Ev) (s : Sl W A n l) (m : n ≤ c) (x : c ≤ maxLen) (_g : ∀ e ∈ l, EvOk e) (i : Int) (ki : In64 i) (a b : Ev) :
    Calls Try.prog 7 #[.slice A n c, .int .i64 i, .agg (evv a), .agg (evv b)] W fun e w' => e = .returned (.bool true) ∧ Below W.heap.size W w' := by
  obtain ⟨b1, b2, hB, hs⟩ := boxes2 W (evv a) (evv b) 23 23
  have HSW := Lib.hid (fun w => swapped_any HS HA w)
  unfold ApartC at HA
  have HBW := Lib.hid (Bel.of hB)
  have HL := Lib.hid (s.bel HBW.out)
  have HMX := Lib.hid (And.intro m x)
  have HX1 := Lib.hid b1
  have HX2 := Lib.hid b2
  have HSC := Lib.hid HS
  have HK := Lib.hid ki
  have HA1 := Lib.hid (fun w => HA a b w)
  have HA2 := Lib.hid (fun w => by have h := HA b a w; rw [dep_symm] at h; exact h)
  have HA3 := Lib.hid (fun w => by have h := HA a a w; rw [dep_self] at h; exact h)
  clear s m x hB hs b1 b2 HS HA ki
  go_enter Try.func7, Try.ntmps7
  go_wp2
  generalize hW0 : ((W.alloc (.cells (evv a) 23)).alloc (.cells (evv b) 23)) = W0 at *
  generalize hv : (!dep a b) = vd at *
  have hvv : (vd != vd) = false := by simp
  clear hW0 hv
  (refine region_bel (by kernel_rfl) (by kernel_rfl) ?_; (repeat (first | ((with_reducible refine BigFrame.wpQuiet_skip ?_ ?_); exact rfl; simp only [Act.put, Act.eval, List.setIfInBounds_toArray, List.set_cons_zero, List.set_cons_succ, Array.getD_eq_getD_getElem?, List.getElem?_toArray, List.getElem?_cons_zero, List.getElem?_cons_succ, Option.getD_some]) | (refine q_move _ rfl rfl ?_; simp only [Act.put, Act.eval, List.setIfInBounds_toArray, List.set_cons_zero, List.set_cons_succ, Array.getD_eq_getD_getElem?, List.getElem?_toArray, List.getElem?_cons_zero, List.getElem?_cons_succ, Option.getD_some]) | (refine q_assign _ rfl rfl ?_; simp only [Act.put, Act.eval, List.setIfInBounds_toArray, List.set_cons_zero, List.set_cons_succ, Array.getD_eq_getD_getElem?, List.getElem?_toArray, List.getElem?_cons_zero, List.getElem?_cons_succ, Option.getD_some]) | (refine q_load _ _ rfl rfl rfl HX1.out T36 ?_; simp only [Act.put, Act.eval, List.setIfInBounds_toArray, List.set_cons_zero, List.set_cons_succ, Array.getD_eq_getD_getElem?, List.getElem?_toArray, List.getElem?_cons_zero, List.getElem?_cons_succ, Option.getD_some]) | (refine q_load _ _ rfl rfl rfl HX2.out T36 ?_; simp only [Act.put, Act.eval, List.setIfInBounds_toArray, List.set_cons_zero, List.set_cons_succ, Array.getD_eq_getD_getElem?, List.getElem?_toArray, List.getElem?_cons_zero, List.getElem?_cons_succ, Option.getD_some]) | (refine q_any rfl ?_; apply Exists.intro; refine ⟨fun w hw => ?_, ?_⟩; (go_simp; first | exact ⟨rfl, rfl⟩ | rfl | (go_at_call 25; (with_reducible refine (HSW.out _).mono ?_); rintro e w' ⟨rfl, hb⟩; exact ⟨rfl, hw.call hb⟩) | (go_at_call 15; (with_reducible refine (HA1.out _).mono ?_); rintro e w' ⟨rfl, hb⟩; exact ⟨rfl, hw.call hb⟩) | (go_at_call 15; (with_reducible refine (HA2.out _).mono ?_); rintro e w' ⟨rfl, hb⟩; exact ⟨rfl, hw.call hb⟩) | (go_at_call 15; (with_reducible refine (HA3.out _).mono ?_); rintro e w' ⟨rfl, hb⟩; exact ⟨rfl, hw.call hb⟩)); simp only [Act.put, Act.eval, List.setIfInBounds_toArray, List.set_cons_zero, List.set_cons_succ, Array.getD_eq_getD_getElem?, List.getElem?_toArray, List.getElem?_cons_zero, List.getElem?_cons_succ, Option.getD_some]))); refine wpQuiet_nil ?_; intro w2 hw2)
  have HW2 := Lib.hid (HBW.out.trans hw2)
  have HL2 := Lib.hid (HL.out.bel hw2)
  clear hw2
  go_wp2_with fail
  refine (HSC.out A n c l i w2 HL2.out HMX.out.1 HMX.out.2 HK.out).mono ?_
  rintro e w3 ⟨r, cc, hB, A3, n3, d3, rfl, hs3, hn3, hd3, hb3⟩
  have HW3 := Lib.hid (HW2.out.call hb3)
  have HL3 := Lib.hid (HL2.out.bel (Bel.of hb3))
  by_cases hcc : cc = 0
  · obtain ⟨hm, k, hik, hat⟩ := swB_ok hB hcc
    subst hcc
    have HMR := Lib.hid (hat.sw.may hm)
    have HBK := Lib.hid (show SwB r i l 0 from .inr (.inr (.inr ⟨HMR.out, ⟨k, hik, hat.symm⟩, rfl⟩)))
    have HNE := Lib.hid (swap_ne hat)
    have HS3 := Lib.hid hs3
    have HD3 := Lib.hid (And.intro hn3 hd3)
    clear hB hs3 hn3 hd3 hb3 hat hm hik
    go_wp2_with fail
    refine (HSC.out A3 n3 d3 r i w3 HS3.out HD3.out.1 HD3.out.2 HK.out).mono ?_
    rintro e w4 ⟨r2, c2, hB4, A4, n4, d4, rfl, hs4, hn4, hd4, hb4⟩
    obtain ⟨rfl, rfl⟩ := swB_uniq hB4 HBK.out
    have HW4 := Lib.hid (HW3.out.call hb4)
    have HL4 := Lib.hid (HL3.out.bel (Bel.of hb4))
    have HS4 := Lib.hid (HS3.out.bel (Bel.of hb4))
    have HR4 := Lib.hid hs4
    have HD4 := Lib.hid (And.intro hn4 hd4)
    clear hB4 hs4 hn4 hd4 hb4
    go_wp2_with fail
    refine (eqev_any A4 A n4 d4 n c r2 r2 w4 HR4.out HL4.out HD4.out.1 HMX.out.1 HD4.out.2 HMX.out.2).mono ?_
    rintro e w5 ⟨rfl, hb5⟩
    rw [decide_eq_true rfl]
    have HW5 := Lib.hid (HW4.out.call hb5)
    have HL5 := Lib.hid (HL4.out.bel (Bel.of hb5))
    have HS5 := Lib.hid (HS4.out.bel (Bel.of hb5))
    clear hb5
    go_wp2_with fail
    refine (eqev_any A3 A n3 d3 n c r r2 w5 HS5.out HL5.out HD3.out.1 HMX.out.1 HD3.out.2 HMX.out.2).mono ?_
    rintro e w6 ⟨rfl, hb6⟩
    rw [decide_eq_false HNE.out]
    have HW6 := Lib.hid (HW5.out.call hb6)
    clear hb6
    go_wp2
    go_ret
    exact ⟨rfl, HW6.out⟩
  · have hr := swB_nil hB hcc
    subst hr
    have hn0 : n3 = 0 := hs3.1.symm
    subst hn0
    have hcc' : (cc != 0) = true := by simpa using hcc
    clear hB hs3 hn3 hd3 hb3
    go_wp2
    go_ret
    exact ⟨rfl, HW3.out⟩
theorem walk (W : World) (A : Option Addr) (n c : Nat) (l : List Ev) (s : Sl W A n l) (m : n ≤ c) (x : c ≤ maxLen) (g : ∀ e ∈ l, EvOk e) (i : Int) (ki : In64 i) (a : Ev) (_ka : EvOk a) (b : Ev) (_kb : EvOk b) :
    Calls Try.prog 7 #[.slice A n c, .int .i64 i, .agg (evv a), .agg (evv b)] W fun e w' => e = .returned (.bool true) ∧ Below W.heap.size W w' := walkH swap_any apart_any W A n c l s m x g i ki a b
set_option maxRecDepth 100000 in
theorem lifted (os : Os) (started : os.Started) (H : Type) (enc : TypeId × Value → H) :
    ReturnsInHanded {} Try.checked os 7 .any (Rows.swapBackSpec.pre6 enc Try.prog Try.f7 Rows.swapBackRow.domain false) (Rows.swapBackSpec.post enc Try.prog Try.f7 false true false false) := by
  refine returnsInHanded_of_change_sized (C := Try.checked) own started (by kernel_rfl) Try.func7
    (ChangeSpec.witness6 (enc := enc) (C := Try.checked) false ⟨#[], #[.slice none 0 0, .int .i64 0, .agg #[.int .i64 0, .int .i64 0, .int .i64 0], .agg #[.int .i64 0, .int .i64 0, .int .i64 0]], []⟩ 8 (by kernel_rfl) (by kernel_rfl) (by kernel_rfl) (by kernel_rfl)) ?_
  intro W base args ds gs before hval0 hW hcnd hsz0 _
  have hsz : (DataW.weightsEach Try.prog (Try.f7.params.toList ++ Rows.swapBackSpec.plain.varTypes Try.prog) (ds ++ gs)).all (· ≤ reachBytes) = true := hsz0
  clear hsz0
  have hval : ∀ (j : Nat) t v, Try.f7.params[j]? = some t → args[j]? = some v → Value.okWide Try.prog W .any base t v := hval0
  have hW' := hW
  obtain ⟨p, q, hA0, hV, rfl, hfz, hnd⟩ := hW
  have hA : DataW.TrodAll enc Try.prog W 0 (fun _ => true) true Try.f7.params.toList args.toList ds p := hA0
  rw [Try.params7] at hA hval hsz
  obtain ⟨v0, vs0, d0, ds0, p0, q0, hargs, rfl, rfl, h0, r0⟩ := trodAll_cons hA
  obtain ⟨v1, vs1, d1, ds1, p1, q1, rfl, rfl, rfl, h1, r1⟩ := trodAll_cons r0
  obtain ⟨v2, vs2, d2, ds2, p2, q2, rfl, rfl, rfl, h2, r2⟩ := trodAll_cons r1
  obtain ⟨v3, vs3, d3, ds3, p3, q3, rfl, rfl, rfl, h3, r3⟩ := trodAll_cons r2
  obtain ⟨rfl, rfl, rfl⟩ := trodAll_nil r3
  obtain rfl : args = #[v0, v1, v2, v3] := by cases args; simp_all
  obtain ⟨rfl, rfl⟩ := trodVars_none hV
  have t0 := h0
  have lt0 : ∀ x ∈ p0, x.block < W.heap.size := by obtain ⟨m, hm⟩ := t0; exact DataW.trod_lt m _ _ _ hm
  have t1 := h1
  have lt1 : ∀ x ∈ p1, x.block < W.heap.size := by obtain ⟨m, hm⟩ := t1; exact DataW.trod_lt m _ _ _ hm
  have t2 := h2
  have lt2 : ∀ x ∈ p2, x.block < W.heap.size := by obtain ⟨m, hm⟩ := t2; exact DataW.trod_lt m _ _ _ hm
  have t3 := h3
  have lt3 : ∀ x ∈ p3, x.block < W.heap.size := by obtain ⟨m, hm⟩ := t3; exact DataW.trod_lt m _ _ _ hm
  obtain ⟨A0, n0, c0, l0, rfl, s0, m0, x0, g0, z0⟩ := open_evs Try.underlying25 Try.underlying23 ⟨rfl, rfl, rfl⟩ (by kernel_rfl) (by kernel_rfl) Try.underlying3 (hval 0 25 v0 rfl rfl) h0
  have y0 := reach_sl hsz (j := 0) rfl rfl Try.underlying25 (b := 24) (by kernel_rfl) z0
  obtain ⟨a1, rfl, _, _, x1⟩ := open_int Try.underlying3 (hval 1 3 v1 rfl rfl) h1
  have k1 := in64_of x1
  obtain ⟨a2, rfl, k2⟩ := open_ev Try.underlying23 ⟨rfl, rfl, rfl⟩ (by kernel_rfl) (by kernel_rfl) Try.underlying3 (hval 2 23 v2 rfl rfl) h2
  obtain ⟨a3, rfl, k3⟩ := open_ev Try.underlying23 ⟨rfl, rfl, rfl⟩ (by kernel_rfl) (by kernel_rfl) Try.underlying3 (hval 3 23 v3 rfl rfl) h3
  clear hA0 hval0
  refine (walk W A0 n0 c0 l0 s0 m0 x0 g0 a1 k1 a2 k2 a3 k3).mono fun e W' ⟨he, bel⟩ => ?_
  subst he
  exact ⟨_, rfl, _, _, _, [], _, [], hW', trodAll_mk1 (shut_bool Try.underlying4 _), (trodAll_cons_mk (Below.trod laidOut (by kernel_rfl) (of_decide_eq_true (by kernel_rfl)) t0 bel lt0) (trodAll_cons_mk (Below.trod laidOut (by kernel_rfl) (of_decide_eq_true (by kernel_rfl)) t1 bel lt1) (trodAll_cons_mk (Below.trod laidOut (by kernel_rfl) (of_decide_eq_true (by kernel_rfl)) t2 bel lt2) (trodAll_cons_mk (Below.trod laidOut (by kernel_rfl) (of_decide_eq_true (by kernel_rfl)) t3 bel lt3) trodAll_mk0)))), rfl, bel.frame _, fun h => by cases h⟩

theorem over : Rows.swapBackRow.holds Try.pinned (OpenSpec.ofChange Rows.swapBackSpec) :=
  OpenClaim.holds_of_wide 7 Try.f7 rfl rfl rfl rfl rfl rfl rfl ⟨rfl, rfl, rfl, rfl, rfl⟩ rfl rfl rfl rfl rfl (by kernel_rfl) Try.func7 (by kernel_rfl)
    (of_decide_eq_true (by kernel_rfl)) (by unfold Func.isWrapper; first | (rw [if_pos (by decide +kernel)]; kernel_rfl) | (rw [if_neg (by decide +kernel)]; exact ⟨rfl, rfl⟩))
    (fun os started H enc _ => lifted os started H enc)

theorem proved : Rows.SwapBackSaid := over
#print axioms proved
end Go.Proofs.Ytjlomojhbjpdfaa.LSwapBack

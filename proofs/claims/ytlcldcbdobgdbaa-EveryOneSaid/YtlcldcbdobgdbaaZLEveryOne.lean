import Derived.Laws.MakeOwn
import Derived.Deep.DeepCutAuto
import Derived.Test.YtlcldcbdobgdbaaZKeepPg
import Derived.Test.YtlcldcbdobgdbaaZEv
import Derived.Test.YtlcldcbdobgdbaaZVr
set_option linter.all false
set_option maxRecDepth 100000
namespace Go.Proofs.Ytlcldcbdobgdbaa.LEveryOne
open Go Go.ChangeShapes Go.WideShapes Go.ChangeAt Go.RowKit

theorem made_ints (n : Nat) : madeCells #[Value.int .i64 0] n = Array.replicate n (.int .i64 0) := by
  apply Array.ext
  · simp [madeCells]
  · intro i h1 h2
    simp [madeCells, Nat.mod_one]
theorem makeInts {ops : Array Oper} {rest : List Oper} {o : Oper} {a : Act} {w : World} {Q : Exit → Act → World → Prop} (l c : Operand) (ho : o.op = .makeSlice 36 l c) (hg : o.guard = none) (n : Nat) (hn : n ≤ 1000000) (hl : a.eval l = .int .i64 n) (hc : a.eval c = .int .i64 n)
    (h : wpList Try.prog ops Q rest (a.put o.dst (.slice (some ⟨w.heap.size, 0, none⟩) n n)) (w.alloc (.cells (Array.replicate n (.int .i64 0)) 3))) : wpList Try.prog ops Q (o :: rest) a w := by
  obtain ⟨i, hi, hz, hs, hb⟩ := info_parts qint_info
  have hr := run_make (P := Try.prog) w 36 3 i _ Try.underlying36 hi hz .i64 .i64 n n (by omega) (by omega) (by rw [hb]; omega) (by omega)
  rw [hs, Int.toNat_natCast, Nat.mul_one, show (Value.int .i64 0).cells = #[Value.int .i64 0] from rfl, made_ints] at hr
  refine wpList_plain hg fun _ hK => ?_
  unfold Oper.wp execOp
  simp only [ho, hl, hc, Sem.run_bind, hr, Result.andThen_ok, Sem.run_pure]
  exact hK _ _ h
theorem one_says {ops : List Ev} {b : Bool} {ws : List Nat} {xs : List (Array Value)} {x : Array Value} {l : List Ev} {c : Int} (h0 : evC [ops] = 0) (hx : EndsOk [ops] xs) (hr : RacesB [ops] b ws) (hy : RunB [ops] (List.replicate ops.length 0) x l c) :
    ∃ y : En, x = enA y ∧ xs = [enA y] ∧ b = false ∧ c = 0 := by
  have hP := evC_ok h0
  have hl : ops.length ≤ 10 := by have := evC_tot h0; unfold totP at this; simpa using this
  have hxs := hx.one (one_ends hP)
  rcases hy with ⟨h1, _⟩ | ⟨_, h1, _⟩ | ⟨_, _, h3, _, h5⟩
  · exact absurd (chk_ok.2 hP) h1
  · rw [List.length_replicate] at h1; omega
  · obtain ⟨ds, hds⟩ := en_list (s := xs) fun x hx1 => ((hx.all x).1 hx1).form
    rw [hds] at hxs
    cases ds with
    | nil => cases hxs
    | cons y ds =>
      cases ds with
      | cons z ds => simp at hxs
      | nil =>
        have hy : enA y = endP [ops] (oneS ops ops.length) := by simpa using hxs
        refine ⟨y, h3.trans hy.symm, hds, ?_, h5⟩
        rcases hr with ⟨h1, _⟩ | ⟨_, h2, _⟩ | ⟨_, _, h3⟩
        · exact absurd h0 h1
        · exact h2
        · exact absurd (one_norace hP) h3.some_race

set_option maxHeartbeats 16000000 in
theorem walk (W : World) (A : Option Addr) (n c : Nat) (l : List Ev) (s : Sl W A n l) (m : n ≤ c) (x : c ≤ maxLen) (_g : ∀ e ∈ l, EvOk e) :
    Calls Try.prog 10 #[.slice A n c] W fun e w' => e = .returned (.bool true) ∧ Below W.heap.size W w' := by
  have HL := Lib.hid s
  have HM := Lib.hid (And.intro m x)
  clear s
  unfold maxLen at x
  go_enter Try.func10, Try.ntmps10
  go_wp2_with fail
  refine (everied_any W).mono ?_
  rintro e0 w0 ⟨rfl, hb0⟩
  have HW0 := Lib.hid (Bel.of hb0)
  clear hb0
  go_wp2_with fail
  have hA := Bel.alloc (Bel.refl w0) (.cells #[.slice A n c] 57)
  have HWA := Lib.hid (HW0.out.trans hA)
  have HP := Lib.hid (Prg.one (Box.new w0 #[.slice A n c] 57) (ops := l) (HL.out.bel HWA.out) HM.out.1 HM.out.2)
  clear hA
  generalize w0.alloc (.cells #[.slice A n c] 57) = wA at *
  generalize w0.heap.size = X0 at *
  refine (eends_any (some ⟨X0, 0, none⟩) 1 1 [l] wA HP.out (Nat.le_refl _) (by unfold maxLen; omega)).mono ?_
  rintro e1 w1 ⟨v1, xs, rfl, hbad, hok, hown, hb1⟩
  obtain ⟨A1, c1, rfl, _, _⟩ := row_slice hown
  have HW1 := Lib.hid (HWA.out.trans (Bel.of hb1))
  have HP1 := Lib.hid (HP.out.bel (Bel.of hb1))
  have HO1 := Lib.hid hown
  clear hb1 hown HP
  go_wp2_with fail
  refine (eraces_any (some ⟨X0, 0, none⟩) 1 1 [l] w1 HP1.out (Nat.le_refl _) (by unfold maxLen; omega)).mono ?_
  rintro e2 w2 ⟨b2, v2, ws, rfl, hB2, ho2, hb2⟩
  have HW2 := Lib.hid (HW1.out.trans (Bel.of hb2))
  have HP2 := Lib.hid (HP1.out.bel (Bel.of hb2))
  have HO2 := Lib.hid (own_bel HO1.out (Bel.of hb2))
  clear hb2 ho2 HO1 HP1
  by_cases h0 : evC [l] = 0
  · have hl10 : n ≤ 10 := by have := evC_tot h0; unfold totP at this; have h1 := HL.out.1; simp at this; omega
    have HS := Lib.hid (fun x l2 c2 => one_says (x := x) (l := l2) (c := c2) h0 (hok h0) hB2)
    rw [h0]
    clear hbad hok hB2 h0
    go_wp2_with (refine makeInts _ _ rfl rfl n (by omega) rfl rfl ?_)
    have hby : Box (w2.alloc (.cells (Array.replicate n (.int .i64 0)) 3)) w2.heap.size (Array.replicate n (.int .i64 0)) 3 := Box.new w2 _ _
    have hs : SI (w2.alloc (.cells (Array.replicate n (.int .i64 0)) 3)) (some ⟨w2.heap.size, 0, none⟩) n (List.replicate l.length 0) := ⟨by simp [HL.out.1], fun _ => ⟨_, 0, rfl, fun i hi => by
      rw [Nat.zero_add]
      have := hby.cell i (v := .int .i64 0) (by simp [hi])
      rw [this, HL.out.1]; simp [hi]⟩⟩
    have hB := (Bel.refl w2).alloc (.cells (Array.replicate n (.int .i64 0)) 3)
    refine (pgrun_c (some ⟨X0, 0, none⟩) 1 1 [l] (some ⟨w2.heap.size, 0, none⟩) n n (List.replicate l.length 0) _ (HP2.out.bel hB) (Nat.le_refl _) (by unfold maxLen; omega) hs (Nat.le_refl _) (by unfold maxLen; omega)).mono ?_
    rintro e3 w3 ⟨v3, x3, l3, c3, rfl, hB3, ho3, hb3⟩
    obtain ⟨y, rfl, rfl, rfl, rfl⟩ := HS.out x3 l3 c3 hB3
    rw [show ([enA y] : List (Array Value)).length = 1 from rfl, show ens [enA y] = enRow [y] from ens_row [y]] at HO2
    have HV := Lib.hid (enA_v y)
    have HB3 := Lib.hid (hB.trans (Bel.of hb3))
    have HO3 := Lib.hid (own_bel HO2.out ((HB3.out).trans (enw_bel w3 (enA y))))
    have HX := Lib.hid (enw_box w3 (enA y))
    have HE := Lib.hid (HW2.out.trans (HB3.out.trans (enw_bel w3 (enA y))))
    clear hB3 ho3 hb3 hB hs hby HS HO2
    rw [show ([enA y] : List (Array Value)).length = 1 from rfl]
    obtain ⟨g, cap, hg, _, _, _, _⟩ := row_cells HO3.out (by omega)
    cases hg
    have HRG := Lib.hid (own_range HO3.out (k := 0) (by simp))
    obtain ⟨b, he1, _, he3⟩ := eq_en y y
    obtain rfl : b = true := he3.2 rfl
    clear he3
    go_wp2_with (refine enw_store HV.out.ty _ _ rfl rfl HV.out.size HV.out.one rfl rfl rfl ?_)
    change Code.wp _ _ _ _ (enw w3 (enA y))
    have HXn := Lib.hid (show RowTy Try.prog 33 (enA y).size from TEnd)
    have HRJ := Lib.hid (fun (w9 : World) (h9 : Bel (enw w3 (enA y)) w9) => own_range (own_bel HO3.out h9) (k := 0) (by simp))
    clear HRG HO3
    generalize enw w3 (enA y) = w5 at *
    (refine region_bel (by kernel_rfl) (by kernel_rfl) ?_; (repeat (first | ((with_reducible refine BigFrame.wpQuiet_skip ?_ ?_); exact rfl; simp only [Act.put, Act.eval, List.setIfInBounds_toArray, List.set_cons_zero, List.set_cons_succ, Array.getD_eq_getD_getElem?, List.getElem?_toArray, List.getElem?_cons_zero, List.getElem?_cons_succ, Option.getD_some]) | (refine q_move _ rfl rfl ?_; simp only [Act.put, Act.eval, List.setIfInBounds_toArray, List.set_cons_zero, List.set_cons_succ, Array.getD_eq_getD_getElem?, List.getElem?_toArray, List.getElem?_cons_zero, List.getElem?_cons_succ, Option.getD_some]) | (refine q_assign _ rfl rfl ?_; simp only [Act.put, Act.eval, List.setIfInBounds_toArray, List.set_cons_zero, List.set_cons_succ, Array.getD_eq_getD_getElem?, List.getElem?_toArray, List.getElem?_cons_zero, List.getElem?_cons_succ, Option.getD_some]) | (refine q_load _ _ rfl rfl rfl HX.out HXn.out ?_; simp only [Act.put, Act.eval, List.setIfInBounds_toArray, List.set_cons_zero, List.set_cons_succ, Array.getD_eq_getD_getElem?, List.getElem?_toArray, List.getElem?_cons_zero, List.getElem?_cons_succ, Option.getD_some]) | (refine q_load_mid _ _ rfl rfl rfl HRJ.out (TEndx y) (enA y) rfl ?_; simp only [Act.put, Act.eval, List.setIfInBounds_toArray, List.set_cons_zero, List.set_cons_succ, Array.getD_eq_getD_getElem?, List.getElem?_toArray, List.getElem?_cons_zero, List.getElem?_cons_succ, Option.getD_some]) | (refine q_any rfl ?_; apply Exists.intro; refine ⟨fun w hw => ?_, ?_⟩; (go_simp; first | exact ⟨rfl, rfl⟩ | rfl); simp only [Act.put, Act.eval, List.setIfInBounds_toArray, List.set_cons_zero, List.set_cons_succ, Array.getD_eq_getD_getElem?, List.getElem?_toArray, List.getElem?_cons_zero, List.getElem?_cons_succ, Option.getD_some]))); refine wpQuiet_nil ?_; intro w2 hw2)
    have HE5 := Lib.hid (HE.out.trans hw2)
    clear HRJ he1 hw2 HX
    go_wp2
    go_ret
    exact ⟨rfl, HE5.out.out⟩
  · have hne : (evC [l] != 0) = true := by simpa using h0
    have hx : xs = [] := hbad h0
    subst hx
    rw [show ([] : List (Array Value)).length = 0 from rfl]
    clear hbad hok hB2 h0
    generalize evC [l] = ec at *
    go_wp2_with ((with_reducible refine Go.wpList_skip ?_ ?_); exact rfl; simp only [Act.put, Act.eval, List.setIfInBounds_toArray, List.set_cons_zero, List.set_cons_succ, Array.getD_eq_getD_getElem?, List.getElem?_toArray, List.getElem?_cons_zero, List.getElem?_cons_succ, Option.getD_some])
    go_ret
    exact ⟨by simp, HW2.out.out⟩
set_option maxRecDepth 100000 in
theorem lifted (os : Os) (started : os.Started) (H : Type) (enc : TypeId × Value → H) :
    ReturnsInHanded {} Try.checked os 10 .any (Rows.everyOneSpec.pre6 enc Try.prog Try.f10 Rows.everyOneRow.domain false) (Rows.everyOneSpec.post enc Try.prog Try.f10 false true false false) := by
  refine returnsInHanded_of_change_sized (C := Try.checked) own started (by kernel_rfl) Try.func10
    (ChangeSpec.witness6 (enc := enc) (C := Try.checked) false ⟨#[], #[.slice none 0 0], []⟩ 8 (by kernel_rfl) (by kernel_rfl) (by kernel_rfl) (by kernel_rfl)) ?_
  intro W base args ds gs before hval0 hW hcnd hsz0 _
  have hsz : (DataW.weightsEach Try.prog (Try.f10.params.toList ++ Rows.everyOneSpec.plain.varTypes Try.prog) (ds ++ gs)).all (· ≤ reachBytes) = true := hsz0
  clear hsz0
  have hval : ∀ (j : Nat) t v, Try.f10.params[j]? = some t → args[j]? = some v → Value.okWide Try.prog W .any base t v := hval0
  have hW' := hW
  obtain ⟨p, q, hA0, hV, rfl, hfz, hnd⟩ := hW
  have hA : DataW.TrodAll enc Try.prog W 0 (fun _ => true) true Try.f10.params.toList args.toList ds p := hA0
  rw [Try.params10] at hA hval hsz
  obtain ⟨v0, vs0, d0, ds0, p0, q0, hargs, rfl, rfl, h0, r0⟩ := trodAll_cons hA
  obtain ⟨rfl, rfl, rfl⟩ := trodAll_nil r0
  obtain rfl : args = #[v0] := by cases args; simp_all
  obtain ⟨rfl, rfl⟩ := trodVars_none hV
  have t0 := h0
  have lt0 : ∀ x ∈ p0, x.block < W.heap.size := by obtain ⟨m, hm⟩ := t0; exact DataW.trod_lt m _ _ _ hm
  obtain ⟨A0, n0, c0, l0, rfl, s0, m0, x0, g0, z0⟩ := open_evs Try.underlying57 Try.underlying59 ⟨rfl, rfl, rfl⟩ (by kernel_rfl) (by kernel_rfl) Try.underlying3 (hval 0 57 v0 rfl rfl) h0
  have y0 := reach_sl hsz (j := 0) rfl rfl Try.underlying57 (b := 24) (by kernel_rfl) z0
  clear hA0 hval0
  refine (walk W A0 n0 c0 l0 s0 m0 x0 g0).mono fun e W' ⟨he, bel⟩ => ?_
  subst he
  exact ⟨_, rfl, _, _, _, [], _, [], hW', trodAll_mk1 (shut_bool Try.underlying4 _), (trodAll_cons_mk (Below.trod laidOut (by kernel_rfl) (of_decide_eq_true (by kernel_rfl)) t0 bel lt0) trodAll_mk0), rfl, bel.frame _, fun h => by cases h⟩

theorem over : Rows.everyOneRow.holds Try.pinned (OpenSpec.ofChange Rows.everyOneSpec) :=
  OpenClaim.holds_of_wide 10 Try.f10 rfl rfl rfl rfl rfl rfl rfl ⟨rfl, rfl, rfl, rfl, rfl⟩ rfl rfl rfl rfl rfl (by kernel_rfl) Try.func10 (by kernel_rfl)
    (of_decide_eq_true (by kernel_rfl)) (by unfold Func.isWrapper; first | (rw [if_pos (by decide +kernel)]; kernel_rfl) | (rw [if_neg (by decide +kernel)]; exact ⟨rfl, rfl⟩))
    (fun os started H enc _ => lifted os started H enc)

theorem proved : Rows.EveryOneSaid := over
#print axioms proved
end Go.Proofs.Ytlcldcbdobgdbaa.LEveryOne

import Derived.Test.YtlcldcbdobgdbaaZKeepPg
import Derived.Test.YtlcldcbdobgdbaaZEv
import Derived.Test.YtlcldcbdobgdbaaZVr
set_option linter.all false
set_option maxRecDepth 100000
namespace Go.Proofs.Ytlcldcbdobgdbaa.LEveryFree
open Go Go.ChangeShapes Go.WideShapes Go.ChangeAt Go.RowKit

def FrK (k : Int) : Prop := k ≠ 4 ∧ k ≠ 5 ∧ k ≠ 8 ∧ k ≠ 9
def FrTo (P : List (List Ev)) (k : Nat) : Prop := ∀ t, t < k → ∀ o ∈ opsP P t, FrK o.k
def FrIn (ops : List Ev) (j : Nat) : Prop := ∀ o ∈ ops.take j, FrK o.k
theorem fr_p {P : List (List Ev)} (hP : OkP P) (h : FrTo P P.length) : FrP P := fun t o ho => by
  have ht : t < P.length := by
    rcases Nat.lt_or_ge t P.length with h1 | h1
    · exact h1
    · rw [opsP_out h1] at ho; cases ho
  obtain ⟨h1, h2, h3, h4⟩ := h t ht o ho
  have hk := isop_kind (hP.op t o ho)
  omega
theorem one_two {P : List (List Ev)} {b : Bool} {ws : List Nat} {xs : List (Array Value)} (h0 : evC P = 0) (hf : FrP P) (hr : RacesB P b ws) (hb : b = false) (hx : EndsOk P xs) : xs.length = 1 := by
  rcases hr with ⟨h1, _⟩ | ⟨_, _, _, h4⟩ | ⟨_, h2, _⟩
  · exact absurd h0 h1
  · obtain ⟨x, hy⟩ := free_one (evC_ok h0) hf h4
    rw [hx.one hy]; rfl
  · rw [hb] at h2; cases h2

set_option maxHeartbeats 16000000 in
theorem walk (W : World) (A : Option Addr) (n c : Nat) (l : List (List Ev)) (s : Prg W A n l) (m : n ≤ c) (x : c ≤ maxLen) (_g : ∀ ops ∈ l, ∀ e ∈ ops, EvOk e) :
    Calls Try.prog 9 #[.slice A n c] W fun e w' => e = .returned (.bool true) ∧ Below W.heap.size W w' := by
  have HL := Lib.hid s
  have HLN := Lib.hid s.1
  have HM := Lib.hid (And.intro m x)
  have hn63 : n ≤ 9223372036854775807 := by unfold maxLen at x; omega
  clear s m x
  go_enter Try.func9, Try.ntmps9
  go_wp2_with fail
  refine (everied_any W).mono ?_
  rintro e0 w0 ⟨rfl, hb0⟩
  have HW0 := Lib.hid (Bel.of hb0)
  clear hb0
  go_wp2_with fail
  go_loopw [16] (fun t wr => ∃ i : Nat, i ≤ n ∧ t = .int .i64 i ∧ FrTo l i ∧ Bel W wr) (fun t _ => n - (intOf t).toNat)
  case atStart => exact ⟨0, by omega, rfl, fun t ht => absurd ht (Nat.not_lt_zero t), HW0.out⟩
  case round =>
    obtain ⟨i, hi, rfl, hs, hbr⟩ := hrel
    have HS := Lib.hid hs
    have HB := Lib.hid hbr
    clear hs hbr
    by_cases hlt : i < n
    · obtain ⟨b, off, B, m, d, rfl, hb, hc, hsl, hm, hd⟩ := (HL.out.bel HB.out).at_ hlt
      have hlt' : (i : Int) < n := by omega
      have HSL := Lib.hid hsl
      have HD := Lib.hid (And.intro hm hd)
      have hm63 : m ≤ 9223372036854775807 := by unfold maxLen at hd; omega
      clear hsl
      go_wp2
      go_loopw [22] (fun t wi => ∃ j : Nat, j ≤ m ∧ t = .int .i64 j ∧ FrIn (opsP l i) j ∧ Bel wr wi) (fun t _ => m - (intOf t).toNat)
      case atStart => exact ⟨0, by omega, rfl, fun o ho => by simp at ho, Bel.refl _⟩
      case round =>
        obtain ⟨j, hj, rfl, hg, hbi⟩ := hrel
        have HG := Lib.hid hg
        have HBI := Lib.hid hbi
        clear hg hbi
        by_cases hjm : j < m
        · obtain ⟨bb, oo, e, rfl, hbb, he, hrg⟩ := (HSL.out.bel HBI.out).at_ hjm
          have hjm' : (j : Int) < m := by omega
          have hjd : (j : Int) ≤ d := by have := HD.out.1; omega
          have hR := Lib.hid hrg
          have HTK := Lib.hid (take_snoc he)
          have HB1 := Lib.hid ((HB.out.trans HBI.out).trans (ewld_below wr e 59))
          have HB2 := Lib.hid (HBI.out.trans (ewld_below wr e 59))
          obtain ⟨c0, c1, c2⟩ := ewld_cells wr e 59
          clear hrg he hbb c1 c2
          by_cases h4 : e.k = 4
          · have f4 : (e.k == 4) = true := by simpa using h4
            clear h4
            go_wp2_with (first | (refine load_ev TOp _ rfl rfl rfl hR.out ?_) | (refine ewld_store TOp _ _ rfl rfl _ rfl rfl rfl ?_) | ((with_reducible refine Go.wpList_skip ?_ ?_); exact rfl; simp only [Act.put, Act.eval, List.setIfInBounds_toArray, List.set_cons_zero, List.set_cons_succ, Array.getD_eq_getD_getElem?, List.getElem?_toArray, List.getElem?_cons_zero, List.getElem?_cons_succ, Option.getD_some]))
            go_ret
            exact ⟨rfl, HB1.out.out⟩
          have f4 : (e.k == 4) = false := by simpa using h4
          by_cases h5 : e.k = 5
          · have f5 : (e.k == 5) = true := by simpa using h5
            clear h4 h5
            go_wp2_with (first | (refine load_ev TOp _ rfl rfl rfl hR.out ?_) | (refine ewld_store TOp _ _ rfl rfl _ rfl rfl rfl ?_) | ((with_reducible refine Go.wpList_skip ?_ ?_); exact rfl; simp only [Act.put, Act.eval, List.setIfInBounds_toArray, List.set_cons_zero, List.set_cons_succ, Array.getD_eq_getD_getElem?, List.getElem?_toArray, List.getElem?_cons_zero, List.getElem?_cons_succ, Option.getD_some]))
            go_ret
            exact ⟨rfl, HB1.out.out⟩
          have f5 : (e.k == 5) = false := by simpa using h5
          by_cases h8 : e.k = 8
          · have f8 : (e.k == 8) = true := by simpa using h8
            clear h4 h5 h8
            go_wp2_with (first | (refine load_ev TOp _ rfl rfl rfl hR.out ?_) | (refine ewld_store TOp _ _ rfl rfl _ rfl rfl rfl ?_) | ((with_reducible refine Go.wpList_skip ?_ ?_); exact rfl; simp only [Act.put, Act.eval, List.setIfInBounds_toArray, List.set_cons_zero, List.set_cons_succ, Array.getD_eq_getD_getElem?, List.getElem?_toArray, List.getElem?_cons_zero, List.getElem?_cons_succ, Option.getD_some]))
            go_ret
            exact ⟨rfl, HB1.out.out⟩
          have f8 : (e.k == 8) = false := by simpa using h8
          by_cases h9 : e.k = 9
          · have f9 : (e.k == 9) = true := by simpa using h9
            clear h4 h5 h8 h9
            go_wp2_with (first | (refine load_ev TOp _ rfl rfl rfl hR.out ?_) | (refine ewld_store TOp _ _ rfl rfl _ rfl rfl rfl ?_) | ((with_reducible refine Go.wpList_skip ?_ ?_); exact rfl; simp only [Act.put, Act.eval, List.setIfInBounds_toArray, List.set_cons_zero, List.set_cons_succ, Array.getD_eq_getD_getElem?, List.getElem?_toArray, List.getElem?_cons_zero, List.getElem?_cons_succ, Option.getD_some]))
            go_ret
            exact ⟨rfl, HB1.out.out⟩
          have f9 : (e.k == 9) = false := by simpa using h9
          have HG2 := Lib.hid (show FrIn (opsP l i) (j + 1) from fun o ho => by
            rw [HTK.out, List.mem_append, List.mem_singleton] at ho
            rcases ho with ho | rfl
            · exact HG.out o ho
            · exact ⟨h4, h5, h8, h9⟩)
          clear h4 h5 h8 h9
          go_wp2_with (first | (refine load_ev TOp _ rfl rfl rfl hR.out ?_) | (refine ewld_store TOp _ _ rfl rfl _ rfl rfl rfl ?_) | ((with_reducible refine Go.wpList_skip ?_ ?_); exact rfl; simp only [Act.put, Act.eval, List.setIfInBounds_toArray, List.set_cons_zero, List.set_cons_succ, Array.getD_eq_getD_getElem?, List.getElem?_toArray, List.getElem?_cons_zero, List.getElem?_cons_succ, Option.getD_some]))
          go_roundw
          case rel => exact ⟨j + 1, by omega, by go_num, HG2.out, HB2.out⟩
          case measure => simp [intOf]; omega
        · obtain rfl : j = m := by omega
          have HS2 := Lib.hid (show FrTo l (i + 1) from fun t ht o ho => by
            rcases Nat.lt_or_ge t i with h1 | h1
            · exact HS.out t h1 o ho
            · obtain rfl : t = i := by omega
              refine HG.out o ?_
              rw [← HSL.out.1, List.take_length]; exact ho)
          go_wp2
          go_roundw
          case rel => exact ⟨i + 1, by omega, by go_num, HS2.out, HB.out.trans HBI.out⟩
          case measure => simp [intOf]; omega
    · obtain rfl : n = i := by omega
      go_wp2_with fail
      refine (eraces_any A n c l _ (HL.out.bel HB.out) HM.out.1 HM.out.2).mono ?_
      rintro e1 w1 ⟨b1, v1, ws, rfl, hB1, ho1, hb1⟩
      have HW1 := Lib.hid (HB.out.trans (Bel.of hb1))
      have HB1 := Lib.hid hB1
      clear ho1 hb1 hB1
      go_wp2_with fail
      refine (eends_any A n c l w1 (HL.out.bel HW1.out) HM.out.1 HM.out.2).mono ?_
      rintro e2 w2 ⟨v2, xs, rfl, _, hok, hown, hb2⟩
      have HW2 := Lib.hid (HW1.out.trans (Bel.of hb2))
      obtain ⟨A2, c2, rfl, _, _⟩ := row_slice hown
      clear hb2
      by_cases h0 : evC l = 0
      · rw [h0]
        cases b1
        · have hx := one_two h0 (fr_p (evC_ok h0) (by rw [HLN.out]; exact HS.out)) HB1.out rfl (hok h0)
          rw [hx] at hown ⊢
          clear hok hown hx h0
          go_wp2_with ((with_reducible refine Go.wpList_skip ?_ ?_); exact rfl; simp only [Act.put, Act.eval, List.setIfInBounds_toArray, List.set_cons_zero, List.set_cons_succ, Array.getD_eq_getD_getElem?, List.getElem?_toArray, List.getElem?_cons_zero, List.getElem?_cons_succ, Option.getD_some])
          go_ret
          exact ⟨rfl, HW2.out.out⟩
        · clear hok hown h0
          go_wp2_with ((with_reducible refine Go.wpList_skip ?_ ?_); exact rfl; simp only [Act.put, Act.eval, List.setIfInBounds_toArray, List.set_cons_zero, List.set_cons_succ, Array.getD_eq_getD_getElem?, List.getElem?_toArray, List.getElem?_cons_zero, List.getElem?_cons_succ, Option.getD_some])
          go_ret
          exact ⟨rfl, HW2.out.out⟩
      · have hne : (evC l != 0) = true := by simpa using h0
        clear hok hown h0
        go_wp2_with ((with_reducible refine Go.wpList_skip ?_ ?_); exact rfl; simp only [Act.put, Act.eval, List.setIfInBounds_toArray, List.set_cons_zero, List.set_cons_succ, Array.getD_eq_getD_getElem?, List.getElem?_toArray, List.getElem?_cons_zero, List.getElem?_cons_succ, Option.getD_some])
        go_ret
        exact ⟨rfl, HW2.out.out⟩
set_option maxRecDepth 100000 in
theorem lifted (os : Os) (started : os.Started) (H : Type) (enc : TypeId × Value → H) :
    ReturnsInHanded {} Try.checked os 9 .any (Rows.everyFreeSpec.pre6 enc Try.prog Try.f9 Rows.everyFreeRow.domain false) (Rows.everyFreeSpec.post enc Try.prog Try.f9 false true false false) := by
  refine returnsInHanded_of_change_sized (C := Try.checked) own started (by kernel_rfl) Try.func9
    (ChangeSpec.witness6 (enc := enc) (C := Try.checked) false ⟨#[], #[.slice none 0 0], []⟩ 8 (by kernel_rfl) (by kernel_rfl) (by kernel_rfl) (by kernel_rfl)) ?_
  intro W base args ds gs before hval0 hW hcnd hsz0 _
  have hsz : (DataW.weightsEach Try.prog (Try.f9.params.toList ++ Rows.everyFreeSpec.plain.varTypes Try.prog) (ds ++ gs)).all (· ≤ reachBytes) = true := hsz0
  clear hsz0
  have hval : ∀ (j : Nat) t v, Try.f9.params[j]? = some t → args[j]? = some v → Value.okWide Try.prog W .any base t v := hval0
  have hW' := hW
  obtain ⟨p, q, hA0, hV, rfl, hfz, hnd⟩ := hW
  have hA : DataW.TrodAll enc Try.prog W 0 (fun _ => true) true Try.f9.params.toList args.toList ds p := hA0
  rw [Try.params9] at hA hval hsz
  obtain ⟨v0, vs0, d0, ds0, p0, q0, hargs, rfl, rfl, h0, r0⟩ := trodAll_cons hA
  obtain ⟨rfl, rfl, rfl⟩ := trodAll_nil r0
  obtain rfl : args = #[v0] := by cases args; simp_all
  obtain ⟨rfl, rfl⟩ := trodVars_none hV
  have t0 := h0
  have lt0 : ∀ x ∈ p0, x.block < W.heap.size := by obtain ⟨m, hm⟩ := t0; exact DataW.trod_lt m _ _ _ hm
  obtain ⟨A0, n0, c0, l0, rfl, s0, m0, x0, g0⟩ := open_ops Try.underlying22 (by kernel_rfl) Try.underlying57 Try.underlying59 ⟨rfl, rfl, rfl⟩ (by kernel_rfl) (by kernel_rfl) Try.underlying3 (hval 0 22 v0 rfl rfl) h0
  clear hA0 hval0
  refine (walk W A0 n0 c0 l0 s0 m0 x0 g0).mono fun e W' ⟨he, bel⟩ => ?_
  subst he
  exact ⟨_, rfl, _, _, _, [], _, [], hW', trodAll_mk1 (shut_bool Try.underlying4 _), (trodAll_cons_mk (Below.trod laidOut (by kernel_rfl) (of_decide_eq_true (by kernel_rfl)) t0 bel lt0) trodAll_mk0), rfl, bel.frame _, fun h => by cases h⟩

theorem over : Rows.everyFreeRow.holds Try.pinned (OpenSpec.ofChange Rows.everyFreeSpec) :=
  OpenClaim.holds_of_wide 9 Try.f9 rfl rfl rfl rfl rfl rfl rfl ⟨rfl, rfl, rfl, rfl, rfl⟩ rfl rfl rfl rfl rfl (by kernel_rfl) Try.func9 (by kernel_rfl)
    (of_decide_eq_true (by kernel_rfl)) (by unfold Func.isWrapper; first | (rw [if_pos (by decide +kernel)]; kernel_rfl) | (rw [if_neg (by decide +kernel)]; exact ⟨rfl, rfl⟩))
    (fun os started H enc _ => lifted os started H enc)

theorem proved : Rows.EveryFreeSaid := over
#print axioms proved
end Go.Proofs.Ytlcldcbdobgdbaa.LEveryFree

/- The machine's methods that only look: canGoOn, outcome. -/
import Derived.Test.YtecdilijcjgjmaaMm
import Derived.Test.YtecdilijcjgjmaaRpE
import Derived.Deep.DeepCutAuto
set_option linter.all false
set_option maxRecDepth 100000
namespace Go.Proofs.Ytecdilijcjgjmaa
open Go Go.RowKit

variable {w w' : World} {M : Nat} {A : Option Addr} {n c : Nat} {s : Ps} {LV : Value}
/-- Whether an op may go on, by the machine and by the state. -/
theorem enB_can {P : List (List Ev)} (hO : OkP P) (hR : PsR P s) {u : Nat} {o : Ev} (ho : (opsP P u)[s.a u]? = some o) : enB P (mcP s) o = canO P s u o := by
  obtain ⟨hk1, hk9, h0, _, h4, h7, _⟩ := isOp_obj (hO.op u o (List.mem_of_getElem? ho))
  obtain ⟨v, hv⟩ : ∃ v : Nat, o.t = v := ⟨o.t.toNat, by omega⟩
  have hlt := (List.getElem?_eq_some_iff.1 ho).1
  unfold enB canO mcP
  rw [hv, Int.toNat_natCast]
  by_cases k4 : o.k = 4
  · rw [if_pos k4, if_pos k4]
    have := (owner_range (may_fit (hR.may hO)) (v : Nat)).1
    show decide (owner s.L (v : Nat) = -1) = _
    rw [decide_eq_decide]
    omega
  · rw [if_neg k4, if_neg k4]
    by_cases k7 : o.k = 7
    · rw [if_pos k7, if_pos k7]
      show (begun s.L (v : Nat) && !(begun s.L (v : Nat) && decide (s.a v < (opsP P v).length))) = _
      cases hb : begun s.L (v : Nat)
      · simp
      · have hvn : v < P.length := by
          rcases Nat.lt_or_ge v P.length with h | h
          · exact h
          · rw [hR.out v h] at hb; cases hb
        have hle := hR.le v
        rw [decide_eq_true (p := ((v : Nat) : Int) < (P.length : Int)) (by omega), Bool.true_and, Bool.true_and, Bool.true_and]
        by_cases huv : v = u
        · subst huv
          rw [decide_eq_true hlt, decide_eq_false (by simp)]
          rfl
        · rw [decide_eq_true (p := ((v : Nat) : Int) ≠ ((u : Nat) : Int)) (by omega), Bool.true_and, Bool.eq_iff_iff]
          simp
          omega
    · rw [if_neg k7, if_neg k7]
theorem beg_lt {P : List (List Ev)} (hR : PsR P s) (hn : P.length = n) : ∀ t, t < 6 → (mcP s).b t = true → t < n := fun t _ h => by
  rcases Nat.lt_or_ge t n with h1 | h1
  · exact h1
  · have := hR.out t (by omega)
    rw [show (mcP s).b t = begun s.L (t : Nat) from rfl, this] at h
    cases h
theorem more_val {P : List (List Ev)} (hR : PsR P s) (t : Nat) : ((mcP s).b t && decide ((mcP s).a t < (opsP P t).length)) = (begun s.L (t : Nat) && !decide (s.a t = (opsP P t).length)) := by
  show (begun s.L (t : Nat) && decide (s.a t < (opsP P t).length)) = _
  have := hR.le t
  congr 1
  rw [Bool.eq_iff_iff]
  simp
  omega
set_option maxHeartbeats 8000000 in
theorem mcan_any (t : Int) {P : List (List Ev)} (hb : MBx w M A n c (mcP s) LV) (hP : Prg w A n P) (hnc : n ≤ c) (hO : OkP P) (hR : PsR P s) :
    Calls Try.prog 46 #[.pointer (some ⟨M, 0, none⟩), .int .i64 t] w fun e w' => e = .returned (.bool (decide (0 ≤ t) && canP P s t.toNat)) ∧ Below w.heap.size w w' := by
  have HB := Lib.hid hb
  have HP := Lib.hid hP
  have h6 : n ≤ 6 := by rw [← hP.1]; exact hO.six
  have HLN := Lib.hid hP.1
  have HBT := Lib.hid (beg_lt hR hP.1)
  have HF := Lib.hid (fun (w1 : World) (h1 : Bel w w1) => (hb.bel h1).p)
  have HPR := Lib.hid hR
  have HOK := Lib.hid hO
  clear hb hP hO hR
  by_cases h0 : 0 ≤ t
  · obtain ⟨u, rfl⟩ : ∃ u : Nat, t = u := ⟨t.toNat, by omega⟩
    by_cases hun : u < n
    · have hun' : (u : Int) < n := by omega
      have hu6 : u < 6 := by omega
      cases hm : begun s.L (u : Nat) && !decide (s.a u = (opsP P u).length)
      · have HV := Lib.hid (show canP P s u = false by
          cases hb : begun s.L (u : Nat)
          · exact can_late hb
          · rw [hb] at hm
            simp at hm
            exact can_over (by rw [hm]; exact List.getElem?_eq_none (Nat.le_refl _)))
        have HM := Lib.hid ((more_val HPR.out u).trans hm)
        clear hm
        go_enter Try.func46, Try.ntmps46
        go_wp2_with (first | (refine list_bel 23 rfl ?_; (repeat (first | ((with_reducible refine BigFrame.wpQuiet_skip ?_ ?_); exact rfl; simp only [Act.put, Act.eval, List.setIfInBounds_toArray, List.set_cons_zero, List.set_cons_succ, Array.getD_eq_getD_getElem?, List.getElem?_toArray, List.getElem?_cons_zero, List.getElem?_cons_succ, Option.getD_some]) | (refine q_move _ rfl rfl ?_; simp only [Act.put, Act.eval, List.setIfInBounds_toArray, List.set_cons_zero, List.set_cons_succ, Array.getD_eq_getD_getElem?, List.getElem?_toArray, List.getElem?_cons_zero, List.getElem?_cons_succ, Option.getD_some]) | (refine q_assign _ rfl rfl ?_; simp only [Act.put, Act.eval, List.setIfInBounds_toArray, List.set_cons_zero, List.set_cons_succ, Array.getD_eq_getD_getElem?, List.getElem?_toArray, List.getElem?_cons_zero, List.getElem?_cons_succ, Option.getD_some]) | (refine q_any rfl ?_; apply Exists.intro; refine ⟨fun w hw => ?_, ?_⟩; (have fct0 := HF.out w hw; go_simp; first | exact ⟨rfl, rfl⟩ | rfl | (go_at_call 72; (with_reducible refine (morev_any u false HM.out (HB.out.bel hw) (HP.out.bel hw) hnc h6 hu6 (HBT.out u hu6)).mono ?_); rintro e w' ⟨rfl, hb⟩; exact ⟨rfl, hw.call hb⟩)); simp only [Act.put, Act.eval, List.setIfInBounds_toArray, List.set_cons_zero, List.set_cons_succ, Array.getD_eq_getD_getElem?, List.getElem?_toArray, List.getElem?_cons_zero, List.getElem?_cons_succ, Option.getD_some]))); refine wpQuiet_nil ?_; intro w2 hw2))
        go_ret
        exact ⟨by rw [Int.toNat_natCast, HV.out, Bool.and_false]; rfl, hw2.out⟩
      · have HM := Lib.hid ((more_val HPR.out u).trans hm)
        have hbg : begun s.L (u : Nat) = true := by simp at hm; exact hm.1
        have hlt : s.a u < (opsP P u).length := by have := HPR.out.le u; simp at hm; omega
        obtain ⟨o, ho⟩ : ∃ o, (opsP P u)[s.a u]? = some o := ⟨_, List.getElem?_eq_getElem hlt⟩
        have HV := Lib.hid (show canP P s u = canO P s u o from can_at (by rw [HLN.out]; exact hun) hbg ho)
        have HE := Lib.hid (enB_can HOK.out HPR.out ho)
        have HI := Lib.hid (HOK.out.op u o (List.mem_of_getElem? ho))
        have HHO := Lib.hid (show (opsP P u)[(mcP s).a u]? = some o from ho)
        clear hm hbg hlt ho
        go_enter Try.func46, Try.ntmps46
        go_wp2_with (first | (refine list_bel 23 rfl ?_; (repeat (first | ((with_reducible refine BigFrame.wpQuiet_skip ?_ ?_); exact rfl; simp only [Act.put, Act.eval, List.setIfInBounds_toArray, List.set_cons_zero, List.set_cons_succ, Array.getD_eq_getD_getElem?, List.getElem?_toArray, List.getElem?_cons_zero, List.getElem?_cons_succ, Option.getD_some]) | (refine q_move _ rfl rfl ?_; simp only [Act.put, Act.eval, List.setIfInBounds_toArray, List.set_cons_zero, List.set_cons_succ, Array.getD_eq_getD_getElem?, List.getElem?_toArray, List.getElem?_cons_zero, List.getElem?_cons_succ, Option.getD_some]) | (refine q_assign _ rfl rfl ?_; simp only [Act.put, Act.eval, List.setIfInBounds_toArray, List.set_cons_zero, List.set_cons_succ, Array.getD_eq_getD_getElem?, List.getElem?_toArray, List.getElem?_cons_zero, List.getElem?_cons_succ, Option.getD_some]) | (refine q_any rfl ?_; apply Exists.intro; refine ⟨fun w hw => ?_, ?_⟩; (have fct0 := HF.out w hw; go_simp; first | exact ⟨rfl, rfl⟩ | rfl | (go_at_call 72; (with_reducible refine (morev_any u true HM.out (HB.out.bel hw) (HP.out.bel hw) hnc h6 hu6 (HBT.out u hu6)).mono ?_); rintro e w' ⟨rfl, hb⟩; exact ⟨rfl, hw.call hb⟩) | (go_at_call 74; (with_reducible refine (next_any u (HB.out.bel hw) (HP.out.bel hw) hnc h6 hun HHO.out).mono ?_); rintro e w' ⟨rfl, hb⟩; exact ⟨rfl, hw.call hb⟩) | (go_at_call 73; (with_reducible refine (enabv_any _ HE.out HI.out (HB.out.bel hw) (HP.out.bel hw) hnc h6 HBT.out).mono ?_); rintro e w' ⟨rfl, hb⟩; exact ⟨rfl, hw.call hb⟩)); simp only [Act.put, Act.eval, List.setIfInBounds_toArray, List.set_cons_zero, List.set_cons_succ, Array.getD_eq_getD_getElem?, List.getElem?_toArray, List.getElem?_cons_zero, List.getElem?_cons_succ, Option.getD_some]))); refine wpQuiet_nil ?_; intro w2 hw2))
        go_ret
        exact ⟨by rw [Int.toNat_natCast, HV.out, decide_eq_true h0]; rfl, hw2.out⟩
    · have hun' : ¬ (u : Int) < n := by omega
      have HV := Lib.hid (show canP P s u = false by unfold canP; rw [decide_eq_false (by rw [HLN.out]; exact hun), Bool.false_and])
      go_enter Try.func46, Try.ntmps46
      go_wp2_with (first | (refine list_bel 23 rfl ?_; (repeat (first | ((with_reducible refine BigFrame.wpQuiet_skip ?_ ?_); exact rfl; simp only [Act.put, Act.eval, List.setIfInBounds_toArray, List.set_cons_zero, List.set_cons_succ, Array.getD_eq_getD_getElem?, List.getElem?_toArray, List.getElem?_cons_zero, List.getElem?_cons_succ, Option.getD_some]) | (refine q_move _ rfl rfl ?_; simp only [Act.put, Act.eval, List.setIfInBounds_toArray, List.set_cons_zero, List.set_cons_succ, Array.getD_eq_getD_getElem?, List.getElem?_toArray, List.getElem?_cons_zero, List.getElem?_cons_succ, Option.getD_some]) | (refine q_assign _ rfl rfl ?_; simp only [Act.put, Act.eval, List.setIfInBounds_toArray, List.set_cons_zero, List.set_cons_succ, Array.getD_eq_getD_getElem?, List.getElem?_toArray, List.getElem?_cons_zero, List.getElem?_cons_succ, Option.getD_some]) | (refine q_any rfl ?_; apply Exists.intro; refine ⟨fun w hw => ?_, ?_⟩; (have fct0 := HF.out w hw; go_simp; first | exact ⟨rfl, rfl⟩ | rfl); simp only [Act.put, Act.eval, List.setIfInBounds_toArray, List.set_cons_zero, List.set_cons_succ, Array.getD_eq_getD_getElem?, List.getElem?_toArray, List.getElem?_cons_zero, List.getElem?_cons_succ, Option.getD_some]))); refine wpQuiet_nil ?_; intro w2 hw2))
      go_ret
      exact ⟨by rw [HV.out]; rfl, hw2.out⟩
  · have HV := Lib.hid (show (decide (0 ≤ t) && canP P s t.toNat) = false by rw [decide_eq_false h0, Bool.false_and])
    go_enter Try.func46, Try.ntmps46
    go_wp2_with (first | (refine list_bel 23 rfl ?_; (repeat (first | ((with_reducible refine BigFrame.wpQuiet_skip ?_ ?_); exact rfl; simp only [Act.put, Act.eval, List.setIfInBounds_toArray, List.set_cons_zero, List.set_cons_succ, Array.getD_eq_getD_getElem?, List.getElem?_toArray, List.getElem?_cons_zero, List.getElem?_cons_succ, Option.getD_some]) | (refine q_move _ rfl rfl ?_; simp only [Act.put, Act.eval, List.setIfInBounds_toArray, List.set_cons_zero, List.set_cons_succ, Array.getD_eq_getD_getElem?, List.getElem?_toArray, List.getElem?_cons_zero, List.getElem?_cons_succ, Option.getD_some]) | (refine q_assign _ rfl rfl ?_; simp only [Act.put, Act.eval, List.setIfInBounds_toArray, List.set_cons_zero, List.set_cons_succ, Array.getD_eq_getD_getElem?, List.getElem?_toArray, List.getElem?_cons_zero, List.getElem?_cons_succ, Option.getD_some]) | (refine q_any rfl ?_; apply Exists.intro; refine ⟨fun w hw => ?_, ?_⟩; (have fct0 := HF.out w hw; go_simp; first | exact ⟨rfl, rfl⟩ | rfl); simp only [Act.put, Act.eval, List.setIfInBounds_toArray, List.set_cons_zero, List.set_cons_succ, Array.getD_eq_getD_getElem?, List.getElem?_toArray, List.getElem?_cons_zero, List.getElem?_cons_succ, Option.getD_some]))); refine wpQuiet_nil ?_; intro w2 hw2))
    go_ret
    exact ⟨by rw [HV.out]; rfl, hw2.out⟩
theorem mcanv_any (t : Int) {P : List (List Ev)} (v : Bool) (hv : (decide (0 ≤ t) && canP P s t.toNat) = v) (hb : MBx w M A n c (mcP s) LV) (hP : Prg w A n P) (hnc : n ≤ c) (hO : OkP P) (hR : PsR P s) :
    Calls Try.prog 46 #[.pointer (some ⟨M, 0, none⟩), .int .i64 t] w fun e w' => e = .returned (.bool v) ∧ Below w.heap.size w w' := hv ▸ mcan_any t hb hP hnc hO hR
theorem MBx.endr {x : Mc} (h : MBx w M A n c x LV) : w.rangeAt M 18 (endc x.m x.v x.h false false) := fun j v hj => by
  have h20 : j < 20 := by have := (List.getElem?_eq_some_iff.1 hj).1; simpa [endc] using this
  rw [h.endAt h20]
  have h1 : (vs 20 (endF x.m x.v x.h false false))[j]? = some v := by rw [end_vs]; simpa using hj
  rw [vs_get _ h20] at h1
  exact h1
end Go.Proofs.Ytecdilijcjgjmaa

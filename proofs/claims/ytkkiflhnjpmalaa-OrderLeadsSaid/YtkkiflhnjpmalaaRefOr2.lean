/- Contracts of the laws' helpers for stage 5: OrderDirect's function value, pairs. -/
import Derived.Test.YtkkiflhnjpmalaaRefPs
import Derived.Test.YtkkiflhnjpmalaaRefOr
import Derived.Test.YtkkiflhnjpmalaaOrder2
import Derived.Test.YtkkiflhnjpmalaaEqPr
import Derived.Test.YtkkiflhnjpmalaaRefTr2
set_option linter.all false
set_option maxRecDepth 100000
namespace Go.Proofs.Ytkkiflhnjpmalaa
open Go Go.RowKit

set_option maxHeartbeats 2000000 in
theorem odirect1_any (A : Option Addr) (n c B : Nat) (l : List Ev) (t : TypeId) (w : World) (hl : Sl w A n l) (hb : Box w B #[.slice A n c] t) (i j : Nat) (hi : i < n) (hj : j < n) :
    Calls Try.prog 14 #[.int .i64 i, .int .i64 j, .pointer (some ⟨B, 0, none⟩)] w fun e w' => e = .returned (.bool (dirB l i j)) ∧ Below w.heap.size w w' := by
  obtain ⟨bb, off, a, rfl, hbb, ha, hra⟩ := hl.at_ hi
  obtain ⟨b, hb2⟩ := hl.get hj
  have HR := Lib.hid (dirB_at ha hb2)
  have HRA := Lib.hid (fun (w' : World) (h : Bel w w') => rangeAt_below h.out hbb hra)
  have HRB := Lib.hid (fun (w' : World) (h : Bel w w') => rangeAt_below h.out hbb (hl.rng hj hb2).2)
  have c0 := hb.cell 0 (v := .slice (some ⟨bb, off, none⟩) n c) rfl
  have F := fun (w' : World) (h : Bel w w') => h.cell c0
  have hi' : (i : Int) < n := by omega
  have hj' : (j : Int) < n := by omega
  clear hra hb hb2 ha hl c0
  by_cases hij : i < j
  · have hij' : (i : Int) < j := by omega
    rw [decide_eq_true hij] at HR
    go_enter Try.func14, Try.ntmps14
    go_wp2
    (refine region_bel (by kernel_rfl) (by kernel_rfl) ?_; (repeat (first | ((with_reducible refine BigFrame.wpQuiet_skip ?_ ?_); exact rfl; simp only [Act.put, Act.eval, List.setIfInBounds_toArray, List.set_cons_zero, List.set_cons_succ, Array.getD_eq_getD_getElem?, List.getElem?_toArray, List.getElem?_cons_zero, List.getElem?_cons_succ, Option.getD_some]) | (refine q_move _ rfl rfl ?_; simp only [Act.put, Act.eval, List.setIfInBounds_toArray, List.set_cons_zero, List.set_cons_succ, Array.getD_eq_getD_getElem?, List.getElem?_toArray, List.getElem?_cons_zero, List.getElem?_cons_succ, Option.getD_some]) | (refine q_assign _ rfl rfl ?_; simp only [Act.put, Act.eval, List.setIfInBounds_toArray, List.set_cons_zero, List.set_cons_succ, Array.getD_eq_getD_getElem?, List.getElem?_toArray, List.getElem?_cons_zero, List.getElem?_cons_succ, Option.getD_some]) | (refine q_load_mid _ _ rfl rfl rfl HRA.out T36 (evv a) rfl ?_; simp only [Act.put, Act.eval, List.setIfInBounds_toArray, List.set_cons_zero, List.set_cons_succ, Array.getD_eq_getD_getElem?, List.getElem?_toArray, List.getElem?_cons_zero, List.getElem?_cons_succ, Option.getD_some]) | (refine q_load_mid _ _ rfl rfl rfl HRB.out T36 (evv b) rfl ?_; simp only [Act.put, Act.eval, List.setIfInBounds_toArray, List.set_cons_zero, List.set_cons_succ, Array.getD_eq_getD_getElem?, List.getElem?_toArray, List.getElem?_cons_zero, List.getElem?_cons_succ, Option.getD_some]) | (refine q_any rfl ?_; apply Exists.intro; refine ⟨fun w hw => ?_, ?_⟩; (have fct0 := F w hw; go_simp; first | exact ⟨rfl, rfl⟩ | rfl | (go_at_call 15; (with_reducible refine (directly_any a b _).mono ?_); rintro e w' ⟨rfl, hb⟩; exact ⟨rfl, hw.call hb⟩)); simp only [Act.put, Act.eval, List.setIfInBounds_toArray, List.set_cons_zero, List.set_cons_succ, Array.getD_eq_getD_getElem?, List.getElem?_toArray, List.getElem?_cons_zero, List.getElem?_cons_succ, Option.getD_some]))); refine wpQuiet_nil ?_; intro w2 hw2)
    go_wp2
    go_ret
    exact ⟨by rw [HR.out]; rfl, hw2⟩
  · have hij' : ¬ (i : Int) < j := by omega
    rw [decide_eq_false hij] at HR
    go_enter Try.func14, Try.ntmps14
    go_wp2
    (refine region_bel (by kernel_rfl) (by kernel_rfl) ?_; (repeat (first | ((with_reducible refine BigFrame.wpQuiet_skip ?_ ?_); exact rfl; simp only [Act.put, Act.eval, List.setIfInBounds_toArray, List.set_cons_zero, List.set_cons_succ, Array.getD_eq_getD_getElem?, List.getElem?_toArray, List.getElem?_cons_zero, List.getElem?_cons_succ, Option.getD_some]) | (refine q_move _ rfl rfl ?_; simp only [Act.put, Act.eval, List.setIfInBounds_toArray, List.set_cons_zero, List.set_cons_succ, Array.getD_eq_getD_getElem?, List.getElem?_toArray, List.getElem?_cons_zero, List.getElem?_cons_succ, Option.getD_some]) | (refine q_assign _ rfl rfl ?_; simp only [Act.put, Act.eval, List.setIfInBounds_toArray, List.set_cons_zero, List.set_cons_succ, Array.getD_eq_getD_getElem?, List.getElem?_toArray, List.getElem?_cons_zero, List.getElem?_cons_succ, Option.getD_some]) | (refine q_any rfl ?_; apply Exists.intro; refine ⟨fun w hw => ?_, ?_⟩; (go_simp; first | exact ⟨rfl, rfl⟩ | rfl); simp only [Act.put, Act.eval, List.setIfInBounds_toArray, List.set_cons_zero, List.set_cons_succ, Array.getD_eq_getD_getElem?, List.getElem?_toArray, List.getElem?_cons_zero, List.getElem?_cons_succ, Option.getD_some]))); refine wpQuiet_nil ?_; intro w2 hw2)
    go_wp2
    go_ret
    exact ⟨by rw [HR.out]; rfl, hw2⟩
theorem prOf_wrong (R : List Ev → Nat → Nat → Bool) : prOf R [⟨0, 0, 0⟩] = [] := prOf_no (by unfold may; rw [check_wrong]; decide)
theorem may_wrong : may [⟨0, 0, 0⟩] = 1 := by unfold may; rw [check_wrong]
set_option maxHeartbeats 4000000 in
/-- Where the trace is none: no pair, and its error. -/
theorem lpairs_bad (A P : Option Addr) (n c d : Nat) (l : List Ev) (f : Value) (w : World) (hl : Sl w A n l) (hnc : n ≤ c) (hc : c ≤ 9223372036854775807) (hm : may l ≠ 0) :
    Calls Try.prog 13 #[.slice A n c, .slice P 0 d, .int .i64 (may l), f] w fun e w' => e = .returned (.bool true) ∧ Below w.heap.size w w' := by
  have hw0 := Bel.refl w
  have HL := Lib.hid hl
  have HW := Lib.hid may_wrong
  have hm1 : (may l != 0) = true := by simpa using hm
  clear hl hm
  go_enter Try.func13, Try.ntmps13
  go_wp2_with fail
  refine (rmay_any A n c l _ HL.out hnc hc).mono ?_
  rintro e1 w1 ⟨rfl, hb1⟩
  have hw1 := hw0.call hb1
  clear hb1
  go_wp2_with fail
  refine (wrong_any _).mono ?_
  rintro e2 w2 ⟨A3, c3, rfl, hs3, hc3, hm3, hb2⟩
  have hw2 := hw1.call hb2
  clear hb2
  have HS3 := Lib.hid hs3
  clear hs3
  go_wp2_with fail
  refine (direct_any A3 1 c3 _ _ HS3.out).mono ?_
  rintro e3 w3 ⟨v3, rfl, hown3, hb3⟩
  have hw3 := hw2.call hb3
  clear hb3
  rw [HW.out]
  clear hown3
  go_wp2
  go_ret
  exact ⟨rfl, hw3⟩
theorem Tells.bel {w w1 : World} {k : FuncId} {p : Value} {n : Nat} {C : Nat → Nat → Prop} {R : Nat → Nat → Bool} (h : Tells w k p n C R) (hb : Bel w w1) : Tells w1 k p n C R := fun a b w2 ha hb2 hc h2 => h a b w2 ha hb2 hc (hb.trans h2)
set_option maxHeartbeats 4000000 in
/-- Where it is a trace: the pairs of what the function value tells. -/
theorem lpairs_ok (A P : Option Addr) (n c m d : Nat) (l : List Ev) (ps : List (Nat × Nat)) (k : FuncId) (B : Nat) (R : Nat → Nat → Bool) (w : World) (hl : Sl w A n l) (hnc : n ≤ c) (hc : c ≤ 9223372036854775807) (hp : SlP w P m ps) (hmd : m ≤ d) (hd : d ≤ maxLen) (hm : may l = 0)
    (hE : ∀ args w, (callFunc k args).run Try.prog w = .ok (.enter k args) w) (hT : Tells w k (.pointer (some ⟨B, 0, none⟩)) n (fun _ _ => True) R) (hps : ps = prsA R n) :
    Calls Try.prog 13 #[.slice A n c, .slice P m d, .int .i64 0, .func (.func k) #[] #[.pointer (some ⟨B, 0, none⟩)]] w fun e w' => e = .returned (.bool true) ∧ Below w.heap.size w w' := by
  have hw0 := Bel.refl w
  have HL := Lib.hid hl
  have HP := Lib.hid hp
  have HW := Lib.hid may_wrong
  have HM := Lib.hid hm
  have HT := Lib.hid hT
  have HQ := Lib.hid hps
  have HD := Lib.hid (And.intro hmd hd)
  have hn80 : n ≤ 80 := by rw [← hl.1]; exact ((may_iff l).1 hm).1
  clear hl hm hp hT hps hmd hd
  go_enter Try.func13, Try.ntmps13
  go_wp2_with fail
  refine (rmay_any A n c l _ HL.out hnc hc).mono ?_
  rintro e1 w1 ⟨rfl, hb1⟩
  have hw1 := hw0.call hb1
  clear hb1
  go_wp2_with fail
  refine (wrong_any _).mono ?_
  rintro e2 w2 ⟨A3, c3, rfl, hs3, hc3, hm3, hb2⟩
  have hw2 := hw1.call hb2
  clear hb2
  have HS3 := Lib.hid hs3
  clear hs3
  go_wp2_with fail
  refine (direct_any A3 1 c3 _ _ HS3.out).mono ?_
  rintro e3 w3 ⟨v3, rfl, hown3, hb3⟩
  have hw3 := hw2.call hb3
  clear hb3
  rw [HW.out, HM.out]
  clear hown3
  go_wp2_with fail
  refine (pairsOf_any k B n R _ hn80 hE (HT.out.bel hw3)).mono ?_
  rintro e4 w4 ⟨v4, rfl, hown4, hb4⟩
  have hw4 := hw3.call hb4
  clear hb4
  obtain ⟨A4, c4, rfl, hs4, hn4, hm4⟩ := SlP.own hown4
  have HS4 := Lib.hid hs4
  have HN4 := Lib.hid (And.intro hn4 hm4)
  clear hs4 hown4 hn4 hm4
  go_wp2_with fail
  refine (eqpr_any P A4 m d _ c4 ps _ _ (HP.out.bel hw4) HS4.out HD.out.1 HN4.out.1 HD.out.2 HN4.out.2).mono ?_
  rintro e5 w5 ⟨rfl, hb5⟩
  have hw5 := hw4.call hb5
  clear hb5
  rw [decide_eq_true HQ.out]
  go_wp2
  go_ret
  exact ⟨rfl, hw5⟩
end Go.Proofs.Ytkkiflhnjpmalaa

/- The machine's method execute. -/
import Derived.Test.YtecdilijcjgjmaaMm
import Derived.Test.YtecdilijcjgjmaaRpS
import Derived.Deep.DeepCutAuto
set_option linter.all false
set_option maxRecDepth 100000
namespace Go.Proofs.Ytecdilijcjgjmaa
open Go Go.RowKit

/-- The machine whose thread u counts one op more. -/
def mcQ (s : Ps) (u : Nat) : Mc := { mcP s with a := upF s.a u (s.a u + 1) }
theorem step_b (P : List (List Ev)) (s : Ps) (u : Nat) (o : Ev) (t : Nat) : (mcP (stepO P s u o)).b t = (begun s.L (t : Nat) || decide (kindO P s u o = 5 ∧ o.t = t)) := by
  show begun (s.L ++ evO P s u o) (t : Nat) = _
  unfold evO
  split
  · rename_i h
    rw [List.append_nil, decide_eq_false (by omega), Bool.or_false]
  · rw [begun_snoc]
theorem step_o (P : List (List Ev)) (s : Ps) (u : Nat) (o : Ev) (k : Nat) : (mcP (stepO P s u o)).o k = if kindO P s u o = 3 ∧ o.t = k then (u : Int) else if kindO P s u o = 4 ∧ o.t = k then -1 else owner s.L (k : Nat) := by
  show owner (s.L ++ evO P s u o) (k : Nat) = _
  unfold evO
  split
  · rename_i h
    rw [List.append_nil, if_neg (by omega), if_neg (by omega)]
  · rw [owner_snoc]
    show (if o.t = (k : Nat) ∧ kindO P s u o = 4 then (-1 : Int) else if o.t = (k : Nat) ∧ kindO P s u o = 3 then (u : Int) else owner s.L (k : Nat)) = _
    by_cases h3 : kindO P s u o = 3
    · by_cases hk : o.t = (k : Nat)
      · rw [if_neg (by omega), if_pos ⟨hk, h3⟩, if_pos ⟨h3, hk⟩]
      · rw [if_neg (fun h => hk h.1), if_neg (fun h => hk h.1), if_neg (fun h => hk h.2), if_neg (fun h => hk h.2)]
    · rw [if_neg (c := o.t = (k : Nat) ∧ kindO P s u o = 3) (fun h => h3 h.2), if_neg (c := kindO P s u o = 3 ∧ o.t = (k : Nat)) (fun h => h3 h.1)]
      simp only [and_comm]
variable {w w' : World} {M : Nat} {A : Option Addr} {n c : Nat} {s : Ps} {LV : Value}
/-- What a step does neither to who has begun nor to the locks. -/
theorem to_step {P : List (List Ev)} {u : Nat} {o : Ev} {x : Mc} (h : MBx w M A n c x LV) (hk3 : kindO P s u o ≠ 3) (hk4 : kindO P s u o ≠ 4) (hk5 : kindO P s u o ≠ 5) (hb : x.b = (mcP s).b) (ha : x.a = upF s.a u (s.a u + 1)) (ho : x.o = (mcP s).o) (hm : x.m = nat (memO s u o)) (hv : x.v = nat (volO s u o)) (hh : x.h = hasO s u o) :
    MBx w M A n c (mcP (stepO P s u o)) LV :=
  h.to (fun t _ => by rw [step_b, hb, decide_eq_false (fun h => hk5 h.1), Bool.or_false]; rfl) (fun t _ => by rw [ha]; rfl) (fun t _ => by rw [step_o, ho, if_neg (fun h => hk3 h.1), if_neg (fun h => hk4 h.1)]; rfl)
    (fun t _ => by rw [hm]; rfl) (fun t _ => by rw [hv]; rfl) (fun t _ => by rw [hh]; rfl)
def ExPost (w : World) (M : Nat) (A : Option Addr) (n c : Nat) (P : List (List Ev)) (s : Ps) (u : Nat) (o : Ev) (LV : Value) (e : Ending) (w' : World) : Prop :=
  e = .returned (.int .i64 (kindO P s u o)) ∧ MBx w' M A n c (mcP (stepO P s u o)) LV ∧ Pm M w w'
set_option maxHeartbeats 16000000 in
theorem exec_any (u : Nat) {P : List (List Ev)} {K : Int} {o : Ev} (hb : MBx w M A n c (mcQ s u) LV) (hn : P.length = n) (hi : isOp o = true) (hu : u < n) (h6 : n ≤ 6) (hlim : LimS K s) (hK : K ≤ 1000000) :
    Calls Try.prog 75 #[.pointer (some ⟨M, 0, none⟩), .int .i64 u, .agg (evv o)] w (ExPost w M A n c P s u o LV) := by
  have hu6 : u < 6 := by omega
  have hu6' : (u : Int) < 6 := by omega
  have HK := Lib.hid (isOp_obj hi)
  have HOP := Lib.hid hi
  have HLM := Lib.hid (And.intro hlim hK)
  have HLN := Lib.hid hn
  have hB := (Bel.refl w).alloc (.cells (evv o) 55)
  have HG := Lib.hid (hb.bel hB)
  have HX := Lib.hid (Box.new w (evv o) 55)
  have HW := Lib.hid (Pm.of (M := M) hB)
  clear hb hi hlim hK hn hB
  obtain ⟨v, hv⟩ : ∃ v : Nat, o.t = v := ⟨o.t.toNat, by have := HK.out.2.2.1; omega⟩
  have HV := Lib.hid hv
  have c0 := HX.out.cell 0 (v := .int .i64 o.k) rfl
  have c1 := HX.out.cell 1 (v := .int .i64 o.t) rfl
  have c2 := HX.out.cell 2 (v := .int .i64 o.o) rfl
  rw [hv] at c1
  have g_has := (show (w.alloc (.cells (evv o) 55)).cell? ⟨M, 30 + u, none⟩ = some (.int .i64 (s.has u)) from HG.out.has hu6)
  have z_has := HG.out.box.frozen (30 + u)
  have g_p := HG.out.p
  generalize hW0 : w.alloc (.cells (evv o) 55) = W at *
  clear hv
  rcases (show o.k = 1 ∨ o.k = 2 ∨ o.k = 3 ∨ o.k = 4 ∨ o.k = 5 ∨ o.k = 6 ∨ o.k = 7 ∨ o.k = 8 ∨ o.k = 9 by have := HK.out; omega) with hj | hj | hj | hj | hj | hj | hj | hj | hj
  · have HJ := Lib.hid hj
    clear hj
    have t1 : (o.k == 1) = true := by have := HJ.out; simp [this]
    have KD := Lib.hid (show kindO P s u o = 1 by rw [kind_of (by have := HJ.out; omega) (by have := HJ.out; omega), HJ.out]; rfl)
    have hv8 : v < 8 := by have := HK.out.2.2.2.1 (.inl HJ.out); have := HV.out; omega
    have hv8' : (v : Int) < 8 := by omega
    have g_mem := HG.out.mem hv8
    have z_mem := HG.out.box.frozen (18 + v)
    go_enter Try.func75, Try.ntmps75
    go_wp2_with fail
    (refine wp_region_still_tail 10 (by kernel_rfl) (by kernel_rfl) ?_; simp only [List.take_succ_cons, List.take_zero, List.drop_succ_cons, List.drop_zero]; (repeat (first | ((with_reducible refine s_skip ?_ ?_); exact rfl; simp only [Act.put, Act.eval, List.setIfInBounds_toArray, List.set_cons_zero, List.set_cons_succ, Array.getD_eq_getD_getElem?, List.getElem?_toArray, List.getElem?_cons_zero, List.getElem?_cons_succ, Option.getD_some]) | ((with_reducible refine wpStill_step ?_); intro K hK; go_simp; (with_reducible refine hK _ ?_); clear hK K))); (with_reducible refine wpStill_nil ?_))
    change wpList _ _ _ _ _ W.drew
    go_wp2
    go_ret
    exact ⟨by rw [KD.out]; rfl, to_step (HG.out.drew.setHas (v := s.mem (v : Nat)) hu6) (by rw [KD.out]; decide) (by rw [KD.out]; decide) (by rw [KD.out]; decide) rfl rfl rfl (by rw [memO_no (by have := HJ.out; omega)]; rfl) (by rw [volO_no (by have := HJ.out; omega)]; rfl) (by rw [hasO_1 HJ.out, HV.out]; rfl), (HW.out.bel (Bel.refl W).drew).setC (30 + u) _⟩
  · have HJ := Lib.hid hj
    clear hj
    have t1 : (o.k == 1) = false := by have := HJ.out; simp [this]
    have t2 : (o.k == 2) = true := by have := HJ.out; simp [this]
    have KD := Lib.hid (show kindO P s u o = 2 by rw [kind_of (by have := HJ.out; omega) (by have := HJ.out; omega), HJ.out]; rfl)
    have hv8 : v < 8 := by have := HK.out.2.2.2.1 (.inr HJ.out); have := HV.out; omega
    have hv8' : (v : Int) < 8 := by omega
    have g_mem := HG.out.mem hv8
    have z_mem := HG.out.box.frozen (18 + v)
    go_enter Try.func75, Try.ntmps75
    go_wp2_with fail
    (refine wp_region_still_tail 10 (by kernel_rfl) (by kernel_rfl) ?_; simp only [List.take_succ_cons, List.take_zero, List.drop_succ_cons, List.drop_zero]; (repeat (first | ((with_reducible refine s_skip ?_ ?_); exact rfl; simp only [Act.put, Act.eval, List.setIfInBounds_toArray, List.set_cons_zero, List.set_cons_succ, Array.getD_eq_getD_getElem?, List.getElem?_toArray, List.getElem?_cons_zero, List.getElem?_cons_succ, Option.getD_some]) | ((with_reducible refine wpStill_step ?_); intro K hK; go_simp; (with_reducible refine hK _ ?_); clear hK K))); (with_reducible refine wpStill_nil ?_))
    change wpList _ _ _ _ _ W.drew
    go_wp2
    go_ret
    exact ⟨by rw [KD.out]; rfl, to_step (HG.out.drew.setMem (v := s.has u) hv8) (by rw [KD.out]; decide) (by rw [KD.out]; decide) (by rw [KD.out]; decide) rfl rfl rfl (by rw [memO_at HJ.out, HV.out, nat_upd]; rfl) (by rw [volO_no (by have := HJ.out; omega)]; rfl) (by rw [hasO_no (by have := HJ.out; omega) (by have := HJ.out; omega) (by have := HJ.out; omega)]; rfl), (HW.out.bel (Bel.refl W).drew).setC (18 + v) _⟩
  · have HJ := Lib.hid hj
    clear hj
    have t1 : (o.k == 1) = false := by have := HJ.out; simp [this]
    have t2 : (o.k == 2) = false := by have := HJ.out; simp [this]
    have t3 : (o.k == 3) = true := by have := HJ.out; simp [this]
    have KD := Lib.hid (show kindO P s u o = 0 by rw [kind_of (by have := HJ.out; omega) (by have := HJ.out; omega), HJ.out]; rfl)
    have hwh : IntKind.i64.wrap (s.has u + o.o) = s.has u + o.o := IntWalk.i64_in _ (by have := (HLM.out.1.has u).1; have := (HLM.out.1.has u).2; have := HLM.out.2; have := (isOp_num HOP.out).1; have := (isOp_num HOP.out).2; omega)
    go_enter Try.func75, Try.ntmps75
    go_wp2_with fail
    (refine wp_region_still_tail 7 (by kernel_rfl) (by kernel_rfl) ?_; simp only [List.take_succ_cons, List.take_zero, List.drop_succ_cons, List.drop_zero]; (repeat (first | ((with_reducible refine s_skip ?_ ?_); exact rfl; simp only [Act.put, Act.eval, List.setIfInBounds_toArray, List.set_cons_zero, List.set_cons_succ, Array.getD_eq_getD_getElem?, List.getElem?_toArray, List.getElem?_cons_zero, List.getElem?_cons_succ, Option.getD_some]) | ((with_reducible refine wpStill_step ?_); intro K hK; go_simp; (with_reducible refine hK _ ?_); clear hK K))); (with_reducible refine wpStill_nil ?_))
    change wpList _ _ _ _ _ W.drew
    go_wp2
    go_ret
    exact ⟨by rw [KD.out]; rfl, to_step (HG.out.drew.setHas (v := s.has u + o.o) hu6) (by rw [KD.out]; decide) (by rw [KD.out]; decide) (by rw [KD.out]; decide) rfl rfl rfl (by rw [memO_no (by have := HJ.out; omega)]; rfl) (by rw [volO_no (by have := HJ.out; omega)]; rfl) (by rw [hasO_3 HJ.out]; rfl), (HW.out.bel (Bel.refl W).drew).setC (30 + u) _⟩
  · have HJ := Lib.hid hj
    clear hj
    have t1 : (o.k == 1) = false := by have := HJ.out; simp [this]
    have t2 : (o.k == 2) = false := by have := HJ.out; simp [this]
    have t3 : (o.k == 3) = false := by have := HJ.out; simp [this]
    have t4 : (o.k == 4) = true := by have := HJ.out; simp [this]
    have KD := Lib.hid (show kindO P s u o = 3 by rw [kind_of (by have := HJ.out; omega) (by have := HJ.out; omega), HJ.out]; rfl)
    have hv5 : v < 5 := by have := HK.out.2.2.2.2.1 (.inl HJ.out); have := HV.out; omega
    have hv5' : (v : Int) < 5 := by omega
    have g_own := HG.out.own hv5
    have z_own := HG.out.box.frozen (13 + v)
    go_enter Try.func75, Try.ntmps75
    go_wp2_with fail
    (refine wp_region_still_tail 7 (by kernel_rfl) (by kernel_rfl) ?_; simp only [List.take_succ_cons, List.take_zero, List.drop_succ_cons, List.drop_zero]; (repeat (first | ((with_reducible refine s_skip ?_ ?_); exact rfl; simp only [Act.put, Act.eval, List.setIfInBounds_toArray, List.set_cons_zero, List.set_cons_succ, Array.getD_eq_getD_getElem?, List.getElem?_toArray, List.getElem?_cons_zero, List.getElem?_cons_succ, Option.getD_some]) | ((with_reducible refine wpStill_step ?_); intro K hK; go_simp; (with_reducible refine hK _ ?_); clear hK K))); (with_reducible refine wpStill_nil ?_))
    change wpList _ _ _ _ _ W.drew
    go_wp2
    go_ret
    refine ⟨by rw [KD.out]; rfl, ?_, (HW.out.bel (Bel.refl W).drew).setC (13 + v) _⟩
    refine (HG.out.drew.setO (v := (u : Int)) hv5).to (fun t _ => ?_) (fun _ _ => rfl) (fun t _ => ?_) (fun _ _ => by show nat (memO s u o) _ = _; rw [memO_no (by have := HJ.out; omega)]; rfl) (fun _ _ => by show nat (volO s u o) _ = _; rw [volO_no (by have := HJ.out; omega)]; rfl) (fun _ _ => by show hasO s u o _ = _; rw [hasO_no (by have := HJ.out; omega) (by have := HJ.out; omega) (by have := HJ.out; omega)]; rfl)
    · rw [step_b, KD.out, decide_eq_false (by omega), Bool.or_false]; rfl
    · rw [step_o, KD.out, HV.out]
      show _ = upF (mcP s).o v (u : Int) t
      unfold upF
      by_cases h : t = v
      · subst h; simp
      · rw [if_neg h, if_neg (by omega), if_neg (by omega)]; rfl
  · have HJ := Lib.hid hj
    clear hj
    have t1 : (o.k == 1) = false := by have := HJ.out; simp [this]
    have t2 : (o.k == 2) = false := by have := HJ.out; simp [this]
    have t3 : (o.k == 3) = false := by have := HJ.out; simp [this]
    have t4 : (o.k == 4) = false := by have := HJ.out; simp [this]
    have t5 : (o.k == 5) = true := by have := HJ.out; simp [this]
    have hv5 : v < 5 := by have := HK.out.2.2.2.2.1 (.inr HJ.out); have := HV.out; omega
    have hv5' : (v : Int) < 5 := by omega
    have F := fun (w1 : World) (h1 : Bel W w1) => And.intro (h1.cell c1) (show w1.cell? ⟨M, 13 + v, none⟩ = some (.int .i64 (owner s.L (v : Nat))) from (HG.out.bel h1).own hv5)
    have HF := Lib.hid F
    clear F
    have HMO := Lib.hid (show ∀ t, (mcP (stepO P s u o)).b t = (mcP s).b t ∨ kindO P s u o = 5 from fun t => by by_cases h : kindO P s u o = 5; exact .inr h; exact .inl (by rw [step_b, decide_eq_false (fun g => h g.1), Bool.or_false]; rfl))
    by_cases hw : owner s.L (v : Nat) = (u : Nat)
    · have KD := Lib.hid (show kindO P s u o = 4 by unfold kindO; rw [if_neg (by have := HJ.out; omega), if_neg (by have := HJ.out; omega), if_neg (by have := HJ.out; omega), if_pos HJ.out, HV.out, if_pos hw])
      have hq : (owner s.L (v : Nat) == (u : Int)) = true := by simpa using hw
      clear hw
      go_enter Try.func75, Try.ntmps75
      go_wp2_with fail
      (refine region_bel (by kernel_rfl) (by kernel_rfl) ?_; (repeat (first | ((with_reducible refine BigFrame.wpQuiet_skip ?_ ?_); exact rfl; simp only [Act.put, Act.eval, List.setIfInBounds_toArray, List.set_cons_zero, List.set_cons_succ, Array.getD_eq_getD_getElem?, List.getElem?_toArray, List.getElem?_cons_zero, List.getElem?_cons_succ, Option.getD_some]) | (refine q_move _ rfl rfl ?_; simp only [Act.put, Act.eval, List.setIfInBounds_toArray, List.set_cons_zero, List.set_cons_succ, Array.getD_eq_getD_getElem?, List.getElem?_toArray, List.getElem?_cons_zero, List.getElem?_cons_succ, Option.getD_some]) | (refine q_assign _ rfl rfl ?_; simp only [Act.put, Act.eval, List.setIfInBounds_toArray, List.set_cons_zero, List.set_cons_succ, Array.getD_eq_getD_getElem?, List.getElem?_toArray, List.getElem?_cons_zero, List.getElem?_cons_succ, Option.getD_some]) | (refine q_any rfl ?_; apply Exists.intro; refine ⟨fun w hw => ?_, ?_⟩; (have fct0 := HF.out w hw; go_simp; first | exact ⟨rfl, rfl⟩ | rfl); simp only [Act.put, Act.eval, List.setIfInBounds_toArray, List.set_cons_zero, List.set_cons_succ, Array.getD_eq_getD_getElem?, List.getElem?_toArray, List.getElem?_cons_zero, List.getElem?_cons_succ, Option.getD_some]))); refine wpQuiet_nil ?_; intro w2 hw2)
      have HG2 := Lib.hid (HG.out.bel hw2)
      have HW2 := Lib.hid (HW.out.bel hw2)
      have d1 := hw2.cell c1
      have z_own := HG2.out.box.frozen (13 + v)
      have g_own := HG2.out.own hv5
      clear hW0 c0 c1 c2 g_has z_has g_p hw2
      go_wp2_with fail
      (refine wp_region_still_tail 6 (by kernel_rfl) (by kernel_rfl) ?_; simp only [List.take_succ_cons, List.take_zero, List.drop_succ_cons, List.drop_zero]; (repeat (first | ((with_reducible refine s_skip ?_ ?_); exact rfl; simp only [Act.put, Act.eval, List.setIfInBounds_toArray, List.set_cons_zero, List.set_cons_succ, Array.getD_eq_getD_getElem?, List.getElem?_toArray, List.getElem?_cons_zero, List.getElem?_cons_succ, Option.getD_some]) | ((with_reducible refine wpStill_step ?_); intro K hK; go_simp; (with_reducible refine hK _ ?_); clear hK K))); (with_reducible refine wpStill_nil ?_))
      change wpList _ _ _ _ _ w2.drew
      go_wp2
      go_ret
      refine ⟨by rw [KD.out]; rfl, ?_, (HW2.out.bel (Bel.refl w2).drew).setC (13 + v) _⟩
      refine (HG2.out.drew.setO (v := (-1 : Int)) hv5).to (fun t _ => ?_) (fun _ _ => rfl) (fun t _ => ?_) (fun _ _ => by show nat (memO s u o) _ = _; rw [memO_no (by have := HJ.out; omega)]; rfl) (fun _ _ => by show nat (volO s u o) _ = _; rw [volO_no (by have := HJ.out; omega)]; rfl) (fun _ _ => by show hasO s u o _ = _; rw [hasO_no (by have := HJ.out; omega) (by have := HJ.out; omega) (by have := HJ.out; omega)]; rfl)
      · rw [step_b, KD.out, decide_eq_false (by omega), Bool.or_false]; rfl
      · rw [step_o, KD.out, HV.out]
        show _ = upF (mcP s).o v (-1 : Int) t
        unfold upF
        by_cases h : t = v
        · subst h; simp
        · rw [if_neg h, if_neg (by omega), if_neg (by omega)]; rfl
    · have KD := Lib.hid (show kindO P s u o = 0 by unfold kindO; rw [if_neg (by have := HJ.out; omega), if_neg (by have := HJ.out; omega), if_neg (by have := HJ.out; omega), if_pos HJ.out, HV.out, if_neg hw])
      have hq : (owner s.L (v : Nat) == (u : Int)) = false := by simpa using hw
      clear hw
      go_enter Try.func75, Try.ntmps75
      go_wp2_with fail
      (refine region_bel (by kernel_rfl) (by kernel_rfl) ?_; (repeat (first | ((with_reducible refine BigFrame.wpQuiet_skip ?_ ?_); exact rfl; simp only [Act.put, Act.eval, List.setIfInBounds_toArray, List.set_cons_zero, List.set_cons_succ, Array.getD_eq_getD_getElem?, List.getElem?_toArray, List.getElem?_cons_zero, List.getElem?_cons_succ, Option.getD_some]) | (refine q_move _ rfl rfl ?_; simp only [Act.put, Act.eval, List.setIfInBounds_toArray, List.set_cons_zero, List.set_cons_succ, Array.getD_eq_getD_getElem?, List.getElem?_toArray, List.getElem?_cons_zero, List.getElem?_cons_succ, Option.getD_some]) | (refine q_assign _ rfl rfl ?_; simp only [Act.put, Act.eval, List.setIfInBounds_toArray, List.set_cons_zero, List.set_cons_succ, Array.getD_eq_getD_getElem?, List.getElem?_toArray, List.getElem?_cons_zero, List.getElem?_cons_succ, Option.getD_some]) | (refine q_any rfl ?_; apply Exists.intro; refine ⟨fun w hw => ?_, ?_⟩; (have fct0 := HF.out w hw; go_simp; first | exact ⟨rfl, rfl⟩ | rfl); simp only [Act.put, Act.eval, List.setIfInBounds_toArray, List.set_cons_zero, List.set_cons_succ, Array.getD_eq_getD_getElem?, List.getElem?_toArray, List.getElem?_cons_zero, List.getElem?_cons_succ, Option.getD_some]))); refine wpQuiet_nil ?_; intro w2 hw2)
      have HG2 := Lib.hid (HG.out.bel hw2)
      have HW2 := Lib.hid (HW.out.bel hw2)
      clear hW0 c0 c1 c2 g_has z_has g_p hw2
      go_wp2
      go_ret
      exact ⟨by rw [KD.out]; rfl, to_step HG2.out (by rw [KD.out]; decide) (by rw [KD.out]; decide) (by rw [KD.out]; decide) rfl rfl rfl (by rw [memO_no (by have := HJ.out; omega)]; rfl) (by rw [volO_no (by have := HJ.out; omega)]; rfl) (by rw [hasO_no (by have := HJ.out; omega) (by have := HJ.out; omega) (by have := HJ.out; omega)]; rfl), HW2.out⟩
  · have HJ := Lib.hid hj
    clear hj
    have t1 : (o.k == 1) = false := by have := HJ.out; simp [this]
    have t2 : (o.k == 2) = false := by have := HJ.out; simp [this]
    have t3 : (o.k == 3) = false := by have := HJ.out; simp [this]
    have t4 : (o.k == 4) = false := by have := HJ.out; simp [this]
    have t5 : (o.k == 5) = false := by have := HJ.out; simp [this]
    have t6 : (o.k == 6) = true := by have := HJ.out; simp [this]
    have hv6 : v < 6 := by have := HK.out.2.2.2.2.2.1 (.inl HJ.out); have := HV.out; omega
    have hv6' : (v : Int) < 6 := by omega
    by_cases hvn : v < n
    · have hvn' : (v : Int) < n := by omega
      cases hw : begun s.L (v : Nat)
      · have KD := Lib.hid (show kindO P s u o = 5 by unfold kindO; rw [if_neg (by have := HJ.out; omega), if_neg (by have := HJ.out; omega), if_neg (by have := HJ.out; omega), if_neg (by have := HJ.out; omega), if_pos HJ.out, HV.out, HLN.out]; rw [if_pos ⟨by omega, hw⟩])
        have F := fun (w1 : World) (h1 : Bel W w1) => And.intro (h1.cell c1) (And.intro (h1.cell g_p) (show w1.cell? ⟨M, 1 + v, none⟩ = some (.bool false) by rw [← hw]; exact (HG.out.bel h1).beg hv6))
        have HF := Lib.hid F
        clear F
        clear hw
        go_enter Try.func75, Try.ntmps75
        go_wp2_with fail
        (refine region_bel (by kernel_rfl) (by kernel_rfl) ?_; (repeat (first | ((with_reducible refine BigFrame.wpQuiet_skip ?_ ?_); exact rfl; simp only [Act.put, Act.eval, List.setIfInBounds_toArray, List.set_cons_zero, List.set_cons_succ, Array.getD_eq_getD_getElem?, List.getElem?_toArray, List.getElem?_cons_zero, List.getElem?_cons_succ, Option.getD_some]) | (refine q_move _ rfl rfl ?_; simp only [Act.put, Act.eval, List.setIfInBounds_toArray, List.set_cons_zero, List.set_cons_succ, Array.getD_eq_getD_getElem?, List.getElem?_toArray, List.getElem?_cons_zero, List.getElem?_cons_succ, Option.getD_some]) | (refine q_assign _ rfl rfl ?_; simp only [Act.put, Act.eval, List.setIfInBounds_toArray, List.set_cons_zero, List.set_cons_succ, Array.getD_eq_getD_getElem?, List.getElem?_toArray, List.getElem?_cons_zero, List.getElem?_cons_succ, Option.getD_some]) | (refine q_any rfl ?_; apply Exists.intro; refine ⟨fun w hw => ?_, ?_⟩; (have fct0 := HF.out w hw; go_simp; first | exact ⟨rfl, rfl⟩ | rfl); simp only [Act.put, Act.eval, List.setIfInBounds_toArray, List.set_cons_zero, List.set_cons_succ, Array.getD_eq_getD_getElem?, List.getElem?_toArray, List.getElem?_cons_zero, List.getElem?_cons_succ, Option.getD_some]))); refine wpQuiet_nil ?_; intro w2 hw2)
        have HG2 := Lib.hid (HG.out.bel hw2)
        have HW2 := Lib.hid (HW.out.bel hw2)
        have d1 := hw2.cell c1
        clear hW0 c0 c1 c2 g_has z_has g_p hw2
        have z_beg := HG2.out.box.frozen (1 + v)
        have g_beg := HG2.out.beg hv6
        go_wp2_with fail
        (refine wp_region_still_tail 6 (by kernel_rfl) (by kernel_rfl) ?_; simp only [List.take_succ_cons, List.take_zero, List.drop_succ_cons, List.drop_zero]; (repeat (first | ((with_reducible refine s_skip ?_ ?_); exact rfl; simp only [Act.put, Act.eval, List.setIfInBounds_toArray, List.set_cons_zero, List.set_cons_succ, Array.getD_eq_getD_getElem?, List.getElem?_toArray, List.getElem?_cons_zero, List.getElem?_cons_succ, Option.getD_some]) | ((with_reducible refine wpStill_step ?_); intro K hK; go_simp; (with_reducible refine hK _ ?_); clear hK K))); (with_reducible refine wpStill_nil ?_))
        change wpList _ _ _ _ _ w2.drew
        go_wp2
        go_ret
        refine ⟨by rw [KD.out]; rfl, ?_, (HW2.out.bel (Bel.refl w2).drew).setC (1 + v) _⟩
        refine (HG2.out.drew.setB (v := true) hv6).to (fun t _ => ?_) (fun _ _ => rfl) (fun t _ => ?_) (fun _ _ => by show nat (memO s u o) _ = _; rw [memO_no (by have := HJ.out; omega)]; rfl) (fun _ _ => by show nat (volO s u o) _ = _; rw [volO_no (by have := HJ.out; omega)]; rfl) (fun _ _ => by show hasO s u o _ = _; rw [hasO_no (by have := HJ.out; omega) (by have := HJ.out; omega) (by have := HJ.out; omega)]; rfl)
        · rw [step_b, KD.out, HV.out]
          show _ = upF (mcP s).b v true t
          unfold upF
          by_cases h : t = v
          · subst h; simp
          · rw [if_neg h, decide_eq_false (by omega), Bool.or_false]; rfl
        · rw [step_o, KD.out, if_neg (by omega), if_neg (by omega)]; rfl
      · have KD := Lib.hid (show kindO P s u o = 0 by unfold kindO; rw [if_neg (by have := HJ.out; omega), if_neg (by have := HJ.out; omega), if_neg (by have := HJ.out; omega), if_neg (by have := HJ.out; omega), if_pos HJ.out, HV.out, HLN.out]; rw [if_neg (by rw [hw]; simp)])
        have F := fun (w1 : World) (h1 : Bel W w1) => And.intro (h1.cell c1) (And.intro (h1.cell g_p) (show w1.cell? ⟨M, 1 + v, none⟩ = some (.bool true) by rw [← hw]; exact (HG.out.bel h1).beg hv6))
        have HF := Lib.hid F
        clear F
        clear hw
        go_enter Try.func75, Try.ntmps75
        go_wp2_with fail
        (refine region_bel (by kernel_rfl) (by kernel_rfl) ?_; (repeat (first | ((with_reducible refine BigFrame.wpQuiet_skip ?_ ?_); exact rfl; simp only [Act.put, Act.eval, List.setIfInBounds_toArray, List.set_cons_zero, List.set_cons_succ, Array.getD_eq_getD_getElem?, List.getElem?_toArray, List.getElem?_cons_zero, List.getElem?_cons_succ, Option.getD_some]) | (refine q_move _ rfl rfl ?_; simp only [Act.put, Act.eval, List.setIfInBounds_toArray, List.set_cons_zero, List.set_cons_succ, Array.getD_eq_getD_getElem?, List.getElem?_toArray, List.getElem?_cons_zero, List.getElem?_cons_succ, Option.getD_some]) | (refine q_assign _ rfl rfl ?_; simp only [Act.put, Act.eval, List.setIfInBounds_toArray, List.set_cons_zero, List.set_cons_succ, Array.getD_eq_getD_getElem?, List.getElem?_toArray, List.getElem?_cons_zero, List.getElem?_cons_succ, Option.getD_some]) | (refine q_any rfl ?_; apply Exists.intro; refine ⟨fun w hw => ?_, ?_⟩; (have fct0 := HF.out w hw; go_simp; first | exact ⟨rfl, rfl⟩ | rfl); simp only [Act.put, Act.eval, List.setIfInBounds_toArray, List.set_cons_zero, List.set_cons_succ, Array.getD_eq_getD_getElem?, List.getElem?_toArray, List.getElem?_cons_zero, List.getElem?_cons_succ, Option.getD_some]))); refine wpQuiet_nil ?_; intro w2 hw2)
        have HG2 := Lib.hid (HG.out.bel hw2)
        have HW2 := Lib.hid (HW.out.bel hw2)
        have d1 := hw2.cell c1
        clear hW0 c0 c1 c2 g_has z_has g_p hw2
        go_wp2
        go_ret
        exact ⟨by rw [KD.out]; rfl, to_step HG2.out (by rw [KD.out]; decide) (by rw [KD.out]; decide) (by rw [KD.out]; decide) rfl rfl rfl (by rw [memO_no (by have := HJ.out; omega)]; rfl) (by rw [volO_no (by have := HJ.out; omega)]; rfl) (by rw [hasO_no (by have := HJ.out; omega) (by have := HJ.out; omega) (by have := HJ.out; omega)]; rfl), HW2.out⟩
    · have hvn' : ¬ (v : Int) < n := by omega
      have KD := Lib.hid (show kindO P s u o = 0 by unfold kindO; rw [if_neg (by have := HJ.out; omega), if_neg (by have := HJ.out; omega), if_neg (by have := HJ.out; omega), if_neg (by have := HJ.out; omega), if_pos HJ.out, HV.out, HLN.out]; rw [if_neg (by omega)])
      have F := fun (w1 : World) (h1 : Bel W w1) => And.intro (h1.cell c1) (h1.cell g_p)
      have HF := Lib.hid F
      clear F
      go_enter Try.func75, Try.ntmps75
      go_wp2_with fail
      (refine region_bel (by kernel_rfl) (by kernel_rfl) ?_; (repeat (first | ((with_reducible refine BigFrame.wpQuiet_skip ?_ ?_); exact rfl; simp only [Act.put, Act.eval, List.setIfInBounds_toArray, List.set_cons_zero, List.set_cons_succ, Array.getD_eq_getD_getElem?, List.getElem?_toArray, List.getElem?_cons_zero, List.getElem?_cons_succ, Option.getD_some]) | (refine q_move _ rfl rfl ?_; simp only [Act.put, Act.eval, List.setIfInBounds_toArray, List.set_cons_zero, List.set_cons_succ, Array.getD_eq_getD_getElem?, List.getElem?_toArray, List.getElem?_cons_zero, List.getElem?_cons_succ, Option.getD_some]) | (refine q_assign _ rfl rfl ?_; simp only [Act.put, Act.eval, List.setIfInBounds_toArray, List.set_cons_zero, List.set_cons_succ, Array.getD_eq_getD_getElem?, List.getElem?_toArray, List.getElem?_cons_zero, List.getElem?_cons_succ, Option.getD_some]) | (refine q_any rfl ?_; apply Exists.intro; refine ⟨fun w hw => ?_, ?_⟩; (have fct0 := HF.out w hw; go_simp; first | exact ⟨rfl, rfl⟩ | rfl); simp only [Act.put, Act.eval, List.setIfInBounds_toArray, List.set_cons_zero, List.set_cons_succ, Array.getD_eq_getD_getElem?, List.getElem?_toArray, List.getElem?_cons_zero, List.getElem?_cons_succ, Option.getD_some]))); refine wpQuiet_nil ?_; intro w2 hw2)
      have HG2 := Lib.hid (HG.out.bel hw2)
      have HW2 := Lib.hid (HW.out.bel hw2)
      have d1 := hw2.cell c1
      clear hW0 c0 c1 c2 g_has z_has g_p hw2
      go_wp2
      go_ret
      exact ⟨by rw [KD.out]; rfl, to_step HG2.out (by rw [KD.out]; decide) (by rw [KD.out]; decide) (by rw [KD.out]; decide) rfl rfl rfl (by rw [memO_no (by have := HJ.out; omega)]; rfl) (by rw [volO_no (by have := HJ.out; omega)]; rfl) (by rw [hasO_no (by have := HJ.out; omega) (by have := HJ.out; omega) (by have := HJ.out; omega)]; rfl), HW2.out⟩
  · have HJ := Lib.hid hj
    clear hj
    have t1 : (o.k == 1) = false := by have := HJ.out; simp [this]
    have t2 : (o.k == 2) = false := by have := HJ.out; simp [this]
    have t3 : (o.k == 3) = false := by have := HJ.out; simp [this]
    have t4 : (o.k == 4) = false := by have := HJ.out; simp [this]
    have t5 : (o.k == 5) = false := by have := HJ.out; simp [this]
    have t6 : (o.k == 6) = false := by have := HJ.out; simp [this]
    have t7 : (o.k == 7) = true := by have := HJ.out; simp [this]
    have KD := Lib.hid (show kindO P s u o = 6 by rw [kind_of (by have := HJ.out; omega) (by have := HJ.out; omega), HJ.out]; rfl)
    go_enter Try.func75, Try.ntmps75
    go_wp2
    go_ret
    exact ⟨by rw [KD.out]; rfl, to_step HG.out (by rw [KD.out]; decide) (by rw [KD.out]; decide) (by rw [KD.out]; decide) rfl rfl rfl (by rw [memO_no (by have := HJ.out; omega)]; rfl) (by rw [volO_no (by have := HJ.out; omega)]; rfl) (by rw [hasO_no (by have := HJ.out; omega) (by have := HJ.out; omega) (by have := HJ.out; omega)]; rfl), HW.out⟩
  · have HJ := Lib.hid hj
    clear hj
    have t1 : (o.k == 1) = false := by have := HJ.out; simp [this]
    have t2 : (o.k == 2) = false := by have := HJ.out; simp [this]
    have t3 : (o.k == 3) = false := by have := HJ.out; simp [this]
    have t4 : (o.k == 4) = false := by have := HJ.out; simp [this]
    have t5 : (o.k == 5) = false := by have := HJ.out; simp [this]
    have t6 : (o.k == 6) = false := by have := HJ.out; simp [this]
    have t7 : (o.k == 7) = false := by have := HJ.out; simp [this]
    have t8 : (o.k == 8) = true := by have := HJ.out; simp [this]
    have KD := Lib.hid (show kindO P s u o = 7 by rw [kind_of (by have := HJ.out; omega) (by have := HJ.out; omega), HJ.out]; rfl)
    have hv8 : v < 4 := by have := HK.out.2.2.2.2.2.2 (.inl HJ.out); have := HV.out; omega
    have hv8' : (v : Int) < 4 := by omega
    have g_mem := HG.out.vol hv8
    have z_mem := HG.out.box.frozen (26 + v)
    go_enter Try.func75, Try.ntmps75
    go_wp2_with fail
    (refine wp_region_still_tail 10 (by kernel_rfl) (by kernel_rfl) ?_; simp only [List.take_succ_cons, List.take_zero, List.drop_succ_cons, List.drop_zero]; (repeat (first | ((with_reducible refine s_skip ?_ ?_); exact rfl; simp only [Act.put, Act.eval, List.setIfInBounds_toArray, List.set_cons_zero, List.set_cons_succ, Array.getD_eq_getD_getElem?, List.getElem?_toArray, List.getElem?_cons_zero, List.getElem?_cons_succ, Option.getD_some]) | ((with_reducible refine wpStill_step ?_); intro K hK; go_simp; (with_reducible refine hK _ ?_); clear hK K))); (with_reducible refine wpStill_nil ?_))
    change wpList _ _ _ _ _ W.drew
    go_wp2
    go_ret
    exact ⟨by rw [KD.out]; rfl, to_step (HG.out.drew.setHas (v := s.vol (v : Nat)) hu6) (by rw [KD.out]; decide) (by rw [KD.out]; decide) (by rw [KD.out]; decide) rfl rfl rfl (by rw [memO_no (by have := HJ.out; omega)]; rfl) (by rw [volO_no (by have := HJ.out; omega)]; rfl) (by rw [hasO_8 HJ.out, HV.out]; rfl), (HW.out.bel (Bel.refl W).drew).setC (30 + u) _⟩
  · have HJ := Lib.hid hj
    clear hj
    have t1 : (o.k == 1) = false := by have := HJ.out; simp [this]
    have t2 : (o.k == 2) = false := by have := HJ.out; simp [this]
    have t3 : (o.k == 3) = false := by have := HJ.out; simp [this]
    have t4 : (o.k == 4) = false := by have := HJ.out; simp [this]
    have t5 : (o.k == 5) = false := by have := HJ.out; simp [this]
    have t6 : (o.k == 6) = false := by have := HJ.out; simp [this]
    have t7 : (o.k == 7) = false := by have := HJ.out; simp [this]
    have t8 : (o.k == 8) = false := by have := HJ.out; simp [this]
    have t9 : (o.k == 9) = true := by have := HJ.out; simp [this]
    have KD := Lib.hid (show kindO P s u o = 8 by rw [kind_of (by have := HJ.out; omega) (by have := HJ.out; omega), HJ.out]; rfl)
    have hv8 : v < 4 := by have := HK.out.2.2.2.2.2.2 (.inr HJ.out); have := HV.out; omega
    have hv8' : (v : Int) < 4 := by omega
    have g_mem := HG.out.vol hv8
    have z_mem := HG.out.box.frozen (26 + v)
    go_enter Try.func75, Try.ntmps75
    go_wp2_with fail
    (refine wp_region_still_tail 10 (by kernel_rfl) (by kernel_rfl) ?_; simp only [List.take_succ_cons, List.take_zero, List.drop_succ_cons, List.drop_zero]; (repeat (first | ((with_reducible refine s_skip ?_ ?_); exact rfl; simp only [Act.put, Act.eval, List.setIfInBounds_toArray, List.set_cons_zero, List.set_cons_succ, Array.getD_eq_getD_getElem?, List.getElem?_toArray, List.getElem?_cons_zero, List.getElem?_cons_succ, Option.getD_some]) | ((with_reducible refine wpStill_step ?_); intro K hK; go_simp; (with_reducible refine hK _ ?_); clear hK K))); (with_reducible refine wpStill_nil ?_))
    change wpList _ _ _ _ _ W.drew
    go_wp2
    go_ret
    exact ⟨by rw [KD.out]; rfl, to_step (HG.out.drew.setVol (v := s.has u) hv8) (by rw [KD.out]; decide) (by rw [KD.out]; decide) (by rw [KD.out]; decide) rfl rfl rfl (by rw [memO_no (by have := HJ.out; omega)]; rfl) (by rw [volO_at HJ.out, HV.out, nat_upd]; rfl) (by rw [hasO_no (by have := HJ.out; omega) (by have := HJ.out; omega) (by have := HJ.out; omega)]; rfl), (HW.out.bel (Bel.refl W).drew).setC (26 + v) _⟩
end Go.Proofs.Ytecdilijcjgjmaa

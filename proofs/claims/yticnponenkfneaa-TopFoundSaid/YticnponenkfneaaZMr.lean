import Derived.Deep.DeepCutAuto
import Derived.Test.YticnponenkfneaaZMb
import Derived.Test.YticnponenkfneaaZRpR
import Derived.Test.YticnponenkfneaaZCk3
set_option linter.all false
set_option maxRecDepth 100000
namespace Go.Proofs.Yticnponenkfneaa
open Go Go.RowKit

def mcQ (s : Ps) (u : Nat) : Mc := { mcP s with a := upF s.a u (s.a u + 1) }
theorem step_b (P : List (List Ev)) (s : Ps) (u : Nat) (o : Ev) (t : Nat) : (mcP (stepO P s u o)).b t = (begun s.L (t : Nat) || decide (kindO P s u o = 5 ∧ o.t = t)) := by
  show begun (s.L ++ evO P s u o) (t : Nat) = _
  unfold evO
  split
  · rename_i h
    rw [List.append_nil, decide_eq_false (by omega), Bool.or_false]
  · rw [begun_snoc]
theorem step_o (P : List (List Ev)) (s : Ps) (u : Nat) (o : Ev) (k : Nat) : (mcP (stepO P s u o)).o k = if kindO P s u o = 3 ∧ o.t = k then (u : Int) else if kindO P s u o = 4 ∧ o.t = k then -1 else owner s.L (k : Nat) := by
  show owner (s.L ++ evO P s u o) (k : Nat) = _
  unfold evO
  split
  · rename_i h
    rw [List.append_nil, if_neg (by omega), if_neg (by omega)]
  · rw [owner_snoc]
    show (if o.t = (k : Nat) ∧ kindO P s u o = 4 then (-1 : Int) else if o.t = (k : Nat) ∧ kindO P s u o = 3 then (u : Int) else owner s.L (k : Nat)) = _
    by_cases h3 : kindO P s u o = 3
    · by_cases hk : o.t = (k : Nat)
      · rw [if_neg (by omega), if_pos ⟨hk, h3⟩, if_pos ⟨h3, hk⟩]
      · rw [if_neg (fun h => hk h.1), if_neg (fun h => hk h.1), if_neg (fun h => hk h.2), if_neg (fun h => hk h.2)]
    · rw [if_neg (c := o.t = (k : Nat) ∧ kindO P s u o = 3) (fun h => h3 h.2), if_neg (c := kindO P s u o = 3 ∧ o.t = (k : Nat)) (fun h => h3 h.1)]
      simp only [and_comm]
variable {w w' : World} {M : Nat} {A : Option Addr} {n c : Nat} {s : Ps} {LV : Value}
theorem to_step {P : List (List Ev)} {u : Nat} {o : Ev} {x : Mc} (h : MBx w M A n c x LV) (hk3 : kindO P s u o ≠ 3) (hk4 : kindO P s u o ≠ 4) (hk5 : kindO P s u o ≠ 5) (hb : x.b = (mcP s).b) (ha : x.a = upF s.a u (s.a u + 1)) (ho : x.o = (mcP s).o) (hm : x.m = nat (memO s u o)) (hv : x.v = nat (volO s u o)) (hh : x.h = hasO s u o) :
    MBx w M A n c (mcP (stepO P s u o)) LV :=
  h.to (fun t _ => by rw [step_b, hb, decide_eq_false (fun h => hk5 h.1), Bool.or_false]; rfl) (fun t _ => by rw [ha]; rfl) (fun t _ => by rw [step_o, ho, if_neg (fun h => hk3 h.1), if_neg (fun h => hk4 h.1)]; rfl)
    (fun t _ => by rw [hm]; rfl) (fun t _ => by rw [hv]; rfl) (fun t _ => by rw [hh]; rfl)
def ExPost (w : World) (M : Nat) (A : Option Addr) (n c : Nat) (P : List (List Ev)) (s : Ps) (u : Nat) (o : Ev) (LV : Value) (e : Ending) (w' : World) : Prop :=
  e = .returned (.int .i64 (kindO P s u o)) ∧ MBx w' M A n c (mcP (stepO P s u o)) LV ∧ Pm M w w'
set_option maxHeartbeats 16000000 in
theorem exec_any (u : Nat) {P : List (List Ev)} {K : Int} {o : Ev} (hb : MBx w M A n c (mcQ s u) LV) (hn : P.length = n) (hi : isOp o = true) (hu : u < n) (h6 : n ≤ 6) (hlim : LimS K s) (hK : K ≤ 1000000) :
    Calls Try.prog 88 #[.pointer (some ⟨M, 0, none⟩), .int .i64 u, .agg (evv o)] w (ExPost w M A n c P s u o LV) := by
  have hu6 : u < 6 := by omega
  have hu6' : (u : Int) < 6 := by omega
  have HK := Lib.hid (isOp_obj hi)
  have HOP := Lib.hid hi
  have HLM := Lib.hid (And.intro hlim hK)
  have HLN := Lib.hid hn
  have hB := (Bel.refl w).alloc (.cells (evv o) 98)
  have HG := Lib.hid (hb.bel hB)
  have HX := Lib.hid (Box.new w (evv o) 98)
  have HW := Lib.hid (Pm.of (M := M) hB)
  clear hb hi hlim hK hn hB
  obtain ⟨v, hv⟩ : ∃ v : Nat, o.t = v := ⟨o.t.toNat, by have := HK.out.2.2.1; omega⟩
  have HV := Lib.hid hv
  have c0 := HX.out.cell 0 (v := .int .i64 o.k) rfl
  have c1 := HX.out.cell 1 (v := .int .i64 o.t) rfl
  have c2 := HX.out.cell 2 (v := .int .i64 o.o) rfl
  rw [hv] at c1
  have g_has := (show (w.alloc (.cells (evv o) 98)).cell? ⟨M, 30 + u, none⟩ = some (.int .i64 (s.has u)) from HG.out.has hu6)
  have z_has := HG.out.box.frozen (30 + u)
  have g_p := HG.out.p
  generalize hW0 : w.alloc (.cells (evv o) 98) = W at *
  clear hv
  rcases (show o.k = 1 ∨ o.k = 2 ∨ o.k = 3 ∨ o.k = 4 ∨ o.k = 5 ∨ o.k = 6 ∨ o.k = 7 ∨ o.k = 8 ∨ o.k = 9 by have := HK.out; omega) with hj | hj | hj | hj | hj | hj | hj | hj | hj
  · have HJ := Lib.hid hj
    clear hj
    have t1 : (o.k == 1) = true := by have := HJ.out; simp [this]
    have KD := Lib.hid (show kindO P s u o = 1 by rw [kind_of (by have := HJ.out; omega) (by have := HJ.out; omega), HJ.out]; rfl)
    have hv8 : v < 8 := by have := HK.out.2.2.2.1 (.inl HJ.out); have := HV.out; omega
    have hv8' : (v : Int) < 8 := by omega
    have g_mem := HG.out.mem hv8
    have z_mem := HG.out.box.frozen (18 + v)
    go_enter Try.func88, Try.ntmps88
    go_wp2_with fail
    (refine wp_region_still_tail 10 (by kernel_rfl) (by kernel_rfl) ?_; simp only [List.take_succ_cons, List.take_zero, List.drop_succ_cons, List.drop_zero]; (repeat (first | ((with_reducible refine s_skip ?_ ?_); exact rfl; simp only [Act.put, Act.eval, List.setIfInBounds_toArray, List.set_cons_zero, List.set_cons_succ, Array.getD_eq_getD_getElem?, List.getElem?_toArray, List.getElem?_cons_zero, List.getElem?_cons_succ, Option.getD_some]) | ((with_reducible refine wpStill_step ?_); intro K hK; go_simp; (with_reducible refine hK _ ?_); clear hK K))); (with_reducible refine wpStill_nil ?_))
    change wpList _ _ _ _ _ W.drew
    go_wp2
    go_ret
    exact ⟨by rw [KD.out]; rfl, to_step (HG.out.drew.setHas (v := s.mem (v : Nat)) hu6) (by rw [KD.out]; decide) (by rw [KD.out]; decide) (by rw [KD.out]; decide) rfl rfl rfl (by rw [memO_no (by have := HJ.out; omega)]; rfl) (by rw [volO_no (by have := HJ.out; omega)]; rfl) (by rw [hasO_1 HJ.out, HV.out]; rfl), (HW.out.bel (Bel.refl W).drew).setC (30 + u) _⟩
  · have HJ := Lib.hid hj
    clear hj
    have t1 : (o.k == 1) = false := by have := HJ.out; simp [this]
    have t2 : (o.k == 2) = true := by have := HJ.out; simp [this]
    have KD := Lib.hid (show kindO P s u o = 2 by rw [kind_of (by have := HJ.out; omega) (by have := HJ.out; omega), HJ.out]; rfl)
    have hv8 : v < 8 := by have := HK.out.2.2.2.1 (.inr HJ.out); have := HV.out; omega
    have hv8' : (v : Int) < 8 := by omega
    have g_mem := HG.out.mem hv8
    have z_mem := HG.out.box.frozen (18 + v)
    go_enter Try.func88, Try.ntmps88
    go_wp2_with fail
    (refine wp_region_still_tail 10 (by kernel_rfl) (by kernel_rfl) ?_; simp only [List.take_succ_cons, List.take_zero, List.drop_succ_cons, List.drop_zero]; (repeat (first | ((with_reducible refine s_skip ?_ ?_); exact rfl; simp only [Act.put, Act.eval, List.setIfInBounds_toArray, List.set_cons_zero, List.set_cons_succ, Array.getD_eq_getD_getElem?, List.getElem?_toArray, List.getElem?_cons_zero, List.getElem?_cons_succ, Option.getD_some]) | ((with_reducible refine wpStill_step ?_); intro K hK; go_simp; (with_reducible refine hK _ ?_); clear hK K))); (with_reducible refine wpStill_nil ?_))
    change wpList _ _ _ _ _ W.drew
    go_wp2
    go_ret
    exact ⟨by rw [KD.out]; rfl, to_step (HG.out.drew.setMem (v := s.has u) hv8) (by rw [KD.out]; decide) (by rw [KD.out]; decide) (by rw [KD.out]; decide) rfl rfl rfl (by rw [memO_at HJ.out, HV.out, nat_upd]; rfl) (by rw [volO_no (by have := HJ.out; omega)]; rfl) (by rw [hasO_no (by have := HJ.out; omega) (by have := HJ.out; omega) (by have := HJ.out; omega)]; rfl), (HW.out.bel (Bel.refl W).drew).setC (18 + v) _⟩
  · have HJ := Lib.hid hj
    clear hj
    have t1 : (o.k == 1) = false := by have := HJ.out; simp [this]
    have t2 : (o.k == 2) = false := by have := HJ.out; simp [this]
    have t3 : (o.k == 3) = true := by have := HJ.out; simp [this]
    have KD := Lib.hid (show kindO P s u o = 0 by rw [kind_of (by have := HJ.out; omega) (by have := HJ.out; omega), HJ.out]; rfl)
    have hwh : IntKind.i64.wrap (s.has u + o.o) = s.has u + o.o := IntWalk.i64_in _ (by have := (HLM.out.1.has u).1; have := (HLM.out.1.has u).2; have := HLM.out.2; have := (isOp_num HOP.out).1; have := (isOp_num HOP.out).2; omega)
    go_enter Try.func88, Try.ntmps88
    go_wp2_with fail
    (refine wp_region_still_tail 7 (by kernel_rfl) (by kernel_rfl) ?_; simp only [List.take_succ_cons, List.take_zero, List.drop_succ_cons, List.drop_zero]; (repeat (first | ((with_reducible refine s_skip ?_ ?_); exact rfl; simp only [Act.put, Act.eval, List.setIfInBounds_toArray, List.set_cons_zero, List.set_cons_succ, Array.getD_eq_getD_getElem?, List.getElem?_toArray, List.getElem?_cons_zero, List.getElem?_cons_succ, Option.getD_some]) | ((with_reducible refine wpStill_step ?_); intro K hK; go_simp; (with_reducible refine hK _ ?_); clear hK K))); (with_reducible refine wpStill_nil ?_))
    change wpList _ _ _ _ _ W.drew
    go_wp2
    go_ret
    exact ⟨by rw [KD.out]; rfl, to_step (HG.out.drew.setHas (v := s.has u + o.o) hu6) (by rw [KD.out]; decide) (by rw [KD.out]; decide) (by rw [KD.out]; decide) rfl rfl rfl (by rw [memO_no (by have := HJ.out; omega)]; rfl) (by rw [volO_no (by have := HJ.out; omega)]; rfl) (by rw [hasO_3 HJ.out]; rfl), (HW.out.bel (Bel.refl W).drew).setC (30 + u) _⟩
  · have HJ := Lib.hid hj
    clear hj
    have t1 : (o.k == 1) = false := by have := HJ.out; simp [this]
    have t2 : (o.k == 2) = false := by have := HJ.out; simp [this]
    have t3 : (o.k == 3) = false := by have := HJ.out; simp [this]
    have t4 : (o.k == 4) = true := by have := HJ.out; simp [this]
    have KD := Lib.hid (show kindO P s u o = 3 by rw [kind_of (by have := HJ.out; omega) (by have := HJ.out; omega), HJ.out]; rfl)
    have hv5 : v < 5 := by have := HK.out.2.2.2.2.1 (.inl HJ.out); have := HV.out; omega
    have hv5' : (v : Int) < 5 := by omega
    have g_own := HG.out.own hv5
    have z_own := HG.out.box.frozen (13 + v)
    go_enter Try.func88, Try.ntmps88
    go_wp2_with fail
    (refine wp_region_still_tail 7 (by kernel_rfl) (by kernel_rfl) ?_; simp only [List.take_succ_cons, List.take_zero, List.drop_succ_cons, List.drop_zero]; (repeat (first | ((with_reducible refine s_skip ?_ ?_); exact rfl; simp only [Act.put, Act.eval, List.setIfInBounds_toArray, List.set_cons_zero, List.set_cons_succ, Array.getD_eq_getD_getElem?, List.getElem?_toArray, List.getElem?_cons_zero, List.getElem?_cons_succ, Option.getD_some]) | ((with_reducible refine wpStill_step ?_); intro K hK; go_simp; (with_reducible refine hK _ ?_); clear hK K))); (with_reducible refine wpStill_nil ?_))
    change wpList _ _ _ _ _ W.drew
    go_wp2
    go_ret
    refine ⟨by rw [KD.out]; rfl, ?_, (HW.out.bel (Bel.refl W).drew).setC (13 + v) _⟩
    refine (HG.out.drew.setO (v := (u : Int)) hv5).to (fun t _ => ?_) (fun _ _ => rfl) (fun t _ => ?_) (fun _ _ => by show nat (memO s u o) _ = _; rw [memO_no (by have := HJ.out; omega)]; rfl) (fun _ _ => by show nat (volO s u o) _ = _; rw [volO_no (by have := HJ.out; omega)]; rfl) (fun _ _ => by show hasO s u o _ = _; rw [hasO_no (by have := HJ.out; omega) (by have := HJ.out; omega) (by have := HJ.out; omega)]; rfl)
    · rw [step_b, KD.out, decide_eq_false (by omega), Bool.or_false]; rfl
    · rw [step_o, KD.out, HV.out]
      show _ = upF (mcP s).o v (u : Int) t
      unfold upF
      by_cases h : t = v
      · subst h; simp
      · rw [if_neg h, if_neg (by omega), if_neg (by omega)]; rfl
  · have HJ := Lib.hid hj
    clear hj
    have t1 : (o.k == 1) = false := by have := HJ.out; simp [this]
    have t2 : (o.k == 2) = false := by have := HJ.out; simp [this]
    have t3 : (o.k == 3) = false := by have := HJ.out; simp [this]
    have t4 : (o.k == 4) = false := by have := HJ.out; simp [this]
    have t5 : (o.k == 5) = true := by have := HJ.out; simp [this]
    have hv5 : v < 5 := by have := HK.out.2.2.2.2.1 (.inr HJ.out); have := HV.out; omega
    have hv5' : (v : Int) < 5 := by omega
    have F := fun (w1 : World) (h1 : Bel W w1) => And.intro (h1.cell c1) (show w1.cell? ⟨M, 13 + v, none⟩ = some (.int .i64 (owner s.L (v : Nat))) from (HG.out.bel h1).own hv5)
    have HF := Lib.hid F
    clear F
    have HMO := Lib.hid (show ∀ t, (mcP (stepO P s u o)).b t = (mcP s).b t ∨ kindO P s u o = 5 from fun t => by by_cases h : kindO P s u o = 5; exact .inr h; exact .inl (by rw [step_b, decide_eq_false (fun g => h g.1), Bool.or_false]; rfl))
    by_cases hw : owner s.L (v : Nat) = (u : Nat)
    · have KD := Lib.hid (show kindO P s u o = 4 by unfold kindO; rw [if_neg (by have := HJ.out; omega), if_neg (by have := HJ.out; omega), if_neg (by have := HJ.out; omega), if_pos HJ.out, HV.out, if_pos hw])
      have hq : (owner s.L (v : Nat) == (u : Int)) = true := by simpa using hw
      clear hw
      go_enter Try.func88, Try.ntmps88
      go_wp2_with fail
      (refine region_bel (by kernel_rfl) (by kernel_rfl) ?_; (repeat (first | ((with_reducible refine BigFrame.wpQuiet_skip ?_ ?_); exact rfl; simp only [Act.put, Act.eval, List.setIfInBounds_toArray, List.set_cons_zero, List.set_cons_succ, Array.getD_eq_getD_getElem?, List.getElem?_toArray, List.getElem?_cons_zero, List.getElem?_cons_succ, Option.getD_some]) | (refine q_move _ rfl rfl ?_; simp only [Act.put, Act.eval, List.setIfInBounds_toArray, List.set_cons_zero, List.set_cons_succ, Array.getD_eq_getD_getElem?, List.getElem?_toArray, List.getElem?_cons_zero, List.getElem?_cons_succ, Option.getD_some]) | (refine q_assign _ rfl rfl ?_; simp only [Act.put, Act.eval, List.setIfInBounds_toArray, List.set_cons_zero, List.set_cons_succ, Array.getD_eq_getD_getElem?, List.getElem?_toArray, List.getElem?_cons_zero, List.getElem?_cons_succ, Option.getD_some]) | (refine q_any rfl ?_; apply Exists.intro; refine ⟨fun w hw => ?_, ?_⟩; (have fct0 := HF.out w hw; go_simp; first | exact ⟨rfl, rfl⟩ | rfl); simp only [Act.put, Act.eval, List.setIfInBounds_toArray, List.set_cons_zero, List.set_cons_succ, Array.getD_eq_getD_getElem?, List.getElem?_toArray, List.getElem?_cons_zero, List.getElem?_cons_succ, Option.getD_some]))); refine wpQuiet_nil ?_; intro w2 hw2)
      have HG2 := Lib.hid (HG.out.bel hw2)
      have HW2 := Lib.hid (HW.out.bel hw2)
      have d1 := hw2.cell c1
      have z_own := HG2.out.box.frozen (13 + v)
      have g_own := HG2.out.own hv5
      clear hW0 c0 c1 c2 g_has z_has g_p hw2
      go_wp2_with fail
      (refine wp_region_still_tail 6 (by kernel_rfl) (by kernel_rfl) ?_; simp only [List.take_succ_cons, List.take_zero, List.drop_succ_cons, List.drop_zero]; (repeat (first | ((with_reducible refine s_skip ?_ ?_); exact rfl; simp only [Act.put, Act.eval, List.setIfInBounds_toArray, List.set_cons_zero, List.set_cons_succ, Array.getD_eq_getD_getElem?, List.getElem?_toArray, List.getElem?_cons_zero, List.getElem?_cons_succ, Option.getD_some]) | ((with_reducible refine wpStill_step ?_); intro K hK; go_simp; (with_reducible refine hK _ ?_); clear hK K))); (with_reducible refine wpStill_nil ?_))
      change wpList _ _ _ _ _ w2.drew
      go_wp2
      go_ret
      refine ⟨by rw [KD.out]; rfl, ?_, (HW2.out.bel (Bel.refl w2).drew).setC (13 + v) _⟩
      refine (HG2.out.drew.setO (v := (-1 : Int)) hv5).to (fun t _ => ?_) (fun _ _ => rfl) (fun t _ => ?_) (fun _ _ => by show nat (memO s u o) _ = _; rw [memO_no (by have := HJ.out; omega)]; rfl) (fun _ _ => by show nat (volO s u o) _ = _; rw [volO_no (by have := HJ.out; omega)]; rfl) (fun _ _ => by show hasO s u o _ = _; rw [hasO_no (by have := HJ.out; omega) (by have := HJ.out; omega) (by have := HJ.out; omega)]; rfl)
      · rw [step_b, KD.out, decide_eq_false (by omega), Bool.or_false]; rfl
      · rw [step_o, KD.out, HV.out]
        show _ = upF (mcP s).o v (-1 : Int) t
        unfold upF
        by_cases h : t = v
        · subst h; simp
        · rw [if_neg h, if_neg (by omega), if_neg (by omega)]; rfl
    · have KD := Lib.hid (show kindO P s u o = 0 by unfold kindO; rw [if_neg (by have := HJ.out; omega), if_neg (by have := HJ.out; omega), if_neg (by have := HJ.out; omega), if_pos HJ.out, HV.out, if_neg hw])
      have hq : (owner s.L (v : Nat) == (u : Int)) = false := by simpa using hw
      clear hw
      go_enter Try.func88, Try.ntmps88
      go_wp2_with fail
      (refine region_bel (by kernel_rfl) (by kernel_rfl) ?_; (repeat (first | ((with_reducible refine BigFrame.wpQuiet_skip ?_ ?_); exact rfl; simp only [Act.put, Act.eval, List.setIfInBounds_toArray, List.set_cons_zero, List.set_cons_succ, Array.getD_eq_getD_getElem?, List.getElem?_toArray, List.getElem?_cons_zero, List.getElem?_cons_succ, Option.getD_some]) | (refine q_move _ rfl rfl ?_; simp only [Act.put, Act.eval, List.setIfInBounds_toArray, List.set_cons_zero, List.set_cons_succ, Array.getD_eq_getD_getElem?, List.getElem?_toArray, List.getElem?_cons_zero, List.getElem?_cons_succ, Option.getD_some]) | (refine q_assign _ rfl rfl ?_; simp only [Act.put, Act.eval, List.setIfInBounds_toArray, List.set_cons_zero, List.set_cons_succ, Array.getD_eq_getD_getElem?, List.getElem?_toArray, List.getElem?_cons_zero, List.getElem?_cons_succ, Option.getD_some]) | (refine q_any rfl ?_; apply Exists.intro; refine ⟨fun w hw => ?_, ?_⟩; (have fct0 := HF.out w hw; go_simp; first | exact ⟨rfl, rfl⟩ | rfl); simp only [Act.put, Act.eval, List.setIfInBounds_toArray, List.set_cons_zero, List.set_cons_succ, Array.getD_eq_getD_getElem?, List.getElem?_toArray, List.getElem?_cons_zero, List.getElem?_cons_succ, Option.getD_some]))); refine wpQuiet_nil ?_; intro w2 hw2)
      have HG2 := Lib.hid (HG.out.bel hw2)
      have HW2 := Lib.hid (HW.out.bel hw2)
      clear hW0 c0 c1 c2 g_has z_has g_p hw2
      go_wp2
      go_ret
      exact ⟨by rw [KD.out]; rfl, to_step HG2.out (by rw [KD.out]; decide) (by rw [KD.out]; decide) (by rw [KD.out]; decide) rfl rfl rfl (by rw [memO_no (by have := HJ.out; omega)]; rfl) (by rw [volO_no (by have := HJ.out; omega)]; rfl) (by rw [hasO_no (by have := HJ.out; omega) (by have := HJ.out; omega) (by have := HJ.out; omega)]; rfl), HW2.out⟩
  · have HJ := Lib.hid hj
    clear hj
    have t1 : (o.k == 1) = false := by have := HJ.out; simp [this]
    have t2 : (o.k == 2) = false := by have := HJ.out; simp [this]
    have t3 : (o.k == 3) = false := by have := HJ.out; simp [this]
    have t4 : (o.k == 4) = false := by have := HJ.out; simp [this]
    have t5 : (o.k == 5) = false := by have := HJ.out; simp [this]
    have t6 : (o.k == 6) = true := by have := HJ.out; simp [this]
    have hv6 : v < 6 := by have := HK.out.2.2.2.2.2.1 (.inl HJ.out); have := HV.out; omega
    have hv6' : (v : Int) < 6 := by omega
    by_cases hvn : v < n
    · have hvn' : (v : Int) < n := by omega
      cases hw : begun s.L (v : Nat)
      · have KD := Lib.hid (show kindO P s u o = 5 by unfold kindO; rw [if_neg (by have := HJ.out; omega), if_neg (by have := HJ.out; omega), if_neg (by have := HJ.out; omega), if_neg (by have := HJ.out; omega), if_pos HJ.out, HV.out, HLN.out]; rw [if_pos ⟨by omega, hw⟩])
        have F := fun (w1 : World) (h1 : Bel W w1) => And.intro (h1.cell c1) (And.intro (h1.cell g_p) (show w1.cell? ⟨M, 1 + v, none⟩ = some (.bool false) by rw [← hw]; exact (HG.out.bel h1).beg hv6))
        have HF := Lib.hid F
        clear F
        clear hw
        go_enter Try.func88, Try.ntmps88
        go_wp2_with fail
        (refine region_bel (by kernel_rfl) (by kernel_rfl) ?_; (repeat (first | ((with_reducible refine BigFrame.wpQuiet_skip ?_ ?_); exact rfl; simp only [Act.put, Act.eval, List.setIfInBounds_toArray, List.set_cons_zero, List.set_cons_succ, Array.getD_eq_getD_getElem?, List.getElem?_toArray, List.getElem?_cons_zero, List.getElem?_cons_succ, Option.getD_some]) | (refine q_move _ rfl rfl ?_; simp only [Act.put, Act.eval, List.setIfInBounds_toArray, List.set_cons_zero, List.set_cons_succ, Array.getD_eq_getD_getElem?, List.getElem?_toArray, List.getElem?_cons_zero, List.getElem?_cons_succ, Option.getD_some]) | (refine q_assign _ rfl rfl ?_; simp only [Act.put, Act.eval, List.setIfInBounds_toArray, List.set_cons_zero, List.set_cons_succ, Array.getD_eq_getD_getElem?, List.getElem?_toArray, List.getElem?_cons_zero, List.getElem?_cons_succ, Option.getD_some]) | (refine q_any rfl ?_; apply Exists.intro; refine ⟨fun w hw => ?_, ?_⟩; (have fct0 := HF.out w hw; go_simp; first | exact ⟨rfl, rfl⟩ | rfl); simp only [Act.put, Act.eval, List.setIfInBounds_toArray, List.set_cons_zero, List.set_cons_succ, Array.getD_eq_getD_getElem?, List.getElem?_toArray, List.getElem?_cons_zero, List.getElem?_cons_succ, Option.getD_some]))); refine wpQuiet_nil ?_; intro w2 hw2)
        have HG2 := Lib.hid (HG.out.bel hw2)
        have HW2 := Lib.hid (HW.out.bel hw2)
        have d1 := hw2.cell c1
        clear hW0 c0 c1 c2 g_has z_has g_p hw2
        have z_beg := HG2.out.box.frozen (1 + v)
        have g_beg := HG2.out.beg hv6
        go_wp2_with fail
        (refine wp_region_still_tail 6 (by kernel_rfl) (by kernel_rfl) ?_; simp only [List.take_succ_cons, List.take_zero, List.drop_succ_cons, List.drop_zero]; (repeat (first | ((with_reducible refine s_skip ?_ ?_); exact rfl; simp only [Act.put, Act.eval, List.setIfInBounds_toArray, List.set_cons_zero, List.set_cons_succ, Array.getD_eq_getD_getElem?, List.getElem?_toArray, List.getElem?_cons_zero, List.getElem?_cons_succ, Option.getD_some]) | ((with_reducible refine wpStill_step ?_); intro K hK; go_simp; (with_reducible refine hK _ ?_); clear hK K))); (with_reducible refine wpStill_nil ?_))
        change wpList _ _ _ _ _ w2.drew
        go_wp2
        go_ret
        refine ⟨by rw [KD.out]; rfl, ?_, (HW2.out.bel (Bel.refl w2).drew).setC (1 + v) _⟩
        refine (HG2.out.drew.setB (v := true) hv6).to (fun t _ => ?_) (fun _ _ => rfl) (fun t _ => ?_) (fun _ _ => by show nat (memO s u o) _ = _; rw [memO_no (by have := HJ.out; omega)]; rfl) (fun _ _ => by show nat (volO s u o) _ = _; rw [volO_no (by have := HJ.out; omega)]; rfl) (fun _ _ => by show hasO s u o _ = _; rw [hasO_no (by have := HJ.out; omega) (by have := HJ.out; omega) (by have := HJ.out; omega)]; rfl)
        · rw [step_b, KD.out, HV.out]
          show _ = upF (mcP s).b v true t
          unfold upF
          by_cases h : t = v
          · subst h; simp
          · rw [if_neg h, decide_eq_false (by omega), Bool.or_false]; rfl
        · rw [step_o, KD.out, if_neg (by omega), if_neg (by omega)]; rfl
      · have KD := Lib.hid (show kindO P s u o = 0 by unfold kindO; rw [if_neg (by have := HJ.out; omega), if_neg (by have := HJ.out; omega), if_neg (by have := HJ.out; omega), if_neg (by have := HJ.out; omega), if_pos HJ.out, HV.out, HLN.out]; rw [if_neg (by rw [hw]; simp)])
        have F := fun (w1 : World) (h1 : Bel W w1) => And.intro (h1.cell c1) (And.intro (h1.cell g_p) (show w1.cell? ⟨M, 1 + v, none⟩ = some (.bool true) by rw [← hw]; exact (HG.out.bel h1).beg hv6))
        have HF := Lib.hid F
        clear F
        clear hw
        go_enter Try.func88, Try.ntmps88
        go_wp2_with fail
        (refine region_bel (by kernel_rfl) (by kernel_rfl) ?_; (repeat (first | ((with_reducible refine BigFrame.wpQuiet_skip ?_ ?_); exact rfl; simp only [Act.put, Act.eval, List.setIfInBounds_toArray, List.set_cons_zero, List.set_cons_succ, Array.getD_eq_getD_getElem?, List.getElem?_toArray, List.getElem?_cons_zero, List.getElem?_cons_succ, Option.getD_some]) | (refine q_move _ rfl rfl ?_; simp only [Act.put, Act.eval, List.setIfInBounds_toArray, List.set_cons_zero, List.set_cons_succ, Array.getD_eq_getD_getElem?, List.getElem?_toArray, List.getElem?_cons_zero, List.getElem?_cons_succ, Option.getD_some]) | (refine q_assign _ rfl rfl ?_; simp only [Act.put, Act.eval, List.setIfInBounds_toArray, List.set_cons_zero, List.set_cons_succ, Array.getD_eq_getD_getElem?, List.getElem?_toArray, List.getElem?_cons_zero, List.getElem?_cons_succ, Option.getD_some]) | (refine q_any rfl ?_; apply Exists.intro; refine ⟨fun w hw => ?_, ?_⟩; (have fct0 := HF.out w hw; go_simp; first | exact ⟨rfl, rfl⟩ | rfl); simp only [Act.put, Act.eval, List.setIfInBounds_toArray, List.set_cons_zero, List.set_cons_succ, Array.getD_eq_getD_getElem?, List.getElem?_toArray, List.getElem?_cons_zero, List.getElem?_cons_succ, Option.getD_some]))); refine wpQuiet_nil ?_; intro w2 hw2)
        have HG2 := Lib.hid (HG.out.bel hw2)
        have HW2 := Lib.hid (HW.out.bel hw2)
        have d1 := hw2.cell c1
        clear hW0 c0 c1 c2 g_has z_has g_p hw2
        go_wp2
        go_ret
        exact ⟨by rw [KD.out]; rfl, to_step HG2.out (by rw [KD.out]; decide) (by rw [KD.out]; decide) (by rw [KD.out]; decide) rfl rfl rfl (by rw [memO_no (by have := HJ.out; omega)]; rfl) (by rw [volO_no (by have := HJ.out; omega)]; rfl) (by rw [hasO_no (by have := HJ.out; omega) (by have := HJ.out; omega) (by have := HJ.out; omega)]; rfl), HW2.out⟩
    · have hvn' : ¬ (v : Int) < n := by omega
      have KD := Lib.hid (show kindO P s u o = 0 by unfold kindO; rw [if_neg (by have := HJ.out; omega), if_neg (by have := HJ.out; omega), if_neg (by have := HJ.out; omega), if_neg (by have := HJ.out; omega), if_pos HJ.out, HV.out, HLN.out]; rw [if_neg (by omega)])
      have F := fun (w1 : World) (h1 : Bel W w1) => And.intro (h1.cell c1) (h1.cell g_p)
      have HF := Lib.hid F
      clear F
      go_enter Try.func88, Try.ntmps88
      go_wp2_with fail
      (refine region_bel (by kernel_rfl) (by kernel_rfl) ?_; (repeat (first | ((with_reducible refine BigFrame.wpQuiet_skip ?_ ?_); exact rfl; simp only [Act.put, Act.eval, List.setIfInBounds_toArray, List.set_cons_zero, List.set_cons_succ, Array.getD_eq_getD_getElem?, List.getElem?_toArray, List.getElem?_cons_zero, List.getElem?_cons_succ, Option.getD_some]) | (refine q_move _ rfl rfl ?_; simp only [Act.put, Act.eval, List.setIfInBounds_toArray, List.set_cons_zero, List.set_cons_succ, Array.getD_eq_getD_getElem?, List.getElem?_toArray, List.getElem?_cons_zero, List.getElem?_cons_succ, Option.getD_some]) | (refine q_assign _ rfl rfl ?_; simp only [Act.put, Act.eval, List.setIfInBounds_toArray, List.set_cons_zero, List.set_cons_succ, Array.getD_eq_getD_getElem?, List.getElem?_toArray, List.getElem?_cons_zero, List.getElem?_cons_succ, Option.getD_some]) | (refine q_any rfl ?_; apply Exists.intro; refine ⟨fun w hw => ?_, ?_⟩; (have fct0 := HF.out w hw; go_simp; first | exact ⟨rfl, rfl⟩ | rfl); simp only [Act.put, Act.eval, List.setIfInBounds_toArray, List.set_cons_zero, List.set_cons_succ, Array.getD_eq_getD_getElem?, List.getElem?_toArray, List.getElem?_cons_zero, List.getElem?_cons_succ, Option.getD_some]))); refine wpQuiet_nil ?_; intro w2 hw2)
      have HG2 := Lib.hid (HG.out.bel hw2)
      have HW2 := Lib.hid (HW.out.bel hw2)
      have d1 := hw2.cell c1
      clear hW0 c0 c1 c2 g_has z_has g_p hw2
      go_wp2
      go_ret
      exact ⟨by rw [KD.out]; rfl, to_step HG2.out (by rw [KD.out]; decide) (by rw [KD.out]; decide) (by rw [KD.out]; decide) rfl rfl rfl (by rw [memO_no (by have := HJ.out; omega)]; rfl) (by rw [volO_no (by have := HJ.out; omega)]; rfl) (by rw [hasO_no (by have := HJ.out; omega) (by have := HJ.out; omega) (by have := HJ.out; omega)]; rfl), HW2.out⟩
  · have HJ := Lib.hid hj
    clear hj
    have t1 : (o.k == 1) = false := by have := HJ.out; simp [this]
    have t2 : (o.k == 2) = false := by have := HJ.out; simp [this]
    have t3 : (o.k == 3) = false := by have := HJ.out; simp [this]
    have t4 : (o.k == 4) = false := by have := HJ.out; simp [this]
    have t5 : (o.k == 5) = false := by have := HJ.out; simp [this]
    have t6 : (o.k == 6) = false := by have := HJ.out; simp [this]
    have t7 : (o.k == 7) = true := by have := HJ.out; simp [this]
    have KD := Lib.hid (show kindO P s u o = 6 by rw [kind_of (by have := HJ.out; omega) (by have := HJ.out; omega), HJ.out]; rfl)
    go_enter Try.func88, Try.ntmps88
    go_wp2
    go_ret
    exact ⟨by rw [KD.out]; rfl, to_step HG.out (by rw [KD.out]; decide) (by rw [KD.out]; decide) (by rw [KD.out]; decide) rfl rfl rfl (by rw [memO_no (by have := HJ.out; omega)]; rfl) (by rw [volO_no (by have := HJ.out; omega)]; rfl) (by rw [hasO_no (by have := HJ.out; omega) (by have := HJ.out; omega) (by have := HJ.out; omega)]; rfl), HW.out⟩
  · have HJ := Lib.hid hj
    clear hj
    have t1 : (o.k == 1) = false := by have := HJ.out; simp [this]
    have t2 : (o.k == 2) = false := by have := HJ.out; simp [this]
    have t3 : (o.k == 3) = false := by have := HJ.out; simp [this]
    have t4 : (o.k == 4) = false := by have := HJ.out; simp [this]
    have t5 : (o.k == 5) = false := by have := HJ.out; simp [this]
    have t6 : (o.k == 6) = false := by have := HJ.out; simp [this]
    have t7 : (o.k == 7) = false := by have := HJ.out; simp [this]
    have t8 : (o.k == 8) = true := by have := HJ.out; simp [this]
    have KD := Lib.hid (show kindO P s u o = 7 by rw [kind_of (by have := HJ.out; omega) (by have := HJ.out; omega), HJ.out]; rfl)
    have hv8 : v < 4 := by have := HK.out.2.2.2.2.2.2 (.inl HJ.out); have := HV.out; omega
    have hv8' : (v : Int) < 4 := by omega
    have g_mem := HG.out.vol hv8
    have z_mem := HG.out.box.frozen (26 + v)
    go_enter Try.func88, Try.ntmps88
    go_wp2_with fail
    (refine wp_region_still_tail 10 (by kernel_rfl) (by kernel_rfl) ?_; simp only [List.take_succ_cons, List.take_zero, List.drop_succ_cons, List.drop_zero]; (repeat (first | ((with_reducible refine s_skip ?_ ?_); exact rfl; simp only [Act.put, Act.eval, List.setIfInBounds_toArray, List.set_cons_zero, List.set_cons_succ, Array.getD_eq_getD_getElem?, List.getElem?_toArray, List.getElem?_cons_zero, List.getElem?_cons_succ, Option.getD_some]) | ((with_reducible refine wpStill_step ?_); intro K hK; go_simp; (with_reducible refine hK _ ?_); clear hK K))); (with_reducible refine wpStill_nil ?_))
    change wpList _ _ _ _ _ W.drew
    go_wp2
    go_ret
    exact ⟨by rw [KD.out]; rfl, to_step (HG.out.drew.setHas (v := s.vol (v : Nat)) hu6) (by rw [KD.out]; decide) (by rw [KD.out]; decide) (by rw [KD.out]; decide) rfl rfl rfl (by rw [memO_no (by have := HJ.out; omega)]; rfl) (by rw [volO_no (by have := HJ.out; omega)]; rfl) (by rw [hasO_8 HJ.out, HV.out]; rfl), (HW.out.bel (Bel.refl W).drew).setC (30 + u) _⟩
  · have HJ := Lib.hid hj
    clear hj
    have t1 : (o.k == 1) = false := by have := HJ.out; simp [this]
    have t2 : (o.k == 2) = false := by have := HJ.out; simp [this]
    have t3 : (o.k == 3) = false := by have := HJ.out; simp [this]
    have t4 : (o.k == 4) = false := by have := HJ.out; simp [this]
    have t5 : (o.k == 5) = false := by have := HJ.out; simp [this]
    have t6 : (o.k == 6) = false := by have := HJ.out; simp [this]
    have t7 : (o.k == 7) = false := by have := HJ.out; simp [this]
    have t8 : (o.k == 8) = false := by have := HJ.out; simp [this]
    have t9 : (o.k == 9) = true := by have := HJ.out; simp [this]
    have KD := Lib.hid (show kindO P s u o = 8 by rw [kind_of (by have := HJ.out; omega) (by have := HJ.out; omega), HJ.out]; rfl)
    have hv8 : v < 4 := by have := HK.out.2.2.2.2.2.2 (.inr HJ.out); have := HV.out; omega
    have hv8' : (v : Int) < 4 := by omega
    have g_mem := HG.out.vol hv8
    have z_mem := HG.out.box.frozen (26 + v)
    go_enter Try.func88, Try.ntmps88
    go_wp2_with fail
    (refine wp_region_still_tail 10 (by kernel_rfl) (by kernel_rfl) ?_; simp only [List.take_succ_cons, List.take_zero, List.drop_succ_cons, List.drop_zero]; (repeat (first | ((with_reducible refine s_skip ?_ ?_); exact rfl; simp only [Act.put, Act.eval, List.setIfInBounds_toArray, List.set_cons_zero, List.set_cons_succ, Array.getD_eq_getD_getElem?, List.getElem?_toArray, List.getElem?_cons_zero, List.getElem?_cons_succ, Option.getD_some]) | ((with_reducible refine wpStill_step ?_); intro K hK; go_simp; (with_reducible refine hK _ ?_); clear hK K))); (with_reducible refine wpStill_nil ?_))
    change wpList _ _ _ _ _ W.drew
    go_wp2
    go_ret
    exact ⟨by rw [KD.out]; rfl, to_step (HG.out.drew.setVol (v := s.has u) hv8) (by rw [KD.out]; decide) (by rw [KD.out]; decide) (by rw [KD.out]; decide) rfl rfl rfl (by rw [memO_no (by have := HJ.out; omega)]; rfl) (by rw [volO_at HJ.out, HV.out, nat_upd]; rfl) (by rw [hasO_no (by have := HJ.out; omega) (by have := HJ.out; omega) (by have := HJ.out; omega)]; rfl), (HW.out.bel (Bel.refl W).drew).setC (26 + v) _⟩
end Go.Proofs.Yticnponenkfneaa
namespace Go.Proofs.Yticnponenkfneaa
open Go Go.RowKit

def GoPost (w : World) (M base : Nat) (A : Option Addr) (n c : Nat) (s' : Ps) (e : Ending) (w' : World) : Prop :=
  ∃ LV', e = .returned (.tuple #[]) ∧ MBx w' M A n c (mcP s') LV' ∧ w'.ownsRow base 67 3 LV' s'.L.length (evc s'.L) ∧ (∀ g, LV'.ownBlock = some g → g ≠ M) ∧ Below base w w'
set_option maxHeartbeats 16000000 in
theorem goon_any {w : World} {M : Nat} {A : Option Addr} {n c : Nat} {s : Ps} {LV : Value} (u base : Nat) {P : List (List Ev)} {K : Int} {o : Ev} (hb : MBx w M A n c (mcP s) LV) (hP : Prg w A n P) (hnc : n ≤ c) (hO : OkP P) (hu : u < n) (ho : (opsP P u)[s.a u]? = some o)
    (hlim : LimS K s) (hK : K ≤ 1000000) (hown : w.ownsRow base 67 3 LV s.L.length (evc s.L)) (hne : ∀ g, LV.ownBlock = some g → g ≠ M) (hbM : base ≤ M) (hL : s.L.length ≤ 900) (hle : s.a u ≤ 12) :
    Calls Try.prog 55 #[.pointer (some ⟨M, 0, none⟩), .int .i64 u] w (GoPost w M base A n c (stepO P s u o)) := by
  have h6 : n ≤ 6 := by rw [← hP.1]; exact hO.six
  have hu6 : u < 6 := by omega
  have hu6' : (u : Int) < 6 := by omega
  have HB := Lib.hid hb
  have HP := Lib.hid hP
  have HI := Lib.hid (hO.op u o (List.mem_of_getElem? ho))
  have HHO := Lib.hid (show (opsP P u)[(mcP s).a u]? = some o from ho)
  have HLM := Lib.hid (And.intro hlim hK)
  have HOW := Lib.hid hown
  have HNE := Lib.hid hne
  have HLL := Lib.hid (And.intro hL hbM)
  have HMW := Lib.hid hb.lt
  have hwa : IntKind.i64.wrap ((s.a u : Int) + 1) = (s.a u : Int) + 1 := IntWalk.i64_in _ (by omega)
  clear hb hP hO ho hlim hK hown hne hbM hL hle
  go_enter Try.func55, Try.ntmps55
  go_wp2_with fail
  refine (next_any u HB.out HP.out hnc h6 hu HHO.out).mono ?_
  rintro e1 w1 ⟨rfl, hb1⟩
  have HB1 := Lib.hid (Bel.of hb1)
  clear hb1
  go_upto_region 1 with (refine ewld_store TOp' _ _ rfl rfl _ rfl rfl rfl ?_)
  have HB2 := Lib.hid (HB1.out.trans (Bel.of (ewld_below w1 o 98)))
  have HX2 := Lib.hid (ewld_box w1 o 98)
  have HG2 := Lib.hid (HB.out.bel HB2.out)
  have HXM := Lib.hid (show w1.heap.size ≠ M by have := HMW.out; have := HB1.out.size; omega)
  clear HB1
  generalize ewld w1 o 98 = w2 at *
  generalize w1.heap.size = X at *
  have g_at := (show w2.cell? ⟨M, 7 + u, none⟩ = some (.int .i64 (s.a u)) from HG2.out.don hu6)
  have g_fz := HG2.out.box.frozen (7 + u)
  (refine wp_region_still_tail 10 (by kernel_rfl) (by kernel_rfl) ?_; simp only [List.take_succ_cons, List.take_zero, List.drop_succ_cons, List.drop_zero]; (repeat (first | ((with_reducible refine s_skip ?_ ?_); exact rfl; simp only [Act.put, Act.eval, List.setIfInBounds_toArray, List.set_cons_zero, List.set_cons_succ, Array.getD_eq_getD_getElem?, List.getElem?_toArray, List.getElem?_cons_zero, List.getElem?_cons_succ, Option.getD_some]) | ((with_reducible refine wpStill_step ?_); intro K hK; go_simp; (with_reducible refine hK _ ?_); clear hK K))); (with_reducible refine wpStill_nil ?_))
  change wpList _ _ _ _ _ w2.drew
  go_upto_region 2 with fail
  rw [show ((s.a u : Int) + 1) = ((s.a u + 1 : Nat) : Int) by omega]
  have HG3 := Lib.hid (show MBx ((w2.setCell ⟨M, 7 + u, none⟩ (.int .i64 ((s.a u + 1 : Nat) : Int))).drew) M A n c (mcQ s u) LV from HG2.out.drew.setA (v := s.a u + 1) hu6)
  have HX3 := Lib.hid (show Box ((w2.setCell ⟨M, 7 + u, none⟩ (.int .i64 ((s.a u + 1 : Nat) : Int))).drew) X (evv o) 98 from HX2.out.drew.set_ne ⟨M, 7 + u, none⟩ _ HXM.out)
  have HP3 := Lib.hid (show Pm M w (w2.setCell ⟨M, 7 + u, none⟩ (.int .i64 ((s.a u + 1 : Nat) : Int))).drew from ((Pm.of (M := M) HB2.out).setC (7 + u) (.int .i64 ((s.a u + 1 : Nat) : Int))).bel (Bel.refl _).drew)
  clear HG2 HX2 HB2 g_at g_fz hwa
  generalize (w2.setCell ⟨M, 7 + u, none⟩ (.int .i64 ((s.a u + 1 : Nat) : Int))).drew = w3 at *
  have HPL := Lib.hid HP.out.1
  have HRG := Lib.hid (show w3.rangeAt X 0 (evl o) from Box.range (l := evl o) HX3.out)
  go_wp2_with (refine load_ev TOp' _ rfl rfl rfl HRG.out ?_)
  refine (exec_any u HG3.out HPL.out HI.out hu h6 HLM.out.1 HLM.out.2).mono ?_
  rintro e4 w4 ⟨rfl, hm4, hp4⟩
  have HG4 := Lib.hid hm4
  have HX4 := Lib.hid (hp4.box HX3.out HXM.out)
  have HP4 := Lib.hid (HP3.out.trans hp4)
  have HO4 := Lib.hid ((HP3.out.trans hp4).own HOW.out HNE.out)
  clear hm4 hp4 HG3 HX3 HP3
  have HBW := Lib.hid (show base ≤ w.heap.size by have := HLL.out.2; have := HMW.out; omega)
  by_cases h0 : kindO P s u o = 0
  · have h0' : (kindO P s u o != 0) = false := by simp [h0]
    have HE := Lib.hid (show (stepO P s u o).L = s.L by show s.L ++ evO P s u o = _; unfold evO; rw [if_pos h0, List.append_nil])
    clear h0
    go_wp2
    go_end0
    exact ⟨LV, rfl, HG4.out, by rw [HE.out]; exact HO4.out, HNE.out, HP4.out.below HLL.out.2 HBW.out⟩
  · have h0' : (kindO P s u o != 0) = true := by simpa using h0
    obtain ⟨v, hv⟩ : ∃ v : Nat, o.t = v := ⟨o.t.toNat, by have := isOp_obj HI.out; omega⟩
    have HE := Lib.hid (show (stepO P s u o).L = s.L ++ [⟨kindO P s u o, u, v⟩] by show s.L ++ evO P s u o = _; unfold evO; rw [if_neg h0, hv])
    generalize kindO P s u o = kd at *
    clear h0
    obtain ⟨i0, hi0, hz0, hz1, hz2⟩ := info_parts ev_info
    have F := fun (w1 : World) (h1 : Below w4.heap.size w4 w1) => And.intro (HG4.out.bel (Bel.of h1)).l ((Bel.of h1).cell ((HX4.out.cell 1 (v := .int .i64 o.t) rfl).trans (show _ = some (Value.int .i64 (v : Int)) by rw [hv])))
    have HV := Lib.hid hv
    clear hv
    go_wp2_with fail
    refine region_growU 11 (by kernel_rfl) ?_
    (repeat (first | ((first | refine wpU_goN 0 (by simp only [List.getElem?_toArray, List.getElem?_cons_zero, List.getElem?_cons_succ] <;> rfl) (by decide +kernel) (by decide +kernel) (by kernel_rfl) (by rfl) (by exact fun _ _ _ _ h => h) (Nat.le_refl _) ?_ | refine wpU_goN 1 (by simp only [List.getElem?_toArray, List.getElem?_cons_zero, List.getElem?_cons_succ] <;> rfl) (by decide +kernel) (by decide +kernel) (by kernel_rfl) (by rfl) (by exact fun _ _ _ _ h => h) (Nat.le_refl _) ?_ | refine wpU_goN 2 (by simp only [List.getElem?_toArray, List.getElem?_cons_zero, List.getElem?_cons_succ] <;> rfl) (by decide +kernel) (by decide +kernel) (by kernel_rfl) (by rfl) (by exact fun _ _ _ _ h => h) (Nat.le_refl _) ?_ | refine wpU_goN 3 (by simp only [List.getElem?_toArray, List.getElem?_cons_zero, List.getElem?_cons_succ] <;> rfl) (by decide +kernel) (by decide +kernel) (by kernel_rfl) (by rfl) (by exact fun _ _ _ _ h => h) (Nat.le_refl _) ?_ | refine wpU_goN 4 (by simp only [List.getElem?_toArray, List.getElem?_cons_zero, List.getElem?_cons_succ] <;> rfl) (by decide +kernel) (by decide +kernel) (by kernel_rfl) (by rfl) (by exact fun _ _ _ _ h => h) (Nat.le_refl _) ?_ | refine wpU_goN 5 (by simp only [List.getElem?_toArray, List.getElem?_cons_zero, List.getElem?_cons_succ] <;> rfl) (by decide +kernel) (by decide +kernel) (by kernel_rfl) (by rfl) (by exact fun _ _ _ _ h => h) (Nat.le_refl _) ?_ | refine wpU_goN 6 (by simp only [List.getElem?_toArray, List.getElem?_cons_zero, List.getElem?_cons_succ] <;> rfl) (by decide +kernel) (by decide +kernel) (by kernel_rfl) (by rfl) (by exact fun _ _ _ _ h => h) (Nat.le_refl _) ?_ | refine wpU_goN 7 (by simp only [List.getElem?_toArray, List.getElem?_cons_zero, List.getElem?_cons_succ] <;> rfl) (by decide +kernel) (by decide +kernel) (by kernel_rfl) (by rfl) (by exact fun _ _ _ _ h => h) (Nat.le_refl _) ?_ | refine wpU_goN 8 (by simp only [List.getElem?_toArray, List.getElem?_cons_zero, List.getElem?_cons_succ] <;> rfl) (by decide +kernel) (by decide +kernel) (by kernel_rfl) (by rfl) (by exact fun _ _ _ _ h => h) (Nat.le_refl _) ?_ | refine wpU_goN 9 (by simp only [List.getElem?_toArray, List.getElem?_cons_zero, List.getElem?_cons_succ] <;> rfl) (by decide +kernel) (by decide +kernel) (by kernel_rfl) (by rfl) (by exact fun _ _ _ _ h => h) (Nat.le_refl _) ?_); apply Exists.intro; refine ⟨fun w1 h1 => ?_, ?_⟩; (first | exact g_move _ rfl | exact g_assign _ rfl | (have fct0 := F w1 h1; go_simp; first | exact ⟨rfl, rfl⟩ | rfl)); simp only [Act.put, Act.eval, List.setIfInBounds_toArray, List.set_cons_zero, List.set_cons_succ, Array.getD_eq_getD_getElem?, List.getElem?_toArray, List.getElem?_cons_zero, List.getElem?_cons_succ, Option.getD_some]) | ((first | refine wpU_skip 0 (by simp only [List.getElem?_toArray, List.getElem?_cons_zero, List.getElem?_cons_succ] <;> rfl) (by decide +kernel) (by decide +kernel) (by kernel_rfl) (by rfl) (by exact fun _ _ _ _ h => h) (Nat.le_refl _) ?_ | refine wpU_skip 1 (by simp only [List.getElem?_toArray, List.getElem?_cons_zero, List.getElem?_cons_succ] <;> rfl) (by decide +kernel) (by decide +kernel) (by kernel_rfl) (by rfl) (by exact fun _ _ _ _ h => h) (Nat.le_refl _) ?_ | refine wpU_skip 2 (by simp only [List.getElem?_toArray, List.getElem?_cons_zero, List.getElem?_cons_succ] <;> rfl) (by decide +kernel) (by decide +kernel) (by kernel_rfl) (by rfl) (by exact fun _ _ _ _ h => h) (Nat.le_refl _) ?_ | refine wpU_skip 3 (by simp only [List.getElem?_toArray, List.getElem?_cons_zero, List.getElem?_cons_succ] <;> rfl) (by decide +kernel) (by decide +kernel) (by kernel_rfl) (by rfl) (by exact fun _ _ _ _ h => h) (Nat.le_refl _) ?_ | refine wpU_skip 4 (by simp only [List.getElem?_toArray, List.getElem?_cons_zero, List.getElem?_cons_succ] <;> rfl) (by decide +kernel) (by decide +kernel) (by kernel_rfl) (by rfl) (by exact fun _ _ _ _ h => h) (Nat.le_refl _) ?_ | refine wpU_skip 5 (by simp only [List.getElem?_toArray, List.getElem?_cons_zero, List.getElem?_cons_succ] <;> rfl) (by decide +kernel) (by decide +kernel) (by kernel_rfl) (by rfl) (by exact fun _ _ _ _ h => h) (Nat.le_refl _) ?_ | refine wpU_skip 6 (by simp only [List.getElem?_toArray, List.getElem?_cons_zero, List.getElem?_cons_succ] <;> rfl) (by decide +kernel) (by decide +kernel) (by kernel_rfl) (by rfl) (by exact fun _ _ _ _ h => h) (Nat.le_refl _) ?_ | refine wpU_skip 7 (by simp only [List.getElem?_toArray, List.getElem?_cons_zero, List.getElem?_cons_succ] <;> rfl) (by decide +kernel) (by decide +kernel) (by kernel_rfl) (by rfl) (by exact fun _ _ _ _ h => h) (Nat.le_refl _) ?_ | refine wpU_skip 8 (by simp only [List.getElem?_toArray, List.getElem?_cons_zero, List.getElem?_cons_succ] <;> rfl) (by decide +kernel) (by decide +kernel) (by kernel_rfl) (by rfl) (by exact fun _ _ _ _ h => h) (Nat.le_refl _) ?_ | refine wpU_skip 9 (by simp only [List.getElem?_toArray, List.getElem?_cons_zero, List.getElem?_cons_succ] <;> rfl) (by decide +kernel) (by decide +kernel) (by kernel_rfl) (by rfl) (by exact fun _ _ _ _ h => h) (Nat.le_refl _) ?_); simp only [Act.put, Act.eval, List.setIfInBounds_toArray, List.set_cons_zero, List.set_cons_succ, Array.getD_eq_getD_getElem?, List.getElem?_toArray, List.getElem?_cons_zero, List.getElem?_cons_succ, Option.getD_some]) | ((first | refine wpU_goA 0 (by simp only [List.getElem?_toArray, List.getElem?_cons_zero, List.getElem?_cons_succ] <;> rfl) (by decide +kernel) (by decide +kernel) (by kernel_rfl) (by rfl) (by exact fun _ _ _ _ h => h) ?_ | refine wpU_goA 1 (by simp only [List.getElem?_toArray, List.getElem?_cons_zero, List.getElem?_cons_succ] <;> rfl) (by decide +kernel) (by decide +kernel) (by kernel_rfl) (by rfl) (by exact fun _ _ _ _ h => h) ?_ | refine wpU_goA 2 (by simp only [List.getElem?_toArray, List.getElem?_cons_zero, List.getElem?_cons_succ] <;> rfl) (by decide +kernel) (by decide +kernel) (by kernel_rfl) (by rfl) (by exact fun _ _ _ _ h => h) ?_ | refine wpU_goA 3 (by simp only [List.getElem?_toArray, List.getElem?_cons_zero, List.getElem?_cons_succ] <;> rfl) (by decide +kernel) (by decide +kernel) (by kernel_rfl) (by rfl) (by exact fun _ _ _ _ h => h) ?_ | refine wpU_goA 4 (by simp only [List.getElem?_toArray, List.getElem?_cons_zero, List.getElem?_cons_succ] <;> rfl) (by decide +kernel) (by decide +kernel) (by kernel_rfl) (by rfl) (by exact fun _ _ _ _ h => h) ?_ | refine wpU_goA 5 (by simp only [List.getElem?_toArray, List.getElem?_cons_zero, List.getElem?_cons_succ] <;> rfl) (by decide +kernel) (by decide +kernel) (by kernel_rfl) (by rfl) (by exact fun _ _ _ _ h => h) ?_ | refine wpU_goA 6 (by simp only [List.getElem?_toArray, List.getElem?_cons_zero, List.getElem?_cons_succ] <;> rfl) (by decide +kernel) (by decide +kernel) (by kernel_rfl) (by rfl) (by exact fun _ _ _ _ h => h) ?_ | refine wpU_goA 7 (by simp only [List.getElem?_toArray, List.getElem?_cons_zero, List.getElem?_cons_succ] <;> rfl) (by decide +kernel) (by decide +kernel) (by kernel_rfl) (by rfl) (by exact fun _ _ _ _ h => h) ?_ | refine wpU_goA 8 (by simp only [List.getElem?_toArray, List.getElem?_cons_zero, List.getElem?_cons_succ] <;> rfl) (by decide +kernel) (by decide +kernel) (by kernel_rfl) (by rfl) (by exact fun _ _ _ _ h => h) ?_ | refine wpU_goA 9 (by simp only [List.getElem?_toArray, List.getElem?_cons_zero, List.getElem?_cons_succ] <;> rfl) (by decide +kernel) (by decide +kernel) (by kernel_rfl) (by rfl) (by exact fun _ _ _ _ h => h) ?_); apply Exists.intro; refine ⟨fun w1 => ?_, ?_⟩; (first | exact a_move _ rfl | exact a_assign _ rfl | (go_simp; first | exact ⟨rfl, rfl⟩ | rfl)); simp only [Act.put, Act.eval, List.setIfInBounds_toArray, List.set_cons_zero, List.set_cons_succ, Array.getD_eq_getD_getElem?, List.getElem?_toArray, List.getElem?_cons_zero, List.getElem?_cons_succ, Option.getD_some])))
    clear F
    (refine wpU_one 10 (by decide +kernel) ?_; intro y1 hy1; refine op_wanted (by simp only [List.getElem?_toArray, List.getElem?_cons_zero, List.getElem?_cons_succ] <;> rfl) rfl ?_)
    refine wp_build1 40 _ rfl 67 i0 Try.underlying40 hi0 hz0 hz1 ⟨kd, u, v⟩ rfl ?_
    refine ⟨Below.alloc (Below.refl _ _) hy1.size _, ?_⟩
    simp only [Act.put, Act.eval, List.setIfInBounds_toArray, List.set_cons_zero, List.set_cons_succ, Array.getD_eq_getD_getElem?, List.getElem?_toArray, List.getElem?_cons_zero, List.getElem?_cons_succ, Option.getD_some]
    have hbx0 := Box.new y1 (evv ⟨kd, u, v⟩) 67
    have hE1 := hy1.alloc (.cells (evv ⟨kd, u, v⟩) 67)
    generalize y1.heap.size = yb at *
    generalize y1.alloc (.cells (evv ⟨kd, u, v⟩) 67) = y2 at *
    refine wpU_now (by decide +kernel) ?_
    intro y5 hy5
    refine op_wanted (by simp only [List.getElem?_toArray, List.getElem?_cons_zero, List.getElem?_cons_succ] <;> rfl) rfl ?_
    have hE5 := hE1.trans hy5
    have hoc := own_bel HO4.out hE5
    have hbx := hy5.box hbx0
    have hsz5 : base ≤ y5.heap.size := by have := HBW.out; have := HP4.out.size; have := hE5.size; omega
    refine wp_append_src (.tmp 29) (.tmp 35) _ rfl base 67 i0 _ 3 24 Try.underlying40 hi0 hz0 hz1 hz2 rfl (by omega) LV s.L.length (evc s.L) rfl hoc (some ⟨yb, 0, none⟩) 1 1 (evl ⟨kd, u, v⟩) rfl rfl (Src.box (show Box y5 yb (evl ⟨kd, u, v⟩).toArray 67 from hbx) 1) (by simp [evl, Value.oneCell']) (by have := HLL.out.1; unfold maxLen; omega) (by have := HLL.out.1; omega) hsz5 ?_
    intro v3 u3 ho3 hg3 hat3
    simp only [Act.put, Act.eval, List.setIfInBounds_toArray, List.set_cons_zero, List.set_cons_succ, Array.getD_eq_getD_getElem?, List.getElem?_toArray, List.getElem?_cons_zero, List.getElem?_cons_succ, Option.getD_some]
    have hG5 := HG4.out.bel hE5
    have hG3 := (show MBx u3 M A n c (mcP (stepO P s u o)) LV from ⟨hG5.box.grown hg3 (fun e => HNE.out M e.symm rfl)⟩)
    have hB3 : Below base w u3 := ((HP4.out.below HLL.out.2 HBW.out).trans (Below.mono hE5.out (by have := HBW.out; have := HP4.out.size; omega))).trans (grown_below hg3 hoc (Nat.le_refl _) hsz5)
    rw [show evc s.L ++ evl ⟨kd, u, v⟩ = evc (s.L ++ [⟨kd, u, v⟩]) by rw [evc_append]; rfl] at ho3
    have hne3 : ∀ g, v3.ownBlock = some g → g ≠ M := fun g hg => by
      rcases hat3 with h | h
      · exact HNE.out g (h ▸ hg)
      · rw [h] at hg
        have := hG5.lt
        have := Option.some.inj hg
        omega
    refine wpU_next 12 (by decide +kernel) (by decide +kernel) ?_
    intro y8 hy8
    refine op_wanted (by simp only [List.getElem?_toArray, List.getElem?_cons_zero, List.getElem?_cons_succ] <;> rfl) rfl ?_
    go_simp
    refine wpU_next 13 (by decide +kernel) (by decide +kernel) ?_
    intro y9 hy9
    refine op_wanted (by simp only [List.getElem?_toArray, List.getElem?_cons_zero, List.getElem?_cons_succ] <;> rfl) rfl ?_
    go_simp
    refine wpU_next 14 (by decide +kernel) (by decide +kernel) ?_
    intro y6 hy6
    refine op_wanted (by simp only [List.getElem?_toArray, List.getElem?_cons_zero, List.getElem?_cons_succ] <;> rfl) rfl ?_
    have hy6 := (hy8.trans hy9).trans hy6
    have hG6 := hG3.bel hy6
    have ho6 := own_bel ho3 hy6
    refine wp_cell1 40 _ _ rfl rfl rfl (by kernel_rfl) (own_one ho3) (by rw [hG6.l]; rfl) (hG6.box.frozen 38) ?_
    refine wpU_done (by decide +kernel) ?_ _
    intro y7 hy7
    have hG7 := (hG6.setL (LV' := v3)).bel hy7
    have ho7 := own_bel (own_keep ho6 (fun g hg _ => heap_setCell_other y6 ⟨M, 38, none⟩ g v3 (hne3 g hg))) hy7
    have hB7 : Below base w y7 := ((hB3.trans (Below.mono hy6.out (by have := hB3.size; have := HBW.out; omega))).setCell (p := ⟨M, 38, none⟩) HLL.out.2 v3).trans (Below.mono hy7.out (by have := hB3.size; have := HBW.out; have := hy6.size; simp; omega))
    have HFN := Lib.hid (And.intro hG7 (And.intro ho7 (And.intro hne3 hB7)))
    clear hG7 ho7 hB7 hne3 ho6 hG6 hy7 hy6 hB3 hG3 hG5 hat3 hg3 ho3 hsz5 hbx hoc hE5 hy5 hE1 hbx0 hy1 hi0 hz0 hz1 hz2
    simp only [Act.put, Act.eval, List.setIfInBounds_toArray, List.set_cons_zero, List.set_cons_succ, Array.getD_eq_getD_getElem?, List.getElem?_toArray, List.getElem?_cons_zero, List.getElem?_cons_succ, Option.getD_some]
    go_wp2
    go_end0
    exact ⟨v3, rfl, HFN.out.1, by rw [HE.out, List.length_append]; exact HFN.out.2.1, HFN.out.2.2.1, HFN.out.2.2.2⟩
end Go.Proofs.Yticnponenkfneaa
namespace Go.Proofs.Yticnponenkfneaa
open Go Go.RowKit

end Go.Proofs.Yticnponenkfneaa

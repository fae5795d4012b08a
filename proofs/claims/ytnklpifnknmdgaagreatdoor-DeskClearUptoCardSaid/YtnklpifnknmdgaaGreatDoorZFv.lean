import Derived.Test.YtnklpifnknmdgaaGreatDoorZBs
import Derived.Test.YtnklpifnknmdgaaGreatDoorZAcP
import Derived.Test.YtnklpifnknmdgaaGreatDoorZAc
import Derived.Test.YtnklpifnknmdgaaGreatDoorZVs
set_option linter.all false
set_option maxRecDepth 100000
namespace Go.Proofs.YtnklpifnknmdgaaGreatDoor
open Go Go.RowKit

theorem TSg : RowTy Tryz.prog 271 2 := ⟨_, Tryz.underlying271, rfl, by kernel_rfl⟩
theorem TSv : RowTy Tryz.prog 302 6 := ⟨_, Tryz.underlying302, rfl, by kernel_rfl⟩
theorem seen_ck {t n : Nat} (c : Nat → Nat) (ht : t < 6) : seen (t : Nat) (n : Nat) (ck c) = decide (n ≤ c t) := by
  unfold seen
  rw [isT_yes (by omega) (by omega), Bool.true_and, decide_eq_decide]
  show ((n : Int) ≤ ((c (Int.toNat (t : Nat)) : Nat) : Int)) ↔ _
  rw [Int.toNat_natCast]; omega
theorem within_knw (r c : Nat → Nat) : within (ck r) (ck c) = knwB r c := by
  rw [Bool.eq_iff_iff, within_iff, knwB_iff]
  exact ⟨fun h u hu => by have := h u hu; unfold ck at this; omega, fun h u hu => by have := h u hu; unfold ck; omega⟩
set_option maxHeartbeats 4000000 in
theorem sknown_any (t n : Nat) (c : Nat → Nat) (w : World) (ht : t < 6) : Calls Tryz.prog 229 #[.agg (ep t n), .agg (clk (ck c))] w fun e w' => e = .returned (.bool (decide (n ≤ c t))) ∧ Below w.heap.size w w' := by
  obtain ⟨b1, b2, hB, hs⟩ := boxes2 w (ep t n) (clk (ck c)) 271 61
  generalize hW : ((w.alloc (.cells (ep t n) 271)).alloc (.cells (clk (ck c)) 61)) = W at *
  have HB := Lib.hid hB
  clear hB hs
  go_enter Tryz.func229, Tryz.ntmps229
  go_wp2_with (first | (refine loadB _ _ rfl rfl rfl b1 ty37 ?_) | (refine loadB _ _ rfl rfl rfl b2 ty28 ?_))
  refine (seen_any _ _ _ _).mono ?_
  rintro e w1 ⟨rfl, hb⟩
  have hw := (Bel.of HB.out).call hb
  rw [seen_ck c ht]
  clear hb b1 b2
  go_wp2
  go_ret
  exact ⟨rfl, hw⟩
set_option maxHeartbeats 4000000 in
theorem vknown_any (r c : Nat → Nat) (w : World) : Calls Tryz.prog 234 #[.agg (clk (ck r)), .agg (clk (ck c))] w fun e w' => e = .returned (.bool (knwB r c)) ∧ Below w.heap.size w w' := by
  obtain ⟨b1, b2, hB, hs⟩ := boxes2 w (clk (ck r)) (clk (ck c)) 302 61
  generalize hW : ((w.alloc (.cells (clk (ck r)) 302)).alloc (.cells (clk (ck c)) 61)) = W at *
  have HB := Lib.hid hB
  clear hB hs
  go_enter Tryz.func234, Tryz.ntmps234
  go_wp2_with (first | (refine loadB _ _ rfl rfl rfl b1 TSv ?_) | (refine loadB _ _ rfl rfl rfl b2 ty28 ?_))
  refine (within_any _ _ _).mono ?_
  rintro e w1 ⟨rfl, hb⟩
  have hw := (Bel.of HB.out).call hb
  rw [within_knw]
  clear hb b1 b2
  go_wp2
  go_ret
  exact ⟨rfl, hw⟩
def manyV (r : Nat → Nat) : Value := .iface 302 (.agg (clk (ck r)))
def oneV (t n : Nat) : Value := .iface 271 (.agg (ep t n))
set_option maxHeartbeats 4000000 in
theorem vwith_any (r c : Nat → Nat) (u m : Nat) (w : World) (hu : u < 6) : Calls Tryz.prog 235 #[.agg (clk (ck r)), .agg (ep u m), .agg (clk (ck c))] w fun e w' => e = .returned (manyV fun x => if x = u then m else r x) ∧ Below w.heap.size w w' := by
  obtain ⟨b1, b2, b3, hB, hs⟩ := boxes3 w (clk (ck r)) (ep u m) (clk (ck c)) 302 262 61
  generalize hW : (((w.alloc (.cells (clk (ck r)) 302)).alloc (.cells (ep u m) 262)).alloc (.cells (clk (ck c)) 61)) = W at *
  have HB := Lib.hid hB
  have c0 := b2.cell 0 (v := .int .i64 u) rfl
  have c1 := b2.cell 1 (v := .int .i64 m) rfl
  have c2 := b1.cell u (clk_get (ck r) u hu)
  have g2 := b1.frozen u
  have hu' : (u : Int) < 6 := by omega
  have HB1 := Lib.hid b1
  have hE : clk (upd (ck r) u m) = clk (ck fun x => if x = u then m else r x) := clk_congr fun k _ => by
    unfold upd ck; dsimp only; split <;> rfl
  have HE := Lib.hid hE
  clear hB hs b1 b2 b3 hE
  go_enter Tryz.func235, Tryz.ntmps235
  go_wp2_with (refine loadB _ _ rfl rfl rfl (HB1.out.set u (.int .i64 m)) (by rw [clk_set _ _ hu]; exact TSv) ?_)
  go_ret
  refine ⟨?_, HB.out.setCell (Nat.le_refl _) _⟩
  rw [clk_set _ _ hu, HE.out]; rfl
def swV (t n u m : Nat) (c : Nat → Nat) : Value := if n ≤ c t then oneV u m else manyV fun x => if x = u then m else if x = t then n else 0
theorem build_sg (t n : Nat) (w : World) : (Instr.build 271 #[(0, .agg (ep t n))]).run Tryz.prog w = .ok (.agg (ep t n)) w := by kernel_rfl
theorem l_build_sg {ops : Array Oper} {rest : List Oper} {o : Oper} {a : Act} {w : World} {Q : Exit → Act → World → Prop} (x : Operand) (ho : o.op = .build 271 #[(0, x)]) (hgd : o.guard = none) (t n : Nat) (hx : a.eval x = .agg (ep t n))
    (h : wpList Tryz.prog ops Q rest (a.put o.dst (.agg (ep t n))) w) : wpList Tryz.prog ops Q (o :: rest) a w := by
  refine wpList_plain hgd fun _ hK' => ?_
  unfold Oper.wp execOp
  simp only [ho, List.map_toArray, List.map_cons, List.map_nil, hx, Sem.run_bind, build_sg, Sem.run_pure, Result.andThen_ok]
  exact hK' _ _ h
set_option maxHeartbeats 4000000 in
theorem swith_any (t n u m : Nat) (c : Nat → Nat) (w : World) (ht : t < 6) (hu : u < 6) : Calls Tryz.prog 230 #[.agg (ep t n), .agg (ep u m), .agg (clk (ck c))] w fun e w' => e = .returned (swV t n u m c) ∧ Below w.heap.size w w' := by
  obtain ⟨b1, b2, b3, hB, hs⟩ := boxes3 w (ep t n) (ep u m) (clk (ck c)) 271 262 61
  generalize hW : (((w.alloc (.cells (ep t n) 271)).alloc (.cells (ep u m) 262)).alloc (.cells (clk (ck c)) 61)) = W at *
  have HB := Lib.hid hB
  have HB1 := Lib.hid b1
  have HB2 := Lib.hid b2
  clear hB hs
  by_cases hk : n ≤ c t
  · have HK := Lib.hid (show swV t n u m c = oneV u m from if_pos hk)
    have hk' : decide (n ≤ c t) = true := decide_eq_true hk
    clear hk
    go_enter Tryz.func230, Tryz.ntmps230
    go_wp2_with (first | (refine loadB _ _ rfl rfl rfl b1 TSg ?_) | (refine loadB _ _ rfl rfl rfl b3 ty28 ?_))
    refine (sknown_any _ _ _ _ ht).mono ?_
    rintro e w1 ⟨rfl, hb⟩
    have hw := (Bel.of HB.out).call hb
    have b21 := (Bel.of hb).box HB2.out
    rw [hk']
    clear hb b1 b2 b3
    go_wp2_with (first | (refine loadB _ _ rfl rfl rfl b21 ty37 ?_) | (refine l_build_sg _ rfl rfl u m rfl ?_))
    go_ret
    refine ⟨?_, hw⟩
    rw [HK.out]; rfl
  · have HK := Lib.hid (show swV t n u m c = manyV fun x => if x = u then m else if x = t then n else 0 from if_neg hk)
    have hk' : decide (n ≤ c t) = false := decide_eq_false hk
    clear hk
    go_enter Tryz.func230, Tryz.ntmps230
    go_wp2_with (first | (refine loadB _ _ rfl rfl rfl b1 TSg ?_) | (refine loadB _ _ rfl rfl rfl b3 ty28 ?_))
    refine (sknown_any _ _ _ _ ht).mono ?_
    rintro e w1 ⟨rfl, hb⟩
    have HWB := Lib.hid ((Bel.of HB.out).call hb)
    have HB11 := Lib.hid ((Bel.of hb).box HB1.out)
    have HB21 := Lib.hid ((Bel.of hb).box HB2.out)
    rw [hk']
    have HT := Lib.hid ht
    have HU := Lib.hid hu
    have ht' : (t : Int) < 6 := by omega
    have hu' : (u : Int) < 6 := by omega
    have HNE := Lib.hid (show w.heap.size + 1 < w1.heap.size from HB21.out.lt)
    clear hb b1 b2 b3
    go_wp2
    have HBN := Lib.hid (Box.new w1 #[.int .i64 0, .int .i64 0, .int .i64 0, .int .i64 0, .int .i64 0, .int .i64 0] 302)
    have HW2 := Lib.hid (HWB.out.alloc (.cells #[.int .i64 0, .int .i64 0, .int .i64 0, .int .i64 0, .int .i64 0, .int .i64 0] 302))
    have HB12 := Lib.hid (HB11.out.old (.cells #[.int .i64 0, .int .i64 0, .int .i64 0, .int .i64 0, .int .i64 0, .int .i64 0] 302))
    have HB22 := Lib.hid (HB21.out.old (.cells #[.int .i64 0, .int .i64 0, .int .i64 0, .int .i64 0, .int .i64 0, .int .i64 0] 302))
    generalize (w1.alloc (.cells #[.int .i64 0, .int .i64 0, .int .i64 0, .int .i64 0, .int .i64 0, .int .i64 0] 302)) = w2 at *
    have F0 := fun (w' : World) (h : Ks (fun b => b = w.heap.size ∨ b = w.heap.size + 1) w2 w') => (h.box (.inl rfl) HB12.out).cell 0 (v := .int .i64 t) rfl
    have F1 := fun (w' : World) (h : Ks (fun b => b = w.heap.size ∨ b = w.heap.size + 1) w2 w') => (h.box (.inl rfl) HB12.out).cell 1 (v := .int .i64 n) rfl
    have F2 := fun (w' : World) (h : Ks (fun b => b = w.heap.size ∨ b = w.heap.size + 1) w2 w') => (h.box (.inr rfl) HB22.out).cell 0 (v := .int .i64 u) rfl
    have F3 := fun (w' : World) (h : Ks (fun b => b = w.heap.size ∨ b = w.heap.size + 1) w2 w') => (h.box (.inr rfl) HB22.out).cell 1 (v := .int .i64 m) rfl
    generalize w1.heap.size = N at *
    refine region_keepS (fun b => b = w.heap.size ∨ b = w.heap.size + 1) (by kernel_rfl) ?_
    (repeat (first | ((first | refine wpS_go 0 (by simp only [List.getElem?_toArray, List.getElem?_cons_zero, List.getElem?_cons_succ] <;> rfl) (by decide +kernel) (by decide +kernel) (by kernel_rfl) (by rfl) (by exact fun _ _ _ _ h => h) ?_ | refine wpS_go 1 (by simp only [List.getElem?_toArray, List.getElem?_cons_zero, List.getElem?_cons_succ] <;> rfl) (by decide +kernel) (by decide +kernel) (by kernel_rfl) (by rfl) (by exact fun _ _ _ _ h => h) ?_ | refine wpS_go 2 (by simp only [List.getElem?_toArray, List.getElem?_cons_zero, List.getElem?_cons_succ] <;> rfl) (by decide +kernel) (by decide +kernel) (by kernel_rfl) (by rfl) (by exact fun _ _ _ _ h => h) ?_ | refine wpS_go 3 (by simp only [List.getElem?_toArray, List.getElem?_cons_zero, List.getElem?_cons_succ] <;> rfl) (by decide +kernel) (by decide +kernel) (by kernel_rfl) (by rfl) (by exact fun _ _ _ _ h => h) ?_ | refine wpS_go 4 (by simp only [List.getElem?_toArray, List.getElem?_cons_zero, List.getElem?_cons_succ] <;> rfl) (by decide +kernel) (by decide +kernel) (by kernel_rfl) (by rfl) (by exact fun _ _ _ _ h => h) ?_ | refine wpS_go 5 (by simp only [List.getElem?_toArray, List.getElem?_cons_zero, List.getElem?_cons_succ] <;> rfl) (by decide +kernel) (by decide +kernel) (by kernel_rfl) (by rfl) (by exact fun _ _ _ _ h => h) ?_ | refine wpS_go 6 (by simp only [List.getElem?_toArray, List.getElem?_cons_zero, List.getElem?_cons_succ] <;> rfl) (by decide +kernel) (by decide +kernel) (by kernel_rfl) (by rfl) (by exact fun _ _ _ _ h => h) ?_ | refine wpS_go 7 (by simp only [List.getElem?_toArray, List.getElem?_cons_zero, List.getElem?_cons_succ] <;> rfl) (by decide +kernel) (by decide +kernel) (by kernel_rfl) (by rfl) (by exact fun _ _ _ _ h => h) ?_ | refine wpS_go 8 (by simp only [List.getElem?_toArray, List.getElem?_cons_zero, List.getElem?_cons_succ] <;> rfl) (by decide +kernel) (by decide +kernel) (by kernel_rfl) (by rfl) (by exact fun _ _ _ _ h => h) ?_ | refine wpS_go 9 (by simp only [List.getElem?_toArray, List.getElem?_cons_zero, List.getElem?_cons_succ] <;> rfl) (by decide +kernel) (by decide +kernel) (by kernel_rfl) (by rfl) (by exact fun _ _ _ _ h => h) ?_ | refine wpS_go 10 (by simp only [List.getElem?_toArray, List.getElem?_cons_zero, List.getElem?_cons_succ] <;> rfl) (by decide +kernel) (by decide +kernel) (by kernel_rfl) (by rfl) (by exact fun _ _ _ _ h => h) ?_ | refine wpS_go 12 (by simp only [List.getElem?_toArray, List.getElem?_cons_zero, List.getElem?_cons_succ] <;> rfl) (by decide +kernel) (by decide +kernel) (by kernel_rfl) (by rfl) (by exact fun _ _ _ _ h => h) ?_); apply Exists.intro; refine ⟨fun w1 h1 => ?_, ?_⟩; (first | exact g_move _ rfl | exact g_assign _ rfl | (have fct0 := F0 w1 h1; have fct1 := F1 w1 h1; have fct2 := F2 w1 h1; have fct3 := F3 w1 h1; go_simp; first | exact ⟨rfl, rfl⟩ | rfl)); simp only [Act.put, Act.eval, List.setIfInBounds_toArray, List.set_cons_zero, List.set_cons_succ, Array.getD_eq_getD_getElem?, List.getElem?_toArray, List.getElem?_cons_zero, List.getElem?_cons_succ, Option.getD_some]) | ((first | refine wpS_skip 0 (by simp only [List.getElem?_toArray, List.getElem?_cons_zero, List.getElem?_cons_succ] <;> rfl) (by decide +kernel) (by decide +kernel) (by kernel_rfl) (by rfl) (by exact fun _ _ _ _ h => h) ?_ | refine wpS_skip 1 (by simp only [List.getElem?_toArray, List.getElem?_cons_zero, List.getElem?_cons_succ] <;> rfl) (by decide +kernel) (by decide +kernel) (by kernel_rfl) (by rfl) (by exact fun _ _ _ _ h => h) ?_ | refine wpS_skip 2 (by simp only [List.getElem?_toArray, List.getElem?_cons_zero, List.getElem?_cons_succ] <;> rfl) (by decide +kernel) (by decide +kernel) (by kernel_rfl) (by rfl) (by exact fun _ _ _ _ h => h) ?_ | refine wpS_skip 3 (by simp only [List.getElem?_toArray, List.getElem?_cons_zero, List.getElem?_cons_succ] <;> rfl) (by decide +kernel) (by decide +kernel) (by kernel_rfl) (by rfl) (by exact fun _ _ _ _ h => h) ?_ | refine wpS_skip 4 (by simp only [List.getElem?_toArray, List.getElem?_cons_zero, List.getElem?_cons_succ] <;> rfl) (by decide +kernel) (by decide +kernel) (by kernel_rfl) (by rfl) (by exact fun _ _ _ _ h => h) ?_ | refine wpS_skip 5 (by simp only [List.getElem?_toArray, List.getElem?_cons_zero, List.getElem?_cons_succ] <;> rfl) (by decide +kernel) (by decide +kernel) (by kernel_rfl) (by rfl) (by exact fun _ _ _ _ h => h) ?_ | refine wpS_skip 6 (by simp only [List.getElem?_toArray, List.getElem?_cons_zero, List.getElem?_cons_succ] <;> rfl) (by decide +kernel) (by decide +kernel) (by kernel_rfl) (by rfl) (by exact fun _ _ _ _ h => h) ?_ | refine wpS_skip 7 (by simp only [List.getElem?_toArray, List.getElem?_cons_zero, List.getElem?_cons_succ] <;> rfl) (by decide +kernel) (by decide +kernel) (by kernel_rfl) (by rfl) (by exact fun _ _ _ _ h => h) ?_ | refine wpS_skip 8 (by simp only [List.getElem?_toArray, List.getElem?_cons_zero, List.getElem?_cons_succ] <;> rfl) (by decide +kernel) (by decide +kernel) (by kernel_rfl) (by rfl) (by exact fun _ _ _ _ h => h) ?_ | refine wpS_skip 9 (by simp only [List.getElem?_toArray, List.getElem?_cons_zero, List.getElem?_cons_succ] <;> rfl) (by decide +kernel) (by decide +kernel) (by kernel_rfl) (by rfl) (by exact fun _ _ _ _ h => h) ?_ | refine wpS_skip 10 (by simp only [List.getElem?_toArray, List.getElem?_cons_zero, List.getElem?_cons_succ] <;> rfl) (by decide +kernel) (by decide +kernel) (by kernel_rfl) (by rfl) (by exact fun _ _ _ _ h => h) ?_ | refine wpS_skip 12 (by simp only [List.getElem?_toArray, List.getElem?_cons_zero, List.getElem?_cons_succ] <;> rfl) (by decide +kernel) (by decide +kernel) (by kernel_rfl) (by rfl) (by exact fun _ _ _ _ h => h) ?_); simp only [Act.put, Act.eval, List.setIfInBounds_toArray, List.set_cons_zero, List.set_cons_succ, Array.getD_eq_getD_getElem?, List.getElem?_toArray, List.getElem?_cons_zero, List.getElem?_cons_succ, Option.getD_some])))
    clear F0 F1 F2 F3
    have HZ := Lib.hid (show Box w2 N (clk (ck fun _ => 0)) 302 from HBN.out)
    (refine wpS_one 11 (by decide +kernel) ?_; intro w4 hw4; refine op_wanted (by simp only [List.getElem?_toArray, List.getElem?_cons_zero, List.getElem?_cons_succ] <;> rfl) rfl ?_)
    refine wp_cell1 3 _ _ rfl rfl rfl (by kernel_rfl) rfl (by rw [(hw4.box HZ.out).cell t (clk_get _ t HT.out)]; rfl) ((hw4.box HZ.out).frozen t) ?_
    refine ⟨Ks.grown (chg_cell w4 t _) (fun b hb e => by have h9 := Option.some.inj e; have := HNE.out; rcases hb with hb | hb <;> omega), ?_⟩
    simp only [Act.put, Act.eval, List.setIfInBounds_toArray, List.set_cons_zero, List.set_cons_succ, Array.getD_eq_getD_getElem?, List.getElem?_toArray, List.getElem?_cons_zero, List.getElem?_cons_succ, Option.getD_some]
    have HZ4 := Lib.hid (by have h9 := (hw4.box HZ.out).set t (.int .i64 n); rw [clk_set _ _ HT.out] at h9; exact h9)
    have HW4 := Lib.hid ((HW2.out.trans hw4).setCell ⟨N, t, none⟩ (by have := HNE.out; dsimp only; omega) (.int .i64 n))
    clear hw4
    generalize w4.setCell ⟨N, t, none⟩ (.int .i64 n) = w5 at *
    (repeat (first | ((first | refine wpS_go 12 (by simp only [List.getElem?_toArray, List.getElem?_cons_zero, List.getElem?_cons_succ] <;> rfl) (by decide +kernel) (by decide +kernel) (by kernel_rfl) (by rfl) (by exact fun _ _ _ _ h => h) ?_); apply Exists.intro; refine ⟨fun w1 h1 => ?_, ?_⟩; (first | exact g_move _ rfl | exact g_assign _ rfl | (go_simp; first | exact ⟨rfl, rfl⟩ | rfl)); simp only [Act.put, Act.eval, List.setIfInBounds_toArray, List.set_cons_zero, List.set_cons_succ, Array.getD_eq_getD_getElem?, List.getElem?_toArray, List.getElem?_cons_zero, List.getElem?_cons_succ, Option.getD_some]) | ((first | refine wpS_skip 12 (by simp only [List.getElem?_toArray, List.getElem?_cons_zero, List.getElem?_cons_succ] <;> rfl) (by decide +kernel) (by decide +kernel) (by kernel_rfl) (by rfl) (by exact fun _ _ _ _ h => h) ?_); simp only [Act.put, Act.eval, List.setIfInBounds_toArray, List.set_cons_zero, List.set_cons_succ, Array.getD_eq_getD_getElem?, List.getElem?_toArray, List.getElem?_cons_zero, List.getElem?_cons_succ, Option.getD_some])))
    (refine wpS_one 13 (by decide +kernel) ?_; intro w6 hw6; refine op_wanted (by simp only [List.getElem?_toArray, List.getElem?_cons_zero, List.getElem?_cons_succ] <;> rfl) rfl ?_)
    refine wp_cell1 3 _ _ rfl rfl rfl (by kernel_rfl) rfl (by rw [(hw6.box HZ4.out).cell u (clk_get _ u HU.out)]; rfl) ((hw6.box HZ4.out).frozen u) ?_
    refine ⟨Ks.grown (chg_cell w6 u _) (fun b hb e => by have h9 := Option.some.inj e; have := HNE.out; rcases hb with hb | hb <;> omega), ?_⟩
    simp only [Act.put, Act.eval, List.setIfInBounds_toArray, List.set_cons_zero, List.set_cons_succ, Array.getD_eq_getD_getElem?, List.getElem?_toArray, List.getElem?_cons_zero, List.getElem?_cons_succ, Option.getD_some]
    have HZ6 := Lib.hid (by have h9 := (hw6.box HZ4.out).set u (.int .i64 m); rw [clk_set _ _ HU.out] at h9; exact h9)
    have HW6 := Lib.hid ((HW4.out.trans hw6).setCell ⟨N, u, none⟩ (by have := HNE.out; dsimp only; omega) (.int .i64 m))
    clear hw6
    generalize w6.setCell ⟨N, u, none⟩ (.int .i64 m) = w7 at *
    (refine wpS_done (by decide +kernel) ?_ _; intro w8 hw8; try simp only [Act.put, Act.eval, List.setIfInBounds_toArray, List.set_cons_zero, List.set_cons_succ, Array.getD_eq_getD_getElem?, List.getElem?_toArray, List.getElem?_cons_zero, List.getElem?_cons_succ, Option.getD_some])
    have HZ8 := Lib.hid (hw8.box HZ6.out)
    have HW8 := Lib.hid (HW6.out.trans hw8)
    clear hw8
    go_wp2_with (refine loadB _ _ rfl rfl rfl HZ8.out TSv ?_)
    go_ret
    refine ⟨?_, HW8.out⟩
    rw [HK.out]
    have hE : clk (upd (upd (ck fun _ => 0) t n) u m) = clk (ck fun x => if x = u then m else if x = t then n else 0) := clk_congr fun k _ => by
      unfold upd ck; dsimp only; split
      · rfl
      · split <;> rfl
    show Ending.returned (.iface _ (.agg _)) = _
    rw [hE]; rfl
end Go.Proofs.YtnklpifnknmdgaaGreatDoor
namespace Go.Proofs.YtnklpifnknmdgaaGreatDoor
open Go Go.RowKit

def rdv (s : Fs) : Value := if s.many = true then manyV s.rc else oneV s.rt s.rn
theorem rdv_many {s : Fs} (h : s.many = true) : rdv s = manyV s.rc := if_pos h
theorem rdv_one {s : Fs} (h : s.many = false) : rdv s = oneV s.rt s.rn := if_neg (by rw [h]; simp)
def gF (f : Nat → Fs) (q : Nat → Nat) : Nat → Value := fun i =>
  if i % 4 = 0 then .int .i64 ((f (i / 4)).wt : Nat) else if i % 4 = 1 then .int .i64 ((f (i / 4)).wn : Nat) else if i % 4 = 2 then rdv (f (i / 4)) else .int .i64 (q (i / 4) : Nat)
section
variable (f : Nat → Fs) (q : Nat → Nat) (x : Nat)
theorem gF_0 : gF f q (x * 4) = .int .i64 ((f x).wt : Nat) := by unfold gF; rw [if_pos (by omega), show x * 4 / 4 = x by omega]
theorem gF_1 : gF f q (x * 4 + 1) = .int .i64 ((f x).wn : Nat) := by unfold gF; rw [if_neg (by omega), if_pos (by omega), show (x * 4 + 1) / 4 = x by omega]
theorem gF_2 : gF f q (x * 4 + 2) = rdv (f x) := by unfold gF; rw [if_neg (by omega), if_neg (by omega), if_pos (by omega), show (x * 4 + 2) / 4 = x by omega]
theorem gF_3 : gF f q (x * 4 + 3) = .int .i64 (q x : Nat) := by unfold gF; rw [if_neg (by omega), if_neg (by omega), if_neg (by omega), show (x * 4 + 3) / 4 = x by omega]
end
def upFs (f : Nat → Fs) (x : Nat) (s : Fs) : Nat → Fs := fun y => if y = x then s else f y
theorem upFs_self (f : Nat → Fs) (x : Nat) : upFs f x (f x) = f := by
  funext y
  unfold upFs
  by_cases h : y = x
  · rw [if_pos h, h]
  · rw [if_neg h]
theorem upN_self (q : Nat → Nat) (x : Nat) : updN q x (q x) = q := by
  funext y
  unfold updN
  by_cases h : y = x
  · rw [if_pos h, h]
  · rw [if_neg h]
theorem upFs_at (f : Nat → Fs) (x : Nat) (s : Fs) : upFs f x s x = s := by unfold upFs; rw [if_pos rfl]
theorem gF_rd (f : Nat → Fs) (q : Nat → Nat) (x : Nat) {s : Fs} (h1 : s.wt = (f x).wt) (h2 : s.wn = (f x).wn) : updC (gF f q) (x * 4 + 2) (rdv s) = gF (upFs f x s) q := by
  funext i
  unfold updC gF upFs
  by_cases h : i = x * 4 + 2
  · subst h; rw [if_pos rfl, if_neg (by omega), if_neg (by omega), if_pos (by omega), if_pos (by omega)]
  · rw [if_neg h]
    by_cases hx : i / 4 = x
    · rw [if_pos hx, h1, h2, hx]
      by_cases h3 : i % 4 = 2
      · exact absurd (by omega) h
      · rw [if_neg h3, if_neg h3]
    · rw [if_neg hx]
theorem gF_slow (f : Nat → Fs) (q : Nat → Nat) (x n : Nat) : updC (gF f q) (x * 4 + 3) (.int .i64 (n : Nat)) = gF f (updN q x n) := by
  funext i
  unfold updC gF updN
  by_cases h : i = x * 4 + 3
  · subst h; rw [if_pos rfl, if_neg (by omega), if_neg (by omega), if_neg (by omega), if_pos (by omega)]
  · rw [if_neg h]
    by_cases hx : i / 4 = x
    · rw [if_pos hx, hx]
      by_cases h0 : i % 4 = 0
      · rw [if_pos h0, if_pos h0]
      · by_cases h1 : i % 4 = 1
        · rw [if_neg h0, if_pos h1, if_neg h0, if_pos h1]
        · have h2 : i % 4 = 2 := by omega
          rw [if_neg h0, if_neg h1, if_pos h2, if_neg h0, if_neg h1, if_pos h2]
    · rw [if_neg hx]
theorem gF_wr (f : Nat → Fs) (q : Nat → Nat) (x t n : Nat) {s : Fs} (h1 : s.wt = t) (h2 : s.wn = n) (h3 : rdv s = rdv (f x)) : updC (updC (gF f q) (x * 4) (.int .i64 (t : Nat))) (x * 4 + 1) (.int .i64 (n : Nat)) = gF (upFs f x s) q := by
  funext i
  unfold updC gF upFs
  by_cases h : i = x * 4 + 1
  · subst h; rw [if_pos rfl, if_neg (by omega), if_pos (by omega), if_pos (by omega), h2]
  · rw [if_neg h]
    by_cases h0 : i = x * 4
    · subst h0; rw [if_pos rfl, if_pos (by omega), if_pos (by omega), h1]
    · rw [if_neg h0]
      by_cases hx : i / 4 = x
      · have e0 : ¬ i % 4 = 0 := by omega
        have e1 : ¬ i % 4 = 1 := by omega
        rw [if_pos hx, hx, h3, if_neg e0, if_neg e1, if_neg e0, if_neg e1]
      · rw [if_neg hx]
theorem fsR_w (s : Fs) (t : Nat) (c : Nat → Nat) : (fsR s t c).wt = s.wt ∧ (fsR s t c).wn = s.wn := by
  unfold fsR
  split
  · exact ⟨rfl, rfl⟩
  · split
    · exact ⟨rfl, rfl⟩
    · exact ⟨rfl, rfl⟩
theorem rdv_fsR_many {s : Fs} (h : s.many = true) (t : Nat) (c : Nat → Nat) : rdv (fsR s t c) = manyV fun y => if y = t then c t else s.rc y := by
  unfold fsR; rw [if_pos h]; exact rdv_many (s := { s with rc := _ }) h
theorem rdv_fsR_one {s : Fs} (h : s.many = false) {t : Nat} {c : Nat → Nat} (hk : s.rn ≤ c s.rt) : rdv (fsR s t c) = oneV t (c t) := by
  unfold fsR; rw [if_neg (by rw [h]; simp), if_pos hk]; exact rdv_one (s := { s with rt := _, rn := _ }) h
theorem rdv_fsR_more {s : Fs} (h : s.many = false) {t : Nat} {c : Nat → Nat} (hk : ¬ s.rn ≤ c s.rt) : rdv (fsR s t c) = manyV fun y => if y = t then c t else if y = s.rt then s.rn else 0 := by
  unfold fsR; rw [if_neg (by rw [h]; simp), if_neg hk]; exact rdv_many (s := { s with many := true, rt := 0, rn := 0, rc := _ }) rfl
structure FsOk (s : Fs) : Prop where
  wt : s.wt < 6
  rt : s.rt < 6
  many : s.many = true → s.rt = 0 ∧ s.rn = 0
theorem FsOk.start : FsOk fsStart := ⟨by decide, by decide, fun h => absurd h (by decide)⟩
theorem FsOk.step {s : Fs} (h : FsOk s) (k : Int) {t : Nat} (ht : t < 6) (c : Nat → Nat) : FsOk (fsStep s k t c) := by
  unfold fsStep
  split
  · split
    · exact h
    · unfold fsR
      split
      · exact ⟨h.wt, h.rt, h.many⟩
      · rename_i hm
        split
        · exact ⟨h.wt, ht, fun e => absurd e hm⟩
        · exact ⟨h.wt, Nat.lt_of_lt_of_le (Nat.zero_lt_succ 5) (Nat.le_refl _), fun _ => ⟨rfl, rfl⟩⟩
  · split
    · split
      · exact h
      · exact ⟨ht, h.rt, fun e => absurd e (by unfold fsW; simp)⟩
    · exact h
theorem fsOk_all {l : List Ev} (hm : may l = 0) (x : Nat) : ∀ k, k ≤ l.length → FsOk (fsTo l x k)
  | 0, _ => FsOk.start
  | k + 1, hk => by
    rw [fsTo]
    split
    · exact (fsOk_all hm x k (by omega)).step _ (tZ_lt hm (by omega)) _
    · exact fsOk_all hm x k (by omega)
end Go.Proofs.YtnklpifnknmdgaaGreatDoor
namespace Go.Proofs.YtnklpifnknmdgaaGreatDoor
open Go Go.RowKit

theorem ta_sg_one (t n : Nat) (w : World) : (Instr.typeAssert (oneV t n) 264 271 true).run Tryz.prog w = .ok (.tuple #[.agg (ep t n), .bool true]) w := by kernel_rfl
theorem ta_sg_many (r : Nat → Nat) (w : World) : (Instr.typeAssert (manyV r) 264 271 true).run Tryz.prog w = .ok (.tuple #[.agg #[.int .i64 0, .int .i64 0], .bool false]) w := by kernel_rfl
theorem ta_sv_one (t n : Nat) (w : World) : (Instr.typeAssert (oneV t n) 264 302 true).run Tryz.prog w = .ok (.tuple #[.agg #[.int .i64 0, .int .i64 0, .int .i64 0, .int .i64 0, .int .i64 0, .int .i64 0], .bool false]) w := by kernel_rfl
theorem ta_sv_many (r : Nat → Nat) (w : World) : (Instr.typeAssert (manyV r) 264 302 true).run Tryz.prog w = .ok (.tuple #[.agg (clk (ck r)), .bool true]) w := by kernel_rfl
theorem mw_many (n : Nat) (r : Nat → Nat) (w : World) : (method (n + 1) 302 (.agg (clk (ck r))) "deadheat/fast.with").run Tryz.prog w = .ok (235, .agg (clk (ck r))) w := by kernel_rfl
theorem mw_one (n a b : Nat) (w : World) : (method (n + 1) 271 (.agg (ep a b)) "deadheat/fast.with").run Tryz.prog w = .ok (230, .agg (ep a b)) w := by kernel_rfl
theorem mk_many (n : Nat) (r : Nat → Nat) (w : World) : (method (n + 1) 302 (.agg (clk (ck r))) "deadheat/fast.known").run Tryz.prog w = .ok (234, .agg (clk (ck r))) w := by kernel_rfl
theorem mk_one (n a b : Nat) (w : World) : (method (n + 1) 271 (.agg (ep a b)) "deadheat/fast.known").run Tryz.prog w = .ok (229, .agg (ep a b)) w := by kernel_rfl
theorem isClock_one (t n : Nat) (w : World) : Calls Tryz.prog 207 #[oneV t n] w fun e w' => e = .returned (.bool false) ∧ Below w.heap.size w w' := by
  have q1 := ta_sv_one t n
  go_enter Tryz.func207, Tryz.ntmps207
  go_wp2
  go_ret
  exact ⟨rfl, (Bel.refl w).alloc _⟩
theorem isClock_many (r : Nat → Nat) (w : World) : Calls Tryz.prog 207 #[manyV r] w fun e w' => e = .returned (.bool true) ∧ Below w.heap.size w w' := by
  have q1 := ta_sv_many r
  go_enter Tryz.func207, Tryz.ntmps207
  go_wp2_with (refine storeNew (c' := clk (ck r)) _ _ _ rfl rfl rfl rfl rfl TSv (clk_all _) ?_)
  go_ret
  exact ⟨rfl, (Bel.refl w).alloc _⟩
theorem eql_ep (a b c d : Int) (w : World) : (binOp .eql 262 (.agg (ep a b)) (.agg (ep c d))).run Tryz.prog w = .ok (.bool (decide (a = c ∧ b = d))) w := by
  unfold ep
  by_cases h1 : a = c <;> by_cases h2 : b = d <;> simp [go_sem, h1, h2]
theorem grd_ep : Tryz.prog.eqGuardType Tryz.prog.depth 262 = false := by kernel_rfl
def FvPost (V : Nat) (f : Nat → Fs) (q : Nat → Nat) (kd : Int) (w : World) (e : Ending) (w' : World) : Prop :=
  e = .returned (.int .i64 kd) ∧ Box w' V (vs 32 (gF f q)) 269 ∧ w.grownBy w' (some V)
set_option maxHeartbeats 4000000 in
theorem fread_skip (V x t : Nat) (f : Nat → Fs) (q : Nat → Nat) (c : Nat → Nat) (w : World) (hx : x < 8) (hm : (f x).many = false) (h1 : (f x).rt = t) (h2 : (f x).rn = c t) (hb : Box w V (vs 32 (gF f q)) 269) :
    Calls Tryz.prog 200 #[.pointer (some ⟨V, x * 4, none⟩), .agg (ep t (c t)), .agg (clk (ck c))] w (FvPost V f q 0 w) := by
  obtain ⟨b1, b2, hB, hs⟩ := boxes2 w (ep t (c t)) (clk (ck c)) 262 61
  generalize hW : ((w.alloc (.cells (ep t (c t)) 262)).alloc (.cells (clk (ck c)) 61)) = W at *
  have HB := Lib.hid hB
  have HV := Lib.hid ((Bel.of hB).box hb)
  have c2 := HV.out.cell (x * 4 + 2) (vs_get _ (by omega))
  rw [gF_2, rdv_one hm, h1, h2] at c2
  have q1 := ta_sg_one t (c t)
  have NE := eql_ep t (c t) t (c t)
  rw [decide_eq_true (And.intro rfl rfl)] at NE
  have G := grd_ep
  clear hB hb hs hm h1 h2
  go_enter Tryz.func200, Tryz.ntmps200
  have hbn := Box.new W (ep t (c t)) 271
  have hb1 := b1.old (.cells (ep t (c t)) 271)
  have HBN := Lib.hid (((Bel.of HB.out).alloc (.cells (ep t (c t)) 271)))
  go_wp2_with (first | (refine storeNew (c' := ep t (c t)) _ _ _ rfl rfl rfl rfl rfl TSg (ep_all _ _) ?_) | (refine loadG _ _ rfl rfl rfl hbn ty37 ?_) | (refine loadG _ _ rfl rfl rfl hb1 ty37 ?_))
  go_ret
  exact ⟨rfl, HV.out.old _, chg_bel HBN.out _⟩
set_option maxHeartbeats 8000000 in
theorem fread_many (V x t : Nat) (f : Nat → Fs) (q : Nat → Nat) (c : Nat → Nat) (w : World) (hx : x < 8) (ht : t < 6) (hwt : (f x).wt < 6) (hm : (f x).many = true) {kd : Int} (hkd : kd = if (f x).wn ≤ c (f x).wt then 0 else 2) (hb : Box w V (vs 32 (gF f q)) 269) :
    Calls Tryz.prog 200 #[.pointer (some ⟨V, x * 4, none⟩), .agg (ep t (c t)), .agg (clk (ck c))] w (FvPost V (upFs f x (fsR (f x) t c)) q kd w) := by
  obtain ⟨b1, b2, hB, hs⟩ := boxes2 w (ep t (c t)) (clk (ck c)) 262 61
  generalize hW : ((w.alloc (.cells (ep t (c t)) 262)).alloc (.cells (clk (ck c)) 61)) = W at *
  have HV := Lib.hid ((Bel.of hB).box hb)
  have c2 := HV.out.cell (x * 4 + 2) (vs_get _ (by omega))
  have hbn := Box.new W #[.int .i64 0, .int .i64 0] 271
  have hb1 := b1.old (.cells #[.int .i64 0, .int .i64 0] 271)
  have hb2 := b2.old (.cells #[.int .i64 0, .int .i64 0] 271)
  have HBN := Lib.hid (((Bel.of hB).alloc (.cells #[.int .i64 0, .int .i64 0] 271)))
  have HVN := Lib.hid (HV.out.old (.cells #[.int .i64 0, .int .i64 0] 271))
  have HB1N := Lib.hid hb1
  have HB2N := Lib.hid hb2
  have c2' := HVN.out.cell (x * 4 + 2) (vs_get _ (by omega))
  rw [gF_2, rdv_many hm] at c2 c2'
  have HKD := Lib.hid hkd
  have HWT := Lib.hid hwt
  have HRN := Lib.hid (show rdv (fsR (f x) t c) = manyV fun y => if y = t then c t else (f x).rc y from rdv_fsR_many hm t c)
  have HRW := Lib.hid (show (fsR (f x) t c).wt = (f x).wt ∧ (fsR (f x) t c).wn = (f x).wn from fsR_w _ _ _)
  generalize hr : (f x).rc = r at *
  have HM := Lib.hid hm
  have HVL := Lib.hid (show V < w.heap.size from hb.lt)
  have q1 := ta_sg_many r
  have q2 := fun n => mw_many n r
  unfold manyV at c2 c2' q1
  generalize hr' : (fun y => if y = t then c t else r y) = r' at *
  clear hm hr
  clear hB hb hs hkd hwt
  go_enter Tryz.func200, Tryz.ntmps200
  go_wp2_with (first | (refine loadG _ _ rfl rfl rfl hbn ty37 ?_) | (refine loadG _ _ rfl rfl rfl hb1 ty37 ?_) | (refine loadB _ _ rfl rfl rfl hb1 ty37 ?_) | (refine loadB _ _ rfl rfl rfl hb2 ty28 ?_))
  refine (vwith_any r c t (c t) _ ht).mono ?_
  rintro e3 w3 ⟨rfl, hb3⟩
  have HV3 := Lib.hid ((Bel.of hb3).box HVN.out)
  have HB23 := Lib.hid ((Bel.of hb3).box HB2N.out)
  have HW3 := Lib.hid (HBN.out.call hb3)
  have c3 := HV3.out.cell (x * 4 + 2) (vs_get _ (by omega))
  have g3 := HV3.out.frozen (x * 4 + 2)
  clear hb3 hbn hb1 hb2 c2 c2' q1 q2 b1 b2 
  rw [hr']
  unfold manyV
  go_wp2_with fail
  have HV4 := Lib.hid (show Box (w3.setCell ⟨V, x * 4 + 2, none⟩ (manyV r')) V (vs 32 (gF (upFs f x (fsR (f x) t c)) q)) 269 by
    have h9 := HV3.out.set (x * 4 + 2) (manyV r')
    rw [← HRN.out, vs_set, gF_rd f q x HRW.out.1 HRW.out.2, HRN.out] at h9; exact h9)
  have HB24 := Lib.hid (show Box (w3.setCell ⟨V, x * 4 + 2, none⟩ (manyV r')) (w.heap.size + 1) (clk (ck c)) 61 from HB23.out.set_ne _ _ (by have := HVL.out; dsimp only; omega))
  have HG4 := Lib.hid (show w.grownBy (w3.setCell ⟨V, x * 4 + 2, none⟩ (manyV r')) (some V) from (chg_bel HW3.out _).trans (chg_cell _ _ _))
  unfold manyV at HV4 HB24 HG4
  refine (isClock_many r' _).mono ?_
  rintro e4 w4 ⟨rfl, hb4⟩
  go_wp2_with fail
  refine (isClock_many r _).mono ?_
  rintro e5 w5 ⟨rfl, hb5⟩
  have HX := Lib.hid ((Bel.of hb4).trans (Bel.of hb5))
  have HV5 := Lib.hid (HX.out.box HV4.out)
  have HB25 := Lib.hid (HX.out.box HB24.out)
  have HG5 := Lib.hid (HG4.out.trans (chg_bel HX.out _))
  clear hb4 hb5 c3 g3
  go_wp2
  have HW5 := Lib.hid (fun (w' : World) (h : Bel w5 w') => show w'.rangeAt V (x * 4) [.int .i64 ((f x).wt : Nat), .int .i64 ((f x).wn : Nat)] from fun j v hv => by
    have hV5 := h.box HV5.out
    match j, hv with
    | 0, hv => cases hv; have := hV5.cell (x * 4) (vs_get _ (by omega)); rw [gF_0, upFs_at, HRW.out.1] at this; exact this
    | 1, hv => cases hv; have := hV5.cell (x * 4 + 1) (vs_get _ (by omega)); rw [gF_1, upFs_at, HRW.out.2] at this; exact this)
  have bx5 := HB25.out
  (refine region_bel (by kernel_rfl) (by kernel_rfl) ?_; (repeat (first | ((with_reducible refine BigFrame.wpQuiet_skip ?_ ?_); exact rfl; simp only [Act.put, Act.eval, List.setIfInBounds_toArray, List.set_cons_zero, List.set_cons_succ, Array.getD_eq_getD_getElem?, List.getElem?_toArray, List.getElem?_cons_zero, List.getElem?_cons_succ, Option.getD_some]) | (refine q_move _ rfl rfl ?_; simp only [Act.put, Act.eval, List.setIfInBounds_toArray, List.set_cons_zero, List.set_cons_succ, Array.getD_eq_getD_getElem?, List.getElem?_toArray, List.getElem?_cons_zero, List.getElem?_cons_succ, Option.getD_some]) | (refine q_assign _ rfl rfl ?_; simp only [Act.put, Act.eval, List.setIfInBounds_toArray, List.set_cons_zero, List.set_cons_succ, Array.getD_eq_getD_getElem?, List.getElem?_toArray, List.getElem?_cons_zero, List.getElem?_cons_succ, Option.getD_some]) | (refine q_load _ _ rfl rfl rfl bx5 ty28 ?_; simp only [Act.put, Act.eval, List.setIfInBounds_toArray, List.set_cons_zero, List.set_cons_succ, Array.getD_eq_getD_getElem?, List.getElem?_toArray, List.getElem?_cons_zero, List.getElem?_cons_succ, Option.getD_some]) | (refine q_load_mid _ _ rfl rfl rfl HW5.out ty37 (ep ((f x).wt : Nat) ((f x).wn : Nat)) rfl ?_; simp only [Act.put, Act.eval, List.setIfInBounds_toArray, List.set_cons_zero, List.set_cons_succ, Array.getD_eq_getD_getElem?, List.getElem?_toArray, List.getElem?_cons_zero, List.getElem?_cons_succ, Option.getD_some]) | (refine q_any rfl ?_; apply Exists.intro; refine ⟨fun w hw => ?_, ?_⟩; (go_simp; first | exact ⟨rfl, rfl⟩ | rfl | (go_at_call 208; (with_reducible refine (seen_any _ _ _ _).mono ?_); rintro e w' ⟨rfl, hb⟩; exact ⟨rfl, hw.call hb⟩)); simp only [Act.put, Act.eval, List.setIfInBounds_toArray, List.set_cons_zero, List.set_cons_succ, Array.getD_eq_getD_getElem?, List.getElem?_toArray, List.getElem?_cons_zero, List.getElem?_cons_succ, Option.getD_some]))); refine wpQuiet_nil ?_; intro w2 hw2)
  rw [seen_ck c HWT.out]
  have HF := Lib.hid (And.intro (hw2.box HV5.out) (HG5.out.trans (chg_bel hw2 _)))
  clear bx5 hw2
  by_cases hk : (f x).wn ≤ c (f x).wt
  · have HK := Lib.hid (show kd = 0 by rw [HKD.out, if_pos hk])
    rw [decide_eq_true hk]
    clear hk
    go_wp2
    go_ret
    exact ⟨by rw [HK.out]; rfl, HF.out.1, HF.out.2⟩
  · have HK := Lib.hid (show kd = 2 by rw [HKD.out, if_neg hk])
    rw [decide_eq_false hk]
    clear hk
    go_wp2
    go_ret
    exact ⟨by rw [HK.out]; rfl, HF.out.1, HF.out.2⟩

set_option maxHeartbeats 8000000 in
theorem fread_one (V x t : Nat) (f : Nat → Fs) (q : Nat → Nat) (c : Nat → Nat) (w : World) (hx : x < 8) (ht : t < 6) (hwt : (f x).wt < 6) (hrt6 : (f x).rt < 6) (hm : (f x).many = false) (hns : ¬ ((f x).rt = t ∧ (f x).rn = c t)) (hk : (f x).rn ≤ c (f x).rt) {kd : Int} (hkd : kd = if (f x).wn ≤ c (f x).wt then 0 else 2) (hb : Box w V (vs 32 (gF f q)) 269) :
    Calls Tryz.prog 200 #[.pointer (some ⟨V, x * 4, none⟩), .agg (ep t (c t)), .agg (clk (ck c))] w (FvPost V (upFs f x (fsR (f x) t c)) q kd w) := by
  obtain ⟨b1, b2, hB, hs⟩ := boxes2 w (ep t (c t)) (clk (ck c)) 262 61
  generalize hW : ((w.alloc (.cells (ep t (c t)) 262)).alloc (.cells (clk (ck c)) 61)) = W at *
  have HV := Lib.hid ((Bel.of hB).box hb)
  have c2 := HV.out.cell (x * 4 + 2) (vs_get _ (by omega))
  have hbn := Box.new W (ep ((f x).rt : Nat) ((f x).rn : Nat)) 271
  have hb1 := b1.old (.cells (ep ((f x).rt : Nat) ((f x).rn : Nat)) 271)
  have hb2 := b2.old (.cells (ep ((f x).rt : Nat) ((f x).rn : Nat)) 271)
  have HBN := Lib.hid (((Bel.of hB).alloc (.cells (ep ((f x).rt : Nat) ((f x).rn : Nat)) 271)))
  have HVN := Lib.hid (HV.out.old (.cells (ep ((f x).rt : Nat) ((f x).rn : Nat)) 271))
  have HB1N := Lib.hid hb1
  have HB2N := Lib.hid hb2
  have c2' := HVN.out.cell (x * 4 + 2) (vs_get _ (by omega))
  rw [gF_2, rdv_one hm] at c2 c2'
  have HKD := Lib.hid hkd
  have HWT := Lib.hid hwt
  have HRN := Lib.hid (show rdv (fsR (f x) t c) = oneV t (c t) from rdv_fsR_one hm hk)
  have HRW := Lib.hid (show (fsR (f x) t c).wt = (f x).wt ∧ (fsR (f x) t c).wn = (f x).wn from fsR_w _ _ _)
  generalize hrt : (f x).rt = rt at *
  generalize hrn : (f x).rn = rn at *
  have HVL := Lib.hid (show V < w.heap.size from hb.lt)
  have q1 := ta_sg_one rt rn
  have q2 := fun n => mw_one n rt rn
  unfold oneV at c2 c2' q1
  have NE := eql_ep (rt : Nat) (rn : Nat) (t : Nat) (c t : Nat)
  rw [decide_eq_false (show ¬ ((rt : Int) = (t : Int) ∧ (rn : Int) = (c t : Nat)) from fun h => hns ⟨by omega, by omega⟩)] at NE
  have G := grd_ep
  have HRT := Lib.hid hrt6
  clear hm hrt hrn hns hrt6
  have HS := Lib.hid (show swV rt rn t (c t) c = oneV t (c t) from if_pos hk)
  clear hk
  clear hB hb hs hkd hwt
  go_enter Tryz.func200, Tryz.ntmps200
  go_wp2_with (first | (refine storeNew (c' := ep (rt : Nat) (rn : Nat)) _ _ _ rfl rfl rfl rfl rfl TSg (ep_all _ _) ?_) | (refine loadG _ _ rfl rfl rfl hbn ty37 ?_) | (refine loadG _ _ rfl rfl rfl hb1 ty37 ?_) | (refine loadB _ _ rfl rfl rfl hb1 ty37 ?_) | (refine loadB _ _ rfl rfl rfl hb2 ty28 ?_))
  refine (swith_any rt rn t (c t) c _ HRT.out ht).mono ?_
  rintro e3 w3 ⟨rfl, hb3⟩
  have HV3 := Lib.hid ((Bel.of hb3).box HVN.out)
  have HB23 := Lib.hid ((Bel.of hb3).box HB2N.out)
  have HW3 := Lib.hid (HBN.out.call hb3)
  have c3 := HV3.out.cell (x * 4 + 2) (vs_get _ (by omega))
  have g3 := HV3.out.frozen (x * 4 + 2)
  clear hb3 hbn hb1 hb2 c2 c2' q1 q2 b1 b2 NE G
  rw [HS.out]
  unfold oneV
  go_wp2_with fail
  have HV4 := Lib.hid (show Box (w3.setCell ⟨V, x * 4 + 2, none⟩ (oneV t (c t))) V (vs 32 (gF (upFs f x (fsR (f x) t c)) q)) 269 by
    have h9 := HV3.out.set (x * 4 + 2) (oneV t (c t))
    rw [← HRN.out, vs_set, gF_rd f q x HRW.out.1 HRW.out.2, HRN.out] at h9; exact h9)
  have HB24 := Lib.hid (show Box (w3.setCell ⟨V, x * 4 + 2, none⟩ (oneV t (c t))) (w.heap.size + 1) (clk (ck c)) 61 from HB23.out.set_ne _ _ (by have := HVL.out; dsimp only; omega))
  have HG4 := Lib.hid (show w.grownBy (w3.setCell ⟨V, x * 4 + 2, none⟩ (oneV t (c t))) (some V) from (chg_bel HW3.out _).trans (chg_cell _ _ _))
  unfold oneV at HV4 HB24 HG4
  refine (isClock_one t (c t) _).mono ?_
  rintro e4 w5 ⟨rfl, hb4⟩
  have HX := Lib.hid (Bel.of hb4)
  have HV5 := Lib.hid (HX.out.box HV4.out)
  have HB25 := Lib.hid (HX.out.box HB24.out)
  have HG5 := Lib.hid (HG4.out.trans (chg_bel HX.out _))
  clear hb4 c3 g3
  go_wp2
  have HW5 := Lib.hid (fun (w' : World) (h : Bel w5 w') => show w'.rangeAt V (x * 4) [.int .i64 ((f x).wt : Nat), .int .i64 ((f x).wn : Nat)] from fun j v hv => by
    have hV5 := h.box HV5.out
    match j, hv with
    | 0, hv => cases hv; have := hV5.cell (x * 4) (vs_get _ (by omega)); rw [gF_0, upFs_at, HRW.out.1] at this; exact this
    | 1, hv => cases hv; have := hV5.cell (x * 4 + 1) (vs_get _ (by omega)); rw [gF_1, upFs_at, HRW.out.2] at this; exact this)
  have bx5 := HB25.out
  (refine region_bel (by kernel_rfl) (by kernel_rfl) ?_; (repeat (first | ((with_reducible refine BigFrame.wpQuiet_skip ?_ ?_); exact rfl; simp only [Act.put, Act.eval, List.setIfInBounds_toArray, List.set_cons_zero, List.set_cons_succ, Array.getD_eq_getD_getElem?, List.getElem?_toArray, List.getElem?_cons_zero, List.getElem?_cons_succ, Option.getD_some]) | (refine q_move _ rfl rfl ?_; simp only [Act.put, Act.eval, List.setIfInBounds_toArray, List.set_cons_zero, List.set_cons_succ, Array.getD_eq_getD_getElem?, List.getElem?_toArray, List.getElem?_cons_zero, List.getElem?_cons_succ, Option.getD_some]) | (refine q_assign _ rfl rfl ?_; simp only [Act.put, Act.eval, List.setIfInBounds_toArray, List.set_cons_zero, List.set_cons_succ, Array.getD_eq_getD_getElem?, List.getElem?_toArray, List.getElem?_cons_zero, List.getElem?_cons_succ, Option.getD_some]) | (refine q_load _ _ rfl rfl rfl bx5 ty28 ?_; simp only [Act.put, Act.eval, List.setIfInBounds_toArray, List.set_cons_zero, List.set_cons_succ, Array.getD_eq_getD_getElem?, List.getElem?_toArray, List.getElem?_cons_zero, List.getElem?_cons_succ, Option.getD_some]) | (refine q_load_mid _ _ rfl rfl rfl HW5.out ty37 (ep ((f x).wt : Nat) ((f x).wn : Nat)) rfl ?_; simp only [Act.put, Act.eval, List.setIfInBounds_toArray, List.set_cons_zero, List.set_cons_succ, Array.getD_eq_getD_getElem?, List.getElem?_toArray, List.getElem?_cons_zero, List.getElem?_cons_succ, Option.getD_some]) | (refine q_any rfl ?_; apply Exists.intro; refine ⟨fun w hw => ?_, ?_⟩; (go_simp; first | exact ⟨rfl, rfl⟩ | rfl | (go_at_call 208; (with_reducible refine (seen_any _ _ _ _).mono ?_); rintro e w' ⟨rfl, hb⟩; exact ⟨rfl, hw.call hb⟩)); simp only [Act.put, Act.eval, List.setIfInBounds_toArray, List.set_cons_zero, List.set_cons_succ, Array.getD_eq_getD_getElem?, List.getElem?_toArray, List.getElem?_cons_zero, List.getElem?_cons_succ, Option.getD_some]))); refine wpQuiet_nil ?_; intro w2 hw2)
  rw [seen_ck c HWT.out]
  have HF := Lib.hid (And.intro (hw2.box HV5.out) (HG5.out.trans (chg_bel hw2 _)))
  clear bx5 hw2
  by_cases hk : (f x).wn ≤ c (f x).wt
  · have HK := Lib.hid (show kd = 0 by rw [HKD.out, if_pos hk])
    rw [decide_eq_true hk]
    clear hk
    go_wp2
    go_ret
    exact ⟨by rw [HK.out]; rfl, HF.out.1, HF.out.2⟩
  · have HK := Lib.hid (show kd = 2 by rw [HKD.out, if_neg hk])
    rw [decide_eq_false hk]
    clear hk
    go_wp2
    go_ret
    exact ⟨by rw [HK.out]; rfl, HF.out.1, HF.out.2⟩

set_option maxHeartbeats 8000000 in
theorem fread_more (V x t : Nat) (f : Nat → Fs) (q : Nat → Nat) (c : Nat → Nat) (w : World) (hx : x < 8) (ht : t < 6) (hwt : (f x).wt < 6) (hrt6 : (f x).rt < 6) (hq : q x ≤ 1000) (hm : (f x).many = false) (hns : ¬ ((f x).rt = t ∧ (f x).rn = c t)) (hk : ¬ (f x).rn ≤ c (f x).rt) {kd : Int} (hkd : kd = if (f x).wn ≤ c (f x).wt then 0 else 2) (hb : Box w V (vs 32 (gF f q)) 269) :
    Calls Tryz.prog 200 #[.pointer (some ⟨V, x * 4, none⟩), .agg (ep t (c t)), .agg (clk (ck c))] w (FvPost V (upFs f x (fsR (f x) t c)) (updN q x (q x + 1)) kd w) := by
  obtain ⟨b1, b2, hB, hs⟩ := boxes2 w (ep t (c t)) (clk (ck c)) 262 61
  generalize hW : ((w.alloc (.cells (ep t (c t)) 262)).alloc (.cells (clk (ck c)) 61)) = W at *
  have HV := Lib.hid ((Bel.of hB).box hb)
  have c2 := HV.out.cell (x * 4 + 2) (vs_get _ (by omega))
  have hbn := Box.new W (ep ((f x).rt : Nat) ((f x).rn : Nat)) 271
  have hb1 := b1.old (.cells (ep ((f x).rt : Nat) ((f x).rn : Nat)) 271)
  have hb2 := b2.old (.cells (ep ((f x).rt : Nat) ((f x).rn : Nat)) 271)
  have HBN := Lib.hid (((Bel.of hB).alloc (.cells (ep ((f x).rt : Nat) ((f x).rn : Nat)) 271)))
  have HVN := Lib.hid (HV.out.old (.cells (ep ((f x).rt : Nat) ((f x).rn : Nat)) 271))
  have HB1N := Lib.hid hb1
  have HB2N := Lib.hid hb2
  have c2' := HVN.out.cell (x * 4 + 2) (vs_get _ (by omega))
  rw [gF_2, rdv_one hm] at c2 c2'
  have HKD := Lib.hid hkd
  have HWT := Lib.hid hwt
  have HRN := Lib.hid (show rdv (fsR (f x) t c) = manyV fun y => if y = t then c t else if y = (f x).rt then (f x).rn else 0 from rdv_fsR_more hm hk)
  have HRW := Lib.hid (show (fsR (f x) t c).wt = (f x).wt ∧ (fsR (f x) t c).wn = (f x).wn from fsR_w _ _ _)
  generalize hrt : (f x).rt = rt at *
  generalize hrn : (f x).rn = rn at *
  have HVL := Lib.hid (show V < w.heap.size from hb.lt)
  have q1 := ta_sg_one rt rn
  have q2 := fun n => mw_one n rt rn
  unfold oneV at c2 c2' q1
  have NE := eql_ep (rt : Nat) (rn : Nat) (t : Nat) (c t : Nat)
  rw [decide_eq_false (show ¬ ((rt : Int) = (t : Int) ∧ (rn : Int) = (c t : Nat)) from fun h => hns ⟨by omega, by omega⟩)] at NE
  have G := grd_ep
  have HRT := Lib.hid hrt6
  clear hm hrt hrn hns hrt6
  have HS := Lib.hid (show swV rt rn t (c t) c = manyV fun y => if y = t then c t else if y = rt then rn else 0 from if_neg hk)
  generalize hr' : (fun y => if y = t then c t else if y = rt then rn else 0) = r' at *
  have HQ := Lib.hid hq
  clear hk hq
  clear hB hb hs hkd hwt
  go_enter Tryz.func200, Tryz.ntmps200
  go_wp2_with (first | (refine storeNew (c' := ep (rt : Nat) (rn : Nat)) _ _ _ rfl rfl rfl rfl rfl TSg (ep_all _ _) ?_) | (refine loadG _ _ rfl rfl rfl hbn ty37 ?_) | (refine loadG _ _ rfl rfl rfl hb1 ty37 ?_) | (refine loadB _ _ rfl rfl rfl hb1 ty37 ?_) | (refine loadB _ _ rfl rfl rfl hb2 ty28 ?_))
  refine (swith_any rt rn t (c t) c _ HRT.out ht).mono ?_
  rintro e3 w3 ⟨rfl, hb3⟩
  have HV3 := Lib.hid ((Bel.of hb3).box HVN.out)
  have HB23 := Lib.hid ((Bel.of hb3).box HB2N.out)
  have HW3 := Lib.hid (HBN.out.call hb3)
  have c3 := HV3.out.cell (x * 4 + 2) (vs_get _ (by omega))
  have g3 := HV3.out.frozen (x * 4 + 2)
  clear hb3 hbn hb1 hb2 c2 c2' q1 q2 b1 b2 NE G
  rw [HS.out]
  unfold manyV
  go_wp2_with fail
  have HV4 := Lib.hid (show Box (w3.setCell ⟨V, x * 4 + 2, none⟩ (manyV r')) V (vs 32 (gF (upFs f x (fsR (f x) t c)) q)) 269 by
    have h9 := HV3.out.set (x * 4 + 2) (manyV r')
    rw [← HRN.out, vs_set, gF_rd f q x HRW.out.1 HRW.out.2, HRN.out] at h9; exact h9)
  have HB24 := Lib.hid (show Box (w3.setCell ⟨V, x * 4 + 2, none⟩ (manyV r')) (w.heap.size + 1) (clk (ck c)) 61 from HB23.out.set_ne _ _ (by have := HVL.out; dsimp only; omega))
  have HG4 := Lib.hid (show w.grownBy (w3.setCell ⟨V, x * 4 + 2, none⟩ (manyV r')) (some V) from (chg_bel HW3.out _).trans (chg_cell _ _ _))
  unfold manyV at HV4 HB24 HG4
  refine (isClock_many r' _).mono ?_
  rintro e4 w4 ⟨rfl, hb4⟩
  go_wp2_with fail
  refine (isClock_one rt rn _).mono ?_
  rintro e5 w9 ⟨rfl, hb5⟩
  have HX := Lib.hid ((Bel.of hb4).trans (Bel.of hb5))
  have HV9 := Lib.hid (HX.out.box HV4.out)
  have HB29 := Lib.hid (HX.out.box HB24.out)
  have HG9 := Lib.hid (HG4.out.trans (chg_bel HX.out _))
  have c9 := HV9.out.cell (x * 4 + 3) (vs_get _ (by omega))
  rw [gF_3] at c9
  have g9 := HV9.out.frozen (x * 4 + 3)
  have wr9 : IntKind.i64.wrap ((q x : Nat) + 1 : Int) = ((q x : Nat) + 1 : Int) := IntWalk.i64_in _ (by have := HQ.out; omega)
  clear hb4 hb5 c3 g3
  go_wp2
  have HV5 := Lib.hid (show Box (w9.setCell ⟨V, x * 4 + 3, none⟩ (.int .i64 ((q x : Nat) + 1 : Int))) V (vs 32 (gF (upFs f x (fsR (f x) t c)) (updN q x (q x + 1)))) 269 by
    have h9 := HV9.out.set (x * 4 + 3) (.int .i64 ((q x + 1 : Nat) : Int)); rw [vs_set, gF_slow] at h9; exact h9)
  have HB25 := Lib.hid (show Box (w9.setCell ⟨V, x * 4 + 3, none⟩ (.int .i64 ((q x : Nat) + 1 : Int))) (w.heap.size + 1) (clk (ck c)) 61 from HB29.out.set_ne _ _ (by have := HVL.out; dsimp only; omega))
  have HG5 := Lib.hid (show w.grownBy (w9.setCell ⟨V, x * 4 + 3, none⟩ (.int .i64 ((q x : Nat) + 1 : Int))) (some V) from HG9.out.trans (chg_cell _ _ _))
  clear c9 g9 wr9
  generalize w9.setCell ⟨V, x * 4 + 3, none⟩ (.int .i64 ((q x : Nat) + 1 : Int)) = w5 at *

  have HW5 := Lib.hid (fun (w' : World) (h : Bel w5 w') => show w'.rangeAt V (x * 4) [.int .i64 ((f x).wt : Nat), .int .i64 ((f x).wn : Nat)] from fun j v hv => by
    have hV5 := h.box HV5.out
    match j, hv with
    | 0, hv => cases hv; have := hV5.cell (x * 4) (vs_get _ (by omega)); rw [gF_0, upFs_at, HRW.out.1] at this; exact this
    | 1, hv => cases hv; have := hV5.cell (x * 4 + 1) (vs_get _ (by omega)); rw [gF_1, upFs_at, HRW.out.2] at this; exact this)
  have bx5 := HB25.out
  (refine region_bel (by kernel_rfl) (by kernel_rfl) ?_; (repeat (first | ((with_reducible refine BigFrame.wpQuiet_skip ?_ ?_); exact rfl; simp only [Act.put, Act.eval, List.setIfInBounds_toArray, List.set_cons_zero, List.set_cons_succ, Array.getD_eq_getD_getElem?, List.getElem?_toArray, List.getElem?_cons_zero, List.getElem?_cons_succ, Option.getD_some]) | (refine q_move _ rfl rfl ?_; simp only [Act.put, Act.eval, List.setIfInBounds_toArray, List.set_cons_zero, List.set_cons_succ, Array.getD_eq_getD_getElem?, List.getElem?_toArray, List.getElem?_cons_zero, List.getElem?_cons_succ, Option.getD_some]) | (refine q_assign _ rfl rfl ?_; simp only [Act.put, Act.eval, List.setIfInBounds_toArray, List.set_cons_zero, List.set_cons_succ, Array.getD_eq_getD_getElem?, List.getElem?_toArray, List.getElem?_cons_zero, List.getElem?_cons_succ, Option.getD_some]) | (refine q_load _ _ rfl rfl rfl bx5 ty28 ?_; simp only [Act.put, Act.eval, List.setIfInBounds_toArray, List.set_cons_zero, List.set_cons_succ, Array.getD_eq_getD_getElem?, List.getElem?_toArray, List.getElem?_cons_zero, List.getElem?_cons_succ, Option.getD_some]) | (refine q_load_mid _ _ rfl rfl rfl HW5.out ty37 (ep ((f x).wt : Nat) ((f x).wn : Nat)) rfl ?_; simp only [Act.put, Act.eval, List.setIfInBounds_toArray, List.set_cons_zero, List.set_cons_succ, Array.getD_eq_getD_getElem?, List.getElem?_toArray, List.getElem?_cons_zero, List.getElem?_cons_succ, Option.getD_some]) | (refine q_any rfl ?_; apply Exists.intro; refine ⟨fun w hw => ?_, ?_⟩; (go_simp; first | exact ⟨rfl, rfl⟩ | rfl | (go_at_call 208; (with_reducible refine (seen_any _ _ _ _).mono ?_); rintro e w' ⟨rfl, hb⟩; exact ⟨rfl, hw.call hb⟩)); simp only [Act.put, Act.eval, List.setIfInBounds_toArray, List.set_cons_zero, List.set_cons_succ, Array.getD_eq_getD_getElem?, List.getElem?_toArray, List.getElem?_cons_zero, List.getElem?_cons_succ, Option.getD_some]))); refine wpQuiet_nil ?_; intro w2 hw2)
  rw [seen_ck c HWT.out]
  have HF := Lib.hid (And.intro (hw2.box HV5.out) (HG5.out.trans (chg_bel hw2 _)))
  clear bx5 hw2
  by_cases hk : (f x).wn ≤ c (f x).wt
  · have HK := Lib.hid (show kd = 0 by rw [HKD.out, if_pos hk])
    rw [decide_eq_true hk]
    clear hk
    go_wp2
    go_ret
    exact ⟨by rw [HK.out]; rfl, HF.out.1, HF.out.2⟩
  · have HK := Lib.hid (show kd = 2 by rw [HKD.out, if_neg hk])
    rw [decide_eq_false hk]
    clear hk
    go_wp2
    go_ret
    exact ⟨by rw [HK.out]; rfl, HF.out.1, HF.out.2⟩

end Go.Proofs.YtnklpifnknmdgaaGreatDoor
namespace Go.Proofs.YtnklpifnknmdgaaGreatDoor
open Go Go.RowKit

theorem wr_row {w : World} {V x : Nat} {f : Nat → Fs} {q : Nat → Nat} (h : Box w V (vs 32 (gF f q)) 269) (hx : x < 8) : w.rangeAt V (x * 4) [.int .i64 ((f x).wt : Nat), .int .i64 ((f x).wn : Nat)] := fun j v hv => by
  match j, hv with
  | 0, hv => cases hv; have := h.cell (x * 4) (vs_get _ (by omega)); rw [gF_0] at this; exact this
  | 1, hv => cases hv; have := h.cell (x * 4 + 1) (vs_get _ (by omega)); rw [gF_1] at this; exact this
def cfK (s : Fs) (c : Nat → Nat) : Int := if s.wn ≤ c s.wt then (if rKn s c = true then 0 else 3) else 1
set_option maxHeartbeats 8000000 in
theorem fconf_any (V x : Nat) (f : Nat → Fs) (q : Nat → Nat) (c : Nat → Nat) (w : World) (hx : x < 8) (hok : FsOk (f x)) (hb : Box w V (vs 32 (gF f q)) 269) :
    Calls Tryz.prog 209 #[.pointer (some ⟨V, x * 4, none⟩), .agg (clk (ck c))] w fun e w' => e = .returned (.int .i64 (cfK (f x) c)) ∧ Below w.heap.size w w' := by
  have HBW := Lib.hid (show Bel w (w.alloc (.cells (clk (ck c)) 61)) from (Bel.refl w).alloc _)
  have bx := Box.new w (clk (ck c)) 61
  have HV := Lib.hid (HBW.out.box hb)
  have HBX := Lib.hid bx
  have HOK := Lib.hid hok
  have HX := Lib.hid hx
  have HW5 := Lib.hid (fun (w' : World) (h : Bel (w.alloc (.cells (clk (ck c)) 61)) w') => wr_row (h.box HV.out) hx)
  clear hb hok
  generalize hW : w.alloc (.cells (clk (ck c)) 61) = W at *
  by_cases hk : (f x).wn ≤ c (f x).wt
  · have hk' : decide ((f x).wn ≤ c (f x).wt) = true := decide_eq_true hk
    by_cases hm : (f x).many = true
    · have HC := Lib.hid (show gF f q (x * 4 + 2) = .iface 302 (.agg (clk (ck (f x).rc))) by rw [gF_2, rdv_many hm]; rfl)
      have HR := Lib.hid (show rKn (f x) c = knwB (f x).rc c by unfold rKn; rw [if_pos hm])
      have q2 := fun n => mk_many n (f x).rc
      have HKC := Lib.hid (show cfK (f x) c = if rKn (f x) c = true then 0 else 3 by unfold cfK; rw [if_pos hk])
      clear hk hm
      go_enter Tryz.func209, Tryz.ntmps209
      go_wp2
      clear hW
      (refine region_bel (by kernel_rfl) (by kernel_rfl) ?_; (repeat (first | ((with_reducible refine BigFrame.wpQuiet_skip ?_ ?_); exact rfl; simp only [Act.put, Act.eval, List.setIfInBounds_toArray, List.set_cons_zero, List.set_cons_succ, Array.getD_eq_getD_getElem?, List.getElem?_toArray, List.getElem?_cons_zero, List.getElem?_cons_succ, Option.getD_some]) | (refine q_move _ rfl rfl ?_; simp only [Act.put, Act.eval, List.setIfInBounds_toArray, List.set_cons_zero, List.set_cons_succ, Array.getD_eq_getD_getElem?, List.getElem?_toArray, List.getElem?_cons_zero, List.getElem?_cons_succ, Option.getD_some]) | (refine q_assign _ rfl rfl ?_; simp only [Act.put, Act.eval, List.setIfInBounds_toArray, List.set_cons_zero, List.set_cons_succ, Array.getD_eq_getD_getElem?, List.getElem?_toArray, List.getElem?_cons_zero, List.getElem?_cons_succ, Option.getD_some]) | (refine q_load _ _ rfl rfl rfl bx ty28 ?_; simp only [Act.put, Act.eval, List.setIfInBounds_toArray, List.set_cons_zero, List.set_cons_succ, Array.getD_eq_getD_getElem?, List.getElem?_toArray, List.getElem?_cons_zero, List.getElem?_cons_succ, Option.getD_some]) | (refine q_load_mid _ _ rfl rfl rfl HW5.out ty37 (ep ((f x).wt : Nat) ((f x).wn : Nat)) rfl ?_; simp only [Act.put, Act.eval, List.setIfInBounds_toArray, List.set_cons_zero, List.set_cons_succ, Array.getD_eq_getD_getElem?, List.getElem?_toArray, List.getElem?_cons_zero, List.getElem?_cons_succ, Option.getD_some]) | (refine q_any rfl ?_; apply Exists.intro; refine ⟨fun w hw => ?_, ?_⟩; (go_simp; first | exact ⟨rfl, rfl⟩ | rfl | (go_at_call 208; (with_reducible refine (seen_any _ _ _ _).mono ?_); rintro e w' ⟨rfl, hb⟩; exact ⟨rfl, hw.call hb⟩)); simp only [Act.put, Act.eval, List.setIfInBounds_toArray, List.set_cons_zero, List.set_cons_succ, Array.getD_eq_getD_getElem?, List.getElem?_toArray, List.getElem?_cons_zero, List.getElem?_cons_succ, Option.getD_some]))); refine wpQuiet_nil ?_; intro w2 hw2)
      rw [seen_ck c HOK.out.wt, hk']
      have HW2 := Lib.hid hw2
      have bx2 := hw2.box HBX.out
      have HV2 := Lib.hid (hw2.box HV.out)
      clear hw2 hk' bx
      go_wp2
      have F2 := fun (w' : World) (h : Bel w2 w') => HC.out ▸ (h.box HV2.out).cell (x * 4 + 2) (vs_get _ (by omega))
      (refine region_bel (by kernel_rfl) (by kernel_rfl) ?_; (repeat (first | ((with_reducible refine BigFrame.wpQuiet_skip ?_ ?_); exact rfl; simp only [Act.put, Act.eval, List.setIfInBounds_toArray, List.set_cons_zero, List.set_cons_succ, Array.getD_eq_getD_getElem?, List.getElem?_toArray, List.getElem?_cons_zero, List.getElem?_cons_succ, Option.getD_some]) | (refine q_move _ rfl rfl ?_; simp only [Act.put, Act.eval, List.setIfInBounds_toArray, List.set_cons_zero, List.set_cons_succ, Array.getD_eq_getD_getElem?, List.getElem?_toArray, List.getElem?_cons_zero, List.getElem?_cons_succ, Option.getD_some]) | (refine q_assign _ rfl rfl ?_; simp only [Act.put, Act.eval, List.setIfInBounds_toArray, List.set_cons_zero, List.set_cons_succ, Array.getD_eq_getD_getElem?, List.getElem?_toArray, List.getElem?_cons_zero, List.getElem?_cons_succ, Option.getD_some]) | (refine q_load _ _ rfl rfl rfl bx2 ty28 ?_; simp only [Act.put, Act.eval, List.setIfInBounds_toArray, List.set_cons_zero, List.set_cons_succ, Array.getD_eq_getD_getElem?, List.getElem?_toArray, List.getElem?_cons_zero, List.getElem?_cons_succ, Option.getD_some]) | (refine q_any rfl ?_; apply Exists.intro; refine ⟨fun w hw => ?_, ?_⟩; (have fct0 := F2 w hw; go_simp; first | exact ⟨rfl, rfl⟩ | rfl | (go_at_call 234; (with_reducible refine (vknown_any _ _ _).mono ?_); rintro e w' ⟨rfl, hb⟩; exact ⟨rfl, hw.call hb⟩)); simp only [Act.put, Act.eval, List.setIfInBounds_toArray, List.set_cons_zero, List.set_cons_succ, Array.getD_eq_getD_getElem?, List.getElem?_toArray, List.getElem?_cons_zero, List.getElem?_cons_succ, Option.getD_some]))); refine wpQuiet_nil ?_; intro w2 hw2)
      rw [← HR.out]
      have HWE := Lib.hid ((HBW.out.trans HW2.out).trans hw2)
      clear F2 hw2 bx2 q2
      cases hrk : rKn (f x) c
      · have HK := Lib.hid (show cfK (f x) c = 3 by rw [HKC.out, hrk]; rfl)
        clear hrk
        go_wp2
        go_ret
        exact ⟨by rw [HK.out]; rfl, HWE.out⟩
      · have HK := Lib.hid (show cfK (f x) c = 0 by rw [HKC.out, hrk]; rfl)
        clear hrk
        go_wp2
        go_ret
        exact ⟨by rw [HK.out]; rfl, HWE.out⟩
    · have HC := Lib.hid (show gF f q (x * 4 + 2) = .iface 271 (.agg (ep ((f x).rt : Nat) ((f x).rn : Nat))) by rw [gF_2, rdv_one (by simpa using hm)]; rfl)
      have HR := Lib.hid (show rKn (f x) c = decide ((f x).rn ≤ c (f x).rt) by unfold rKn; rw [if_neg hm])
      have q2 := fun n => mk_one n (f x).rt (f x).rn
      have HKC := Lib.hid (show cfK (f x) c = if rKn (f x) c = true then 0 else 3 by unfold cfK; rw [if_pos hk])
      clear hk hm
      go_enter Tryz.func209, Tryz.ntmps209
      go_wp2
      clear hW
      (refine region_bel (by kernel_rfl) (by kernel_rfl) ?_; (repeat (first | ((with_reducible refine BigFrame.wpQuiet_skip ?_ ?_); exact rfl; simp only [Act.put, Act.eval, List.setIfInBounds_toArray, List.set_cons_zero, List.set_cons_succ, Array.getD_eq_getD_getElem?, List.getElem?_toArray, List.getElem?_cons_zero, List.getElem?_cons_succ, Option.getD_some]) | (refine q_move _ rfl rfl ?_; simp only [Act.put, Act.eval, List.setIfInBounds_toArray, List.set_cons_zero, List.set_cons_succ, Array.getD_eq_getD_getElem?, List.getElem?_toArray, List.getElem?_cons_zero, List.getElem?_cons_succ, Option.getD_some]) | (refine q_assign _ rfl rfl ?_; simp only [Act.put, Act.eval, List.setIfInBounds_toArray, List.set_cons_zero, List.set_cons_succ, Array.getD_eq_getD_getElem?, List.getElem?_toArray, List.getElem?_cons_zero, List.getElem?_cons_succ, Option.getD_some]) | (refine q_load _ _ rfl rfl rfl bx ty28 ?_; simp only [Act.put, Act.eval, List.setIfInBounds_toArray, List.set_cons_zero, List.set_cons_succ, Array.getD_eq_getD_getElem?, List.getElem?_toArray, List.getElem?_cons_zero, List.getElem?_cons_succ, Option.getD_some]) | (refine q_load_mid _ _ rfl rfl rfl HW5.out ty37 (ep ((f x).wt : Nat) ((f x).wn : Nat)) rfl ?_; simp only [Act.put, Act.eval, List.setIfInBounds_toArray, List.set_cons_zero, List.set_cons_succ, Array.getD_eq_getD_getElem?, List.getElem?_toArray, List.getElem?_cons_zero, List.getElem?_cons_succ, Option.getD_some]) | (refine q_any rfl ?_; apply Exists.intro; refine ⟨fun w hw => ?_, ?_⟩; (go_simp; first | exact ⟨rfl, rfl⟩ | rfl | (go_at_call 208; (with_reducible refine (seen_any _ _ _ _).mono ?_); rintro e w' ⟨rfl, hb⟩; exact ⟨rfl, hw.call hb⟩)); simp only [Act.put, Act.eval, List.setIfInBounds_toArray, List.set_cons_zero, List.set_cons_succ, Array.getD_eq_getD_getElem?, List.getElem?_toArray, List.getElem?_cons_zero, List.getElem?_cons_succ, Option.getD_some]))); refine wpQuiet_nil ?_; intro w2 hw2)
      rw [seen_ck c HOK.out.wt, hk']
      have HW2 := Lib.hid hw2
      have bx2 := hw2.box HBX.out
      have HV2 := Lib.hid (hw2.box HV.out)
      clear hw2 hk' bx
      go_wp2
      have F2 := fun (w' : World) (h : Bel w2 w') => HC.out ▸ (h.box HV2.out).cell (x * 4 + 2) (vs_get _ (by omega))
      (refine region_bel (by kernel_rfl) (by kernel_rfl) ?_; (repeat (first | ((with_reducible refine BigFrame.wpQuiet_skip ?_ ?_); exact rfl; simp only [Act.put, Act.eval, List.setIfInBounds_toArray, List.set_cons_zero, List.set_cons_succ, Array.getD_eq_getD_getElem?, List.getElem?_toArray, List.getElem?_cons_zero, List.getElem?_cons_succ, Option.getD_some]) | (refine q_move _ rfl rfl ?_; simp only [Act.put, Act.eval, List.setIfInBounds_toArray, List.set_cons_zero, List.set_cons_succ, Array.getD_eq_getD_getElem?, List.getElem?_toArray, List.getElem?_cons_zero, List.getElem?_cons_succ, Option.getD_some]) | (refine q_assign _ rfl rfl ?_; simp only [Act.put, Act.eval, List.setIfInBounds_toArray, List.set_cons_zero, List.set_cons_succ, Array.getD_eq_getD_getElem?, List.getElem?_toArray, List.getElem?_cons_zero, List.getElem?_cons_succ, Option.getD_some]) | (refine q_load _ _ rfl rfl rfl bx2 ty28 ?_; simp only [Act.put, Act.eval, List.setIfInBounds_toArray, List.set_cons_zero, List.set_cons_succ, Array.getD_eq_getD_getElem?, List.getElem?_toArray, List.getElem?_cons_zero, List.getElem?_cons_succ, Option.getD_some]) | (refine q_any rfl ?_; apply Exists.intro; refine ⟨fun w hw => ?_, ?_⟩; (have fct0 := F2 w hw; go_simp; first | exact ⟨rfl, rfl⟩ | rfl | (go_at_call 229; (with_reducible refine (sknown_any _ _ _ _ HOK.out.rt).mono ?_); rintro e w' ⟨rfl, hb⟩; exact ⟨rfl, hw.call hb⟩)); simp only [Act.put, Act.eval, List.setIfInBounds_toArray, List.set_cons_zero, List.set_cons_succ, Array.getD_eq_getD_getElem?, List.getElem?_toArray, List.getElem?_cons_zero, List.getElem?_cons_succ, Option.getD_some]))); refine wpQuiet_nil ?_; intro w2 hw2)
      rw [← HR.out]
      have HWE := Lib.hid ((HBW.out.trans HW2.out).trans hw2)
      clear F2 hw2 bx2 q2
      cases hrk : rKn (f x) c
      · have HK := Lib.hid (show cfK (f x) c = 3 by rw [HKC.out, hrk]; rfl)
        clear hrk
        go_wp2
        go_ret
        exact ⟨by rw [HK.out]; rfl, HWE.out⟩
      · have HK := Lib.hid (show cfK (f x) c = 0 by rw [HKC.out, hrk]; rfl)
        clear hrk
        go_wp2
        go_ret
        exact ⟨by rw [HK.out]; rfl, HWE.out⟩
  · have HK := Lib.hid (show cfK (f x) c = 1 by unfold cfK; rw [if_neg hk])
    have hk' : decide ((f x).wn ≤ c (f x).wt) = false := decide_eq_false hk
    clear hk
    go_enter Tryz.func209, Tryz.ntmps209
    go_wp2
    clear hW
    (refine region_bel (by kernel_rfl) (by kernel_rfl) ?_; (repeat (first | ((with_reducible refine BigFrame.wpQuiet_skip ?_ ?_); exact rfl; simp only [Act.put, Act.eval, List.setIfInBounds_toArray, List.set_cons_zero, List.set_cons_succ, Array.getD_eq_getD_getElem?, List.getElem?_toArray, List.getElem?_cons_zero, List.getElem?_cons_succ, Option.getD_some]) | (refine q_move _ rfl rfl ?_; simp only [Act.put, Act.eval, List.setIfInBounds_toArray, List.set_cons_zero, List.set_cons_succ, Array.getD_eq_getD_getElem?, List.getElem?_toArray, List.getElem?_cons_zero, List.getElem?_cons_succ, Option.getD_some]) | (refine q_assign _ rfl rfl ?_; simp only [Act.put, Act.eval, List.setIfInBounds_toArray, List.set_cons_zero, List.set_cons_succ, Array.getD_eq_getD_getElem?, List.getElem?_toArray, List.getElem?_cons_zero, List.getElem?_cons_succ, Option.getD_some]) | (refine q_load _ _ rfl rfl rfl bx ty28 ?_; simp only [Act.put, Act.eval, List.setIfInBounds_toArray, List.set_cons_zero, List.set_cons_succ, Array.getD_eq_getD_getElem?, List.getElem?_toArray, List.getElem?_cons_zero, List.getElem?_cons_succ, Option.getD_some]) | (refine q_load_mid _ _ rfl rfl rfl HW5.out ty37 (ep ((f x).wt : Nat) ((f x).wn : Nat)) rfl ?_; simp only [Act.put, Act.eval, List.setIfInBounds_toArray, List.set_cons_zero, List.set_cons_succ, Array.getD_eq_getD_getElem?, List.getElem?_toArray, List.getElem?_cons_zero, List.getElem?_cons_succ, Option.getD_some]) | (refine q_any rfl ?_; apply Exists.intro; refine ⟨fun w hw => ?_, ?_⟩; (go_simp; first | exact ⟨rfl, rfl⟩ | rfl | (go_at_call 208; (with_reducible refine (seen_any _ _ _ _).mono ?_); rintro e w' ⟨rfl, hb⟩; exact ⟨rfl, hw.call hb⟩)); simp only [Act.put, Act.eval, List.setIfInBounds_toArray, List.set_cons_zero, List.set_cons_succ, Array.getD_eq_getD_getElem?, List.getElem?_toArray, List.getElem?_cons_zero, List.getElem?_cons_succ, Option.getD_some]))); refine wpQuiet_nil ?_; intro w2 hw2)
    rw [seen_ck c HOK.out.wt, hk']
    clear hk'
    go_wp2
    go_ret
    exact ⟨by rw [HK.out]; rfl, HBW.out.trans hw2⟩
theorem vs_there {w : World} {V x : Nat} {f : Nat → Fs} {q : Nat → Nat} (h : Box w V (vs 32 (gF f q)) 269) (hx : x < 8) : w.there V (x * 4) 2 := fun j hj => ⟨by rw [h.cell (x * 4 + j) (vs_get _ (by omega))]; rfl, h.frozen _⟩
theorem vs_wr {w : World} {V x t n : Nat} {f : Nat → Fs} {q : Nat → Nat} (h : Box w V (vs 32 (gF f q)) 269) {s : Fs} (h1 : s.wt = t) (h2 : s.wn = n) (h3 : rdv s = rdv (f x)) : Box (w.setCells V (x * 4) (ep (t : Nat) (n : Nat)).toList) V (vs 32 (gF (upFs f x s) q)) 269 := by
  have h9 := (h.set (x * 4) (.int .i64 (t : Nat))).set (x * 4 + 1) (.int .i64 (n : Nat))
  rw [vs_set, vs_set, gF_wr f q x t n h1 h2 h3] at h9
  exact h9
theorem upFs_two (f : Nat → Fs) (x : Nat) (s u : Fs) : upFs (upFs f x s) x u = upFs f x u := by
  funext y; unfold upFs; split <;> rfl
set_option maxHeartbeats 8000000 in
theorem fwrite_skip (V x t : Nat) (f : Nat → Fs) (q : Nat → Nat) (c : Nat → Nat) (w : World) (hx : x < 8) (h1 : (f x).wt = t) (h2 : (f x).wn = c t) (hb : Box w V (vs 32 (gF f q)) 269) :
    Calls Tryz.prog 201 #[.pointer (some ⟨V, x * 4, none⟩), .agg (ep t (c t)), .agg (clk (ck c))] w (FvPost V f q 0 w) := by
  obtain ⟨b1, b2, hB, hs⟩ := boxes2 w (ep t (c t)) (clk (ck c)) 262 61
  generalize hW : ((w.alloc (.cells (ep t (c t)) 262)).alloc (.cells (clk (ck c)) 61)) = W at *
  have HB := Lib.hid (Bel.of hB)
  have HV := Lib.hid ((Bel.of hB).box hb)
  have HW5 := Lib.hid (fun (w' : World) (h : Bel W w') => wr_row (h.box HV.out) hx)
  rw [h1, h2] at HW5
  have NE := eql_ep (t : Nat) (c t : Nat) (t : Nat) (c t : Nat)
  rw [decide_eq_true (And.intro rfl rfl)] at NE
  have G := grd_ep
  clear hB hb hs h1 h2 b2
  go_enter Tryz.func201, Tryz.ntmps201
  go_wp2
  clear hW
  (refine region_bel (by kernel_rfl) (by kernel_rfl) ?_; (repeat (first | ((with_reducible refine BigFrame.wpQuiet_skip ?_ ?_); exact rfl; simp only [Act.put, Act.eval, List.setIfInBounds_toArray, List.set_cons_zero, List.set_cons_succ, Array.getD_eq_getD_getElem?, List.getElem?_toArray, List.getElem?_cons_zero, List.getElem?_cons_succ, Option.getD_some]) | (refine q_move _ rfl rfl ?_; simp only [Act.put, Act.eval, List.setIfInBounds_toArray, List.set_cons_zero, List.set_cons_succ, Array.getD_eq_getD_getElem?, List.getElem?_toArray, List.getElem?_cons_zero, List.getElem?_cons_succ, Option.getD_some]) | (refine q_assign _ rfl rfl ?_; simp only [Act.put, Act.eval, List.setIfInBounds_toArray, List.set_cons_zero, List.set_cons_succ, Array.getD_eq_getD_getElem?, List.getElem?_toArray, List.getElem?_cons_zero, List.getElem?_cons_succ, Option.getD_some]) | (refine q_load _ _ rfl rfl rfl b1 ty37 ?_; simp only [Act.put, Act.eval, List.setIfInBounds_toArray, List.set_cons_zero, List.set_cons_succ, Array.getD_eq_getD_getElem?, List.getElem?_toArray, List.getElem?_cons_zero, List.getElem?_cons_succ, Option.getD_some]) | (refine q_load_mid _ _ rfl rfl rfl HW5.out ty37 (ep (t : Nat) (c t : Nat)) rfl ?_; simp only [Act.put, Act.eval, List.setIfInBounds_toArray, List.set_cons_zero, List.set_cons_succ, Array.getD_eq_getD_getElem?, List.getElem?_toArray, List.getElem?_cons_zero, List.getElem?_cons_succ, Option.getD_some]) | (refine q_any rfl ?_; apply Exists.intro; refine ⟨fun w hw => ?_, ?_⟩; (go_simp; first | exact ⟨rfl, rfl⟩ | rfl); simp only [Act.put, Act.eval, List.setIfInBounds_toArray, List.set_cons_zero, List.set_cons_succ, Array.getD_eq_getD_getElem?, List.getElem?_toArray, List.getElem?_cons_zero, List.getElem?_cons_succ, Option.getD_some]))); refine wpQuiet_nil ?_; intro w2 hw2)
  go_wp2
  go_ret
  exact ⟨rfl, hw2.box HV.out, chg_bel (HB.out.trans hw2) _⟩
set_option maxHeartbeats 8000000 in
theorem fwrite_many (V x t : Nat) (f : Nat → Fs) (q : Nat → Nat) (c : Nat → Nat) (w : World) (hx : x < 8) (ht : t < 6) (hok : FsOk (f x)) (hns : ¬ ((f x).wt = t ∧ (f x).wn = c t)) (hm : (f x).many = true) (hb : Box w V (vs 32 (gF f q)) 269) :
    Calls Tryz.prog 201 #[.pointer (some ⟨V, x * 4, none⟩), .agg (ep t (c t)), .agg (clk (ck c))] w (FvPost V (upFs f x (fsW (f x) t c)) q (cfK (f x) c) w) := by
  obtain ⟨b1, b2, hB, hs⟩ := boxes2 w (ep t (c t)) (clk (ck c)) 262 61
  generalize hW : ((w.alloc (.cells (ep t (c t)) 262)).alloc (.cells (clk (ck c)) 61)) = W at *
  have HB := Lib.hid (Bel.of hB)
  have HB1 := Lib.hid b1
  have HB2 := Lib.hid b2
  have HX := Lib.hid hx
  have HOK := Lib.hid hok
  have HVL := Lib.hid (show V < w.heap.size from hb.lt)
  have HV := Lib.hid ((Bel.of hB).box hb)
  have HW5 := Lib.hid (fun (w' : World) (h : Bel W w') => wr_row (h.box HV.out) hx)
  have HM := Lib.hid hm
  have NE := eql_ep ((f x).wt : Nat) ((f x).wn : Nat) (t : Nat) (c t : Nat)
  rw [decide_eq_false (show ¬ (((f x).wt : Int) = (t : Int) ∧ ((f x).wn : Int) = (c t : Nat)) from fun h => hns ⟨by omega, by omega⟩)] at NE
  have G := grd_ep
  clear hB hb hs hns hm hok b2
  go_enter Tryz.func201, Tryz.ntmps201
  go_wp2
  clear hW
  (refine region_bel (by kernel_rfl) (by kernel_rfl) ?_; (repeat (first | ((with_reducible refine BigFrame.wpQuiet_skip ?_ ?_); exact rfl; simp only [Act.put, Act.eval, List.setIfInBounds_toArray, List.set_cons_zero, List.set_cons_succ, Array.getD_eq_getD_getElem?, List.getElem?_toArray, List.getElem?_cons_zero, List.getElem?_cons_succ, Option.getD_some]) | (refine q_move _ rfl rfl ?_; simp only [Act.put, Act.eval, List.setIfInBounds_toArray, List.set_cons_zero, List.set_cons_succ, Array.getD_eq_getD_getElem?, List.getElem?_toArray, List.getElem?_cons_zero, List.getElem?_cons_succ, Option.getD_some]) | (refine q_assign _ rfl rfl ?_; simp only [Act.put, Act.eval, List.setIfInBounds_toArray, List.set_cons_zero, List.set_cons_succ, Array.getD_eq_getD_getElem?, List.getElem?_toArray, List.getElem?_cons_zero, List.getElem?_cons_succ, Option.getD_some]) | (refine q_load _ _ rfl rfl rfl b1 ty37 ?_; simp only [Act.put, Act.eval, List.setIfInBounds_toArray, List.set_cons_zero, List.set_cons_succ, Array.getD_eq_getD_getElem?, List.getElem?_toArray, List.getElem?_cons_zero, List.getElem?_cons_succ, Option.getD_some]) | (refine q_load_mid _ _ rfl rfl rfl HW5.out ty37 (ep ((f x).wt : Nat) ((f x).wn : Nat)) rfl ?_; simp only [Act.put, Act.eval, List.setIfInBounds_toArray, List.set_cons_zero, List.set_cons_succ, Array.getD_eq_getD_getElem?, List.getElem?_toArray, List.getElem?_cons_zero, List.getElem?_cons_succ, Option.getD_some]) | (refine q_any rfl ?_; apply Exists.intro; refine ⟨fun w hw => ?_, ?_⟩; (go_simp; first | exact ⟨rfl, rfl⟩ | rfl); simp only [Act.put, Act.eval, List.setIfInBounds_toArray, List.set_cons_zero, List.set_cons_succ, Array.getD_eq_getD_getElem?, List.getElem?_toArray, List.getElem?_cons_zero, List.getElem?_cons_succ, Option.getD_some]))); refine wpQuiet_nil ?_; intro w2 hw2)
  have HW2 := Lib.hid hw2
  have b22 := hw2.box HB2.out
  clear hw2 b1 NE G
  go_wp2_with (first | (refine loadB _ _ rfl rfl rfl b22 ty28 ?_))
  refine (fconf_any V x f q c _ HX.out HOK.out (HW2.out.box HV.out)).mono ?_
  rintro e3 w3 ⟨rfl, hb3⟩
  have HB3 := Lib.hid ((HB.out.trans HW2.out).call hb3)
  have HX3 := Lib.hid (HW2.out.call hb3)
  have HV3 := Lib.hid (HX3.out.box HV.out)
  have b13 := HX3.out.box HB1.out
  have HT3 := Lib.hid (vs_there HV3.out HX.out)
  have HG4 := Lib.hid (show w.grownBy (w3.setCells V (x * 4) (ep (t : Nat) (c t : Nat)).toList) (some V) from (chg_bel HB3.out _).trans (chg_six _ _ _ _))
  have HV4 := Lib.hid (vs_wr (t := t) (n := c t) HV3.out (s := { f x with wt := t, wn := c t }) rfl rfl (by unfold rdv; rfl))
  have c4 := HV4.out.cell (x * 4 + 2) (vs_get _ (by omega))
  rw [gF_2, upFs_at, rdv_many (s := { f x with wt := t, wn := c t }) HM.out] at c4
  unfold manyV at c4
  dsimp only at c4
  clear b22 hb3
  go_wp2_with (first | (refine loadB _ _ rfl rfl rfl b13 ty37 ?_) | (refine wpList_store_mid rfl _ _ _ rfl V (x * 4) (ep (t : Nat) (c t : Nat)) rfl rfl HT3.out (by kernel_rfl) (ep_all _ _) ?_))
  refine (isClock_many (f x).rc _).mono ?_
  rintro e5 w5 ⟨rfl, hb5⟩
  have HV5 := Lib.hid ((Bel.of hb5).box HV4.out)
  have HG5 := Lib.hid (HG4.out.trans (chg_bel (Bel.of hb5) _))
  have c5 := HV5.out.cell (x * 4 + 2) (vs_get _ (by omega))
  have g5 := HV5.out.frozen (x * 4 + 2)
  clear hb5 c4 b13
  go_wp2
  go_ret
  refine ⟨rfl, ?_, HG5.out.trans (chg_cell _ _ _)⟩
  have h9 := HV5.out.set (x * 4 + 2) (oneV 0 0)
  have hr : rdv (fsW (f x) t c) = oneV 0 0 := by
    rw [rdv_one (s := fsW (f x) t c) rfl]
    show oneV (f x).rt (f x).rn = _
    rw [(HOK.out.many HM.out).1, (HOK.out.many HM.out).2]
  rw [vs_set, ← hr, gF_rd _ _ _ (by rw [upFs_at]; rfl) (by rw [upFs_at]; rfl), upFs_two] at h9
  rw [hr] at h9
  exact h9
set_option maxHeartbeats 8000000 in
theorem fwrite_one (V x t : Nat) (f : Nat → Fs) (q : Nat → Nat) (c : Nat → Nat) (w : World) (hx : x < 8) (ht : t < 6) (hok : FsOk (f x)) (hns : ¬ ((f x).wt = t ∧ (f x).wn = c t)) (hm : (f x).many = false) (hb : Box w V (vs 32 (gF f q)) 269) :
    Calls Tryz.prog 201 #[.pointer (some ⟨V, x * 4, none⟩), .agg (ep t (c t)), .agg (clk (ck c))] w (FvPost V (upFs f x (fsW (f x) t c)) q (cfK (f x) c) w) := by
  obtain ⟨b1, b2, hB, hs⟩ := boxes2 w (ep t (c t)) (clk (ck c)) 262 61
  generalize hW : ((w.alloc (.cells (ep t (c t)) 262)).alloc (.cells (clk (ck c)) 61)) = W at *
  have HB := Lib.hid (Bel.of hB)
  have HB1 := Lib.hid b1
  have HB2 := Lib.hid b2
  have HX := Lib.hid hx
  have HOK := Lib.hid hok
  have HVL := Lib.hid (show V < w.heap.size from hb.lt)
  have HV := Lib.hid ((Bel.of hB).box hb)
  have HW5 := Lib.hid (fun (w' : World) (h : Bel W w') => wr_row (h.box HV.out) hx)
  have HM := Lib.hid hm
  have NE := eql_ep ((f x).wt : Nat) ((f x).wn : Nat) (t : Nat) (c t : Nat)
  rw [decide_eq_false (show ¬ (((f x).wt : Int) = (t : Int) ∧ ((f x).wn : Int) = (c t : Nat)) from fun h => hns ⟨by omega, by omega⟩)] at NE
  have G := grd_ep
  clear hB hb hs hns hm hok b2
  go_enter Tryz.func201, Tryz.ntmps201
  go_wp2
  clear hW
  (refine region_bel (by kernel_rfl) (by kernel_rfl) ?_; (repeat (first | ((with_reducible refine BigFrame.wpQuiet_skip ?_ ?_); exact rfl; simp only [Act.put, Act.eval, List.setIfInBounds_toArray, List.set_cons_zero, List.set_cons_succ, Array.getD_eq_getD_getElem?, List.getElem?_toArray, List.getElem?_cons_zero, List.getElem?_cons_succ, Option.getD_some]) | (refine q_move _ rfl rfl ?_; simp only [Act.put, Act.eval, List.setIfInBounds_toArray, List.set_cons_zero, List.set_cons_succ, Array.getD_eq_getD_getElem?, List.getElem?_toArray, List.getElem?_cons_zero, List.getElem?_cons_succ, Option.getD_some]) | (refine q_assign _ rfl rfl ?_; simp only [Act.put, Act.eval, List.setIfInBounds_toArray, List.set_cons_zero, List.set_cons_succ, Array.getD_eq_getD_getElem?, List.getElem?_toArray, List.getElem?_cons_zero, List.getElem?_cons_succ, Option.getD_some]) | (refine q_load _ _ rfl rfl rfl b1 ty37 ?_; simp only [Act.put, Act.eval, List.setIfInBounds_toArray, List.set_cons_zero, List.set_cons_succ, Array.getD_eq_getD_getElem?, List.getElem?_toArray, List.getElem?_cons_zero, List.getElem?_cons_succ, Option.getD_some]) | (refine q_load_mid _ _ rfl rfl rfl HW5.out ty37 (ep ((f x).wt : Nat) ((f x).wn : Nat)) rfl ?_; simp only [Act.put, Act.eval, List.setIfInBounds_toArray, List.set_cons_zero, List.set_cons_succ, Array.getD_eq_getD_getElem?, List.getElem?_toArray, List.getElem?_cons_zero, List.getElem?_cons_succ, Option.getD_some]) | (refine q_any rfl ?_; apply Exists.intro; refine ⟨fun w hw => ?_, ?_⟩; (go_simp; first | exact ⟨rfl, rfl⟩ | rfl); simp only [Act.put, Act.eval, List.setIfInBounds_toArray, List.set_cons_zero, List.set_cons_succ, Array.getD_eq_getD_getElem?, List.getElem?_toArray, List.getElem?_cons_zero, List.getElem?_cons_succ, Option.getD_some]))); refine wpQuiet_nil ?_; intro w2 hw2)
  have HW2 := Lib.hid hw2
  have b22 := hw2.box HB2.out
  clear hw2 b1 NE G
  go_wp2_with (first | (refine loadB _ _ rfl rfl rfl b22 ty28 ?_))
  refine (fconf_any V x f q c _ HX.out HOK.out (HW2.out.box HV.out)).mono ?_
  rintro e3 w3 ⟨rfl, hb3⟩
  have HB3 := Lib.hid ((HB.out.trans HW2.out).call hb3)
  have HX3 := Lib.hid (HW2.out.call hb3)
  have HV3 := Lib.hid (HX3.out.box HV.out)
  have b13 := HX3.out.box HB1.out
  have HT3 := Lib.hid (vs_there HV3.out HX.out)
  have HG4 := Lib.hid (show w.grownBy (w3.setCells V (x * 4) (ep (t : Nat) (c t : Nat)).toList) (some V) from (chg_bel HB3.out _).trans (chg_six _ _ _ _))
  have HR4 := Lib.hid (show rdv (fsW (f x) t c) = rdv (f x) by rw [rdv_one HM.out, rdv_one (s := fsW (f x) t c) rfl]; rfl)
  have HV4 := Lib.hid (vs_wr (t := t) (n := c t) HV3.out (s := fsW (f x) t c) rfl rfl HR4.out)
  have c4 := HV4.out.cell (x * 4 + 2) (vs_get _ (by omega))
  rw [gF_2, upFs_at, HR4.out, rdv_one HM.out] at c4
  unfold oneV at c4
  clear b22 hb3
  go_wp2_with (first | (refine loadB _ _ rfl rfl rfl b13 ty37 ?_) | (refine wpList_store_mid rfl _ _ _ rfl V (x * 4) (ep (t : Nat) (c t : Nat)) rfl rfl HT3.out (by kernel_rfl) (ep_all _ _) ?_))
  refine (isClock_one (f x).rt (f x).rn _).mono ?_
  rintro e5 w5 ⟨rfl, hb5⟩
  have HV5 := Lib.hid ((Bel.of hb5).box HV4.out)
  have HG5 := Lib.hid (HG4.out.trans (chg_bel (Bel.of hb5) _))
  clear hb5 c4 b13
  go_wp2
  go_ret
  exact ⟨rfl, HV5.out, HG5.out⟩
end Go.Proofs.YtnklpifnknmdgaaGreatDoor
namespace Go.Proofs.YtnklpifnknmdgaaGreatDoor
open Go Go.RowKit

theorem fread_any (V x t : Nat) (f : Nat → Fs) (q : Nat → Nat) (c : Nat → Nat) (w : World) (hx : x < 8) (ht : t < 6) (hok : FsOk (f x)) (hq : q x ≤ 1000) (hb : Box w V (vs 32 (gF f q)) 269) :
    Calls Tryz.prog 200 #[.pointer (some ⟨V, x * 4, none⟩), .agg (ep t (c t)), .agg (clk (ck c))] w (FvPost V (upFs f x (fsStep (f x) 1 t c)) (updN q x (q x + fsSl (f x) 1 t c)) (fsK (f x) 1 t c) w) := by
  unfold fsStep fsSl fsK
  simp only [if_true]
  by_cases hs : skR (f x) t c = true
  · rw [if_pos hs, if_pos hs, if_pos hs, upFs_self, Nat.add_zero, upN_self]
    unfold skR at hs
    simp only [Bool.and_eq_true, Bool.not_eq_true', decide_eq_true_eq] at hs
    exact fread_skip V x t f q c w hx hs.1 hs.2.1 hs.2.2 hb
  · rw [if_neg hs, if_neg hs, if_neg hs]
    by_cases hm : (f x).many = true
    · rw [if_pos hm, Nat.add_zero, upN_self]
      exact fread_many V x t f q c w hx ht hok.wt hm rfl hb
    · have hm' : (f x).many = false := by simpa using hm
      have hns : ¬ ((f x).rt = t ∧ (f x).rn = c t) := fun h => hs (by unfold skR; rw [hm']; simp [h.1, h.2])
      rw [if_neg hm]
      by_cases hk : (f x).rn ≤ c (f x).rt
      · rw [if_pos hk, Nat.add_zero, upN_self]
        exact fread_one V x t f q c w hx ht hok.wt hok.rt hm' hns hk rfl hb
      · rw [if_neg hk]
        exact fread_more V x t f q c w hx ht hok.wt hok.rt hq hm' hns hk rfl hb
theorem fwrite_any (V x t : Nat) (f : Nat → Fs) (q : Nat → Nat) (c : Nat → Nat) (w : World) (hx : x < 8) (ht : t < 6) (hok : FsOk (f x)) (hb : Box w V (vs 32 (gF f q)) 269) :
    Calls Tryz.prog 201 #[.pointer (some ⟨V, x * 4, none⟩), .agg (ep t (c t)), .agg (clk (ck c))] w (FvPost V (upFs f x (fsStep (f x) 2 t c)) (updN q x (q x + fsSl (f x) 2 t c)) (fsK (f x) 2 t c) w) := by
  have e1 : ¬ (2 : Int) = 1 := by decide
  unfold fsStep fsSl fsK
  simp only [if_neg e1, if_true]
  rw [Nat.add_zero, upN_self]
  by_cases hs : skW (f x) t c = true
  · rw [if_pos hs, if_pos hs, upFs_self]
    unfold skW at hs
    simp only [Bool.and_eq_true, decide_eq_true_eq] at hs
    exact fwrite_skip V x t f q c w hx hs.1 hs.2 hb
  · rw [if_neg hs, if_neg hs]
    have hns : ¬ ((f x).wt = t ∧ (f x).wn = c t) := fun h => hs (by unfold skW; simp [h.1, h.2])
    by_cases hm : (f x).many = true
    · exact fwrite_many V x t f q c w hx ht hok hns hm hb
    · exact fwrite_one V x t f q c w hx ht hok hns (by simpa using hm) hb
theorem of_ck {t : Nat} (c : Nat → Nat) (ht : t < 6) : ofT (t : Nat) = (t : Nat) ∧ ofN (ck c) (t : Nat) = (c t : Nat) := by
  have h := isT_yes (t := (t : Nat)) (by omega) (by omega)
  unfold ofT ofN
  rw [if_pos h, if_pos h]
  exact ⟨rfl, by rw [Int.toNat_natCast]; rfl⟩
set_option maxHeartbeats 8000000 in
theorem facc_1 (V x t k : Nat) (o : Int) (f : Nat → Fs) (q : Nat → Nat) (c : Nat → Nat) (w : World) (hx : x < 8) (ht : t < 6) (hok : FsOk (f x)) (hq : q x ≤ 1000) (hb : Box w V (vs 32 (gF f q)) 269) :
    Calls Tryz.prog 189 #[.pointer (some ⟨V, x * 4, none⟩), .agg (acv ⟨1, t, o⟩ k c)] w (FvPost V (upFs f x (fsStep (f x) 1 t c)) (updN q x (q x + fsSl (f x) 1 t c)) (fsK (f x) 1 t c) w) := by
  have b1 := Box.new w (acv ⟨1, t, o⟩ k c) 230
  have hB : Bel w (w.alloc (.cells (acv ⟨1, t, o⟩ k c) 230)) := (Bel.refl w).alloc _
  have b2 := ac_row b1
  have HB := Lib.hid hB
  have HB1 := Lib.hid b1
  have HV := Lib.hid (hB.box hb)
  have HX := Lib.hid hx
  have HT := Lib.hid ht
  have HOK := Lib.hid hok
  have HQ := Lib.hid hq
  have HO := Lib.hid (of_ck c ht)
  have c1 := b1.cell 1 (v := .int .i64 t) rfl
  have hTL := b1.lt
  have HTL := Lib.hid hTL
  clear hok hq hb hTL
  generalize hW : (w.alloc (.cells (acv ⟨1, t, o⟩ k c) 230)) = W at *
  go_enter Tryz.func189, Tryz.ntmps189
  go_wp2_with (first | (refine load_cm ty28 _ rfl rfl rfl b2 ?_))
  refine (of_any _ _ _).mono ?_
  rintro e1 w1 ⟨rfl, hb1⟩
  rw [HO.out.1, HO.out.2]
  have HB2 := Lib.hid ((HB.out.call hb1).alloc (.cells (ep t (c t)) 262))
  have hX1 := ((Bel.of hb1).alloc (.cells (ep t (c t)) 262))
  have HV2 := Lib.hid (hX1.box HV.out)
  have b12 := hX1.box HB1.out
  have c0 := b12.cell 0 (v := .int .i64 1) rfl
  have b22 := ac_row b12
  have b32 := Box.new w1 (ep t (c t)) 262
  clear b1 b2 c1 hb1 hX1 hW
  go_wp2_with (first | (refine storeNew (c' := ep t (c t)) _ _ _ rfl rfl rfl rfl rfl ty37 (ep_all _ _) ?_) | (refine load_cm ty28 _ rfl rfl rfl b22 ?_) | (refine loadB _ _ rfl rfl rfl b32 ty37 ?_))
  refine (fread_any V x t f q c _ HX.out HT.out HOK.out HQ.out HV2.out).mono ?_
  rintro e3 w3 ⟨rfl, hv3, hg3⟩
  have HE := Lib.hid (And.intro hv3 ((chg_bel HB2.out _).trans hg3))
  clear hv3 hg3 c0 b12 b22 b32
  go_wp2
  go_ret
  exact ⟨rfl, HE.out.1, HE.out.2⟩
set_option maxHeartbeats 8000000 in
theorem facc_2 (V x t k : Nat) (o : Int) (f : Nat → Fs) (q : Nat → Nat) (c : Nat → Nat) (w : World) (hx : x < 8) (ht : t < 6) (hok : FsOk (f x)) (hq : q x ≤ 1000) (hb : Box w V (vs 32 (gF f q)) 269) :
    Calls Tryz.prog 189 #[.pointer (some ⟨V, x * 4, none⟩), .agg (acv ⟨2, t, o⟩ k c)] w (FvPost V (upFs f x (fsStep (f x) 2 t c)) (updN q x (q x + fsSl (f x) 2 t c)) (fsK (f x) 2 t c) w) := by
  have b1 := Box.new w (acv ⟨2, t, o⟩ k c) 230
  have hB : Bel w (w.alloc (.cells (acv ⟨2, t, o⟩ k c) 230)) := (Bel.refl w).alloc _
  have b2 := ac_row b1
  have HB := Lib.hid hB
  have HB1 := Lib.hid b1
  have HV := Lib.hid (hB.box hb)
  have HX := Lib.hid hx
  have HT := Lib.hid ht
  have HOK := Lib.hid hok
  have HQ := Lib.hid hq
  have HO := Lib.hid (of_ck c ht)
  have c1 := b1.cell 1 (v := .int .i64 t) rfl
  have hTL := b1.lt
  have HTL := Lib.hid hTL
  clear hok hq hb hTL
  generalize hW : (w.alloc (.cells (acv ⟨2, t, o⟩ k c) 230)) = W at *
  go_enter Tryz.func189, Tryz.ntmps189
  go_wp2_with (first | (refine load_cm ty28 _ rfl rfl rfl b2 ?_))
  refine (of_any _ _ _).mono ?_
  rintro e1 w1 ⟨rfl, hb1⟩
  rw [HO.out.1, HO.out.2]
  have HB2 := Lib.hid ((HB.out.call hb1).alloc (.cells (ep t (c t)) 262))
  have hX1 := ((Bel.of hb1).alloc (.cells (ep t (c t)) 262))
  have HV2 := Lib.hid (hX1.box HV.out)
  have b12 := hX1.box HB1.out
  have c0 := b12.cell 0 (v := .int .i64 2) rfl
  have b22 := ac_row b12
  have b32 := Box.new w1 (ep t (c t)) 262
  clear b1 b2 c1 hb1 hX1 hW
  go_wp2_with (first | (refine storeNew (c' := ep t (c t)) _ _ _ rfl rfl rfl rfl rfl ty37 (ep_all _ _) ?_) | (refine load_cm ty28 _ rfl rfl rfl b22 ?_) | (refine loadB _ _ rfl rfl rfl b32 ty37 ?_))
  refine (fwrite_any V x t f q c _ HX.out HT.out HOK.out HV2.out).mono ?_
  rintro e3 w3 ⟨rfl, hv3, hg3⟩
  have HE := Lib.hid (And.intro hv3 ((chg_bel HB2.out _).trans hg3))
  clear hv3 hg3 c0 b12 b22 b32
  go_wp2
  go_ret
  exact ⟨rfl, HE.out.1, HE.out.2⟩
end Go.Proofs.YtnklpifnknmdgaaGreatDoor

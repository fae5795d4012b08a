import Derived.Lib.AppendZeros
import Derived.Deep.DeepCutAuto
import Derived.Test.YticnponenkfneaaZRpR
import Derived.Test.YticnponenkfneaaZRpG
import Derived.Test.YticnponenkfneaaZCp
set_option linter.all false
set_option maxRecDepth 100000
namespace Go.Proofs.Yticnponenkfneaa
open Go Go.RowKit

def OpPost (w : World) (n : Nat) (l : List Ev) (e : Ending) (w' : World) : Prop := ∃ v, e = .returned v ∧ w'.ownsRow w.heap.size 98 3 v n (evc l) ∧ Below w.heap.size w w'
theorem op_info : (Try.prog.info? 98).map (fun i => (i.zero, i.size, i.bytes)) = some (some (.agg #[.int .i64 0, .int .i64 0, .int .i64 0]), 3, 24) := by kernel_rfl
set_option maxHeartbeats 4000000 in
theorem growop_any (n : Nat) (w : World) (hn : n ≤ 1000) : Calls Try.prog 93 #[.slice none 0 0, .int .i64 n] w (OpPost w 0 []) := by
  obtain ⟨i0, hi0, hz0, hz1, hz2⟩ := info_parts op_info
  have HO := Lib.hid (World.ownsRow_nil w w.heap.size 98 3)
  have hn0 : ¬ ((n : Int) < 0) := by omega
  have hw : IntKind.i64.wrap (n : Int) = n := IntWalk.i64_in _ (by omega)
  have HN := Lib.hid hn
  clear hn
  rcases Nat.eq_zero_or_pos n with h0 | h0
  · subst h0
    clear hw hn0
    go_enter Try.func93, Try.ntmps93
    go_wp2
    go_ret
    exact ⟨_, rfl, HO.out, Below.refl _ _⟩
  · have hp : (0 : Int) < (n : Int) := by omega
    have hsz : 0 < i0.size := by omega
    have HR := Lib.hid (Lib.run_append_nil_zeros (P := Try.prog) w 58 3 58 98 i0 _ .i64 .i64 Try.underlying58 Try.underlying3 hi0 hz0 n h0 hsz (by have := HN.out; omega) (by have := HN.out; rw [hz2]; omega))
    have HGE := Lib.hid (grownCap_ge w n 0 98)
    have HLE := Lib.hid (grownCap_le_maxLen w n 0 98 (by have := HN.out; unfold maxLen; omega))
    generalize grownCap w n 0 98 = cp at *
    have hge : (n : Int) ≤ cp := by have := HGE.out; omega
    clear h0 hsz
    go_enter Try.func93, Try.ntmps93
    go_wp2_with (at_builtin; refine Lib.wpList_append_run _ rfl _ _ _ _ rfl _ _ rfl rfl _ _ HR.out ?_)
    go_ret
    refine ⟨_, rfl, ⟨rfl, .inr ⟨w.heap.size, cp, _, rfl, Nat.le_refl _, Box.new w.drew _ _, Nat.zero_le _, HLE.out, ?_, ?_⟩⟩, (⟨rfl, rfl, rfl, Nat.le_refl _, fun _ _ => rfl⟩ : Below w.heap.size w w.drew).alloc (Nat.le_refl _) _⟩
    · have := HGE.out
      simp [Builtin.zeroCells, Value.cells]
      omega
    · simp [evc]
def catL (P : List (List Ev)) (i : Nat) : List Ev := (P.take i).flatten
theorem catL_succ {P : List (List Ev)} {i : Nat} (h : i < P.length) : catL P (i + 1) = catL P i ++ opsP P i := by
  unfold catL opsP
  rw [List.take_succ_eq_append_getElem h, List.flatten_append, List.getD_eq_getElem?_getD, List.getElem?_eq_getElem h]
  simp
theorem catL_len {P : List (List Ev)} (h : ∀ t, t < P.length → (opsP P t).length ≤ 12) : ∀ i, i ≤ P.length → (catL P i).length ≤ 12 * i
  | 0, _ => by simp [catL]
  | i + 1, hi => by
    rw [catL_succ (by omega), List.length_append]
    have := catL_len h i (by omega)
    have := h i (by omega)
    omega
theorem catL_all (P : List (List Ev)) : catL P P.length = P.flatten := by unfold catL; rw [List.take_length]
set_option maxHeartbeats 8000000 in
theorem concatop_any (A : Option Addr) (n c : Nat) (P : List (List Ev)) (w : World) (h : Prg w A n P) (hnc : n ≤ c) (hcm : c ≤ maxLen) (h6 : n ≤ 6) (hl : ∀ t, t < n → (opsP P t).length ≤ 12) :
    Calls Try.prog 61 #[.slice A n c] w (OpPost w (catL P n).length (catL P n)) := by
  obtain ⟨i0, hi0, hz0, hz1, hz2⟩ := info_parts op_info
  have HP := Lib.hid h
  have HLN := Lib.hid h.1
  have HL := Lib.hid hl
  have HCL := Lib.hid (catL_len (P := P) (by rw [h.1]; exact hl))
  have HCS := Lib.hid (fun (i : Nat) (hi : i < n) => catL_succ (P := P) (i := i) (by rw [HLN.out]; exact hi))
  have HM := Lib.hid (And.intro hnc hcm)
  have hn63 : n ≤ 9223372036854775807 := by omega
  clear h hl hnc hcm
  go_enter Try.func61, Try.ntmps61
  go_wp2
  go_loopw [3, 11] (fun q u wr => ∃ i : Nat, i ≤ n ∧ u = .int .i64 i ∧ q = .int .i64 ((catL P i).length : Nat) ∧ w = wr) (fun _ u _ => n - (intOf u).toNat)
  case atStart => exact ⟨0, by omega, rfl, by simp [catL], rfl⟩
  case round =>
    obtain ⟨i, hi, rfl, rfl, rfl⟩ := hrel
    by_cases hlt : i < n
    · obtain ⟨b, off, B, m, d, rfl, hb, hc, hsl, hm, hd⟩ := HP.out.at_ hlt
      have hlt' : (i : Int) < n := by omega
      have hic : (i : Int) ≤ c := by have := HM.out.1; omega
      have HSZ := Lib.hid (show (catL P (i + 1)).length = (catL P i).length + m by rw [HCS.out i hlt, List.length_append, hsl.1])
      have HB1 := Lib.hid (HCL.out (i + 1) (by rw [HLN.out]; omega))
      generalize hq : (catL P i).length = q at *
      have hw : IntKind.i64.wrap ((q : Int) + m) = ((q + m : Nat) : Int) := by rw [IntWalk.i64_in _ (by have := HSZ.out; have := HB1.out; omega)]; omega
      have hn0 : ¬ ((q + m : Nat) : Int) < 0 := by omega
      clear hsl
      go_wp2
      go_roundw
      case rel => exact ⟨i + 1, by omega, by go_num, congrArg (Value.int .i64) (by rw [HSZ.out]; omega), trivial⟩
      case measure => simp [intOf]; omega
    · obtain rfl : n = i := by omega
      go_wp2_with fail
      refine (growop_any (catL P n).length w (by have := HCL.out n (by rw [HLN.out]; omega); omega)).mono ?_
      rintro e1 w1 ⟨v1, rfl, ho1, hb1⟩
      have HW1 := Lib.hid (Bel.of hb1)
      have HO1 := Lib.hid ho1
      clear ho1 hb1
      go_wp2
      go_loopw [6, 27] (fun v u wz => ∃ i : Nat, i ≤ n ∧ u = .int .i64 i ∧ wz.ownsRow w.heap.size 98 3 v (catL P i).length (evc (catL P i)) ∧ Bel w wz) (fun _ u _ => n - (intOf u).toNat)
      case atStart => exact ⟨0, by omega, rfl, HO1.out, HW1.out⟩
      case round =>
        obtain ⟨i, hi, rfl, ho2, hb2⟩ := hrel
        have HB2 := Lib.hid hb2
        have HO2 := Lib.hid ho2
        by_cases hlt : i < n
        · obtain ⟨b, off, B, m, d, rfl, hb, hc, hsl, hm, hd⟩ := (HP.out.bel hb2).at_ hlt
          have hlt' : (i : Int) < n := by omega
          have hic : (i : Int) ≤ c := by have := HM.out.1; omega
          have HS := Lib.hid hsl.src
          have HLE := Lib.hid (show (evc (opsP P i)).length = m * 3 by rw [evc_length, hsl.1])
          have HML := Lib.hid hsl.1
          have HB1 := Lib.hid (HCL.out i (by rw [HLN.out]; omega))
          have HM12 := Lib.hid (HL.out i hlt)
          clear ho2 hb2 hsl
          go_wp2_with (at_builtin; refine wpList_append_srcE rfl (.tmp 31) (.tmp 32) _ rfl w.heap.size 98 i0 _ 3 24 Try.underlying58 hi0 hz0 hz1 hz2 rfl (by omega) _ (catL P i).length (evc (catL P i)) rfl HO2.out B m d (evc (opsP P i)) rfl HLE.out HS.out (evc_one (opsP P i)) (by have := HB1.out; have := HM12.out; have := HML.out; unfold maxLen; omega) (by have := HB1.out; have := HM12.out; have := HML.out; omega) HB2.out.size ?_; intro v5 w5 hown5 hg5 hat5)
          have hb5 := HB2.out.out.trans (grown_below hg5 HO2.out (Nat.le_refl _) HB2.out.size)
          go_roundw
          case rel => exact ⟨i + 1, by omega, by go_num, by rw [HCS.out i hlt, List.length_append, HML.out, evc_append]; exact hown5, Bel.of hb5⟩
          case measure => simp [intOf]; omega
        · obtain rfl : n = i := by omega
          clear ho2
          go_wp2
          go_ret
          exact ⟨_, rfl, HO2.out, hb2.out⟩
end Go.Proofs.Yticnponenkfneaa
namespace Go.Proofs.Yticnponenkfneaa
open Go Go.RowKit

def objN (k : Int) : Int := if k = 1 ∨ k = 2 then 8 else if k = 3 then 1 else if k = 4 ∨ k = 5 then 5 else if k = 6 ∨ k = 7 then 6 else if k = 8 ∨ k = 9 then 4 else 0
set_option maxHeartbeats 4000000 in
theorem pobjects_any (k : Int) (w : World) : Calls Try.prog 104 #[.int .i64 k] w fun e w' => e = .returned (.int .i64 (objN k)) ∧ Below w.heap.size w w' := by
  by_cases h : k = 1 ∨ k = 2 ∨ k = 3 ∨ k = 4 ∨ k = 5 ∨ k = 6 ∨ k = 7 ∨ k = 8 ∨ k = 9
  · rcases h with rfl | rfl | rfl | rfl | rfl | rfl | rfl | rfl | rfl <;>
    ( go_enter Try.func104, Try.ntmps104
      go_wp2
      go_ret
      exact ⟨rfl, Below.refl _ _⟩)
  · have t1 : (k == 1) = false := by simp; omega
    have t2 : (k == 2) = false := by simp; omega
    have t3 : (k == 3) = false := by simp; omega
    have t4 : (k == 4) = false := by simp; omega
    have t5 : (k == 5) = false := by simp; omega
    have t6 : (k == 6) = false := by simp; omega
    have t7 : (k == 7) = false := by simp; omega
    have t8 : (k == 8) = false := by simp; omega
    have t9 : (k == 9) = false := by simp; omega
    have HV := Lib.hid (show objN k = 0 by unfold objN; rw [if_neg (by omega), if_neg (by omega), if_neg (by omega), if_neg (by omega), if_neg (by omega)])
    clear h
    go_enter Try.func104, Try.ntmps104
    go_wp2
    go_ret
    exact ⟨by rw [HV.out]; rfl, Below.refl _ _⟩
theorem objectsv_any (k v : Int) (h : objN k = v) (w : World) : Calls Try.prog 104 #[.int .i64 k] w fun e w' => e = .returned (.int .i64 v) ∧ Below w.heap.size w w' := h ▸ pobjects_any k w
theorem isOp_obj0 {o : Ev} (h : o.t < 0 ∨ objN o.k ≤ o.t) : isOp o = false := by
  cases hq : isOp o
  · rfl
  · obtain ⟨h1, h9, h0, ha, hb, hc, hd⟩ := isOp_obj hq
    unfold objN at h
    have h3 : o.k = 3 → o.t ≤ 0 := fun e => by
      unfold isOp at hq
      simp only [Bool.and_eq_true, decide_eq_true_iff] at hq
      have := hq.1.1.2.2
      rw [if_pos e] at this
      exact this
    exfalso
    rcases h with h | h
    · omega
    · repeat' split at h
      all_goals omega
theorem isOp_in {o : Ev} (h0 : 0 ≤ o.t) (h : o.t < objN o.k) : isOp o = if o.k = 3 then decide (-1000 ≤ o.o ∧ o.o ≤ 1000) else decide (o.o = 0) := by
  have hk : 1 ≤ o.k ∧ o.k ≤ 9 := by unfold objN at h; repeat' split at h; all_goals omega
  have ht : 0 ≤ o.t ∧ o.t ≤ (if o.k = 3 then 0 else if o.k = 1 ∨ o.k = 2 then 7 else if o.k = 4 ∨ o.k = 5 then 4 else if o.k = 6 ∨ o.k = 7 then 5 else 3) := by
    refine ⟨h0, ?_⟩
    unfold objN at h
    repeat' split
    all_goals (repeat' split at h)
    all_goals omega
  unfold isOp
  rw [decide_eq_true hk, decide_eq_true ht, Bool.true_and, Bool.true_and]
  by_cases h3 : o.k = 3
  · rw [if_pos h3, decide_eq_true (p := o.k = 3 ∨ o.o = 0) (.inl h3), Bool.true_and]
  · rw [if_neg h3, Bool.eq_iff_iff]
    simp
    omega
set_option maxHeartbeats 8000000 in
theorem isvalid_any (o : Ev) (w : World) : Calls Try.prog 85 #[.agg (evv o)] w fun e w' => e = .returned (.bool (isOp o)) ∧ Below w.heap.size w w' := by
  have HBW := Lib.hid (show Bel w (w.alloc (.cells (evv o) 98)) from (Bel.refl w).alloc _)
  have bx := Box.new w (evv o) 98
  have HF := Lib.hid (fun (w' : World) (h : Bel (w.alloc (.cells (evv o) 98)) w') => And.intro (h.cell (bx.cell 0 (v := .int .i64 o.k) rfl)) (And.intro (h.cell (bx.cell 1 (v := .int .i64 o.t) rfl)) (h.cell (bx.cell 2 (v := .int .i64 o.o) rfl))))
  clear bx
  generalize hX : w.alloc (.cells (evv o) 98) = W at *
  by_cases h1 : o.t < 0
  · have HV := Lib.hid (isOp_obj0 (o := o) (.inl h1))
    go_enter Try.func85, Try.ntmps85
    go_wp2
    clear hX
    (refine region_bel (by kernel_rfl) (by kernel_rfl) ?_; (repeat (first | ((with_reducible refine BigFrame.wpQuiet_skip ?_ ?_); exact rfl; simp only [Act.put, Act.eval, List.setIfInBounds_toArray, List.set_cons_zero, List.set_cons_succ, Array.getD_eq_getD_getElem?, List.getElem?_toArray, List.getElem?_cons_zero, List.getElem?_cons_succ, Option.getD_some]) | (refine q_move _ rfl rfl ?_; simp only [Act.put, Act.eval, List.setIfInBounds_toArray, List.set_cons_zero, List.set_cons_succ, Array.getD_eq_getD_getElem?, List.getElem?_toArray, List.getElem?_cons_zero, List.getElem?_cons_succ, Option.getD_some]) | (refine q_assign _ rfl rfl ?_; simp only [Act.put, Act.eval, List.setIfInBounds_toArray, List.set_cons_zero, List.set_cons_succ, Array.getD_eq_getD_getElem?, List.getElem?_toArray, List.getElem?_cons_zero, List.getElem?_cons_succ, Option.getD_some]) | (refine q_any rfl ?_; apply Exists.intro; refine ⟨fun w hw => ?_, ?_⟩; (have fct0 := HF.out w hw; go_simp; first | exact ⟨rfl, rfl⟩ | rfl); simp only [Act.put, Act.eval, List.setIfInBounds_toArray, List.set_cons_zero, List.set_cons_succ, Array.getD_eq_getD_getElem?, List.getElem?_toArray, List.getElem?_cons_zero, List.getElem?_cons_succ, Option.getD_some]))); refine wpQuiet_nil ?_; intro w2 hw2)
    go_wp2
    go_ret
    exact ⟨by rw [HV.out]; rfl, (HBW.out.trans hw2).out⟩
  · have h1c : decide (o.t < 0) = false := decide_eq_false h1
    have h1b : 0 ≤ o.t := by omega
    generalize hob : objN o.k = ob
    by_cases h2 : ob ≤ o.t
    · have HV := Lib.hid (isOp_obj0 (o := o) (.inr (by rw [hob]; exact h2)))
      go_enter Try.func85, Try.ntmps85
      go_wp2
      clear hX
      (refine region_bel (by kernel_rfl) (by kernel_rfl) ?_; (repeat (first | ((with_reducible refine BigFrame.wpQuiet_skip ?_ ?_); exact rfl; simp only [Act.put, Act.eval, List.setIfInBounds_toArray, List.set_cons_zero, List.set_cons_succ, Array.getD_eq_getD_getElem?, List.getElem?_toArray, List.getElem?_cons_zero, List.getElem?_cons_succ, Option.getD_some]) | (refine q_move _ rfl rfl ?_; simp only [Act.put, Act.eval, List.setIfInBounds_toArray, List.set_cons_zero, List.set_cons_succ, Array.getD_eq_getD_getElem?, List.getElem?_toArray, List.getElem?_cons_zero, List.getElem?_cons_succ, Option.getD_some]) | (refine q_assign _ rfl rfl ?_; simp only [Act.put, Act.eval, List.setIfInBounds_toArray, List.set_cons_zero, List.set_cons_succ, Array.getD_eq_getD_getElem?, List.getElem?_toArray, List.getElem?_cons_zero, List.getElem?_cons_succ, Option.getD_some]) | (refine q_any rfl ?_; apply Exists.intro; refine ⟨fun w hw => ?_, ?_⟩; (have fct0 := HF.out w hw; go_simp; first | exact ⟨rfl, rfl⟩ | rfl | (go_at_call 104; (with_reducible refine (objectsv_any _ _ hob _).mono ?_); rintro e w' ⟨rfl, hb⟩; exact ⟨rfl, hw.call hb⟩)); simp only [Act.put, Act.eval, List.setIfInBounds_toArray, List.set_cons_zero, List.set_cons_succ, Array.getD_eq_getD_getElem?, List.getElem?_toArray, List.getElem?_cons_zero, List.getElem?_cons_succ, Option.getD_some]))); refine wpQuiet_nil ?_; intro w2 hw2)
      clear hob
      go_wp2
      go_ret
      exact ⟨by rw [HV.out]; rfl, (HBW.out.trans hw2).out⟩
    · have HV := Lib.hid (isOp_in (o := o) (by omega) (by rw [hob]; omega))
      by_cases h3 : o.k = 3
      · have h3' : (o.k == 3) = true := by simpa using h3
        have HV2 := Lib.hid (show isOp o = decide (-1000 ≤ o.o ∧ o.o ≤ 1000) by rw [HV.out, if_pos h3])
        clear h3
        by_cases h4 : -1000 ≤ o.o
        · go_enter Try.func85, Try.ntmps85
          go_wp2
          clear hX
          (refine region_bel (by kernel_rfl) (by kernel_rfl) ?_; (repeat (first | ((with_reducible refine BigFrame.wpQuiet_skip ?_ ?_); exact rfl; simp only [Act.put, Act.eval, List.setIfInBounds_toArray, List.set_cons_zero, List.set_cons_succ, Array.getD_eq_getD_getElem?, List.getElem?_toArray, List.getElem?_cons_zero, List.getElem?_cons_succ, Option.getD_some]) | (refine q_move _ rfl rfl ?_; simp only [Act.put, Act.eval, List.setIfInBounds_toArray, List.set_cons_zero, List.set_cons_succ, Array.getD_eq_getD_getElem?, List.getElem?_toArray, List.getElem?_cons_zero, List.getElem?_cons_succ, Option.getD_some]) | (refine q_assign _ rfl rfl ?_; simp only [Act.put, Act.eval, List.setIfInBounds_toArray, List.set_cons_zero, List.set_cons_succ, Array.getD_eq_getD_getElem?, List.getElem?_toArray, List.getElem?_cons_zero, List.getElem?_cons_succ, Option.getD_some]) | (refine q_any rfl ?_; apply Exists.intro; refine ⟨fun w hw => ?_, ?_⟩; (have fct0 := HF.out w hw; go_simp; first | exact ⟨rfl, rfl⟩ | rfl | (go_at_call 104; (with_reducible refine (objectsv_any _ _ hob _).mono ?_); rintro e w' ⟨rfl, hb⟩; exact ⟨rfl, hw.call hb⟩)); simp only [Act.put, Act.eval, List.setIfInBounds_toArray, List.set_cons_zero, List.set_cons_succ, Array.getD_eq_getD_getElem?, List.getElem?_toArray, List.getElem?_cons_zero, List.getElem?_cons_succ, Option.getD_some]))); refine wpQuiet_nil ?_; intro w2 hw2)
          clear hob
          obtain ⟨c0, c1, c2⟩ := HF.out w2 hw2
          go_wp2
          go_ret
          refine ⟨ret_val (congrArg Value.bool ?_), (HBW.out.trans hw2).out⟩
          rw [HV2.out, Bool.eq_iff_iff]
          simp [h4]
        · go_enter Try.func85, Try.ntmps85
          go_wp2
          clear hX
          (refine region_bel (by kernel_rfl) (by kernel_rfl) ?_; (repeat (first | ((with_reducible refine BigFrame.wpQuiet_skip ?_ ?_); exact rfl; simp only [Act.put, Act.eval, List.setIfInBounds_toArray, List.set_cons_zero, List.set_cons_succ, Array.getD_eq_getD_getElem?, List.getElem?_toArray, List.getElem?_cons_zero, List.getElem?_cons_succ, Option.getD_some]) | (refine q_move _ rfl rfl ?_; simp only [Act.put, Act.eval, List.setIfInBounds_toArray, List.set_cons_zero, List.set_cons_succ, Array.getD_eq_getD_getElem?, List.getElem?_toArray, List.getElem?_cons_zero, List.getElem?_cons_succ, Option.getD_some]) | (refine q_assign _ rfl rfl ?_; simp only [Act.put, Act.eval, List.setIfInBounds_toArray, List.set_cons_zero, List.set_cons_succ, Array.getD_eq_getD_getElem?, List.getElem?_toArray, List.getElem?_cons_zero, List.getElem?_cons_succ, Option.getD_some]) | (refine q_any rfl ?_; apply Exists.intro; refine ⟨fun w hw => ?_, ?_⟩; (have fct0 := HF.out w hw; go_simp; first | exact ⟨rfl, rfl⟩ | rfl | (go_at_call 104; (with_reducible refine (objectsv_any _ _ hob _).mono ?_); rintro e w' ⟨rfl, hb⟩; exact ⟨rfl, hw.call hb⟩)); simp only [Act.put, Act.eval, List.setIfInBounds_toArray, List.set_cons_zero, List.set_cons_succ, Array.getD_eq_getD_getElem?, List.getElem?_toArray, List.getElem?_cons_zero, List.getElem?_cons_succ, Option.getD_some]))); refine wpQuiet_nil ?_; intro w2 hw2)
          clear hob
          obtain ⟨c0, c1, c2⟩ := HF.out w2 hw2
          go_wp2
          go_ret
          refine ⟨ret_val (congrArg Value.bool ?_), (HBW.out.trans hw2).out⟩
          rw [HV2.out, Bool.eq_iff_iff]
          simp [h4]
          try omega
      · have h3' : (o.k == 3) = false := by simpa using h3
        have HV2 := Lib.hid (show isOp o = decide (o.o = 0) by rw [HV.out, if_neg h3])
        clear h3
        go_enter Try.func85, Try.ntmps85
        go_wp2
        clear hX
        (refine region_bel (by kernel_rfl) (by kernel_rfl) ?_; (repeat (first | ((with_reducible refine BigFrame.wpQuiet_skip ?_ ?_); exact rfl; simp only [Act.put, Act.eval, List.setIfInBounds_toArray, List.set_cons_zero, List.set_cons_succ, Array.getD_eq_getD_getElem?, List.getElem?_toArray, List.getElem?_cons_zero, List.getElem?_cons_succ, Option.getD_some]) | (refine q_move _ rfl rfl ?_; simp only [Act.put, Act.eval, List.setIfInBounds_toArray, List.set_cons_zero, List.set_cons_succ, Array.getD_eq_getD_getElem?, List.getElem?_toArray, List.getElem?_cons_zero, List.getElem?_cons_succ, Option.getD_some]) | (refine q_assign _ rfl rfl ?_; simp only [Act.put, Act.eval, List.setIfInBounds_toArray, List.set_cons_zero, List.set_cons_succ, Array.getD_eq_getD_getElem?, List.getElem?_toArray, List.getElem?_cons_zero, List.getElem?_cons_succ, Option.getD_some]) | (refine q_any rfl ?_; apply Exists.intro; refine ⟨fun w hw => ?_, ?_⟩; (have fct0 := HF.out w hw; go_simp; first | exact ⟨rfl, rfl⟩ | rfl | (go_at_call 104; (with_reducible refine (objectsv_any _ _ hob _).mono ?_); rintro e w' ⟨rfl, hb⟩; exact ⟨rfl, hw.call hb⟩)); simp only [Act.put, Act.eval, List.setIfInBounds_toArray, List.set_cons_zero, List.set_cons_succ, Array.getD_eq_getD_getElem?, List.getElem?_toArray, List.getElem?_cons_zero, List.getElem?_cons_succ, Option.getD_some]))); refine wpQuiet_nil ?_; intro w2 hw2)
        clear hob
        obtain ⟨c0, c1, c2⟩ := HF.out w2 hw2
        go_wp2
        go_ret
        refine ⟨ret_val (congrArg Value.bool ?_), (HBW.out.trans hw2).out⟩
        rw [HV2.out, Bool.eq_iff_iff]
        simp
set_option maxHeartbeats 16000000 in
theorem pgcheck_any : CheckC := by
  intro A n c P w h hnc hcm
  have HP := Lib.hid h
  have HLN := Lib.hid h.1
  have HM := Lib.hid (And.intro hnc hcm)
  have hn63 : n ≤ 9223372036854775807 := by unfold maxLen at hcm; omega
  clear h hnc hcm
  by_cases h1 : n < 1
  · have HC := Lib.hid (show chkP P = 2 from pck_large (by rw [HLN.out]; omega))
    have h1' : (n : Int) < 1 := by omega
    go_enter Try.func52, Try.ntmps52
    go_wp2
    go_ret
    exact ⟨by rw [HC.out]; rfl, Below.refl _ _⟩
  · have h1' : ¬ (n : Int) < 1 := by omega
    by_cases h6 : 6 < n
    · have HC := Lib.hid (show chkP P = 2 from pck_large (by rw [HLN.out]; omega))
      have h6' : (6 : Int) < n := by omega
      go_enter Try.func52, Try.ntmps52
      go_wp2
      go_ret
      exact ⟨by rw [HC.out]; rfl, Below.refl _ _⟩
    · have h6' : ¬ (6 : Int) < n := by omega
      have HO := Lib.hid (show 1 ≤ P.length ∧ P.length ≤ 6 by rw [HLN.out]; omega)
      go_enter Try.func52, Try.ntmps52
      go_wp2
      go_loopw [17] (fun t wr => ∃ i : Nat, i ≤ n ∧ t = .int .i64 i ∧ ShortTo P i ∧ w = wr) (fun t _ => n - (intOf t).toNat)
      case atStart => exact ⟨0, by omega, rfl, fun t ht => absurd ht (Nat.not_lt_zero t), rfl⟩
      case round =>
        obtain ⟨i, hi, rfl, hs, rfl⟩ := hrel
        have HS := Lib.hid hs
        clear hs
        by_cases hlt : i < n
        · obtain ⟨b, off, B, m, d, rfl, hb, hc, hsl, hm, hd⟩ := HP.out.at_ hlt
          have hlt' : (i : Int) < n := by omega
          have hic : (i : Int) ≤ c := by have := HM.out.1; omega
          have hSL := Lib.hid hsl
          clear hsl
          by_cases hl : 12 < m
          · have hl' : (12 : Int) < m := by omega
            go_wp2
            go_ret
            exact ⟨by rw [pck_long (P := P) (t := i) (by rw [HLN.out]; exact hlt) (by rw [hSL.out.1]; exact hl)]; rfl, Below.refl _ _⟩
          · have hl' : ¬ (12 : Int) < m := by omega
            have HS1 := Lib.hid (HS.out.succ (i := i) (by rw [hSL.out.1]; omega))
            go_wp2
            go_roundw
            case rel => exact ⟨i + 1, by omega, by go_num, HS1.out, trivial⟩
            case measure => simp [intOf]; omega
        · obtain rfl : n = i := by omega
          have HLG := Lib.hid (show Long P from ⟨HO.out.1, HO.out.2, by have h := HS.out; rwa [← HLN.out] at h⟩)
          have HS0 := HS
          clear HO HS
          go_wp2_with fail
          refine (concatop_any A n c P w HP.out HM.out.1 HM.out.2 (by omega) HS0.out).mono ?_
          rintro e1 w1 ⟨v1, rfl, ho1, hb1⟩
          obtain ⟨A1, c1, rfl, hs1, hn1, hm1⟩ := Sl.own ho1
          have HW1 := Lib.hid (Bel.of hb1)
          have HS1 := Lib.hid hs1
          have HN1 := Lib.hid (And.intro hn1 hm1)
          have HFL := Lib.hid (show catL P n = P.flatten by rw [← HLN.out]; exact catL_all P)
          have hl63 : (catL P n).length ≤ 9223372036854775807 := by unfold maxLen at hm1; omega
          clear ho1 hb1 hs1 hn1 hm1 HS0
          generalize catL P n = l at *
          generalize hN : l.length = N at *
          go_wp2
          go_loopw [28] (fun t wr => ∃ j : Nat, j ≤ N ∧ t = .int .i64 j ∧ GoodIn l j ∧ Bel w1 wr) (fun t _ => N - (intOf t).toNat)
          case atStart => exact ⟨0, by omega, rfl, fun o ho => by simp at ho, Bel.refl _⟩
          case round =>
            obtain ⟨j, hj, rfl, hg, hbr⟩ := hrel
            have HG := Lib.hid hg
            have HB := Lib.hid hbr
            clear hg hbr
            by_cases hjN : j < N
            · obtain ⟨bb, oo, e, rfl, hbb, he, hrg⟩ := (HS1.out.bel HB.out.out).at_ hjN
              have hjN' : (j : Int) < N := by omega
              have hjc : (j : Int) ≤ c1 := by have := HN1.out.1; omega
              have hR := Lib.hid hrg
              have HE := Lib.hid he
              have HB2 := Lib.hid ((HW1.out.trans HB.out).trans (Bel.of (ewld_below wr e 98)))
              have HB3 := Lib.hid (HB.out.trans (Bel.of (ewld_below wr e 98)))
              have HRG := Lib.hid (show (ewld wr e 98).rangeAt wr.heap.size 0 (evl e) from Box.range (l := evl e) (ewld_box wr e 98))
              clear hrg he hbb
              go_upto_region 12 with (first | (refine load_ev TOp _ rfl rfl rfl hR.out ?_) | (refine ewld_store TOp _ _ rfl rfl _ rfl rfl rfl ?_))
              generalize hW : ewld wr e 98 = w4 at *
              go_wp2_with (refine load_ev TOp _ rfl rfl rfl HRG.out ?_)
              refine (isvalid_any e w4).mono ?_
              rintro e5 w5 ⟨rfl, hb5⟩
              have HB5 := Lib.hid (Bel.of hb5)
              clear hb5
              cases hv : isOp e
              · have HC := Lib.hid (show chkP P = 1 by
                  obtain ⟨ops, hop, hmo⟩ := List.mem_flatten.1 (show e ∈ P.flatten by rw [← HFL.out]; exact List.mem_of_getElem? HE.out)
                  obtain ⟨t, ht, rfl⟩ := mem_opsP hop
                  exact pck_bad HLG.out ht hmo hv)
                clear hv
                go_wp2
                go_ret
                exact ⟨by rw [HC.out]; rfl, (HB2.out.trans HB5.out).out⟩
              · have HGN := Lib.hid (HG.out.succ HE.out hv)
                clear hv
                go_wp2
                go_roundw
                case rel => exact ⟨j + 1, by omega, by go_num, HGN.out, HB3.out.trans HB5.out⟩
                case measure => simp [intOf]; omega
            · obtain rfl : N = j := by omega
              have HC := Lib.hid (show chkP P = 0 from pck_good HLG.out (fun t ht o ho => HG.out o (by rw [← hN, List.take_length, HFL.out]; exact List.mem_flatten.2 ⟨_, opsP_mem ht, ho⟩)))
              go_wp2
              go_ret
              exact ⟨by rw [HC.out]; rfl, (HW1.out.trans HB.out).out⟩
end Go.Proofs.Yticnponenkfneaa

import Derived.Test.YtlcldcbdobgdbaaShelf
import Derived.Test.YtlcldcbdobgdbaaZEc
import Derived.Test.YtlcldcbdobgdbaaZGrow
import Derived.Test.YtlcldcbdobgdbaaZRpG
set_option linter.all false
set_option maxRecDepth 100000
namespace Go.Proofs.Ytlcldcbdobgdbaa
open Go Go.RowKit

def cmpL : List Int → List Int → Int
  | [], [] => 0
  | [], _ :: _ => -1
  | _ :: _, [] => 1
  | a :: x, b :: y => if a < b then -1 else if b < a then 1 else cmpL x y
set_option maxHeartbeats 4000000 in
theorem scmp_any {A B : Option Addr} {n c d : Nat} {a b : List Int} {w : World} (ha : SI w A n a) (hb : SI w B n b) (hc : n ≤ c) (hd : n ≤ d) (hn : n ≤ 1000) :
    Calls Try.prog 75 #[.slice A n c, .slice B n d] w fun e w' => e = .returned (.int .i64 (cmpL a b)) ∧ w' = w := by
  have HA := Lib.hid ha
  have HB := Lib.hid hb
  have hnc : (n : Int) ≤ c := by omega
  have hndd : (n : Int) ≤ d := by omega
  have hn1 : (n : Int) ≤ 1000 := by omega
  clear ha hb
  go_enter Try.func75, Try.ntmps75
  go_wp2
  go_loopw [11] (fun t wr => ∃ i : Nat, i ≤ n ∧ t = .int .i64 i ∧ w = wr ∧ Hid (cmpL a b = cmpL (a.drop i) (b.drop i))) (fun t _ => n - (intOf t).toNat)
  case atStart => exact ⟨0, by omega, rfl, rfl, (rfl : cmpL a b = cmpL a b)⟩
  case round =>
    obtain ⟨i, hi, rfl, hwr, HE⟩ := hrel
    subst hwr
    by_cases hlt : i < n
    · have hlt' : (i : Int) < n := by omega
      have hge : decide ((n : Int) ≤ i) = false := decide_eq_false (by omega)
      obtain ⟨b1, o1, rfl, hc1⟩ := HA.out.2 (by omega)
      obtain ⟨b2, o2, rfl, hc2⟩ := HB.out.2 (by omega)
      have h1 := hc1 i hlt
      have h2 := hc2 i hlt
      have hla : i < a.length := by rw [HA.out.1]; exact hlt
      have hlb : i < b.length := by rw [HB.out.1]; exact hlt
      rw [show a[i]?.getD 0 = a[i] by rw [List.getElem?_eq_getElem hla]; rfl] at h1
      rw [show b[i]?.getD 0 = b[i] by rw [List.getElem?_eq_getElem hlb]; rfl] at h2
      have HS := Lib.hid (show cmpL (a.drop i) (b.drop i) = if a[i] < b[i] then -1 else if b[i] < a[i] then 1 else cmpL (a.drop (i + 1)) (b.drop (i + 1)) by
        rw [List.drop_eq_getElem_cons hla, List.drop_eq_getElem_cons hlb]; rfl)
      generalize a[i] = x at *
      generalize b[i] = y at *
      clear hc1 hc2 hla hlb
      have hcm := Try.cmp_Compare_int x y w
      rcases Int.lt_trichotomy x y with hxy | hxy | hxy
      · have hv : Lib.compareInt x y = -1 := by unfold Lib.compareInt; rw [if_pos hxy]
        rw [hv] at hcm
        have HCM := Lib.hid hcm
        have HR := Lib.hid (show cmpL a b = -1 by rw [HE.out, HS.out, if_pos hxy])
        clear hcm hv hxy
        go_wp2_with (first | (go_at_call 76; (with_reducible refine HCM.out.mono ?_); rintro e w' ⟨rfl, rfl⟩))
        go_ret
        exact ⟨by rw [HR.out]; rfl, rfl⟩
      · have hv : Lib.compareInt x y = 0 := by unfold Lib.compareInt; rw [if_neg (by omega), if_neg (by omega)]
        rw [hv] at hcm
        have HCM := Lib.hid hcm
        have HR := Lib.hid (show cmpL a b = cmpL (a.drop (i + 1)) (b.drop (i + 1)) by rw [HE.out, HS.out, if_neg (by omega), if_neg (by omega)])
        clear hcm hv hxy
        go_wp2_with (first | (go_at_call 76; (with_reducible refine HCM.out.mono ?_); rintro e w' ⟨rfl, rfl⟩))
        go_roundw
        case rel => exact ⟨i + 1, by omega, by go_num, by first | trivial | rfl, HR⟩
        case measure => simp [intOf]; omega
      · have hv : Lib.compareInt x y = 1 := by unfold Lib.compareInt; rw [if_neg (by omega), if_pos hxy]
        rw [hv] at hcm
        have HCM := Lib.hid hcm
        have HR := Lib.hid (show cmpL a b = 1 by rw [HE.out, HS.out, if_neg (by omega), if_pos hxy])
        clear hcm hv hxy
        go_wp2_with (first | (go_at_call 76; (with_reducible refine HCM.out.mono ?_); rintro e w' ⟨rfl, rfl⟩))
        go_ret
        exact ⟨by rw [HR.out]; rfl, rfl⟩
    · obtain rfl : i = n := by omega
      have HR := Lib.hid (show cmpL a b = 0 by rw [HE.out, List.drop_of_length_le (by rw [HA.out.1]; exact Nat.le_refl _), List.drop_of_length_le (by rw [HB.out.1]; exact Nat.le_refl _)]; rfl)
      go_wp2
      go_ret
      exact ⟨by rw [HR.out]; rfl, rfl⟩
def orI : List Int → Int
  | [] => 0
  | a :: x => if a ≠ 0 then a else orI x
set_option maxHeartbeats 4000000 in
theorem cor_any {A : Option Addr} {n c : Nat} {l : List Int} {w : World} (hl : SI w A n l) (hc : n ≤ c) (hn : n ≤ 1000) :
    Calls Try.prog 74 #[.slice A n c] w fun e w' => e = .returned (.int .i64 (orI l)) ∧ w' = w := by
  have HL := Lib.hid hl
  have hnc : (n : Int) ≤ c := by omega
  have hn1 : (n : Int) ≤ 1000 := by omega
  clear hl
  go_enter Try.func74, Try.ntmps74
  go_wp2
  go_loopw [8] (fun t wr => ∃ i : Nat, i ≤ n ∧ t = .int .i64 i ∧ w = wr ∧ Hid (orI l = orI (l.drop i))) (fun t _ => n - (intOf t).toNat)
  case atStart => exact ⟨0, by omega, rfl, rfl, (rfl : orI l = orI l)⟩
  case round =>
    obtain ⟨i, hi, rfl, hwr, HE⟩ := hrel
    subst hwr
    by_cases hlt : i < n
    · have hlt' : (i : Int) < n := by omega
      obtain ⟨b1, o1, rfl, hc1⟩ := HL.out.2 (by omega)
      have h1 := hc1 i hlt
      have hla : i < l.length := by rw [HL.out.1]; exact hlt
      rw [show l[i]?.getD 0 = l[i] by rw [List.getElem?_eq_getElem hla]; rfl] at h1
      have HS := Lib.hid (show orI (l.drop i) = if l[i] ≠ 0 then l[i] else orI (l.drop (i + 1)) by rw [List.drop_eq_getElem_cons hla]; rfl)
      generalize l[i] = x at *
      clear hc1 hla
      by_cases hx : x = 0
      · subst hx
        have HR := Lib.hid (show orI l = orI (l.drop (i + 1)) by rw [HE.out, HS.out, if_neg (by simp)])
        go_wp2
        go_roundw
        case rel => exact ⟨i + 1, by omega, by go_num, by first | trivial | rfl, HR⟩
        case measure => simp [intOf]; omega
      · have HR := Lib.hid (show orI l = x by rw [HE.out, HS.out, if_pos hx])
        have hx' : (x != 0) = true := by simpa using hx
        clear hx
        go_wp2
        go_ret
        exact ⟨by rw [HR.out]; rfl, rfl⟩
    · obtain rfl : i = n := by omega
      have HR := Lib.hid (show orI l = 0 by rw [HE.out, List.drop_of_length_le (by rw [HL.out.1]; exact Nat.le_refl _)]; rfl)
      go_wp2
      go_ret
      exact ⟨by rw [HR.out]; rfl, rfl⟩
def nb (b : Bool) : Int := if b = true then 1 else 0
theorem number_any (b : Bool) (w : World) : Calls Try.prog 77 #[.bool b] w fun e w' => e = .returned (.int .i64 (nb b)) ∧ w' = w := by
  cases b
  · go_enter Try.func77, Try.ntmps77
    go_wp2
    go_ret
    exact ⟨rfl, rfl⟩
  · go_enter Try.func77, Try.ntmps77
    go_wp2
    go_ret
    exact ⟨rfl, rfl⟩
def toL (n : Nat) (f : Nat → Int) : List Int := (List.range n).map f
def cmpE (m v h m' v' h' : Nat → Int) (d d' : Bool) : Int := orI [cmpL (toL 8 m) (toL 8 m'), cmpL (toL 4 v) (toL 4 v'), cmpL (toL 6 h) (toL 6 h'), Lib.compareInt (nb d) (nb d')]
theorem si_part {w : World} {B N o n : Nat} {c : Array Value} {t : TypeId} {f : Nat → Int} (hb : Box w B c t) (hc : ∀ i, i < n → c[o + i]? = some (.int .i64 (f i))) (_hN : o + n ≤ N) : SI w (some ⟨B, o, none⟩) n (toL n f) :=
  ⟨by simp [toL], fun _ => ⟨B, o, rfl, fun i hi => by
    refine (hb.cell (o + i) (hc i hi)).trans ?_
    unfold toL
    rw [List.getElem?_map, List.getElem?_range hi]
    rfl⟩⟩
theorem endc_cell (m v h : Nat → Int) (d k : Bool) {i : Nat} (hi : i < 20) : (endc m v h d k).toArray[i]? = some (endF m v h d k i) := by
  rw [← end_vs]; exact vs_get _ hi
theorem run_build4 (a b c d : Int) (w : World) :
    (Instr.buildSlice 36 4 #[(0, .int .i64 a), (1, .int .i64 b), (2, .int .i64 c), (3, .int .i64 d)]).run Try.prog w = .ok (.slice (some ⟨w.heap.size, 0, none⟩) 4 4) (w.alloc (.cells #[.int .i64 a, .int .i64 b, .int .i64 c, .int .i64 d] 3)) := by kernel_rfl
theorem l_build4 {ops : Array Oper} {rest : List Oper} {o : Oper} {a : Act} {w : World} {Q : Exit → Act → World → Prop} (x y z u : Operand) (ho : o.op = .buildSlice 36 4 #[(0, x), (1, y), (2, z), (3, u)]) (hgd : o.guard = none) {i j k l : Int} (hx : a.eval x = .int .i64 i) (hy : a.eval y = .int .i64 j) (hz : a.eval z = .int .i64 k) (hu : a.eval u = .int .i64 l)
    (h : wpList Try.prog ops Q rest (a.put o.dst (.slice (some ⟨w.heap.size, 0, none⟩) 4 4)) (w.alloc (.cells #[.int .i64 i, .int .i64 j, .int .i64 k, .int .i64 l] 3))) : wpList Try.prog ops Q (o :: rest) a w := by
  refine wpList_plain hgd fun _ hK' => ?_
  unfold Oper.wp execOp
  simp only [ho, Sem.run_bind, Sem.run_pure, Result.andThen_ok, List.map_toArray, List.map_cons, List.map_nil, hx, hy, hz, hu, run_build4]
  exact hK' _ _ h
set_option maxHeartbeats 8000000 in
theorem compare_any (m v h m' v' h' : Nat → Int) (d k d' k' : Bool) (w : World) : Calls Try.prog 42 #[.agg (endc m v h d k).toArray, .agg (endc m' v' h' d' k').toArray] w fun e w' => e = .returned (.int .i64 (cmpE m v h m' v' h' d d')) ∧ ∃ os, w' = Sort.grow (w.drewN 1) os := by
  obtain ⟨hb1, hb2, hb3, hsz⟩ := boxes2 w (endc m v h d k).toArray (endc m' v' h' d' k').toArray 33 33
  have HB1 := Lib.hid hb1
  have HB2 := Lib.hid hb2
  have HW0 := Lib.hid (show (w.alloc (.cells (endc m v h d k).toArray 33)).alloc (.cells (endc m' v' h' d' k').toArray 33) = Sort.grow w #[.cells (endc m v h d k).toArray 33, .cells (endc m' v' h' d' k').toArray 33] by
    unfold World.alloc Sort.grow; simp only; congr 1)
  clear hb1 hb2 hb3 hsz
  go_enter Try.func42, Try.ntmps42
  go_wp2_with fail
  generalize (w.alloc (.cells (endc m v h d k).toArray 33)).alloc (.cells (endc m' v' h' d' k').toArray 33) = w0 at *
  have HC1 := Lib.hid (scmp_any (w := w0.drew) (c := 8) (d := 8) (si_part (N := 20) (o := 0) (n := 8) (f := m) HB1.out.drew (fun i hi => by rw [endc_cell _ _ _ _ _ (by omega)]; unfold endF; rw [if_pos (by omega), Nat.zero_add]) (by omega)) (si_part (N := 20) (o := 0) (n := 8) (f := m') HB2.out.drew (fun i hi => by rw [endc_cell _ _ _ _ _ (by omega)]; unfold endF; rw [if_pos (by omega), Nat.zero_add]) (by omega)) (by omega) (by omega) (by omega))
  have HC2 := Lib.hid (scmp_any (w := w0.drew) (c := 4) (d := 4) (si_part (N := 20) (o := 8) (n := 4) (f := v) HB1.out.drew (fun i hi => by rw [endc_cell _ _ _ _ _ (by omega)]; unfold endF; rw [if_neg (by omega), if_pos (by omega), Nat.add_sub_cancel_left]) (by omega)) (si_part (N := 20) (o := 8) (n := 4) (f := v') HB2.out.drew (fun i hi => by rw [endc_cell _ _ _ _ _ (by omega)]; unfold endF; rw [if_neg (by omega), if_pos (by omega), Nat.add_sub_cancel_left]) (by omega)) (by omega) (by omega) (by omega))
  have HC3 := Lib.hid (scmp_any (w := w0.drew) (c := 6) (d := 6) (si_part (N := 20) (o := 12) (n := 6) (f := h) HB1.out.drew (fun i hi => by rw [endc_cell _ _ _ _ _ (by omega)]; unfold endF; rw [if_neg (by omega), if_neg (by omega), if_pos (by omega), Nat.add_sub_cancel_left]) (by omega)) (si_part (N := 20) (o := 12) (n := 6) (f := h') HB2.out.drew (fun i hi => by rw [endc_cell _ _ _ _ _ (by omega)]; unfold endF; rw [if_neg (by omega), if_neg (by omega), if_pos (by omega), Nat.add_sub_cancel_left]) (by omega)) (by omega) (by omega) (by omega))
  have f1 := HB1.out.cell 18 (v := .bool d) rfl
  have f2 := HB2.out.cell 18 (v := .bool d') rfl
  (refine wp_region_still_tail 22 (by kernel_rfl) (by kernel_rfl) ?_; simp only [List.take_succ_cons, List.take_zero, List.drop_succ_cons, List.drop_zero]; (repeat (first | ((with_reducible refine s_skip ?_ ?_); exact rfl; simp only [Act.put, Act.eval, List.setIfInBounds_toArray, List.set_cons_zero, List.set_cons_succ, Array.getD_eq_getD_getElem?, List.getElem?_toArray, List.getElem?_cons_zero, List.getElem?_cons_succ, Option.getD_some]) | ((with_reducible refine wpStill_step ?_); intro K hK; go_simp; (with_reducible refine hK _ ?_); clear hK K) | (((with_reducible refine wpStill_step ?_); intro K hK; go_simp; (with_reducible refine ⟨_, HC1.out, hK _ ?_⟩); clear hK K); try simp only [Act.put, Act.eval, List.setIfInBounds_toArray, List.set_cons_zero, List.set_cons_succ, Array.getD_eq_getD_getElem?, List.getElem?_toArray, List.getElem?_cons_zero, List.getElem?_cons_succ, Option.getD_some]) | (((with_reducible refine wpStill_step ?_); intro K hK; go_simp; (with_reducible refine ⟨_, HC2.out, hK _ ?_⟩); clear hK K); try simp only [Act.put, Act.eval, List.setIfInBounds_toArray, List.set_cons_zero, List.set_cons_succ, Array.getD_eq_getD_getElem?, List.getElem?_toArray, List.getElem?_cons_zero, List.getElem?_cons_succ, Option.getD_some]) | (((with_reducible refine wpStill_step ?_); intro K hK; go_simp; (with_reducible refine ⟨_, HC3.out, hK _ ?_⟩); clear hK K); try simp only [Act.put, Act.eval, List.setIfInBounds_toArray, List.set_cons_zero, List.set_cons_succ, Array.getD_eq_getD_getElem?, List.getElem?_toArray, List.getElem?_cons_zero, List.getElem?_cons_succ, Option.getD_some]) | (((with_reducible refine wpStill_step ?_); intro K hK; go_simp; (with_reducible refine ⟨_, number_any _ _, hK _ ?_⟩); clear hK K); try simp only [Act.put, Act.eval, List.setIfInBounds_toArray, List.set_cons_zero, List.set_cons_succ, Array.getD_eq_getD_getElem?, List.getElem?_toArray, List.getElem?_cons_zero, List.getElem?_cons_succ, Option.getD_some]) | (((with_reducible refine wpStill_step ?_); intro K hK; go_simp; (with_reducible refine ⟨_, Try.cmp_Compare_int _ _ _, hK _ ?_⟩); clear hK K); try simp only [Act.put, Act.eval, List.setIfInBounds_toArray, List.set_cons_zero, List.set_cons_succ, Array.getD_eq_getD_getElem?, List.getElem?_toArray, List.getElem?_cons_zero, List.getElem?_cons_succ, Option.getD_some]))); (with_reducible refine wpStill_nil ?_))
  change wpList _ _ _ _ _ w0.drew
  have HC4 := Lib.hid (cor_any (A := some ⟨w0.heap.size, 0, none⟩) (n := 4) (c := 4) (l := [cmpL (toL 8 m) (toL 8 m'), cmpL (toL 4 v) (toL 4 v'), cmpL (toL 6 h) (toL 6 h'), Lib.compareInt (nb d) (nb d')]) (w := (w0.alloc (.cells #[.int .i64 (cmpL (toL 8 m) (toL 8 m')), .int .i64 (cmpL (toL 4 v) (toL 4 v')), .int .i64 (cmpL (toL 6 h) (toL 6 h')), .int .i64 (Lib.compareInt (nb d) (nb d'))] 3)).drew) ⟨rfl, fun _ => ⟨_, 0, rfl, fun i hi => by
    have hbx := (Box.new w0 #[.int .i64 (cmpL (toL 8 m) (toL 8 m')), .int .i64 (cmpL (toL 4 v) (toL 4 v')), .int .i64 (cmpL (toL 6 h) (toL 6 h')), .int .i64 (Lib.compareInt (nb d) (nb d'))] 3).drew
    match i, hi with
    | 0, _ => exact hbx.cell 0 rfl
    | 1, _ => exact hbx.cell 1 rfl
    | 2, _ => exact hbx.cell 2 rfl
    | 3, _ => exact hbx.cell 3 rfl⟩⟩ (Nat.le_refl _) (by omega))
  clear HC1 HC2 HC3 f1 f2
  go_wp2_with (first | (refine l_build4 (.tmp 9) (.tmp 14) (.tmp 19) (.tmp 26) rfl rfl rfl rfl rfl rfl ?_) | (go_at_call 74; (with_reducible refine HC4.out.mono ?_); rintro e w' ⟨rfl, rfl⟩))
  go_ret
  refine ⟨rfl, #[.cells (endc m v h d k).toArray 33, .cells (endc m' v' h' d' k').toArray 33, .cells #[.int .i64 (cmpL (toL 8 m) (toL 8 m')), .int .i64 (cmpL (toL 4 v) (toL 4 v')), .int .i64 (cmpL (toL 6 h) (toL 6 h')), .int .i64 (Lib.compareInt (nb d) (nb d'))] 3], ?_⟩
  rw [HW0.out]
  unfold World.alloc Sort.grow World.drew World.drewN
  simp only
  congr 1
end Go.Proofs.Ytlcldcbdobgdbaa

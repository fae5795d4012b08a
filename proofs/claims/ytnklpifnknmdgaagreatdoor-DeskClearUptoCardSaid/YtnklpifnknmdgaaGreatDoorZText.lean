import Derived.IntWalk
import Derived.Lib.SplitLaws
import Derived.Lib.IndexBytes
import Derived.Test.YtnklpifnknmdgaaGreatDoorZCut
import Derived.Test.YtnklpifnknmdgaaGreatDoorZNota
import Derived.Test.YtnklpifnknmdgaaGreatDoorZKeepTw
import Derived.Test.YtnklpifnknmdgaaGreatDoorZGu
import Derived.Test.YtnklpifnknmdgaaGreatDoorZCp
set_option linter.all false
set_option maxRecDepth 100000
namespace Go.Proofs.YtnklpifnknmdgaaGreatDoor
open Go Go.RowKit

set_option maxHeartbeats 1000000 in
theorem lastDigit_any (l : List UInt8) (hs : l.length ≤ maxLen) (w : World) : Calls Tryz.prog 158 #[.string (str l)] w fun e w' => e = .returned (.int .i64 (lastD l)) ∧ w = w' := by
  unfold maxLen at hs
  rcases l with _ | ⟨b, r⟩
  · have he : (str []).toList.isEmpty = true := str_isEmpty []
    go_enter Tryz.func158, Tryz.ntmps158
    go_wp2
    go_ret
    exact ⟨rfl, rfl⟩
  · have hz := str_sz (b :: r)
    have hp : 0 < (b :: r).length := by simp
    have hl := lastD_get (b :: r) hp
    generalize hL : b :: r = L at *
    have he := str_isEmpty L
    have h0 : L.isEmpty = false := by subst hL; rfl
    rw [h0] at he
    have HL := Lib.hid hl
    clear hl hL
    have hz1 : 0 ≤ ((str L).size : Int) - 1 := by omega
    have hz2 : ((str L).size : Int) - 1 < (str L).size := by omega
    have hz3 : ((str L).size : Int) ≤ 9223372036854775807 := by omega
    have HZ := Lib.hid hz
    clear hz
    go_enter Tryz.func158, Tryz.ntmps158
    go_wp2
    go_ret
    refine ⟨ret_val ?_, rfl⟩
    have h := HL.out
    have hzl := HZ.out
    have e : (str L)[(str L).size - 1]'(by omega) = L[L.length - 1]'(by omega) := by
      exact (str_get L ((str L).size - 1) (by omega) (by omega)).trans (by simp only [hzl])
    rw [h]
    show Value.int .i64 (wrap64 (wrap64 (((str L)[(str L).size - 1]'(by omega)).toNat : Int) - 48)) = _
    rw [e]
    have hb : (L[L.length - 1]'(by omega)).toNat < 256 := UInt8.toNat_lt _
    rw [IntWalk.wrap64_in ((L[L.length - 1]'(by omega)).toNat : Int) (by omega), IntWalk.wrap64_in _ (by omega)]
theorem cutA_le (c : UInt8) (l : List UInt8) : (cutA c l).length ≤ l.length := (List.takeWhile_prefix _).length_le
theorem cutR_le (c : UInt8) (l : List UInt8) : (cutR c l).length ≤ l.length := by
  unfold cutR
  rw [List.length_drop]
  have := (List.dropWhile_suffix (l := l) (· != c)).length_le
  omega
set_option maxHeartbeats 2000000 in
theorem guess_any (s : List UInt8) (hs : s.length ≤ maxLen) (w : World) : Calls Tryz.prog 132 #[.string (str s)] w fun e w' => e = .returned (.agg (evv (guessL s))) ∧ Below w.heap.size w w' := by
  obtain ⟨b1, hB, hz⟩ := boxes1 w #[.int .i64 0, .int .i64 0, .int .i64 0] 45
  generalize hW : w.alloc (.cells #[.int .i64 0, .int .i64 0, .int .i64 0] 45) = W at *
  have HX := Lib.hid b1
  have HT := Lib.hid (fun (w1 : World) (h : Bel W w1) => hB.trans (h.out.mono (by omega)))
  have hw0 := Bel.refl W
  have a1 := cutA_le 32 s
  have a2 := cutR_le 32 s
  have a3 := cutR_le 32 (cutR 32 s)
  have HS := Lib.hid (show (cutR 32 s).length ≤ maxLen ∧ (cutA 32 s).length ≤ maxLen ∧ (cutR 32 (cutR 32 s)).length ≤ maxLen from ⟨by omega, by omega, by omega⟩)
  have HS0 := Lib.hid hs
  clear hB hz b1 hs a1 a2 a3
  go_enter Tryz.func132, Tryz.ntmps132
  go_wp2_with fail
  refine (cut_any s 32 _ HS0.out).mono ?_
  rintro e1 w1 ⟨rfl, hb1⟩
  have hw1 := hw0.call hb1
  clear hb1
  go_wp2_with fail
  refine (cut_any (cutR 32 s) 32 _ HS.out.1).mono ?_
  rintro e2 w2 ⟨rfl, hb2⟩
  have hw2 := hw1.call hb2
  clear hb2
  go_wp2_with fail
  refine (kindOf_any (cutA 32 (cutR 32 s)) _).mono ?_
  rintro e3 w3 ⟨rfl, hb3⟩
  have hw3 := hw2.call hb3
  clear hb3
  go_wp2_with fail
  refine (lastDigit_any (cutA 32 s) HS.out.2.1 _).mono ?_
  rintro _ _ ⟨rfl, rfl⟩
  go_wp2_with fail
  refine (lastDigit_any (cutR 32 (cutR 32 s)) HS.out.2.2 _).mono ?_
  rintro _ _ ⟨rfl, rfl⟩
  have HX3 := Lib.hid (hw3.box HX.out)
  have HW3 := Lib.hid hw3
  clear hw0 hw1 hw2 hw3
  go_wp2_with (refine storeB _ _ _ rfl rfl rfl rfl HX3.out rfl T36 (evv_all (guessL s)) ?_)
  refine bodyPost_ret (res_c Tryz.results132 rfl (HX3.out.setRow (evv (guessL s))) T36) rfl ⟨rfl, ?_⟩
  exact below_setRow' (HT.out _ HW3.out) _ _ (Nat.le_refl _)

theorem check_one (e : Ev) : (check [e]).2 = 1 ↔ isEv e = false := by
  have : check [e] = if wrong [] e ≠ 0 then (0, wrong [] e) else (0, 0) := by
    unfold check
    rw [if_neg (by simp)]
    simp [chk]
  rw [this]
  unfold wrong
  cases h : isEv e
  · simp
  · simp only [Bool.true_eq_false, if_false, iff_false]
    repeat' split
    all_goals simp_all
set_option maxHeartbeats 2000000 in
theorem isInRange_any (e : Ev) (w : World) : Calls Tryz.prog 159 #[.agg (evv e)] w fun e' w' => e' = .returned (.bool (isEv e)) ∧ Below w.heap.size w w' := by
  obtain ⟨b1, b2, hB, hz⟩ := boxes2 w (evv e) (evv e) 45 45
  have HS := Lib.hid (show Sl ((w.alloc (.cells (evv e) 45)).alloc (.cells (evv e) 45)) (some ⟨w.heap.size + 1, 0, none⟩) 1 [e] from ⟨rfl, fun _ => ⟨_, 0, rfl, b2.lt, b2.range⟩⟩)
  have hx0 := Box.new w (evv e) 45
  have HX := Lib.hid hx0
  have HB := Lib.hid hB
  have hv : ((check [e]).2 != 1) = isEv e := by
    have := check_one e
    cases h : isEv e
    · rw [this.2 h]; rfl
    · rw [h] at this; simp at this; simpa using this
  have HV := Lib.hid hv
  clear b1 b2 hB hz hx0 hv
  obtain ⟨i0, hi0, hz0, hz1, hz2⟩ := info_parts ev_info
  have J := Lib.hid (And.intro hi0 (And.intro hz0 (And.intro hz1 hz2)))
  clear hi0 hz0 hz1 hz2
  go_enter Tryz.func159, Tryz.ntmps159
  go_wp2_with (first | (refine loadB _ _ rfl rfl rfl HX.out T36 ?_) | (refine build1 _ _ rfl rfl _ i0 Tryz.underlying30 J.out.1 J.out.2.1 J.out.2.2.1 e rfl ?_))
  refine (check_any _ 1 1 [e] _ HS.out).mono ?_
  rintro e' w1 ⟨rfl, hb⟩
  have HW := Lib.hid (HB.out.trans (hb.mono HB.out.size))
  clear hb
  go_wp2
  go_ret
  exact ⟨ret_val (by rw [← HV.out]; rfl), HW.out⟩

def wordO (k : Int) : List UInt8 :=
  if k = 1 then [114, 101, 97, 100] else if k = 2 then [119, 114, 105, 116, 101] else if k = 3 then [97, 99, 113, 117, 105, 114, 101] else if k = 4 then [114, 101, 108, 101, 97, 115, 101]
  else if k = 5 then [102, 111, 114, 107] else if k = 6 then [106, 111, 105, 110] else if k = 7 then [115, 101, 101] else [115, 104, 111, 119]
def letr (k : Int) : List UInt8 := if k = 1 ∨ k = 2 then [120] else if k = 3 ∨ k = 4 then [109] else if k = 5 ∨ k = 6 then [116] else [118]
theorem word_parts (k : Int) (h : 1 ≤ k ∧ k ≤ 8) : word k = wordO k ++ 32 :: letr k := by
  have : k = 1 ∨ k = 2 ∨ k = 3 ∨ k = 4 ∨ k = 5 ∨ k = 6 ∨ k = 7 ∨ k = 8 := by omega
  rcases this with rfl | rfl | rfl | rfl | rfl | rfl | rfl | rfl <;> rfl
theorem notA_find (k : Int) (h : 1 ≤ k ∧ k ≤ 8) : ∃ i, Instr.findNow (.int .i64) (.int .i64 k) notA.toList 0 = some (some (i, .agg (notV (wordO k) (letr k)))) := by
  have : k = 1 ∨ k = 2 ∨ k = 3 ∨ k = 4 ∨ k = 5 ∨ k = 6 ∨ k = 7 ∨ k = 8 := by omega
  rcases this with rfl | rfl | rfl | rfl | rfl | rfl | rfl | rfl <;> exact ⟨_, rfl⟩
theorem wordO_size (k : Int) : (str (wordO k)).size ≤ 7 := by
  rw [str_sz]; unfold wordO; repeat' split
  all_goals simp
theorem letr_size (k : Int) : (str (letr k)).size ≤ 1 := by
  rw [str_sz]; unfold letr; repeat' split
  all_goals simp
theorem itoa_any (n : Int) (h : 0 ≤ n ∧ n < 10) (w : World) : Calls Tryz.prog 18 #[.int .i64 n] w fun e w' => e = .returned (.string (str [digit n])) ∧ Below w.heap.size w w' := by
  obtain ⟨m, rfl⟩ := Int.eq_ofNat_of_zero_le h.1
  refine (Tryz.strconv_Itoa_small m (by omega) w).mono fun e w' ⟨he, hw⟩ => ⟨?_, hw ▸ Below.refl _ _⟩
  rw [he, Lib.decDigits_one (by omega)]
  rfl
theorem look_note (e : Ev) (h : isEv e = true) {w : World} {B : Nat} (hb : w.heap[B]? = some (.map notA 8)) :
    (Instr.lookup 248 (.map (some B)) (.int .i64 e.k) false).run Tryz.prog w = .ok (.agg #[.string (str (wordO e.k)), .string (str (letr e.k))]) w := by
  obtain ⟨i, hi⟩ := notA_find e.k (isEv_k h)
  exact look_in Tryz.underlying248 Tryz.underlying3 notA 8 e.k _ B i w hb hi
theorem line_sum (e : Ev) (h : isEv e = true) : str [116] ++ str [digit e.t] ++ str [32] ++ str (wordO e.k) ++ str [32] ++ str (letr e.k) ++ str [digit e.o] = str (lineL e) := by
  simp [str_app, lineL, word_parts e.k (isEv_k h)]
theorem note_all (a b : ByteArray) : (#[Value.string a, Value.string b] : Array Value).all (·.oneCell') = true := by simp [Value.oneCell']
set_option maxHeartbeats 4000000 in
theorem written_any (e : Ev) (h : isEv e = true) (w : World) : Calls Tryz.prog 160 #[.agg (evv e)] w fun e' w' => e' = .returned (.string (str (lineL e))) ∧ Below w.heap.size w w' := by
  obtain ⟨b1, hB, hs⟩ := boxes1 w (evv e) 45
  generalize hW : w.alloc (.cells (evv e) 45) = W at *
  have HX := Lib.hid b1
  have HT := Lib.hid (fun (w1 : World) (h : Bel W w1) => hB.trans (h.out.mono (by omega)))
  have HE := Lib.hid h
  have t1 := isEv_t h
  have o1 := isEv_o h
  have n1 := nobj_le e.k
  clear hB hs b1 h
  go_enter Tryz.func160, Tryz.ntmps160
  go_wp2
  refine region_grow (by kernel_rfl) ?_
  have F := fun (w' : World) (h : Below W.heap.size W w') => ((Bel.box h HX.out).cell 0 rfl : w'.cell? ⟨w.heap.size, 0, none⟩ = some (.int .i64 e.k))
  (repeat (first | ((first | refine wpG_go 1 (by simp only [List.getElem?_toArray, List.getElem?_cons_zero, List.getElem?_cons_succ] <;> rfl) (by decide +kernel) (by decide +kernel) (by kernel_rfl) (by rfl) (by exact fun _ _ _ _ h => h) (Nat.le_refl _) ?_ | refine wpG_go 2 (by simp only [List.getElem?_toArray, List.getElem?_cons_zero, List.getElem?_cons_succ] <;> rfl) (by decide +kernel) (by decide +kernel) (by kernel_rfl) (by rfl) (by exact fun _ _ _ _ h => h) (Nat.le_refl _) ?_); apply Exists.intro; refine ⟨fun w1 h1 => ?_, ?_⟩; (first | exact g_move _ rfl | exact g_assign _ rfl | (have fct0 := F w1 h1; go_simp; first | exact ⟨rfl, rfl⟩ | rfl)); simp only [Act.put, Act.eval, List.setIfInBounds_toArray, List.set_cons_zero, List.set_cons_succ, Array.getD_eq_getD_getElem?, List.getElem?_toArray, List.getElem?_cons_zero, List.getElem?_cons_succ, Option.getD_some]) | ((first | refine wpG_skip 1 (by simp only [List.getElem?_toArray, List.getElem?_cons_zero, List.getElem?_cons_succ] <;> rfl) (by decide +kernel) (by decide +kernel) (by kernel_rfl) (by rfl) (by exact fun _ _ _ _ h => h) (Nat.le_refl _) ?_ | refine wpG_skip 2 (by simp only [List.getElem?_toArray, List.getElem?_cons_zero, List.getElem?_cons_succ] <;> rfl) (by decide +kernel) (by decide +kernel) (by kernel_rfl) (by rfl) (by exact fun _ _ _ _ h => h) (Nat.le_refl _) ?_); simp only [Act.put, Act.eval, List.setIfInBounds_toArray, List.set_cons_zero, List.set_cons_succ, Array.getD_eq_getD_getElem?, List.getElem?_toArray, List.getElem?_cons_zero, List.getElem?_cons_succ, Option.getD_some])))
  clear F
  (refine wpG_two 0 4 (by decide +kernel) ?_ ?_ <;> (intro wa hwa; refine op_wanted (by simp only [List.getElem?_toArray, List.getElem?_cons_zero, List.getElem?_cons_succ] <;> rfl) rfl ?_))
  · go_simp
    refine (notations_any _).mono ?_
    rintro e5 w5 ⟨rfl, rfl⟩
    have h5 := hwa.alloc (.map notA 8)
    refine ⟨Below.alloc (Below.refl _ _) hwa.size _, ?_⟩
    have hm : (wa.alloc (.map notA 8)).heap[wa.heap.size]? = some (.map notA 8) := heap_alloc_new _ _
    generalize wa.alloc (.map notA 8) = w5 at *
    generalize wa.heap.size = BM at *
    refine wpG_raise h5.size _ _ _ _ ?_
    have F3 := fun (w' : World) (h : Below w5.heap.size w5 w') => look_note e HE.out ((h.block BM (Array.getElem?_eq_some_iff.1 hm).1).trans hm)
    (repeat (first | ((first | refine wpG_go 3 (by simp only [List.getElem?_toArray, List.getElem?_cons_zero, List.getElem?_cons_succ] <;> rfl) (by decide +kernel) (by decide +kernel) (by kernel_rfl) (by rfl) (by exact fun _ _ _ _ h => h) (Nat.le_refl _) ?_); apply Exists.intro; refine ⟨fun w1 h1 => ?_, ?_⟩; (first | exact g_move _ rfl | exact g_assign _ rfl | (have fct0 := F3 w1 h1; go_simp; first | exact ⟨rfl, rfl⟩ | rfl)); simp only [Act.put, Act.eval, List.setIfInBounds_toArray, List.set_cons_zero, List.set_cons_succ, Array.getD_eq_getD_getElem?, List.getElem?_toArray, List.getElem?_cons_zero, List.getElem?_cons_succ, Option.getD_some]) | ((first | refine wpG_skip 3 (by simp only [List.getElem?_toArray, List.getElem?_cons_zero, List.getElem?_cons_succ] <;> rfl) (by decide +kernel) (by decide +kernel) (by kernel_rfl) (by rfl) (by exact fun _ _ _ _ h => h) (Nat.le_refl _) ?_); simp only [Act.put, Act.eval, List.setIfInBounds_toArray, List.set_cons_zero, List.set_cons_succ, Array.getD_eq_getD_getElem?, List.getElem?_toArray, List.getElem?_cons_zero, List.getElem?_cons_succ, Option.getD_some])))
    clear F3 hm hwa
    (refine wpG_one 4 (by decide +kernel) ?_; intro wb hwb; refine op_wanted (by simp only [List.getElem?_toArray, List.getElem?_cons_zero, List.getElem?_cons_succ] <;> rfl) rfl ?_)
    go_simp
    refine ⟨Below.alloc (Below.refl _ _) hwb.size _, ?_⟩
    have hx := Box.new wb #[.string ⟨#[]⟩, .string ⟨#[]⟩] 251
    have hwc := (h5.trans hwb).alloc (.cells #[.string ⟨#[]⟩, .string ⟨#[]⟩] 251)
    have hN : w5.heap.size ≤ wb.heap.size := hwb.size
    have hN2 : W.heap.size ≤ wb.heap.size := (h5.trans hwb).size
    clear hwb h5
    generalize wb.alloc (.cells #[.string ⟨#[]⟩, .string ⟨#[]⟩] 251) = wc at *
    generalize wb.heap.size = BX at *
    (refine wpG_one 5 (by decide +kernel) ?_; intro wd hwd; refine op_wanted (by simp only [List.getElem?_toArray, List.getElem?_cons_zero, List.getElem?_cons_succ] <;> rfl) rfl ?_)
    refine wp_storeB TNo _ _ rfl rfl rfl rfl (hwd.box hx) rfl (note_all _ _) ⟨below_setRow' (Below.refl _ _) _ _ hN, ?_⟩
    have hy := (hwd.box hx).setRow #[.string (str (wordO e.k)), .string (str (letr e.k))]
    have hwe : Bel W _ := below_setRow' (hwc.trans hwd).out BX #[.string (str (wordO e.k)), .string (str (letr e.k))] hN2
    clear hx hwc hwd
    (refine wpG_done (by decide +kernel) ?_ _; intro wf hwf; try simp only [Act.put, Act.eval, List.setIfInBounds_toArray, List.set_cons_zero, List.set_cons_succ, Array.getD_eq_getD_getElem?, List.getElem?_toArray, List.getElem?_cons_zero, List.getElem?_cons_succ, Option.getD_some])
    have HY := Lib.hid (hwf.box hy)
    have HF := Lib.hid (hwe.trans hwf)
    clear hy hwe hwf hN hN2
    have F := fun (w' : World) (h : Bel wf w') => (⟨(h.box (HF.out.box HX.out)).cell 1 rfl, (h.box (HF.out.box HX.out)).cell 2 rfl, (h.box HY.out).cell 0 rfl, (h.box HY.out).cell 1 rfl⟩ : w'.cell? ⟨w.heap.size, 1, none⟩ = some (.int .i64 e.t) ∧ w'.cell? ⟨w.heap.size, 2, none⟩ = some (.int .i64 e.o) ∧ w'.cell? ⟨BX, 0, none⟩ = some (.string (str (wordO e.k))) ∧ w'.cell? ⟨BX, 1, none⟩ = some (.string (str (letr e.k))))
    have z1 : (str [digit e.t]).size = 1 := str_sz _
    have z2 : (str [digit e.o]).size = 1 := str_sz _
    have y0 := wordO_size e.k
    have y1 := letr_size e.k
    have z3 : ¬ 9223372036854775807 < 1 + 1 + 1 + (str (wordO e.k)).size := by omega
    have z4 : ¬ 9223372036854775807 < 1 + 1 + 1 + (str (wordO e.k)).size + 1 := by omega
    have z5 : ¬ 9223372036854775807 < 1 + 1 + 1 + (str (wordO e.k)).size + 1 + (str (letr e.k)).size := by omega
    have z6 : ¬ 9223372036854775807 < 1 + 1 + 1 + (str (wordO e.k)).size + 1 + (str (letr e.k)).size + 1 := by omega
    have z3' : ¬ 9223372036854775807 < 3 + (str (wordO e.k)).size := by omega
    have z4' : ¬ 9223372036854775807 < 3 + (str (wordO e.k)).size + 1 := by omega
    have z5' : ¬ 9223372036854775807 < 3 + (str (wordO e.k)).size + 1 + (str (letr e.k)).size := by omega
    have z6' : ¬ 9223372036854775807 < 3 + (str (wordO e.k)).size + 1 + (str (letr e.k)).size + 1 := by omega
    go_wp2_with fail
    (refine region_bel (by kernel_rfl) (by kernel_rfl) ?_; (repeat (first | ((with_reducible refine BigFrame.wpQuiet_skip ?_ ?_); exact rfl; simp only [Act.put, Act.eval, List.setIfInBounds_toArray, List.set_cons_zero, List.set_cons_succ, Array.getD_eq_getD_getElem?, List.getElem?_toArray, List.getElem?_cons_zero, List.getElem?_cons_succ, Option.getD_some]) | (refine q_move _ rfl rfl ?_; simp only [Act.put, Act.eval, List.setIfInBounds_toArray, List.set_cons_zero, List.set_cons_succ, Array.getD_eq_getD_getElem?, List.getElem?_toArray, List.getElem?_cons_zero, List.getElem?_cons_succ, Option.getD_some]) | (refine q_assign _ rfl rfl ?_; simp only [Act.put, Act.eval, List.setIfInBounds_toArray, List.set_cons_zero, List.set_cons_succ, Array.getD_eq_getD_getElem?, List.getElem?_toArray, List.getElem?_cons_zero, List.getElem?_cons_succ, Option.getD_some]) | (refine q_any rfl ?_; apply Exists.intro; refine ⟨fun w hw => ?_, ?_⟩; (have fct0 := F w hw; go_simp; first | exact ⟨rfl, rfl⟩ | rfl | (go_at_call 18; (with_reducible refine (itoa_any _ (by omega) _).mono ?_); rintro e w' ⟨rfl, hb⟩; exact ⟨rfl, hw.call hb⟩)); simp only [Act.put, Act.eval, List.setIfInBounds_toArray, List.set_cons_zero, List.set_cons_succ, Array.getD_eq_getD_getElem?, List.getElem?_toArray, List.getElem?_cons_zero, List.getElem?_cons_succ, Option.getD_some]))); refine wpQuiet_nil ?_; intro w2 hw2)
    go_wp2
    go_ret
    exact ⟨congrArg (fun s => Ending.returned (.string s)) (line_sum e HE.out), HT.out _ (HF.out.trans hw2)⟩
  · go_simp
    refine ⟨Below.alloc (Below.refl _ _) hwa.size _, ?_⟩
    have hx := Box.new wa #[.string ⟨#[]⟩, .string ⟨#[]⟩] 251
    have hwc := hwa.alloc (.cells #[.string ⟨#[]⟩, .string ⟨#[]⟩] 251)
    have hN : W.heap.size ≤ wa.heap.size := hwa.size
    clear hwa
    generalize wa.alloc (.cells #[.string ⟨#[]⟩, .string ⟨#[]⟩] 251) = wc at *
    generalize wa.heap.size = BX at *
    (refine wpG_one 0 (by decide +kernel) ?_; intro wb hwb; refine op_wanted (by simp only [List.getElem?_toArray, List.getElem?_cons_zero, List.getElem?_cons_succ] <;> rfl) rfl ?_)
    go_simp
    refine (notations_any _).mono ?_
    rintro e5 w5 ⟨rfl, rfl⟩
    have h5 := hwb.alloc (.map notA 8)
    refine ⟨Below.alloc (Below.refl _ _) (hwc.trans hwb).size _, ?_⟩
    have hm : (wb.alloc (.map notA 8)).heap[wb.heap.size]? = some (.map notA 8) := heap_alloc_new _ _
    clear hwb
    generalize wb.alloc (.map notA 8) = w5 at *
    generalize wb.heap.size = BM at *
    (refine wpG_one 3 (by decide +kernel) ?_; intro wx hwx; refine op_wanted (by simp only [List.getElem?_toArray, List.getElem?_cons_zero, List.getElem?_cons_succ] <;> rfl) rfl ?_)
    have F3 := look_note e HE.out ((hwx.out.block BM (Array.getElem?_eq_some_iff.1 hm).1).trans hm)
    go_simp
    refine ⟨Below.refl _ _, ?_⟩
    clear F3 hm
    (refine wpG_one 5 (by decide +kernel) ?_; intro wd hwd; refine op_wanted (by simp only [List.getElem?_toArray, List.getElem?_cons_zero, List.getElem?_cons_succ] <;> rfl) rfl ?_)
    have hx5 := (h5.trans (hwx.trans hwd)).box hx
    refine wp_storeB TNo _ _ rfl rfl rfl rfl hx5 rfl (note_all _ _) ⟨below_setRow' (Below.refl _ _) _ _ hN, ?_⟩
    have hy := hx5.setRow #[.string (str (wordO e.k)), .string (str (letr e.k))]
    have hwe : Bel W _ := below_setRow' (hwc.trans (h5.trans (hwx.trans hwd))).out BX #[.string (str (wordO e.k)), .string (str (letr e.k))] hN
    clear hx hwc hwd hx5 hwx h5
    (refine wpG_done (by decide +kernel) ?_ _; intro wf hwf; try simp only [Act.put, Act.eval, List.setIfInBounds_toArray, List.set_cons_zero, List.set_cons_succ, Array.getD_eq_getD_getElem?, List.getElem?_toArray, List.getElem?_cons_zero, List.getElem?_cons_succ, Option.getD_some])
    have HY := Lib.hid (hwf.box hy)
    have HF := Lib.hid (hwe.trans hwf)
    clear hy hwe hwf hN
    have F := fun (w' : World) (h : Bel wf w') => (⟨(h.box (HF.out.box HX.out)).cell 1 rfl, (h.box (HF.out.box HX.out)).cell 2 rfl, (h.box HY.out).cell 0 rfl, (h.box HY.out).cell 1 rfl⟩ : w'.cell? ⟨w.heap.size, 1, none⟩ = some (.int .i64 e.t) ∧ w'.cell? ⟨w.heap.size, 2, none⟩ = some (.int .i64 e.o) ∧ w'.cell? ⟨BX, 0, none⟩ = some (.string (str (wordO e.k))) ∧ w'.cell? ⟨BX, 1, none⟩ = some (.string (str (letr e.k))))
    have z1 : (str [digit e.t]).size = 1 := str_sz _
    have z2 : (str [digit e.o]).size = 1 := str_sz _
    have y0 := wordO_size e.k
    have y1 := letr_size e.k
    have z3 : ¬ 9223372036854775807 < 1 + 1 + 1 + (str (wordO e.k)).size := by omega
    have z4 : ¬ 9223372036854775807 < 1 + 1 + 1 + (str (wordO e.k)).size + 1 := by omega
    have z5 : ¬ 9223372036854775807 < 1 + 1 + 1 + (str (wordO e.k)).size + 1 + (str (letr e.k)).size := by omega
    have z6 : ¬ 9223372036854775807 < 1 + 1 + 1 + (str (wordO e.k)).size + 1 + (str (letr e.k)).size + 1 := by omega
    have z3' : ¬ 9223372036854775807 < 3 + (str (wordO e.k)).size := by omega
    have z4' : ¬ 9223372036854775807 < 3 + (str (wordO e.k)).size + 1 := by omega
    have z5' : ¬ 9223372036854775807 < 3 + (str (wordO e.k)).size + 1 + (str (letr e.k)).size := by omega
    have z6' : ¬ 9223372036854775807 < 3 + (str (wordO e.k)).size + 1 + (str (letr e.k)).size + 1 := by omega
    go_wp2_with fail
    (refine region_bel (by kernel_rfl) (by kernel_rfl) ?_; (repeat (first | ((with_reducible refine BigFrame.wpQuiet_skip ?_ ?_); exact rfl; simp only [Act.put, Act.eval, List.setIfInBounds_toArray, List.set_cons_zero, List.set_cons_succ, Array.getD_eq_getD_getElem?, List.getElem?_toArray, List.getElem?_cons_zero, List.getElem?_cons_succ, Option.getD_some]) | (refine q_move _ rfl rfl ?_; simp only [Act.put, Act.eval, List.setIfInBounds_toArray, List.set_cons_zero, List.set_cons_succ, Array.getD_eq_getD_getElem?, List.getElem?_toArray, List.getElem?_cons_zero, List.getElem?_cons_succ, Option.getD_some]) | (refine q_assign _ rfl rfl ?_; simp only [Act.put, Act.eval, List.setIfInBounds_toArray, List.set_cons_zero, List.set_cons_succ, Array.getD_eq_getD_getElem?, List.getElem?_toArray, List.getElem?_cons_zero, List.getElem?_cons_succ, Option.getD_some]) | (refine q_any rfl ?_; apply Exists.intro; refine ⟨fun w hw => ?_, ?_⟩; (have fct0 := F w hw; go_simp; first | exact ⟨rfl, rfl⟩ | rfl | (go_at_call 18; (with_reducible refine (itoa_any _ (by omega) _).mono ?_); rintro e w' ⟨rfl, hb⟩; exact ⟨rfl, hw.call hb⟩)); simp only [Act.put, Act.eval, List.setIfInBounds_toArray, List.set_cons_zero, List.set_cons_succ, Array.getD_eq_getD_getElem?, List.getElem?_toArray, List.getElem?_cons_zero, List.getElem?_cons_succ, Option.getD_some]))); refine wpQuiet_nil ?_; intro w2 hw2)
    go_wp2
    go_ret
    exact ⟨congrArg (fun s => Ending.returned (.string s)) (line_sum e HE.out), HT.out _ (HF.out.trans hw2)⟩
end Go.Proofs.YtnklpifnknmdgaaGreatDoor
namespace Go.Proofs.YtnklpifnknmdgaaGreatDoor
open Go Go.RowKit

set_option maxHeartbeats 2000000 in
theorem pline_any (e : Ev) (w : World) : Calls Tryz.prog 133 #[.agg (evv e)] w fun e' w' => e' = .returned (.tuple #[.string (str (lineOf e)), .int .i64 (lineErr e)]) ∧ Below w.heap.size w w' := by
  obtain ⟨b1, hB, hs⟩ := boxes1 w (evv e) 45
  generalize hW : w.alloc (.cells (evv e) 45) = W at *
  have HX := Lib.hid b1
  have HT := Lib.hid (fun (w1 : World) (h : Bel W w1) => hB.trans (h.out.mono (by omega)))
  have hw0 := Bel.refl W
  clear hB hs b1
  cases h1 : isEv e
  · have HV := Lib.hid (show lineOf e = [] ∧ lineErr e = 1 by simp [lineOf, lineErr, h1])
    go_enter Tryz.func133, Tryz.ntmps133
    go_wp2_with (refine loadB _ _ rfl rfl rfl HX.out T36 ?_)
    refine (isInRange_any _ _).mono ?_
    rintro e' w1 ⟨rfl, hb⟩
    go_wp2
    go_ret2
    exact ⟨by rw [HV.out.1, HV.out.2]; rfl, HT.out _ hb⟩
  · have HV := Lib.hid (show lineOf e = lineL e ∧ lineErr e = 0 by simp [lineOf, lineErr, h1])
    have HI := Lib.hid h1
    go_enter Tryz.func133, Tryz.ntmps133
    go_wp2_with (refine loadB _ _ rfl rfl rfl HX.out T36 ?_)
    refine (isInRange_any _ _).mono ?_
    rintro e' w1 ⟨rfl, hb⟩
    have hw1 : Bel W w1 := hb
    have HX1 := Lib.hid (hw1.box HX.out)
    clear hb
    go_wp2_with (refine loadB _ _ rfl rfl rfl HX1.out T36 ?_)
    refine (written_any _ HI.out _).mono ?_
    rintro e' w2 ⟨rfl, hb⟩
    have hw2 := hw1.call hb
    clear hb
    go_wp2
    go_ret2
    exact ⟨by rw [HV.out.1, HV.out.2]; rfl, HT.out _ hw2⟩

theorem evErr_ne (s : List UInt8) (h : goodL s = false) : (lineErr (guessL s) != 0) = true ∨ ((lineErr (guessL s) != 0) = false ∧ lineOf (guessL s) ≠ s) := by
  cases hg : isEv (guessL s)
  · left; simp [lineErr, hg]
  · right
    refine ⟨by simp [lineErr, hg], fun hh => ?_⟩
    rw [lineOf, if_pos hg] at hh
    simp only [goodL, hg, hh, Bool.true_and, decide_true] at h
    cases h
set_option maxHeartbeats 4000000 in
theorem pevent_any (s : List UInt8) (hs : s.length ≤ maxLen) (w : World) : Calls Tryz.prog 91 #[.string (str s)] w fun e' w' => e' = .returned (.tuple #[.agg (evv (evOf s).1), .int .i64 (evOf s).2]) ∧ Below w.heap.size w w' := by
  obtain ⟨b1, hB, hz⟩ := boxes1 w #[.int .i64 0, .int .i64 0, .int .i64 0] 45
  generalize hW : w.alloc (.cells #[.int .i64 0, .int .i64 0, .int .i64 0] 45) = W at *
  have HX := Lib.hid b1
  have HT := Lib.hid (fun (w1 : World) (h : Bel W w1) => hB.trans (h.out.mono (by omega)))
  have hw0 := Bel.refl W
  have HS := Lib.hid hs
  clear hB hz b1 hs
  have hcase : (goodL s = false ∧ (lineErr (guessL s) != 0) = true) ∨ (goodL s = false ∧ (lineErr (guessL s) != 0) = false ∧ lineOf (guessL s) ≠ s) ∨ goodL s = true := by
    cases hg : goodL s
    · rcases evErr_ne s hg with h | h
      · exact .inl ⟨rfl, h⟩
      · exact .inr (.inl ⟨rfl, h⟩)
    · exact .inr (.inr rfl)
  rcases hcase with ⟨hg, he⟩ | ⟨hg, he, hne⟩ | hg
  · have HV := Lib.hid (evOf_bad hg)
    have HC := Lib.hid he
    clear hg he
    go_enter Tryz.func91, Tryz.ntmps91
    go_wp2_with fail
    refine (guess_any s HS.out _).mono ?_
    rintro e1 w1 ⟨rfl, hb1⟩
    have hw1 := hw0.call hb1
    clear hb1
    have HEB := Lib.hid (show Bel w1 _ from ewld_below w1 (guessL s) 45)
    have HEX := Lib.hid (ewld_box w1 (guessL s) 45)
    have HW1 := Lib.hid hw1
    clear hw1 hw0
    go_wp2_with (first | (refine ewld_store T36 _ _ rfl rfl (e := guessL s) _ rfl rfl rfl ?_) | (refine loadB _ _ rfl rfl rfl HEX.out T36 ?_))
    refine (pline_any (guessL s) _).mono ?_
    rintro e5 w5 ⟨rfl, hb5⟩
    have HB5 := Lib.hid ((HW1.out.trans HEB.out).call hb5)
    have HX5 := Lib.hid ((Bel.of hb5).box HEX.out)
    have HXR := Lib.hid (HB5.out.box HX.out)
    clear hb5
    have he := HC.out
    go_wp2_with (first | (refine storeB _ _ _ rfl rfl rfl rfl HXR.out rfl T36 (evv_all ⟨0, 0, 0⟩) ?_))
    refine bodyPost_ret (res_ct Tryz.results91 rfl (HXR.out.setRow (evv ⟨0, 0, 0⟩)) T36) rfl ⟨?_, ?_⟩
    · rw [HV.out]; rfl
    · exact below_setRow' (HT.out _ HB5.out) _ _ (Nat.le_refl _)
  · have HV := Lib.hid (evOf_bad hg)
    have HC := Lib.hid he
    have HD := Lib.hid (show ((str (lineOf (guessL s))).toList == (str s).toList) = false by rw [str_beq]; simpa using hne)
    clear hg he hne
    go_enter Tryz.func91, Tryz.ntmps91
    go_wp2_with fail
    refine (guess_any s HS.out _).mono ?_
    rintro e1 w1 ⟨rfl, hb1⟩
    have hw1 := hw0.call hb1
    clear hb1
    have HEB := Lib.hid (show Bel w1 _ from ewld_below w1 (guessL s) 45)
    have HEX := Lib.hid (ewld_box w1 (guessL s) 45)
    have HW1 := Lib.hid hw1
    clear hw1 hw0
    go_wp2_with (first | (refine ewld_store T36 _ _ rfl rfl (e := guessL s) _ rfl rfl rfl ?_) | (refine loadB _ _ rfl rfl rfl HEX.out T36 ?_))
    refine (pline_any (guessL s) _).mono ?_
    rintro e5 w5 ⟨rfl, hb5⟩
    have HB5 := Lib.hid ((HW1.out.trans HEB.out).call hb5)
    have HX5 := Lib.hid ((Bel.of hb5).box HEX.out)
    have HXR := Lib.hid (HB5.out.box HX.out)
    clear hb5
    have he := HC.out
    have hd := HD.out
    go_wp2_with (first | (refine storeB _ _ _ rfl rfl rfl rfl HXR.out rfl T36 (evv_all ⟨0, 0, 0⟩) ?_))
    refine bodyPost_ret (res_ct Tryz.results91 rfl (HXR.out.setRow (evv ⟨0, 0, 0⟩)) T36) rfl ⟨?_, ?_⟩
    · rw [HV.out]; rfl
    · exact below_setRow' (HT.out _ HB5.out) _ _ (Nat.le_refl _)
  · have HV := Lib.hid (evOf_good hg)
    have hg' : isEv (guessL s) = true ∧ lineL (guessL s) = s := by simpa only [goodL, Bool.and_eq_true, decide_eq_true_eq] using hg
    have HC := Lib.hid (show (lineErr (guessL s) != 0) = false by simp [lineErr, hg'.1])
    have HD := Lib.hid (show ((str (lineOf (guessL s))).toList == (str s).toList) = true by rw [str_beq, lineOf, if_pos hg'.1, hg'.2]; simp)
    clear hg hg'
    go_enter Tryz.func91, Tryz.ntmps91
    go_wp2_with fail
    refine (guess_any s HS.out _).mono ?_
    rintro e1 w1 ⟨rfl, hb1⟩
    have hw1 := hw0.call hb1
    clear hb1
    have HEB := Lib.hid (show Bel w1 _ from ewld_below w1 (guessL s) 45)
    have HEX := Lib.hid (ewld_box w1 (guessL s) 45)
    have HW1 := Lib.hid hw1
    clear hw1 hw0
    go_wp2_with (first | (refine ewld_store T36 _ _ rfl rfl (e := guessL s) _ rfl rfl rfl ?_) | (refine loadB _ _ rfl rfl rfl HEX.out T36 ?_))
    refine (pline_any (guessL s) _).mono ?_
    rintro e5 w5 ⟨rfl, hb5⟩
    have HB5 := Lib.hid ((HW1.out.trans HEB.out).call hb5)
    have HX5 := Lib.hid ((Bel.of hb5).box HEX.out)
    have HXR := Lib.hid (HB5.out.box HX.out)
    clear hb5
    have he := HC.out
    have hd := HD.out
    go_wp2_with (first | (refine loadB _ _ rfl rfl rfl HX5.out T36 ?_) | (refine storeB _ _ _ rfl rfl rfl rfl HXR.out rfl T36 (evv_all (guessL s)) ?_))
    refine bodyPost_ret (res_ct Tryz.results91 rfl (HXR.out.setRow (evv (guessL s))) T36) rfl ⟨?_, ?_⟩
    · rw [HV.out]; rfl
    · exact below_setRow' (HT.out _ HB5.out) _ _ (Nat.le_refl _)
end Go.Proofs.YtnklpifnknmdgaaGreatDoor
namespace Go.Proofs.YtnklpifnknmdgaaGreatDoor
open Go Go.RowKit

end Go.Proofs.YtnklpifnknmdgaaGreatDoor
namespace Go.Proofs.YtnklpifnknmdgaaGreatDoor
open Go Go.RowKit

end Go.Proofs.YtnklpifnknmdgaaGreatDoor

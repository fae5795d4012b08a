/- Contracts of the package text: lastDigit, guess, isInRange, written, Line, Event. | Contracts of the package text: Line, Event. | Contracts of the package text: the lines of a text, Read. | Contracts of the package text: Read. -/
import Derived.Test.YtbkmkeaabcgifaaGreatDoorCut
import Derived.Test.YtbkmkeaabcgifaaGreatDoorNota
import Derived.Test.YtbkmkeaabcgifaaGreatDoorRefTx
import Derived.Test.YtbkmkeaabcgifaaGreatDoorKeepTw
import Derived.Test.YtbkmkeaabcgifaaGreatDoorAppend
import Derived.IntWalk
import Derived.Lib.SplitLaws
import Derived.Lib.IndexBytes
import Derived.Test.YtbkmkeaabcgifaaGreatDoorEqEv
set_option linter.all false
set_option maxRecDepth 100000
namespace Go.Proofs.YtbkmkeaabcgifaaGreatDoor
open Go Go.RowKit

set_option maxHeartbeats 1000000 in
theorem lastDigit_any (l : List UInt8) (hs : l.length ≤ maxLen) (w : World) : Calls Tryz.prog 55 #[.string (str l)] w fun e w' => e = .returned (.int .i64 (lastD l)) ∧ w = w' := by
  unfold maxLen at hs
  rcases l with _ | ⟨b, r⟩
  · have he : (str []).toList.isEmpty = true := str_isEmpty []
    go_enter Tryz.func55, Tryz.ntmps55
    go_wp2
    go_ret
    exact ⟨rfl, rfl⟩
  · have hz := str_sz (b :: r)
    have hp : 0 < (b :: r).length := by simp
    have hl := lastD_get (b :: r) hp
    generalize hL : b :: r = L at *
    have he := str_isEmpty L
    have h0 : L.isEmpty = false := by subst hL; rfl
    rw [h0] at he
    have HL := Lib.hid hl
    clear hl hL
    have hz1 : 0 ≤ ((str L).size : Int) - 1 := by omega
    have hz2 : ((str L).size : Int) - 1 < (str L).size := by omega
    have hz3 : ((str L).size : Int) ≤ 9223372036854775807 := by omega
    have HZ := Lib.hid hz
    clear hz
    go_enter Tryz.func55, Tryz.ntmps55
    go_wp2
    go_ret
    refine ⟨ret_val ?_, rfl⟩
    have h := HL.out
    have hzl := HZ.out
    have e : (str L)[(str L).size - 1]'(by omega) = L[L.length - 1]'(by omega) := by
      exact (str_get L ((str L).size - 1) (by omega) (by omega)).trans (by simp only [hzl])
    rw [h]
    show Value.int .i64 (wrap64 (wrap64 (((str L)[(str L).size - 1]'(by omega)).toNat : Int) - 48)) = _
    rw [e]
    have hb : (L[L.length - 1]'(by omega)).toNat < 256 := UInt8.toNat_lt _
    rw [IntWalk.wrap64_in ((L[L.length - 1]'(by omega)).toNat : Int) (by omega), IntWalk.wrap64_in _ (by omega)]
theorem cutA_le (c : UInt8) (l : List UInt8) : (cutA c l).length ≤ l.length := (List.takeWhile_prefix _).length_le
theorem cutR_le (c : UInt8) (l : List UInt8) : (cutR c l).length ≤ l.length := by
  unfold cutR
  rw [List.length_drop]
  have := (List.dropWhile_suffix (l := l) (· != c)).length_le
  omega
set_option maxHeartbeats 2000000 in
theorem guess_any (s : List UInt8) (hs : s.length ≤ maxLen) (w : World) : Calls Tryz.prog 37 #[.string (str s)] w fun e w' => e = .returned (.agg (evv (guessL s))) ∧ Below w.heap.size w w' := by
  obtain ⟨b1, hB, hz⟩ := boxes1 w #[.int .i64 0, .int .i64 0, .int .i64 0] 33
  generalize hW : w.alloc (.cells #[.int .i64 0, .int .i64 0, .int .i64 0] 33) = W at *
  have HX := Lib.hid b1
  have HT := Lib.hid (fun (w1 : World) (h : Bel W w1) => hB.trans (h.out.mono (by omega)))
  have hw0 := Bel.refl W
  have a1 := cutA_le 32 s
  have a2 := cutR_le 32 s
  have a3 := cutR_le 32 (cutR 32 s)
  have HS := Lib.hid (show (cutR 32 s).length ≤ maxLen ∧ (cutA 32 s).length ≤ maxLen ∧ (cutR 32 (cutR 32 s)).length ≤ maxLen from ⟨by omega, by omega, by omega⟩)
  have HS0 := Lib.hid hs
  clear hB hz b1 hs a1 a2 a3
  go_enter Tryz.func37, Tryz.ntmps37
  go_wp2_with fail
  refine (cut_any s 32 _ HS0.out).mono ?_
  rintro e1 w1 ⟨rfl, hb1⟩
  have hw1 := hw0.call hb1
  clear hb1
  go_wp2_with fail
  refine (cut_any (cutR 32 s) 32 _ HS.out.1).mono ?_
  rintro e2 w2 ⟨rfl, hb2⟩
  have hw2 := hw1.call hb2
  clear hb2
  go_wp2_with fail
  refine (kindOf_any (cutA 32 (cutR 32 s)) _).mono ?_
  rintro e3 w3 ⟨rfl, hb3⟩
  have hw3 := hw2.call hb3
  clear hb3
  go_wp2_with fail
  refine (lastDigit_any (cutA 32 s) HS.out.2.1 _).mono ?_
  rintro _ _ ⟨rfl, rfl⟩
  go_wp2_with fail
  refine (lastDigit_any (cutR 32 (cutR 32 s)) HS.out.2.2 _).mono ?_
  rintro _ _ ⟨rfl, rfl⟩
  have HX3 := Lib.hid (hw3.box HX.out)
  have HW3 := Lib.hid hw3
  clear hw0 hw1 hw2 hw3
  go_wp2_with (refine storeB _ _ _ rfl rfl rfl rfl HX3.out rfl T36 (evv_all (guessL s)) ?_)
  refine bodyPost_ret (res_c Tryz.results37 rfl (HX3.out.setRow (evv (guessL s))) T36) rfl ⟨rfl, ?_⟩
  exact below_setRow' (HT.out _ HW3.out) _ _ (Nat.le_refl _)

theorem check_one (e : Ev) : (check [e]).2 = 1 ↔ isEv e = false := by
  have : check [e] = if wrong [] e ≠ 0 then (0, wrong [] e) else (0, 0) := by
    unfold check
    rw [if_neg (by simp)]
    simp [chk]
  rw [this]
  unfold wrong
  cases h : isEv e
  · simp
  · simp only [Bool.true_eq_false, if_false, iff_false]
    repeat' split
    all_goals simp_all
set_option maxHeartbeats 2000000 in
theorem isInRange_any (e : Ev) (w : World) : Calls Tryz.prog 56 #[.agg (evv e)] w fun e' w' => e' = .returned (.bool (isEv e)) ∧ Below w.heap.size w w' := by
  obtain ⟨b1, b2, hB, hz⟩ := boxes2 w (evv e) (evv e) 33 33
  have HS := Lib.hid (show Sl ((w.alloc (.cells (evv e) 33)).alloc (.cells (evv e) 33)) (some ⟨w.heap.size + 1, 0, none⟩) 1 [e] from ⟨rfl, fun _ => ⟨_, 0, rfl, b2.lt, b2.range⟩⟩)
  have hx0 := Box.new w (evv e) 33
  have HX := Lib.hid hx0
  have HB := Lib.hid hB
  have hv : ((check [e]).2 != 1) = isEv e := by
    have := check_one e
    cases h : isEv e
    · rw [this.2 h]; rfl
    · rw [h] at this; simp at this; simpa using this
  have HV := Lib.hid hv
  clear b1 b2 hB hz hx0 hv
  obtain ⟨i0, hi0, hz0, hz1, hz2⟩ := info_parts ev_info
  have J := Lib.hid (And.intro hi0 (And.intro hz0 (And.intro hz1 hz2)))
  clear hi0 hz0 hz1 hz2
  go_enter Tryz.func56, Tryz.ntmps56
  go_wp2_with (first | (refine loadB _ _ rfl rfl rfl HX.out T36 ?_) | (refine build1 _ _ rfl rfl _ i0 Tryz.underlying22 J.out.1 J.out.2.1 J.out.2.2.1 e rfl ?_))
  refine (check_any _ 1 1 [e] _ HS.out).mono ?_
  rintro e' w1 ⟨rfl, hb⟩
  have HW := Lib.hid (HB.out.trans (hb.mono HB.out.size))
  clear hb
  go_wp2
  go_ret
  exact ⟨ret_val (by rw [← HV.out]; rfl), HW.out⟩

/-- The word of a kind without its letter; the letter. -/
def wordO (k : Int) : List UInt8 :=
  if k = 1 then [114, 101, 97, 100] else if k = 2 then [119, 114, 105, 116, 101] else if k = 3 then [97, 99, 113, 117, 105, 114, 101] else if k = 4 then [114, 101, 108, 101, 97, 115, 101]
  else if k = 5 then [102, 111, 114, 107] else if k = 6 then [106, 111, 105, 110] else if k = 7 then [115, 101, 101] else [115, 104, 111, 119]
def letr (k : Int) : List UInt8 := if k = 1 ∨ k = 2 then [120] else if k = 3 ∨ k = 4 then [109] else if k = 5 ∨ k = 6 then [116] else [118]
theorem word_parts (k : Int) (h : 1 ≤ k ∧ k ≤ 8) : word k = wordO k ++ 32 :: letr k := by
  have : k = 1 ∨ k = 2 ∨ k = 3 ∨ k = 4 ∨ k = 5 ∨ k = 6 ∨ k = 7 ∨ k = 8 := by omega
  rcases this with rfl | rfl | rfl | rfl | rfl | rfl | rfl | rfl <;> rfl
theorem notA_find (k : Int) (h : 1 ≤ k ∧ k ≤ 8) : ∃ i, Instr.findNow (.int .i64) (.int .i64 k) notA.toList 0 = some (some (i, .agg (notV (wordO k) (letr k)))) := by
  have : k = 1 ∨ k = 2 ∨ k = 3 ∨ k = 4 ∨ k = 5 ∨ k = 6 ∨ k = 7 ∨ k = 8 := by omega
  rcases this with rfl | rfl | rfl | rfl | rfl | rfl | rfl | rfl <;> exact ⟨_, rfl⟩
theorem wordO_size (k : Int) : (str (wordO k)).size ≤ 7 := by
  rw [str_sz]; unfold wordO; repeat' split
  all_goals simp
theorem letr_size (k : Int) : (str (letr k)).size ≤ 1 := by
  rw [str_sz]; unfold letr; repeat' split
  all_goals simp
theorem itoa_any (n : Int) (h : 0 ≤ n ∧ n < 10) (w : World) : Calls Tryz.prog 32 #[.int .i64 n] w fun e w' => e = .returned (.string (str [digit n])) ∧ Below w.heap.size w w' := by
  obtain ⟨m, rfl⟩ := Int.eq_ofNat_of_zero_le h.1
  refine (Tryz.strconv_Itoa_small m (by omega) w).mono fun e w' ⟨he, hw⟩ => ⟨?_, hw ▸ Below.refl _ _⟩
  rw [he, Lib.decDigits_one (by omega)]
  rfl
theorem look_note (e : Ev) (h : isEv e = true) {w : World} {B : Nat} (hb : w.heap[B]? = some (.map notA 8)) :
    (Instr.lookup 86 (.map (some B)) (.int .i64 e.k) false).run Tryz.prog w = .ok (.agg #[.string (str (wordO e.k)), .string (str (letr e.k))]) w := by
  obtain ⟨i, hi⟩ := notA_find e.k (isEv_k h)
  exact look_in Tryz.underlying86 Tryz.underlying3 notA 8 e.k _ B i w hb hi
theorem line_sum (e : Ev) (h : isEv e = true) : str [116] ++ str [digit e.t] ++ str [32] ++ str (wordO e.k) ++ str [32] ++ str (letr e.k) ++ str [digit e.o] = str (lineL e) := by
  simp [str_app, lineL, word_parts e.k (isEv_k h)]
theorem note_all (a b : ByteArray) : (#[Value.string a, Value.string b] : Array Value).all (·.oneCell') = true := by simp [Value.oneCell']
set_option maxHeartbeats 4000000 in
theorem written_any (e : Ev) (h : isEv e = true) (w : World) : Calls Tryz.prog 16 #[.agg (evv e)] w fun e' w' => e' = .returned (.string (str (lineL e))) ∧ Below w.heap.size w w' := by
  obtain ⟨b1, hB, hs⟩ := boxes1 w (evv e) 33
  generalize hW : w.alloc (.cells (evv e) 33) = W at *
  have HX := Lib.hid b1
  have HT := Lib.hid (fun (w1 : World) (h : Bel W w1) => hB.trans (h.out.mono (by omega)))
  have HE := Lib.hid h
  have t1 := isEv_t h
  have o1 := isEv_o h
  have n1 := nobj_le e.k
  clear hB hs b1 h
  go_enter Tryz.func16, Tryz.ntmps16
  go_wp2
  refine region_grow (by kernel_rfl) ?_
  have F := fun (w' : World) (h : Below W.heap.size W w') => ((Bel.box h HX.out).cell 0 rfl : w'.cell? ⟨w.heap.size, 0, none⟩ = some (.int .i64 e.k))
  (repeat (first | ((first | refine wpG_go 1 (by simp only [List.getElem?_toArray, List.getElem?_cons_zero, List.getElem?_cons_succ] <;> rfl) (by decide +kernel) (by decide +kernel) (by kernel_rfl) (by rfl) (by exact fun _ _ _ _ h => h) (Nat.le_refl _) ?_ | refine wpG_go 2 (by simp only [List.getElem?_toArray, List.getElem?_cons_zero, List.getElem?_cons_succ] <;> rfl) (by decide +kernel) (by decide +kernel) (by kernel_rfl) (by rfl) (by exact fun _ _ _ _ h => h) (Nat.le_refl _) ?_); apply Exists.intro; refine ⟨fun w1 h1 => ?_, ?_⟩; (first | exact g_move _ rfl | exact g_assign _ rfl | (have fct0 := F w1 h1; go_simp; first | exact ⟨rfl, rfl⟩ | rfl)); simp only [Act.put, Act.eval, List.setIfInBounds_toArray, List.set_cons_zero, List.set_cons_succ, Array.getD_eq_getD_getElem?, List.getElem?_toArray, List.getElem?_cons_zero, List.getElem?_cons_succ, Option.getD_some]) | ((first | refine wpG_skip 1 (by simp only [List.getElem?_toArray, List.getElem?_cons_zero, List.getElem?_cons_succ] <;> rfl) (by decide +kernel) (by decide +kernel) (by kernel_rfl) (by rfl) (by exact fun _ _ _ _ h => h) (Nat.le_refl _) ?_ | refine wpG_skip 2 (by simp only [List.getElem?_toArray, List.getElem?_cons_zero, List.getElem?_cons_succ] <;> rfl) (by decide +kernel) (by decide +kernel) (by kernel_rfl) (by rfl) (by exact fun _ _ _ _ h => h) (Nat.le_refl _) ?_); simp only [Act.put, Act.eval, List.setIfInBounds_toArray, List.set_cons_zero, List.set_cons_succ, Array.getD_eq_getD_getElem?, List.getElem?_toArray, List.getElem?_cons_zero, List.getElem?_cons_succ, Option.getD_some])))
  clear F
  (refine wpG_two 0 4 (by decide +kernel) ?_ ?_ <;> (intro wa hwa; refine op_wanted (by simp only [List.getElem?_toArray, List.getElem?_cons_zero, List.getElem?_cons_succ] <;> rfl) rfl ?_))
  · go_simp
    refine (notations_any _).mono ?_
    rintro e5 w5 ⟨rfl, rfl⟩
    have h5 := hwa.alloc (.map notA 8)
    refine ⟨Below.alloc (Below.refl _ _) hwa.size _, ?_⟩
    have hm : (wa.alloc (.map notA 8)).heap[wa.heap.size]? = some (.map notA 8) := heap_alloc_new _ _
    generalize wa.alloc (.map notA 8) = w5 at *
    generalize wa.heap.size = BM at *
    refine wpG_raise h5.size _ _ _ _ ?_
    have F3 := fun (w' : World) (h : Below w5.heap.size w5 w') => look_note e HE.out ((h.block BM (Array.getElem?_eq_some_iff.1 hm).1).trans hm)
    (repeat (first | ((first | refine wpG_go 3 (by simp only [List.getElem?_toArray, List.getElem?_cons_zero, List.getElem?_cons_succ] <;> rfl) (by decide +kernel) (by decide +kernel) (by kernel_rfl) (by rfl) (by exact fun _ _ _ _ h => h) (Nat.le_refl _) ?_); apply Exists.intro; refine ⟨fun w1 h1 => ?_, ?_⟩; (first | exact g_move _ rfl | exact g_assign _ rfl | (have fct0 := F3 w1 h1; go_simp; first | exact ⟨rfl, rfl⟩ | rfl)); simp only [Act.put, Act.eval, List.setIfInBounds_toArray, List.set_cons_zero, List.set_cons_succ, Array.getD_eq_getD_getElem?, List.getElem?_toArray, List.getElem?_cons_zero, List.getElem?_cons_succ, Option.getD_some]) | ((first | refine wpG_skip 3 (by simp only [List.getElem?_toArray, List.getElem?_cons_zero, List.getElem?_cons_succ] <;> rfl) (by decide +kernel) (by decide +kernel) (by kernel_rfl) (by rfl) (by exact fun _ _ _ _ h => h) (Nat.le_refl _) ?_); simp only [Act.put, Act.eval, List.setIfInBounds_toArray, List.set_cons_zero, List.set_cons_succ, Array.getD_eq_getD_getElem?, List.getElem?_toArray, List.getElem?_cons_zero, List.getElem?_cons_succ, Option.getD_some])))
    clear F3 hm hwa
    (refine wpG_one 4 (by decide +kernel) ?_; intro wb hwb; refine op_wanted (by simp only [List.getElem?_toArray, List.getElem?_cons_zero, List.getElem?_cons_succ] <;> rfl) rfl ?_)
    go_simp
    refine ⟨Below.alloc (Below.refl _ _) hwb.size _, ?_⟩
    have hx := Box.new wb #[.string ⟨#[]⟩, .string ⟨#[]⟩] 85
    have hwc := (h5.trans hwb).alloc (.cells #[.string ⟨#[]⟩, .string ⟨#[]⟩] 85)
    have hN : w5.heap.size ≤ wb.heap.size := hwb.size
    have hN2 : W.heap.size ≤ wb.heap.size := (h5.trans hwb).size
    clear hwb h5
    generalize wb.alloc (.cells #[.string ⟨#[]⟩, .string ⟨#[]⟩] 85) = wc at *
    generalize wb.heap.size = BX at *
    (refine wpG_one 5 (by decide +kernel) ?_; intro wd hwd; refine op_wanted (by simp only [List.getElem?_toArray, List.getElem?_cons_zero, List.getElem?_cons_succ] <;> rfl) rfl ?_)
    refine wp_storeB TNo _ _ rfl rfl rfl rfl (hwd.box hx) rfl (note_all _ _) ⟨below_setRow' (Below.refl _ _) _ _ hN, ?_⟩
    have hy := (hwd.box hx).setRow #[.string (str (wordO e.k)), .string (str (letr e.k))]
    have hwe : Bel W _ := below_setRow' (hwc.trans hwd).out BX #[.string (str (wordO e.k)), .string (str (letr e.k))] hN2
    clear hx hwc hwd
    (refine wpG_done (by decide +kernel) ?_ _; intro wf hwf; try simp only [Act.put, Act.eval, List.setIfInBounds_toArray, List.set_cons_zero, List.set_cons_succ, Array.getD_eq_getD_getElem?, List.getElem?_toArray, List.getElem?_cons_zero, List.getElem?_cons_succ, Option.getD_some])
    have HY := Lib.hid (hwf.box hy)
    have HF := Lib.hid (hwe.trans hwf)
    clear hy hwe hwf hN hN2
    have F := fun (w' : World) (h : Bel wf w') => (⟨(h.box (HF.out.box HX.out)).cell 1 rfl, (h.box (HF.out.box HX.out)).cell 2 rfl, (h.box HY.out).cell 0 rfl, (h.box HY.out).cell 1 rfl⟩ : w'.cell? ⟨w.heap.size, 1, none⟩ = some (.int .i64 e.t) ∧ w'.cell? ⟨w.heap.size, 2, none⟩ = some (.int .i64 e.o) ∧ w'.cell? ⟨BX, 0, none⟩ = some (.string (str (wordO e.k))) ∧ w'.cell? ⟨BX, 1, none⟩ = some (.string (str (letr e.k))))
    have z1 : (str [digit e.t]).size = 1 := str_sz _
    have z2 : (str [digit e.o]).size = 1 := str_sz _
    have y0 := wordO_size e.k
    have y1 := letr_size e.k
    have z3 : ¬ 9223372036854775807 < 1 + 1 + 1 + (str (wordO e.k)).size := by omega
    have z4 : ¬ 9223372036854775807 < 1 + 1 + 1 + (str (wordO e.k)).size + 1 := by omega
    have z5 : ¬ 9223372036854775807 < 1 + 1 + 1 + (str (wordO e.k)).size + 1 + (str (letr e.k)).size := by omega
    have z6 : ¬ 9223372036854775807 < 1 + 1 + 1 + (str (wordO e.k)).size + 1 + (str (letr e.k)).size + 1 := by omega
    have z3' : ¬ 9223372036854775807 < 3 + (str (wordO e.k)).size := by omega
    have z4' : ¬ 9223372036854775807 < 3 + (str (wordO e.k)).size + 1 := by omega
    have z5' : ¬ 9223372036854775807 < 3 + (str (wordO e.k)).size + 1 + (str (letr e.k)).size := by omega
    have z6' : ¬ 9223372036854775807 < 3 + (str (wordO e.k)).size + 1 + (str (letr e.k)).size + 1 := by omega
    go_wp2_with fail
    (refine region_bel (by kernel_rfl) (by kernel_rfl) ?_; (repeat (first | ((with_reducible refine BigFrame.wpQuiet_skip ?_ ?_); exact rfl; simp only [Act.put, Act.eval, List.setIfInBounds_toArray, List.set_cons_zero, List.set_cons_succ, Array.getD_eq_getD_getElem?, List.getElem?_toArray, List.getElem?_cons_zero, List.getElem?_cons_succ, Option.getD_some]) | (refine q_move _ rfl rfl ?_; simp only [Act.put, Act.eval, List.setIfInBounds_toArray, List.set_cons_zero, List.set_cons_succ, Array.getD_eq_getD_getElem?, List.getElem?_toArray, List.getElem?_cons_zero, List.getElem?_cons_succ, Option.getD_some]) | (refine q_assign _ rfl rfl ?_; simp only [Act.put, Act.eval, List.setIfInBounds_toArray, List.set_cons_zero, List.set_cons_succ, Array.getD_eq_getD_getElem?, List.getElem?_toArray, List.getElem?_cons_zero, List.getElem?_cons_succ, Option.getD_some]) | (refine q_any rfl ?_; apply Exists.intro; refine ⟨fun w hw => ?_, ?_⟩; (have fct0 := F w hw; go_simp; first | exact ⟨rfl, rfl⟩ | rfl | (go_at_call 32; (with_reducible refine (itoa_any _ (by omega) _).mono ?_); rintro e w' ⟨rfl, hb⟩; exact ⟨rfl, hw.call hb⟩)); simp only [Act.put, Act.eval, List.setIfInBounds_toArray, List.set_cons_zero, List.set_cons_succ, Array.getD_eq_getD_getElem?, List.getElem?_toArray, List.getElem?_cons_zero, List.getElem?_cons_succ, Option.getD_some]))); refine wpQuiet_nil ?_; intro w2 hw2)
    go_wp2
    go_ret
    exact ⟨congrArg (fun s => Ending.returned (.string s)) (line_sum e HE.out), HT.out _ (HF.out.trans hw2)⟩
  · go_simp
    refine ⟨Below.alloc (Below.refl _ _) hwa.size _, ?_⟩
    have hx := Box.new wa #[.string ⟨#[]⟩, .string ⟨#[]⟩] 85
    have hwc := hwa.alloc (.cells #[.string ⟨#[]⟩, .string ⟨#[]⟩] 85)
    have hN : W.heap.size ≤ wa.heap.size := hwa.size
    clear hwa
    generalize wa.alloc (.cells #[.string ⟨#[]⟩, .string ⟨#[]⟩] 85) = wc at *
    generalize wa.heap.size = BX at *
    (refine wpG_one 0 (by decide +kernel) ?_; intro wb hwb; refine op_wanted (by simp only [List.getElem?_toArray, List.getElem?_cons_zero, List.getElem?_cons_succ] <;> rfl) rfl ?_)
    go_simp
    refine (notations_any _).mono ?_
    rintro e5 w5 ⟨rfl, rfl⟩
    have h5 := hwb.alloc (.map notA 8)
    refine ⟨Below.alloc (Below.refl _ _) (hwc.trans hwb).size _, ?_⟩
    have hm : (wb.alloc (.map notA 8)).heap[wb.heap.size]? = some (.map notA 8) := heap_alloc_new _ _
    clear hwb
    generalize wb.alloc (.map notA 8) = w5 at *
    generalize wb.heap.size = BM at *
    (refine wpG_one 3 (by decide +kernel) ?_; intro wx hwx; refine op_wanted (by simp only [List.getElem?_toArray, List.getElem?_cons_zero, List.getElem?_cons_succ] <;> rfl) rfl ?_)
    have F3 := look_note e HE.out ((hwx.out.block BM (Array.getElem?_eq_some_iff.1 hm).1).trans hm)
    go_simp
    refine ⟨Below.refl _ _, ?_⟩
    clear F3 hm
    (refine wpG_one 5 (by decide +kernel) ?_; intro wd hwd; refine op_wanted (by simp only [List.getElem?_toArray, List.getElem?_cons_zero, List.getElem?_cons_succ] <;> rfl) rfl ?_)
    have hx5 := (h5.trans (hwx.trans hwd)).box hx
    refine wp_storeB TNo _ _ rfl rfl rfl rfl hx5 rfl (note_all _ _) ⟨below_setRow' (Below.refl _ _) _ _ hN, ?_⟩
    have hy := hx5.setRow #[.string (str (wordO e.k)), .string (str (letr e.k))]
    have hwe : Bel W _ := below_setRow' (hwc.trans (h5.trans (hwx.trans hwd))).out BX #[.string (str (wordO e.k)), .string (str (letr e.k))] hN
    clear hx hwc hwd hx5 hwx h5
    (refine wpG_done (by decide +kernel) ?_ _; intro wf hwf; try simp only [Act.put, Act.eval, List.setIfInBounds_toArray, List.set_cons_zero, List.set_cons_succ, Array.getD_eq_getD_getElem?, List.getElem?_toArray, List.getElem?_cons_zero, List.getElem?_cons_succ, Option.getD_some])
    have HY := Lib.hid (hwf.box hy)
    have HF := Lib.hid (hwe.trans hwf)
    clear hy hwe hwf hN
    have F := fun (w' : World) (h : Bel wf w') => (⟨(h.box (HF.out.box HX.out)).cell 1 rfl, (h.box (HF.out.box HX.out)).cell 2 rfl, (h.box HY.out).cell 0 rfl, (h.box HY.out).cell 1 rfl⟩ : w'.cell? ⟨w.heap.size, 1, none⟩ = some (.int .i64 e.t) ∧ w'.cell? ⟨w.heap.size, 2, none⟩ = some (.int .i64 e.o) ∧ w'.cell? ⟨BX, 0, none⟩ = some (.string (str (wordO e.k))) ∧ w'.cell? ⟨BX, 1, none⟩ = some (.string (str (letr e.k))))
    have z1 : (str [digit e.t]).size = 1 := str_sz _
    have z2 : (str [digit e.o]).size = 1 := str_sz _
    have y0 := wordO_size e.k
    have y1 := letr_size e.k
    have z3 : ¬ 9223372036854775807 < 1 + 1 + 1 + (str (wordO e.k)).size := by omega
    have z4 : ¬ 9223372036854775807 < 1 + 1 + 1 + (str (wordO e.k)).size + 1 := by omega
    have z5 : ¬ 9223372036854775807 < 1 + 1 + 1 + (str (wordO e.k)).size + 1 + (str (letr e.k)).size := by omega
    have z6 : ¬ 9223372036854775807 < 1 + 1 + 1 + (str (wordO e.k)).size + 1 + (str (letr e.k)).size + 1 := by omega
    have z3' : ¬ 9223372036854775807 < 3 + (str (wordO e.k)).size := by omega
    have z4' : ¬ 9223372036854775807 < 3 + (str (wordO e.k)).size + 1 := by omega
    have z5' : ¬ 9223372036854775807 < 3 + (str (wordO e.k)).size + 1 + (str (letr e.k)).size := by omega
    have z6' : ¬ 9223372036854775807 < 3 + (str (wordO e.k)).size + 1 + (str (letr e.k)).size + 1 := by omega
    go_wp2_with fail
    (refine region_bel (by kernel_rfl) (by kernel_rfl) ?_; (repeat (first | ((with_reducible refine BigFrame.wpQuiet_skip ?_ ?_); exact rfl; simp only [Act.put, Act.eval, List.setIfInBounds_toArray, List.set_cons_zero, List.set_cons_succ, Array.getD_eq_getD_getElem?, List.getElem?_toArray, List.getElem?_cons_zero, List.getElem?_cons_succ, Option.getD_some]) | (refine q_move _ rfl rfl ?_; simp only [Act.put, Act.eval, List.setIfInBounds_toArray, List.set_cons_zero, List.set_cons_succ, Array.getD_eq_getD_getElem?, List.getElem?_toArray, List.getElem?_cons_zero, List.getElem?_cons_succ, Option.getD_some]) | (refine q_assign _ rfl rfl ?_; simp only [Act.put, Act.eval, List.setIfInBounds_toArray, List.set_cons_zero, List.set_cons_succ, Array.getD_eq_getD_getElem?, List.getElem?_toArray, List.getElem?_cons_zero, List.getElem?_cons_succ, Option.getD_some]) | (refine q_any rfl ?_; apply Exists.intro; refine ⟨fun w hw => ?_, ?_⟩; (have fct0 := F w hw; go_simp; first | exact ⟨rfl, rfl⟩ | rfl | (go_at_call 32; (with_reducible refine (itoa_any _ (by omega) _).mono ?_); rintro e w' ⟨rfl, hb⟩; exact ⟨rfl, hw.call hb⟩)); simp only [Act.put, Act.eval, List.setIfInBounds_toArray, List.set_cons_zero, List.set_cons_succ, Array.getD_eq_getD_getElem?, List.getElem?_toArray, List.getElem?_cons_zero, List.getElem?_cons_succ, Option.getD_some]))); refine wpQuiet_nil ?_; intro w2 hw2)
    go_wp2
    go_ret
    exact ⟨congrArg (fun s => Ending.returned (.string s)) (line_sum e HE.out), HT.out _ (HF.out.trans hw2)⟩
end Go.Proofs.YtbkmkeaabcgifaaGreatDoor
namespace Go.Proofs.YtbkmkeaabcgifaaGreatDoor
open Go Go.RowKit

set_option maxHeartbeats 2000000 in
theorem pline_any (e : Ev) (w : World) : Calls Tryz.prog 38 #[.agg (evv e)] w fun e' w' => e' = .returned (.tuple #[.string (str (lineOf e)), .int .i64 (lineErr e)]) ∧ Below w.heap.size w w' := by
  obtain ⟨b1, hB, hs⟩ := boxes1 w (evv e) 33
  generalize hW : w.alloc (.cells (evv e) 33) = W at *
  have HX := Lib.hid b1
  have HT := Lib.hid (fun (w1 : World) (h : Bel W w1) => hB.trans (h.out.mono (by omega)))
  have hw0 := Bel.refl W
  clear hB hs b1
  cases h1 : isEv e
  · have HV := Lib.hid (show lineOf e = [] ∧ lineErr e = 1 by simp [lineOf, lineErr, h1])
    go_enter Tryz.func38, Tryz.ntmps38
    go_wp2_with (refine loadB _ _ rfl rfl rfl HX.out T36 ?_)
    refine (isInRange_any _ _).mono ?_
    rintro e' w1 ⟨rfl, hb⟩
    go_wp2
    go_ret2
    exact ⟨by rw [HV.out.1, HV.out.2]; rfl, HT.out _ hb⟩
  · have HV := Lib.hid (show lineOf e = lineL e ∧ lineErr e = 0 by simp [lineOf, lineErr, h1])
    have HI := Lib.hid h1
    go_enter Tryz.func38, Tryz.ntmps38
    go_wp2_with (refine loadB _ _ rfl rfl rfl HX.out T36 ?_)
    refine (isInRange_any _ _).mono ?_
    rintro e' w1 ⟨rfl, hb⟩
    have hw1 : Bel W w1 := hb
    have HX1 := Lib.hid (hw1.box HX.out)
    clear hb
    go_wp2_with (refine loadB _ _ rfl rfl rfl HX1.out T36 ?_)
    refine (written_any _ HI.out _).mono ?_
    rintro e' w2 ⟨rfl, hb⟩
    have hw2 := hw1.call hb
    clear hb
    go_wp2
    go_ret2
    exact ⟨by rw [HV.out.1, HV.out.2]; rfl, HT.out _ hw2⟩

theorem evErr_ne (s : List UInt8) (h : goodL s = false) : (lineErr (guessL s) != 0) = true ∨ ((lineErr (guessL s) != 0) = false ∧ lineOf (guessL s) ≠ s) := by
  cases hg : isEv (guessL s)
  · left; simp [lineErr, hg]
  · right
    refine ⟨by simp [lineErr, hg], fun hh => ?_⟩
    rw [lineOf, if_pos hg] at hh
    simp only [goodL, hg, hh, Bool.true_and, decide_true] at h
    cases h
set_option maxHeartbeats 4000000 in
theorem pevent_any (s : List UInt8) (hs : s.length ≤ maxLen) (w : World) : Calls Tryz.prog 20 #[.string (str s)] w fun e' w' => e' = .returned (.tuple #[.agg (evv (evOf s).1), .int .i64 (evOf s).2]) ∧ Below w.heap.size w w' := by
  obtain ⟨b1, hB, hz⟩ := boxes1 w #[.int .i64 0, .int .i64 0, .int .i64 0] 33
  generalize hW : w.alloc (.cells #[.int .i64 0, .int .i64 0, .int .i64 0] 33) = W at *
  have HX := Lib.hid b1
  have HT := Lib.hid (fun (w1 : World) (h : Bel W w1) => hB.trans (h.out.mono (by omega)))
  have hw0 := Bel.refl W
  have HS := Lib.hid hs
  clear hB hz b1 hs
  have hcase : (goodL s = false ∧ (lineErr (guessL s) != 0) = true) ∨ (goodL s = false ∧ (lineErr (guessL s) != 0) = false ∧ lineOf (guessL s) ≠ s) ∨ goodL s = true := by
    cases hg : goodL s
    · rcases evErr_ne s hg with h | h
      · exact .inl ⟨rfl, h⟩
      · exact .inr (.inl ⟨rfl, h⟩)
    · exact .inr (.inr rfl)
  rcases hcase with ⟨hg, he⟩ | ⟨hg, he, hne⟩ | hg
  · have HV := Lib.hid (evOf_bad hg)
    have HC := Lib.hid he
    clear hg he
    go_enter Tryz.func20, Tryz.ntmps20
    go_wp2_with fail
    refine (guess_any s HS.out _).mono ?_
    rintro e1 w1 ⟨rfl, hb1⟩
    have hw1 := hw0.call hb1
    clear hb1
    have HEB := Lib.hid (show Bel w1 _ from ewld_below w1 (guessL s) 33)
    have HEX := Lib.hid (ewld_box w1 (guessL s) 33)
    have HW1 := Lib.hid hw1
    clear hw1 hw0
    go_wp2_with (first | (refine ewld_store T36 _ _ rfl rfl (e := guessL s) _ rfl rfl rfl ?_) | (refine loadB _ _ rfl rfl rfl HEX.out T36 ?_))
    refine (pline_any (guessL s) _).mono ?_
    rintro e5 w5 ⟨rfl, hb5⟩
    have HB5 := Lib.hid ((HW1.out.trans HEB.out).call hb5)
    have HX5 := Lib.hid ((Bel.of hb5).box HEX.out)
    have HXR := Lib.hid (HB5.out.box HX.out)
    clear hb5
    have he := HC.out
    go_wp2_with (first | (refine storeB _ _ _ rfl rfl rfl rfl HXR.out rfl T36 (evv_all ⟨0, 0, 0⟩) ?_))
    refine bodyPost_ret (res_ct Tryz.results20 rfl (HXR.out.setRow (evv ⟨0, 0, 0⟩)) T36) rfl ⟨?_, ?_⟩
    · rw [HV.out]; rfl
    · exact below_setRow' (HT.out _ HB5.out) _ _ (Nat.le_refl _)
  · have HV := Lib.hid (evOf_bad hg)
    have HC := Lib.hid he
    have HD := Lib.hid (show ((str (lineOf (guessL s))).toList == (str s).toList) = false by rw [str_beq]; simpa using hne)
    clear hg he hne
    go_enter Tryz.func20, Tryz.ntmps20
    go_wp2_with fail
    refine (guess_any s HS.out _).mono ?_
    rintro e1 w1 ⟨rfl, hb1⟩
    have hw1 := hw0.call hb1
    clear hb1
    have HEB := Lib.hid (show Bel w1 _ from ewld_below w1 (guessL s) 33)
    have HEX := Lib.hid (ewld_box w1 (guessL s) 33)
    have HW1 := Lib.hid hw1
    clear hw1 hw0
    go_wp2_with (first | (refine ewld_store T36 _ _ rfl rfl (e := guessL s) _ rfl rfl rfl ?_) | (refine loadB _ _ rfl rfl rfl HEX.out T36 ?_))
    refine (pline_any (guessL s) _).mono ?_
    rintro e5 w5 ⟨rfl, hb5⟩
    have HB5 := Lib.hid ((HW1.out.trans HEB.out).call hb5)
    have HX5 := Lib.hid ((Bel.of hb5).box HEX.out)
    have HXR := Lib.hid (HB5.out.box HX.out)
    clear hb5
    have he := HC.out
    have hd := HD.out
    go_wp2_with (first | (refine storeB _ _ _ rfl rfl rfl rfl HXR.out rfl T36 (evv_all ⟨0, 0, 0⟩) ?_))
    refine bodyPost_ret (res_ct Tryz.results20 rfl (HXR.out.setRow (evv ⟨0, 0, 0⟩)) T36) rfl ⟨?_, ?_⟩
    · rw [HV.out]; rfl
    · exact below_setRow' (HT.out _ HB5.out) _ _ (Nat.le_refl _)
  · have HV := Lib.hid (evOf_good hg)
    have hg' : isEv (guessL s) = true ∧ lineL (guessL s) = s := by simpa only [goodL, Bool.and_eq_true, decide_eq_true_eq] using hg
    have HC := Lib.hid (show (lineErr (guessL s) != 0) = false by simp [lineErr, hg'.1])
    have HD := Lib.hid (show ((str (lineOf (guessL s))).toList == (str s).toList) = true by rw [str_beq, lineOf, if_pos hg'.1, hg'.2]; simp)
    clear hg hg'
    go_enter Tryz.func20, Tryz.ntmps20
    go_wp2_with fail
    refine (guess_any s HS.out _).mono ?_
    rintro e1 w1 ⟨rfl, hb1⟩
    have hw1 := hw0.call hb1
    clear hb1
    have HEB := Lib.hid (show Bel w1 _ from ewld_below w1 (guessL s) 33)
    have HEX := Lib.hid (ewld_box w1 (guessL s) 33)
    have HW1 := Lib.hid hw1
    clear hw1 hw0
    go_wp2_with (first | (refine ewld_store T36 _ _ rfl rfl (e := guessL s) _ rfl rfl rfl ?_) | (refine loadB _ _ rfl rfl rfl HEX.out T36 ?_))
    refine (pline_any (guessL s) _).mono ?_
    rintro e5 w5 ⟨rfl, hb5⟩
    have HB5 := Lib.hid ((HW1.out.trans HEB.out).call hb5)
    have HX5 := Lib.hid ((Bel.of hb5).box HEX.out)
    have HXR := Lib.hid (HB5.out.box HX.out)
    clear hb5
    have he := HC.out
    have hd := HD.out
    go_wp2_with (first | (refine loadB _ _ rfl rfl rfl HX5.out T36 ?_) | (refine storeB _ _ _ rfl rfl rfl rfl HXR.out rfl T36 (evv_all (guessL s)) ?_))
    refine bodyPost_ret (res_ct Tryz.results20 rfl (HXR.out.setRow (evv (guessL s))) T36) rfl ⟨?_, ?_⟩
    · rw [HV.out]; rfl
    · exact below_setRow' (HT.out _ HB5.out) _ _ (Nat.le_refl _)
end Go.Proofs.YtbkmkeaabcgifaaGreatDoor
namespace Go.Proofs.YtbkmkeaabcgifaaGreatDoor
open Go Go.RowKit

theorem indexB_lf (l : List UInt8) : Lib.indexB (str l) ⟨#[10]⟩ = Lib.indexByte l 10 := by
  show Lib.index (str l).data.toList [10] = _
  rw [str_all, Lib.index_one]
theorem split_lines : ∀ (k : Nat) (l : List UInt8), Lib.countB (str l) ⟨#[10]⟩ = k → Lib.splitB ⟨#[10]⟩ 0 k (str l) = (linesL l).map str
  | 0, l, hk => by
    have hm : Lib.indexByte l 10 < 0 := by
      rcases Int.lt_or_le (Lib.indexByte l 10) 0 with h | h
      · exact h
      · obtain ⟨i, hi⟩ := Int.eq_ofNat_of_zero_le h
        rw [Lib.countB_hit (str l) ⟨#[10]⟩ i (by decide) (by rw [indexB_lf, hi])] at hk
        omega
    rw [linesL_cut, (index_miss hm).2.2]
    rfl
  | k + 1, l, hk => by
    rcases cut_of_index l 10 with ⟨h, _⟩ | ⟨i, hi, h1, h2, h3, h4⟩
    · have := Lib.indexByte_ge l 10
      rw [Lib.countB_miss (str l) ⟨#[10]⟩ (by rw [indexB_lf]; omega)] at hk
      omega
    · have hix : Lib.indexB (str l) ⟨#[10]⟩ = i := by rw [indexB_lf, hi]
      have he : (str l).extract (i + (⟨#[10]⟩ : ByteArray).size) (str l).size = str (l.drop (i + 1)) := by
        rw [str_extract, str_sz, List.take_of_length_le (Nat.le_refl _)]; rfl
      have hc := Lib.countB_hit (str l) ⟨#[10]⟩ i (by decide) hix
      rw [he] at hc
      rw [Lib.splitB_hit _ _ _ _ i hix, he, split_lines k _ (by omega), linesL_cut l, h3, if_pos rfl, h1, h2, List.map_cons, str_extract]
      rfl
theorem count_lines (l : List UInt8) : Lib.countB (str l) ⟨#[10]⟩ + 1 = (linesL l).length := by
  have h1 := Lib.splitB_all ⟨#[10]⟩ (by decide) 0 _ (str l) rfl
  rw [split_lines _ l rfl, List.length_map] at h1
  exact h1.symm
theorem linesL_len (l : List UInt8) : (linesL l).length ≤ l.length + 1 := by
  have h := Lib.countB_le ⟨#[10]⟩ (by decide) _ (str l) (Nat.le_refl _)
  rw [str_sz] at h
  have := count_lines l
  omega
theorem linesL_part : ∀ (l x : List UInt8), x ∈ linesL l → x.length ≤ l.length
  | [], x, h => by simp [linesL] at h; subst h; simp
  | c :: l, x, h => by
    unfold linesL at h
    split at h
    · rcases List.mem_cons.1 h with rfl | h
      · simp
      · have := linesL_part l x h; simp; omega
    · have ih := linesL_part l
      cases hq : linesL l with
      | nil => exact absurd hq (linesL_ne l)
      | cons y r =>
        rw [hq] at h ih
        rcases List.mem_cons.1 h with rfl | h
        · have := ih y (List.mem_cons_self ..); simp; omega
        · have := ih x (List.mem_cons_of_mem _ h); simp; omega
/-- A slice of texts. -/
def SlS (w : World) (A : Option Addr) (ls : List (List UInt8)) : Prop :=
  0 < ls.length → ∃ b, A = some ⟨b, 0, none⟩ ∧ b < w.heap.size ∧ ∀ j x, ls[j]? = some x → w.cell? ⟨b, 0 + j, none⟩ = some (.string (str x))
theorem SlS.bel {w w' : World} {A : Option Addr} {ls : List (List UInt8)} (h : SlS w A ls) (hb : Bel w w') : SlS w' A ls := fun h0 => by
  obtain ⟨b, h1, h2, h3⟩ := h h0
  exact ⟨b, h1, Nat.lt_of_lt_of_le h2 hb.size, fun j x hx => hb.cell (h3 j x hx)⟩
def LinesPost (w : World) (ls : List (List UInt8)) (e : Ending) (w' : World) : Prop := ∃ A c, e = .returned (.slice A ls.length c) ∧ SlS w' A ls ∧ ls.length ≤ c ∧ Below w.heap.size w w'
theorem split_any (s : List UInt8) (hs : s.length < 4294967281) (m : Int) (w : World) (hm : w.cell? ⟨0, 0, none⟩ = some (.int .i64 m)) :
    Calls Tryz.prog 36 #[.string (str s), .string ⟨#[10]⟩] w (LinesPost w (linesL s)) := by
  refine (Tryz.strings_Split (str s) ⟨#[10]⟩ m w (by rw [str_sz]; exact hs) hm (by decide)).mono fun e w' ⟨he, hw⟩ => ?_
  rw [split_lines _ s rfl] at hw
  have hb := Box.new w (((linesL s).map str).map Value.string).toArray 9
  refine ⟨some ⟨w.heap.size, 0, none⟩, Lib.countB (str s) ⟨#[10]⟩ + 1, by rw [he, count_lines], fun _ => ⟨w.heap.size, rfl, by rw [hw]; simp, fun j x hx => ?_⟩, by rw [count_lines]; exact Nat.le_refl _, by rw [hw]; exact (Below.refl _ _).alloc (Nat.le_refl _) _⟩
  rw [hw, Nat.zero_add]
  refine hb.cell j ?_
  rw [List.getElem?_toArray, List.getElem?_map, List.getElem?_map, hx]
  rfl
set_option maxHeartbeats 1000000 in
theorem linesOf_any (s : List UInt8) (hs : s.length ≤ 2000) (m : Int) (w : World) (hm : w.cell? ⟨0, 0, none⟩ = some (.int .i64 m)) :
    Calls Tryz.prog 19 #[.string (str s)] w (LinesPost w (linesT s)) := by
  have he := str_isEmpty s
  have hw0 := Lib.hid (Below.refl w.heap.size w)
  cases s with
  | nil =>
    have he2 : (str []).toList.isEmpty = true := he
    clear hm he
    go_enter Tryz.func19, Tryz.ntmps19
    go_wp2
    go_ret
    exact ⟨none, 0, rfl, fun h => absurd h (by simp [linesT]), Nat.zero_le _, hw0.out⟩
  | cons b r =>
    have he2 : (str (b :: r)).toList.isEmpty = false := he
    clear he
    have HL := Lib.hid (show linesT (b :: r) = linesL (b :: r) by simp [linesT])
    have HS := Lib.hid (split_any (b :: r) (by omega) m w hm)
    generalize b :: r = s at *
    clear hm
    go_enter Tryz.func19, Tryz.ntmps19
    go_wp2_with fail
    refine HS.out.mono ?_
    rintro e w1 ⟨A, c, rfl, h1, h2, h3⟩
    have H := Lib.hid (And.intro h1 (And.intro h2 h3))
    clear h1 h2 h3
    go_wp2
    go_ret
    exact ⟨A, c, by rw [HL.out]; rfl, by rw [HL.out]; exact H.out.1, by rw [HL.out]; exact H.out.2.1, H.out.2.2⟩
end Go.Proofs.YtbkmkeaabcgifaaGreatDoor
namespace Go.Proofs.YtbkmkeaabcgifaaGreatDoor
open Go Go.RowKit

theorem find_bad {ls : List (List UInt8)} {i : Nat} {x : List UInt8} (h : (ls.take i).all okLine = true) (hx : ls[i]? = some x) (hb : okLine x = false) : ls.findIdx? (fun l => !okLine l) = some i := by
  rw [List.findIdx?_eq_some_iff_getElem]
  have hi := List.getElem?_eq_some_iff.1 hx
  obtain ⟨hil, hix⟩ := hi
  refine ⟨hil, by rw [hix, hb]; rfl, fun j hj => ?_⟩
  have hm : ls[j]'(Nat.lt_trans hj hil) ∈ ls.take i := by
    rw [List.mem_take_iff_getElem]
    exact ⟨j, by omega, rfl⟩
  have := List.all_eq_true.1 h _ hm
  rw [this]; decide
theorem find_none {ls : List (List UInt8)} (h : ls.all okLine = true) : ls.findIdx? (fun l => !okLine l) = none := by
  rw [List.findIdx?_eq_none_iff]
  intro x hx
  rw [List.all_eq_true.1 h x hx]; rfl
def evsOf (ls : List (List UInt8)) : List Ev := ls.map fun l => (evOf l).1
theorem readL_long {s : List UInt8} (h : 2000 < s.length) : readL s = ([], 0, 2) := by unfold readL; rw [if_pos h]
theorem readL_bad {s : List UInt8} (h : ¬ 2000 < s.length) {i : Nat} {x : List UInt8} (h1 : ((linesT s).take i).all okLine = true) (hx : (linesT s)[i]? = some x) (hb : okLine x = false) : readL s = ([], (i : Int) + 1, 3) := by
  unfold readL; rw [if_neg h, find_bad h1 hx hb]
theorem readL_end {s : List UInt8} (h : ¬ 2000 < s.length) (h1 : (linesT s).all okLine = true) : readL s = if may (evsOf (linesT s)) = 0 then (evsOf (linesT s), 0, 0) else ([], 0, may (evsOf (linesT s))) := by
  unfold readL; rw [if_neg h, find_none h1]; rfl
theorem okLine_err {x : List UInt8} (h : okLine x = false) : (evOf x).2 = 3 := by
  rcases evOf_code x with h1 | h1
  · unfold okLine at h; rw [h1] at h; cases h
  · rw [h1]
theorem take_all_snoc {ls : List (List UInt8)} {i : Nat} {x : List UInt8} (h : (ls.take i).all okLine = true) (hx : ls[i]? = some x) (hb : okLine x = true) : (ls.take (i + 1)).all okLine = true := by
  rw [List.take_add_one, hx]; simp only [List.all_append, h, Bool.true_and]; simp [hb]
theorem evsOf_snoc {ls : List (List UInt8)} {i : Nat} {x : List UInt8} (hx : ls[i]? = some x) : evsOf (ls.take (i + 1)) = evsOf (ls.take i) ++ [(evOf x).1] := by
  rw [List.take_add_one, hx]; simp [evsOf]
theorem evsOf_len (ls : List (List UInt8)) : (evsOf ls).length = ls.length := by simp [evsOf]
def ReadPost (w : World) (s : List UInt8) (e : Ending) (w' : World) : Prop :=
  ∃ v, e = .returned (.tuple #[v, .int .i64 (readL s).2.1, .int .i64 (readL s).2.2]) ∧ w'.ownsRow w.heap.size 33 3 v (readL s).1.length (evc (readL s).1) ∧ Below w.heap.size w w'
structure RRel (w : World) (ls : List (List UInt8)) (i : Nat) (v : Value) (wr : World) : Prop where
  own : wr.ownsRow w.heap.size 33 3 v i (evc (evsOf (ls.take i)))
  ok : (ls.take i).all okLine = true
set_option maxHeartbeats 4000000 in
theorem pread_any (s : List UInt8) (hs : s.length ≤ maxLen) (m : Int) (w : World) (hm : w.cell? ⟨0, 0, none⟩ = some (.int .i64 m)) : Calls Tryz.prog 7 #[.string (str s)] w (ReadPost w s) := by
  have hz := str_sz s
  have hw0 := Bel.refl w
  unfold maxLen at hs
  by_cases hlong : 2000 < s.length
  · have HV := Lib.hid (readL_long hlong)
    have h0 : (2000 : Int) < (str s).size := by omega
    have HZ := Lib.hid hz
    have HW := Lib.hid hw0
    clear hm hz hw0
    go_enter Tryz.func7, Tryz.ntmps7
    go_wp2
    go_ret3
    exact ⟨.slice none 0 0, by rw [HV.out]; rfl, by rw [HV.out]; exact World.ownsRow_nil .., HW.out⟩
  · have h0 : ¬ (2000 : Int) < (str s).size := by omega
    have HS := Lib.hid (linesOf_any s (by omega) m w hm)
    have hN : (linesT s).length ≤ 2001 := by
      have := linesL_len s
      unfold linesT; split
      · simp
      · omega
    have HX := Lib.hid (show ∀ (i : Nat) (x : List UInt8), (linesT s)[i]? = some x → x.length ≤ maxLen from fun i x hx => by
      have : x ∈ linesL s := by
        have := List.mem_of_getElem? hx
        unfold linesT at this; split at this
        · cases this
        · exact this
      exact Nat.le_trans (linesL_part s x this) (by unfold maxLen; exact hs))
    have HLg := Lib.hid hlong
    have HZ := Lib.hid hz
    obtain ⟨i0, hi0, hz0, hz1, hz2⟩ := info_parts ev_info
    have J := Lib.hid (And.intro hi0 (And.intro hz0 (And.intro hz1 hz2)))
    clear hm hz hi0 hz0 hz1 hz2
    go_enter Tryz.func7, Tryz.ntmps7
    go_wp2_with fail
    refine HS.out.mono ?_
    rintro e1 w1 ⟨A, c, rfl, hs1, hc1, hb1⟩
    have hw1 : Bel w w1 := hw0.call hb1
    have HL := Lib.hid hs1
    have HW1 := Lib.hid hw1
    have HR0 := Lib.hid (RRel.mk (World.ownsRow_nil ..) rfl : RRel w1 (linesT s) 0 (.slice none 0 0) w1)
    have HBad := Lib.hid (fun i x h1 hx hb => readL_bad HLg.out (i := i) (x := x) h1 hx hb)
    have HEnd := Lib.hid (readL_end HLg.out)
    generalize linesT s = ls at *
    clear hs1 hb1 hw0 hw1
    go_wp2
    go_loopw [5, 18] (fun v t wr => ∃ i : Nat, i ≤ ls.length ∧ t = .int .i64 i ∧ RRel w1 ls i v wr ∧ Bel w1 wr) (fun _ t _ => ls.length - (intOf t).toNat)
    case atStart => exact ⟨0, by omega, rfl, HR0.out, Bel.refl _⟩
    case round =>
      obtain ⟨i, hi, rfl, hr, hb⟩ := hrel
      have HR := Lib.hid hr
      have HB := Lib.hid hb
      clear hr hb
      by_cases hlt : i < ls.length
      · have hlt' : (i : Int) < ls.length := by omega
        obtain ⟨b, rfl, hb1, hcells⟩ := HL.out (by omega)
        obtain ⟨x, hx⟩ : ∃ x, ls[i]? = some x := ⟨_, List.getElem?_eq_getElem hlt⟩
        have c1 := HB.out.cell (hcells i x hx)
        rw [Nat.zero_add] at c1
        have HXi := Lib.hid hx
        clear hcells hb1 hx
        have hi63 : (i : Int) + 1 ≤ 2001 := by omega
        go_wp2_with fail
        refine (pevent_any x (HX.out i x HXi.out) _).mono ?_
        rintro e5 w5 ⟨rfl, hb5⟩
        have HB5 := Lib.hid (HB.out.call hb5)
        have HBr := Lib.hid (Bel.of hb5)
        have HEB := Lib.hid (show Bel w5 _ from ewld_below w5 (evOf x).1 33)
        have HEX := Lib.hid (ewld_box w5 (evOf x).1 33)
        clear hb5
        cases hok : okLine x
        · have HV := Lib.hid (HBad.out i x HR.out.ok HXi.out hok)
          have HE3 := Lib.hid (okLine_err hok)
          clear hok
          rw [HE3.out]
          go_wp2_with (first | (refine load_ev T36 _ rfl rfl rfl hR.out ?_) | (refine ewld_store T36 _ _ rfl rfl _ rfl rfl rfl ?_))
          go_ret3
          exact ⟨.slice none 0 0, by rw [HV.out]; rfl, by rw [HV.out]; exact World.ownsRow_nil .., (HW1.out.trans (HB5.out.trans HEB.out))⟩
        · have HE0 := Lib.hid (show (evOf x).2 = 0 by simpa [okLine] using hok)
          have HOK := Lib.hid hok
          clear hok
          rw [HE0.out]
          have HWE := Lib.hid (HB5.out.trans HEB.out)
          have hwr : Bel wr (ewld w5 (evOf x).1 33) := (HBr.out).trans HEB.out
          have HOA := Lib.hid (own_alloc (own_bel HR.out.own hwr) (.cells (evv (evOf x).1) 33))
          have HNW := Lib.hid (Box.news (l := evc [(evOf x).1]) (Box.new (ewld w5 (evOf x).1 33) (evv (evOf x).1) 33))
          have HSZ := Lib.hid (show w1.heap.size ≤ ((ewld w5 (evOf x).1 33).alloc (.cells (evv (evOf x).1) 33)).heap.size from (HWE.out.alloc _).size)
          clear hwr
          go_wp2_with (first | (refine load_ev T36 _ rfl rfl rfl hR.out ?_) | (refine ewld_store T36 _ _ rfl rfl _ rfl rfl rfl ?_) | (refine loadB _ _ rfl rfl rfl HEX.out T36 ?_) | (refine build1 _ _ rfl rfl _ i0 Tryz.underlying22 J.out.1 J.out.2.1 J.out.2.2.1 (evOf x).1 rfl ?_) | (at_builtin; refine wpList_append_own_at _ rfl (.tmp 33) (.tmp 35) _ rfl w1.heap.size 33 i0 _ 3 24 Tryz.underlying22 J.out.1 J.out.2.1 J.out.2.2.1 J.out.2.2.2 rfl (by omega) _ i _ rfl HOA.out ⟨(ewld w5 (evOf x).1 33).heap.size, 0, none⟩ 1 1 (evc [(evOf x).1]) rfl rfl HNW.out (by simp [evc, Value.oneCell']) (by simp [maxLen]; omega) (by omega) HSZ.out ?_; intro v2 w2 hown2 hg2 hn2 hat2))
          refine ⟨⟨i + 1, by omega, by go_num, ⟨?_, take_all_snoc HR.out.ok HXi.out HOK.out⟩, (HWE.out.alloc _).out.grown hg2 HSZ.out (own_block_ge HOA.out)⟩, by simp [intOf]; omega⟩
          rw [evsOf_snoc HXi.out, evc_append]
          exact hown2
      · obtain rfl : i = ls.length := by omega
        have hok := HR.out.ok
        rw [List.take_length] at hok
        have HV := Lib.hid (HEnd.out hok)
        have hown := HR.out.own
        rw [List.take_length] at hown
        obtain ⟨A5, c5, rfl, hs5, hc5, hm5⟩ := Sl.own hown
        have HO := Lib.hid hown
        have HS5 := Lib.hid hs5
        have HWB := Lib.hid (HW1.out.trans HB.out)
        have HN5 := Lib.hid (evsOf_len ls)
        clear hown hs5 hok
        cases hmy : (may (evsOf ls) != 0)
        · have hz0 : ((check (evsOf ls)).2 != 0) = false := hmy
          have HM := Lib.hid (show may (evsOf ls) = 0 by simpa using hmy)
          clear hmy
          go_wp2_with fail
          refine (check_any A5 _ c5 _ _ HS5.out).mono ?_
          rintro e6 w6 ⟨rfl, hb6⟩
          have HB6 := Lib.hid (Bel.of hb6)
          clear hb6
          go_wp2
          go_ret3
          refine ⟨.slice A5 ls.length c5, ?_, ?_, HWB.out.trans HB6.out⟩
          · rw [HV.out, if_pos HM.out]; rfl
          · rw [HV.out, if_pos HM.out]
            have := own_bel HO.out HB6.out
            simp only [evsOf_len]
            exact own_drop_alloc this HW1.out.size
        · have hz0 : ((check (evsOf ls)).2 != 0) = true := hmy
          have HM := Lib.hid (show ¬ may (evsOf ls) = 0 by simpa using hmy)
          clear hmy
          go_wp2_with fail
          refine (check_any A5 _ c5 _ _ HS5.out).mono ?_
          rintro e6 w6 ⟨rfl, hb6⟩
          have HB6 := Lib.hid (Bel.of hb6)
          clear hb6
          go_wp2
          go_ret3
          refine ⟨.slice none 0 0, ?_, ?_, HWB.out.trans HB6.out⟩
          · rw [HV.out, if_neg HM.out]; rfl
          · rw [HV.out, if_neg HM.out]
            exact World.ownsRow_nil ..
end Go.Proofs.YtbkmkeaabcgifaaGreatDoor

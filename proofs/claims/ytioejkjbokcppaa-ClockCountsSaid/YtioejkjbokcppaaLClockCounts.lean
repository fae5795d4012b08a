/- 'deadheatkeep.ClockCounts' returns true for every input and leaves its arguments as they are. No condition. -/
import Derived.Test.YtioejkjbokcppaaOpenInts
import Derived.Test.YtioejkjbokcppaaClocked
import Derived.Test.YtioejkjbokcppaaCountsPure
import Derived.Test.YtioejkjbokcppaaGrow
import Derived.IntWalk
import Derived.Deep.DeepCutAuto
import Derived.Test.YtioejkjbokcppaaTrace4
set_option linter.all false
namespace Go.Proofs.Ytioejkjbokcppaa.LClockCounts
open Go Go.ChangeShapes Go.WideShapes Go.ChangeAt Go.RowKit

theorem tks_snoc (c : Nat → Int) (l : List Int) (t : Int) : tks c (l ++ [t]) = tk (tks c l) t := by simp [tks, List.foldl_append]
theorem take_succ_getD {l : List Int} {i : Nat} (h : i < l.length) : l.take (i + 1) = l.take i ++ [l[i]?.getD 0] := by
  rw [List.take_succ_eq_append_getElem h, List.getElem?_eq_getElem h]; rfl
theorem rev_getD {l : List Int} {n i : Nat} (hn : l.length = n) (h : i < n) : l.reverse[i]?.getD 0 = l[n - 1 - i]?.getD 0 := by
  rw [List.getElem?_reverse (by omega), hn]
theorem tick_yes {a : Nat → Int} {t : Int} (h : (tickE a t == 0) = true) : tickC a t = tk a t ∧ ok1 a t := by
  have h : tickE a t = 0 := by simpa using h
  unfold tickE at h
  split at h
  · rename_i h1
    split at h
    · rename_i h2
      exact ⟨by unfold tickC tk; rw [if_pos ⟨h1, h2⟩, if_pos ⟨h1, h2⟩], h1, h2⟩
    · omega
  · omega
theorem tick_no {a : Nat → Int} {t : Int} (h : (tickE a t == 0) = false) : tk a t = a := by
  refine tk_same a t fun ⟨h1, h2⟩ => ?_
  unfold tickE at h
  rw [if_pos h1, if_pos h2] at h
  cases h
theorem tks_ok {c : Nat → Int} (hc : ClkOk c) (l : List Int) : ClkOk (tks c l) := fun j hj => by
  rw [tks_fin l c j hj]
  have := hc j hj
  unfold In64 at *
  unfold fin1
  repeat' split
  all_goals omega
/-- How the two clocks stand after i rounds. -/
structure KRel (c : Nat → Int) (l : List Int) (W : World) (B5 B6 : Nat) (i : Nat) (wr : World) : Prop where
  a : Box wr B5 (clk (tks c (l.take i))) 43
  b : Box wr B6 (clk (tks c (l.reverse.take i))) 43
  bel : Bel W wr
  few : gain (tks c (l.take i)) c 6 ≤ i
theorem few_yes {c : Nat → Int} {l : List Int} {i : Nat} {t : Int} (h : gain (tks c (l.take i)) c 6 ≤ i) (hi : l.take (i + 1) = l.take i ++ [t]) (hok : ok1 (tks c (l.take i)) t) :
    gain (tks c (l.take (i + 1))) c 6 = gain (tks c (l.take i)) c 6 + 1 ∧ gain (tks c (l.take (i + 1))) c 6 ≤ (i + 1 : Nat) := by
  rw [hi, tks_snoc, gain_tk_yes _ _ _ hok]
  exact ⟨rfl, by omega⟩
theorem gain_pos (a c : Nat → Int) (h : ∀ j, c j ≤ a j) (k : Nat) : 0 ≤ gain a c k := (gain_mono a c h k).1
theorem gain_six (a c : Nat → Int) (h : ∀ j, c j ≤ a j) (k : Nat) (hk : k ≤ 6) : gain a c k ≤ gain a c 6 := by
  have g := fun k => (gain_mono a c h k).2
  have g0 : gain a c 0 ≤ gain a c 1 := g 0
  have g1 : gain a c 1 ≤ gain a c 2 := g 1
  have g2 : gain a c 2 ≤ gain a c 3 := g 2
  have g3 : gain a c 3 ≤ gain a c 4 := g 3
  have g4 : gain a c 4 ≤ gain a c 5 := g 4
  have g5 : gain a c 5 ≤ gain a c 6 := g 5
  have : k = 0 ∨ k = 1 ∨ k = 2 ∨ k = 3 ∨ k = 4 ∨ k = 5 ∨ k = 6 := by omega
  rcases this with rfl | rfl | rfl | rfl | rfl | rfl | rfl <;> omega

set_option maxHeartbeats 20000000 in
set_option maxRecDepth 100000 in
theorem walk (W0 : World) (c : Nat → Int) (kc : ClkOk c) (A : Option Addr) (n cp : Nat) (l : List Int) (s : SI W0 A n l) (m : n ≤ cp) (x : cp ≤ maxLen) (g : ∀ x ∈ l, In64 x) :
    Calls Try.prog 12 #[.agg (clk c), .slice A n cp] W0 fun e w' => e = .returned (.bool true) ∧ Below W0.heap.size W0 w' := by
  obtain ⟨b1, hB, hs⟩ := boxes1 W0 (clk c) 43
  have s1 := s.keep (show Bel W0 _ from hB)
  generalize hW : W0.alloc (.cells (clk c) 43) = W at *
  have HS := Lib.hid s1
  have L1 : W0.heap.size < W.heap.size := by omega
  have HT := Lib.hid (fun (w1 : World) (h : Bel W w1) => hB.trans (h.out.mono (Nat.le_of_lt L1)))
  have HX := Lib.hid b1
  have HK := Lib.hid kc
  unfold maxLen at x
  have hn63 : n ≤ 9223372036854775807 := by omega
  have hw0 : Bel W W := Bel.refl _
  clear hB hs b1 s s1 kc g
  go_enter Try.func12, Try.ntmps12
  go_wp2_with fail
  refine (clocked_any _).mono ?_
  rintro e1 w1 ⟨rfl, hb1⟩
  have hw1 : Bel W w1 := hw0.call hb1
  clear hb1
  go_wp2
  go_cut [5, 6] (fun s5 s6 wx => ∃ B5 B6 : Nat, s5 = .pointer (some ⟨B5, 0, none⟩) ∧ s6 = .pointer (some ⟨B6, 0, none⟩) ∧ W.heap.size ≤ B5 ∧ W.heap.size ≤ B6 ∧ B5 ≠ B6 ∧ KRel c l W B5 B6 0 wx)
  case first =>
    refine region_grow (by kernel_rfl) ?_
    have hx1 := fun (w' : World) (h : Below w1.heap.size w1 w') => (hw1.trans h).box HX.out
    (repeat (first | (refine wpG_go 0 (by simp only [List.getElem?_toArray, List.getElem?_cons_zero, List.getElem?_cons_succ] <;> rfl) (by decide +kernel) (by decide +kernel) (by kernel_rfl) (by rfl) (by exact fun _ _ _ _ h => h) (Nat.le_refl _) ?_; apply Exists.intro; refine ⟨fun w1 h1 => ?_, ?_⟩; (first | exact g_move _ rfl | exact g_assign _ rfl | exact g_load _ _ rfl ty28 rfl (hx1 w1 h1) | (go_simp; first | exact ⟨rfl, rfl⟩ | rfl)); simp only [Act.put, Act.eval, List.setIfInBounds_toArray, List.set_cons_zero, List.set_cons_succ, Array.getD_eq_getD_getElem?, List.getElem?_toArray, List.getElem?_cons_zero, List.getElem?_cons_succ, Option.getD_some]) | (refine wpG_go 1 (by simp only [List.getElem?_toArray, List.getElem?_cons_zero, List.getElem?_cons_succ] <;> rfl) (by decide +kernel) (by decide +kernel) (by kernel_rfl) (by rfl) (by exact fun _ _ _ _ h => h) (Nat.le_refl _) ?_; apply Exists.intro; refine ⟨fun w1 h1 => ?_, ?_⟩; (first | exact g_move _ rfl | exact g_assign _ rfl | exact g_load _ _ rfl ty28 rfl (hx1 w1 h1) | (go_simp; first | exact ⟨rfl, rfl⟩ | rfl)); simp only [Act.put, Act.eval, List.setIfInBounds_toArray, List.set_cons_zero, List.set_cons_succ, Array.getD_eq_getD_getElem?, List.getElem?_toArray, List.getElem?_cons_zero, List.getElem?_cons_succ, Option.getD_some]) | (refine wpG_skip 0 (by simp only [List.getElem?_toArray, List.getElem?_cons_zero, List.getElem?_cons_succ] <;> rfl) (by decide +kernel) (by decide +kernel) (by kernel_rfl) (by rfl) (by exact fun _ _ _ _ h => h) (Nat.le_refl _) ?_; simp only [Act.put, Act.eval, List.setIfInBounds_toArray, List.set_cons_zero, List.set_cons_succ, Array.getD_eq_getD_getElem?, List.getElem?_toArray, List.getElem?_cons_zero, List.getElem?_cons_succ, Option.getD_some]) | (refine wpG_skip 1 (by simp only [List.getElem?_toArray, List.getElem?_cons_zero, List.getElem?_cons_succ] <;> rfl) (by decide +kernel) (by decide +kernel) (by kernel_rfl) (by rfl) (by exact fun _ _ _ _ h => h) (Nat.le_refl _) ?_; simp only [Act.put, Act.eval, List.setIfInBounds_toArray, List.set_cons_zero, List.set_cons_succ, Array.getD_eq_getD_getElem?, List.getElem?_toArray, List.getElem?_cons_zero, List.getElem?_cons_succ, Option.getD_some])))
    clear hx1
    (refine wpG_two 2 3 (by decide +kernel) ?_ ?_ <;> (intro wa hwa; refine op_wanted (by simp only [List.getElem?_toArray, List.getElem?_cons_zero, List.getElem?_cons_succ] <;> rfl) rfl ?_))
    · go_simp
      refine ⟨Below.alloc (Below.refl _ _) hwa.size _, ?_⟩
      (refine wpG_one 3 (by decide +kernel) ?_; intro wb hwb; refine op_wanted (by simp only [List.getElem?_toArray, List.getElem?_cons_zero, List.getElem?_cons_succ] <;> rfl) rfl ?_)
      go_simp
      have h7 := (hwa.alloc (.cells #[.int .i64 0, .int .i64 0, .int .i64 0, .int .i64 0, .int .i64 0, .int .i64 0] 43)).trans hwb
      refine ⟨Below.alloc (Below.refl _ _) h7.size _, ?_⟩
      have bx7 := (hwb.box (Box.new wa #[.int .i64 0, .int .i64 0, .int .i64 0, .int .i64 0, .int .i64 0, .int .i64 0] 43)).old (.cells #[.int .i64 0, .int .i64 0, .int .i64 0, .int .i64 0, .int .i64 0, .int .i64 0] 43)
      have bx8 := Box.new wb #[.int .i64 0, .int .i64 0, .int .i64 0, .int .i64 0, .int .i64 0, .int .i64 0] 43
      have hne : wa.heap.size ≠ wb.heap.size := by have := hwb.size; simp at this; omega
      have hN := h7.alloc (.cells #[.int .i64 0, .int .i64 0, .int .i64 0, .int .i64 0, .int .i64 0, .int .i64 0] 43)
      have g7 : w1.heap.size ≤ wa.heap.size := hwa.size
      have g8 : w1.heap.size ≤ wb.heap.size := h7.size
      clear hwa hwb h7
      generalize wb.alloc (.cells #[.int .i64 0, .int .i64 0, .int .i64 0, .int .i64 0, .int .i64 0, .int .i64 0] 43) = w5 at *
      generalize wa.heap.size = BX at *
      generalize wb.heap.size = BY at *
      (refine wpG_one 4 (by decide +kernel) ?_; intro w6 hw6; refine op_wanted (by simp only [List.getElem?_toArray, List.getElem?_cons_zero, List.getElem?_cons_succ] <;> rfl) rfl ?_)
      refine wp_storeB ty28 _ _ rfl rfl rfl rfl (hw6.box bx7) rfl (clk_all c) ⟨below_setRow' (Below.refl _ _) _ _ g7, ?_⟩
      have k7 := (hw6.box bx7).setRow (clk c)
      have k8 := (hw6.box bx8).setRow_ne BX (clk c) (Ne.symm hne)
      have hN6 : Bel w1 _ := below_setRow' (hN.trans hw6).out BX (clk c) g7
      clear hw6 bx7 bx8 hN
      generalize w6.setRow BX (clk c) = w7 at *
      (refine wpG_one 5 (by decide +kernel) ?_; intro w8 hw8; refine op_wanted (by simp only [List.getElem?_toArray, List.getElem?_cons_zero, List.getElem?_cons_succ] <;> rfl) rfl ?_)
      refine wp_storeB ty28 _ _ rfl rfl rfl rfl (hw8.box k8) rfl (clk_all c) ⟨below_setRow' (Below.refl _ _) _ _ g8, ?_⟩
      have m8 := (hw8.box k8).setRow (clk c)
      have m7 := (hw8.box k7).setRow_ne BY (clk c) hne
      have hN8 : Bel w1 _ := below_setRow' (hN6.trans hw8).out BY (clk c) g8
      clear hw8 k7 k8 hN6
      (refine wpG_done (by decide +kernel) ?_ _; intro w9 hw9; try simp only [Act.put, Act.eval, List.setIfInBounds_toArray, List.set_cons_zero, List.set_cons_succ, Array.getD_eq_getD_getElem?, List.getElem?_toArray, List.getElem?_cons_zero, List.getElem?_cons_succ, Option.getD_some])
      have HF := Lib.hid (KRel.mk (c := c) (l := l) (W := W) (i := 0) (hw9.box m7) (hw9.box m8) (hw1.trans (hN8.trans hw9)) (by rw [List.take_zero]; show gain c c 6 ≤ _; rw [gain_self]; omega))
      have e7 : W.heap.size ≤ BX := Nat.le_trans hw1.size g7
      have e8 : W.heap.size ≤ BY := Nat.le_trans hw1.size g8
      clear m7 m8 hN8 hw9
      go_wp2
      go_meet
      case rel => exact ⟨_, _, rfl, rfl, e7, e8, hne, HF.out⟩
    · go_simp
      refine ⟨Below.alloc (Below.refl _ _) hwa.size _, ?_⟩
      (refine wpG_one 2 (by decide +kernel) ?_; intro wb hwb; refine op_wanted (by simp only [List.getElem?_toArray, List.getElem?_cons_zero, List.getElem?_cons_succ] <;> rfl) rfl ?_)
      go_simp
      have h7 := (hwa.alloc (.cells #[.int .i64 0, .int .i64 0, .int .i64 0, .int .i64 0, .int .i64 0, .int .i64 0] 43)).trans hwb
      refine ⟨Below.alloc (Below.refl _ _) h7.size _, ?_⟩
      have bx7 := (hwb.box (Box.new wa #[.int .i64 0, .int .i64 0, .int .i64 0, .int .i64 0, .int .i64 0, .int .i64 0] 43)).old (.cells #[.int .i64 0, .int .i64 0, .int .i64 0, .int .i64 0, .int .i64 0, .int .i64 0] 43)
      have bx8 := Box.new wb #[.int .i64 0, .int .i64 0, .int .i64 0, .int .i64 0, .int .i64 0, .int .i64 0] 43
      have hne : wa.heap.size ≠ wb.heap.size := by have := hwb.size; simp at this; omega
      have hN := h7.alloc (.cells #[.int .i64 0, .int .i64 0, .int .i64 0, .int .i64 0, .int .i64 0, .int .i64 0] 43)
      have g7 : w1.heap.size ≤ wa.heap.size := hwa.size
      have g8 : w1.heap.size ≤ wb.heap.size := h7.size
      clear hwa hwb h7
      generalize wb.alloc (.cells #[.int .i64 0, .int .i64 0, .int .i64 0, .int .i64 0, .int .i64 0, .int .i64 0] 43) = w5 at *
      generalize wa.heap.size = BX at *
      generalize wb.heap.size = BY at *
      (refine wpG_one 4 (by decide +kernel) ?_; intro w6 hw6; refine op_wanted (by simp only [List.getElem?_toArray, List.getElem?_cons_zero, List.getElem?_cons_succ] <;> rfl) rfl ?_)
      refine wp_storeB ty28 _ _ rfl rfl rfl rfl (hw6.box bx8) rfl (clk_all c) ⟨below_setRow' (Below.refl _ _) _ _ g8, ?_⟩
      have k7 := (hw6.box bx8).setRow (clk c)
      have k8 := (hw6.box bx7).setRow_ne BY (clk c) hne
      have hN6 : Bel w1 _ := below_setRow' (hN.trans hw6).out BY (clk c) g8
      clear hw6 bx8 bx7 hN
      generalize w6.setRow BY (clk c) = w7 at *
      (refine wpG_one 5 (by decide +kernel) ?_; intro w8 hw8; refine op_wanted (by simp only [List.getElem?_toArray, List.getElem?_cons_zero, List.getElem?_cons_succ] <;> rfl) rfl ?_)
      refine wp_storeB ty28 _ _ rfl rfl rfl rfl (hw8.box k8) rfl (clk_all c) ⟨below_setRow' (Below.refl _ _) _ _ g7, ?_⟩
      have m8 := (hw8.box k8).setRow (clk c)
      have m7 := (hw8.box k7).setRow_ne BX (clk c) (Ne.symm hne)
      have hN8 : Bel w1 _ := below_setRow' (hN6.trans hw8).out BX (clk c) g7
      clear hw8 k7 k8 hN6
      (refine wpG_done (by decide +kernel) ?_ _; intro w9 hw9; try simp only [Act.put, Act.eval, List.setIfInBounds_toArray, List.set_cons_zero, List.set_cons_succ, Array.getD_eq_getD_getElem?, List.getElem?_toArray, List.getElem?_cons_zero, List.getElem?_cons_succ, Option.getD_some])
      have HF := Lib.hid (KRel.mk (c := c) (l := l) (W := W) (i := 0) (hw9.box m7) (hw9.box m8) (hw1.trans (hN8.trans hw9)) (by rw [List.take_zero]; show gain c c 6 ≤ _; rw [gain_self]; omega))
      have e7 : W.heap.size ≤ BY := Nat.le_trans hw1.size g8
      have e8 : W.heap.size ≤ BX := Nat.le_trans hw1.size g7
      clear m7 m8 hN8 hw9
      go_wp2
      go_meet
      case rel => exact ⟨_, _, rfl, rfl, e7, e8, (Ne.symm hne), HF.out⟩
  case rest =>
    obtain ⟨B5, B6, rfl, rfl, h5, h6, h56, hk⟩ := hcut
    have HR0 := Lib.hid hk
    clear hk
    go_wp2
    go_loopw [7, 23] (fun u t wr => ∃ i : Nat, i ≤ n ∧ t = .int .i64 i ∧ u = .int .i64 (gain (tks c (l.take i)) c 6) ∧ KRel c l W B5 B6 i wr) (fun _ t _ => n - (intOf t).toNat)
    case atStart => exact ⟨0, by omega, rfl, by rw [List.take_zero]; show _ = Value.int .i64 (gain c c 6); rw [gain_self], HR0.out⟩
    case round =>
      obtain ⟨i, hi, rfl, rfl, hrel⟩ := hrel
      have HR := Lib.hid hrel
      clear hrel
      by_cases hlt : i < n
      · obtain ⟨bb, oo, rfl, hc⟩ := HS.out.2 (by omega)
        have HC := Lib.hid hc
        clear hc
        have hlt' : (i : Int) < n := by omega
        have cT := HR.out.bel.cell (HC.out i hlt)
        have HL := Lib.hid HS.out.1
        have HTK := Lib.hid (take_succ_getD (l := l) (i := i) (by rw [HL.out]; exact hlt))
        have HTR := Lib.hid (take_succ_getD (l := l.reverse) (i := i) (by rw [List.length_reverse, HL.out]; exact hlt))
        have hrv := rev_getD HL.out hlt
        have hcr := HC.out (n - 1 - i) (by omega)
        obtain ⟨q, hq⟩ : ∃ q, q = n - 1 - i := ⟨_, rfl⟩
        have hqn : (q : Int) < n := by omega
        have HQ := Lib.hid (show IntKind.i64.wrap ((n : Int) - 1 - i) = q by rw [IntWalk.i64_in _ (by omega)]; omega)
        rw [← hq] at hrv hcr
        have HRV := Lib.hid hrv
        have HCR := Lib.hid hcr
        clear hrv hcr hq
        generalize l[i]?.getD 0 = t1 at *
        generalize l[q]?.getD 0 = t2 at *
        have hba := HR.out.a
        have hbb := HR.out.b
        have HBEL := Lib.hid HR.out.bel
        have oka := tks_ok HK.out (l.take i)
        have okb := tks_ok HK.out (l.reverse.take i)
        have OKA := Lib.hid oka
        have OKB := Lib.hid okb
        clear oka okb
        go_wp2_with (refine loadT ty28 _ rfl rfl rfl hba rfl ?_)
        refine (tick_any (tks c (l.take i)) t1 OKA.out _).mono ?_
        rintro e3 w3 ⟨rfl, hb3⟩
        have hw3 : Bel wr w3 := hb3
        clear hb3
        have bx := Box.new w3 #[.int .i64 0, .int .i64 0, .int .i64 0, .int .i64 0, .int .i64 0, .int .i64 0] 43
        go_wp2_with (refine storeT ty28 _ _ rfl rfl rfl rfl rfl bx rfl (clk_all _) ?_)
        have bx3 := bx.setRow (clk (tickC (tks c (l.take i)) t1))
        have hw5 : Bel wr _ := below_setRow' (hw3.alloc (.cells #[.int .i64 0, .int .i64 0, .int .i64 0, .int .i64 0, .int .i64 0, .int .i64 0] 43)).out w3.heap.size (clk (tickC (tks c (l.take i)) t1)) hw3.size
        have hz3 : wr.heap.size ≤ w3.heap.size := hw3.size
        clear bx hw3
        generalize (w3.alloc (.cells #[.int .i64 0, .int .i64 0, .int .i64 0, .int .i64 0, .int .i64 0, .int .i64 0] 43)).setRow w3.heap.size (clk (tickC (tks c (l.take i)) t1)) = w5 at *
        have h5r := hba.lt
        have h6r := hbb.lt
        have ba5 := hw5.box hba
        have bb5 := hw5.box hbb
        have cR5 := fun (w' : World) (h : Below w5.heap.size w5 w') => (HBEL.out.trans (hw5.trans h)).cell HCR.out
        have bR5 := fun (w' : World) (h : Below w5.heap.size w5 w') => Bel.box h bb5
        have hwr1 : IntKind.i64.wrap ((n : Int) - 1) = n - 1 := IntWalk.i64_in _ (by omega)
        have hwr2 := HQ.out
        generalize w3.heap.size = B10 at *
        refine region_grow (by kernel_rfl) ?_
        (repeat (first | (refine wpG_go 0 (by simp only [List.getElem?_toArray, List.getElem?_cons_zero, List.getElem?_cons_succ] <;> rfl) (by decide +kernel) (by decide +kernel) (by kernel_rfl) (by rfl) (by exact fun _ _ _ _ h => h) (Nat.le_refl _) ?_; apply Exists.intro; refine ⟨fun w1 h1 => ?_, ?_⟩; (first | exact g_move _ rfl | exact g_assign _ rfl | exact g_load _ _ rfl ty28 rfl (bR5 w1 h1) | (have fct0 := cR5 w1 h1; go_simp; first | exact ⟨rfl, rfl⟩ | rfl | (go_at_call 29; (with_reducible refine (tick_any (tks c (l.reverse.take i)) t2 OKB.out _).mono ?_); rintro e w' ⟨rfl, hb⟩; first | exact ⟨rfl, hb⟩ | exact ⟨rfl, hb ▸ Bel.refl _⟩))); simp only [Act.put, Act.eval, List.setIfInBounds_toArray, List.set_cons_zero, List.set_cons_succ, Array.getD_eq_getD_getElem?, List.getElem?_toArray, List.getElem?_cons_zero, List.getElem?_cons_succ, Option.getD_some]) | (refine wpG_go 1 (by simp only [List.getElem?_toArray, List.getElem?_cons_zero, List.getElem?_cons_succ] <;> rfl) (by decide +kernel) (by decide +kernel) (by kernel_rfl) (by rfl) (by exact fun _ _ _ _ h => h) (Nat.le_refl _) ?_; apply Exists.intro; refine ⟨fun w1 h1 => ?_, ?_⟩; (first | exact g_move _ rfl | exact g_assign _ rfl | exact g_load _ _ rfl ty28 rfl (bR5 w1 h1) | (have fct0 := cR5 w1 h1; go_simp; first | exact ⟨rfl, rfl⟩ | rfl | (go_at_call 29; (with_reducible refine (tick_any (tks c (l.reverse.take i)) t2 OKB.out _).mono ?_); rintro e w' ⟨rfl, hb⟩; first | exact ⟨rfl, hb⟩ | exact ⟨rfl, hb ▸ Bel.refl _⟩))); simp only [Act.put, Act.eval, List.setIfInBounds_toArray, List.set_cons_zero, List.set_cons_succ, Array.getD_eq_getD_getElem?, List.getElem?_toArray, List.getElem?_cons_zero, List.getElem?_cons_succ, Option.getD_some]) | (refine wpG_go 2 (by simp only [List.getElem?_toArray, List.getElem?_cons_zero, List.getElem?_cons_succ] <;> rfl) (by decide +kernel) (by decide +kernel) (by kernel_rfl) (by rfl) (by exact fun _ _ _ _ h => h) (Nat.le_refl _) ?_; apply Exists.intro; refine ⟨fun w1 h1 => ?_, ?_⟩; (first | exact g_move _ rfl | exact g_assign _ rfl | exact g_load _ _ rfl ty28 rfl (bR5 w1 h1) | (have fct0 := cR5 w1 h1; go_simp; first | exact ⟨rfl, rfl⟩ | rfl | (go_at_call 29; (with_reducible refine (tick_any (tks c (l.reverse.take i)) t2 OKB.out _).mono ?_); rintro e w' ⟨rfl, hb⟩; first | exact ⟨rfl, hb⟩ | exact ⟨rfl, hb ▸ Bel.refl _⟩))); simp only [Act.put, Act.eval, List.setIfInBounds_toArray, List.set_cons_zero, List.set_cons_succ, Array.getD_eq_getD_getElem?, List.getElem?_toArray, List.getElem?_cons_zero, List.getElem?_cons_succ, Option.getD_some]) | (refine wpG_go 3 (by simp only [List.getElem?_toArray, List.getElem?_cons_zero, List.getElem?_cons_succ] <;> rfl) (by decide +kernel) (by decide +kernel) (by kernel_rfl) (by rfl) (by exact fun _ _ _ _ h => h) (Nat.le_refl _) ?_; apply Exists.intro; refine ⟨fun w1 h1 => ?_, ?_⟩; (first | exact g_move _ rfl | exact g_assign _ rfl | exact g_load _ _ rfl ty28 rfl (bR5 w1 h1) | (have fct0 := cR5 w1 h1; go_simp; first | exact ⟨rfl, rfl⟩ | rfl | (go_at_call 29; (with_reducible refine (tick_any (tks c (l.reverse.take i)) t2 OKB.out _).mono ?_); rintro e w' ⟨rfl, hb⟩; first | exact ⟨rfl, hb⟩ | exact ⟨rfl, hb ▸ Bel.refl _⟩))); simp only [Act.put, Act.eval, List.setIfInBounds_toArray, List.set_cons_zero, List.set_cons_succ, Array.getD_eq_getD_getElem?, List.getElem?_toArray, List.getElem?_cons_zero, List.getElem?_cons_succ, Option.getD_some]) | (refine wpG_go 4 (by simp only [List.getElem?_toArray, List.getElem?_cons_zero, List.getElem?_cons_succ] <;> rfl) (by decide +kernel) (by decide +kernel) (by kernel_rfl) (by rfl) (by exact fun _ _ _ _ h => h) (Nat.le_refl _) ?_; apply Exists.intro; refine ⟨fun w1 h1 => ?_, ?_⟩; (first | exact g_move _ rfl | exact g_assign _ rfl | exact g_load _ _ rfl ty28 rfl (bR5 w1 h1) | (have fct0 := cR5 w1 h1; go_simp; first | exact ⟨rfl, rfl⟩ | rfl | (go_at_call 29; (with_reducible refine (tick_any (tks c (l.reverse.take i)) t2 OKB.out _).mono ?_); rintro e w' ⟨rfl, hb⟩; first | exact ⟨rfl, hb⟩ | exact ⟨rfl, hb ▸ Bel.refl _⟩))); simp only [Act.put, Act.eval, List.setIfInBounds_toArray, List.set_cons_zero, List.set_cons_succ, Array.getD_eq_getD_getElem?, List.getElem?_toArray, List.getElem?_cons_zero, List.getElem?_cons_succ, Option.getD_some]) | (refine wpG_go 5 (by simp only [List.getElem?_toArray, List.getElem?_cons_zero, List.getElem?_cons_succ] <;> rfl) (by decide +kernel) (by decide +kernel) (by kernel_rfl) (by rfl) (by exact fun _ _ _ _ h => h) (Nat.le_refl _) ?_; apply Exists.intro; refine ⟨fun w1 h1 => ?_, ?_⟩; (first | exact g_move _ rfl | exact g_assign _ rfl | exact g_load _ _ rfl ty28 rfl (bR5 w1 h1) | (have fct0 := cR5 w1 h1; go_simp; first | exact ⟨rfl, rfl⟩ | rfl | (go_at_call 29; (with_reducible refine (tick_any (tks c (l.reverse.take i)) t2 OKB.out _).mono ?_); rintro e w' ⟨rfl, hb⟩; first | exact ⟨rfl, hb⟩ | exact ⟨rfl, hb ▸ Bel.refl _⟩))); simp only [Act.put, Act.eval, List.setIfInBounds_toArray, List.set_cons_zero, List.set_cons_succ, Array.getD_eq_getD_getElem?, List.getElem?_toArray, List.getElem?_cons_zero, List.getElem?_cons_succ, Option.getD_some]) | (refine wpG_go 6 (by simp only [List.getElem?_toArray, List.getElem?_cons_zero, List.getElem?_cons_succ] <;> rfl) (by decide +kernel) (by decide +kernel) (by kernel_rfl) (by rfl) (by exact fun _ _ _ _ h => h) (Nat.le_refl _) ?_; apply Exists.intro; refine ⟨fun w1 h1 => ?_, ?_⟩; (first | exact g_move _ rfl | exact g_assign _ rfl | exact g_load _ _ rfl ty28 rfl (bR5 w1 h1) | (have fct0 := cR5 w1 h1; go_simp; first | exact ⟨rfl, rfl⟩ | rfl | (go_at_call 29; (with_reducible refine (tick_any (tks c (l.reverse.take i)) t2 OKB.out _).mono ?_); rintro e w' ⟨rfl, hb⟩; first | exact ⟨rfl, hb⟩ | exact ⟨rfl, hb ▸ Bel.refl _⟩))); simp only [Act.put, Act.eval, List.setIfInBounds_toArray, List.set_cons_zero, List.set_cons_succ, Array.getD_eq_getD_getElem?, List.getElem?_toArray, List.getElem?_cons_zero, List.getElem?_cons_succ, Option.getD_some]) | (refine wpG_go 7 (by simp only [List.getElem?_toArray, List.getElem?_cons_zero, List.getElem?_cons_succ] <;> rfl) (by decide +kernel) (by decide +kernel) (by kernel_rfl) (by rfl) (by exact fun _ _ _ _ h => h) (Nat.le_refl _) ?_; apply Exists.intro; refine ⟨fun w1 h1 => ?_, ?_⟩; (first | exact g_move _ rfl | exact g_assign _ rfl | exact g_load _ _ rfl ty28 rfl (bR5 w1 h1) | (have fct0 := cR5 w1 h1; go_simp; first | exact ⟨rfl, rfl⟩ | rfl | (go_at_call 29; (with_reducible refine (tick_any (tks c (l.reverse.take i)) t2 OKB.out _).mono ?_); rintro e w' ⟨rfl, hb⟩; first | exact ⟨rfl, hb⟩ | exact ⟨rfl, hb ▸ Bel.refl _⟩))); simp only [Act.put, Act.eval, List.setIfInBounds_toArray, List.set_cons_zero, List.set_cons_succ, Array.getD_eq_getD_getElem?, List.getElem?_toArray, List.getElem?_cons_zero, List.getElem?_cons_succ, Option.getD_some]) | (refine wpG_go 8 (by simp only [List.getElem?_toArray, List.getElem?_cons_zero, List.getElem?_cons_succ] <;> rfl) (by decide +kernel) (by decide +kernel) (by kernel_rfl) (by rfl) (by exact fun _ _ _ _ h => h) (Nat.le_refl _) ?_; apply Exists.intro; refine ⟨fun w1 h1 => ?_, ?_⟩; (first | exact g_move _ rfl | exact g_assign _ rfl | exact g_load _ _ rfl ty28 rfl (bR5 w1 h1) | (have fct0 := cR5 w1 h1; go_simp; first | exact ⟨rfl, rfl⟩ | rfl | (go_at_call 29; (with_reducible refine (tick_any (tks c (l.reverse.take i)) t2 OKB.out _).mono ?_); rintro e w' ⟨rfl, hb⟩; first | exact ⟨rfl, hb⟩ | exact ⟨rfl, hb ▸ Bel.refl _⟩))); simp only [Act.put, Act.eval, List.setIfInBounds_toArray, List.set_cons_zero, List.set_cons_succ, Array.getD_eq_getD_getElem?, List.getElem?_toArray, List.getElem?_cons_zero, List.getElem?_cons_succ, Option.getD_some]) | (refine wpG_go 9 (by simp only [List.getElem?_toArray, List.getElem?_cons_zero, List.getElem?_cons_succ] <;> rfl) (by decide +kernel) (by decide +kernel) (by kernel_rfl) (by rfl) (by exact fun _ _ _ _ h => h) (Nat.le_refl _) ?_; apply Exists.intro; refine ⟨fun w1 h1 => ?_, ?_⟩; (first | exact g_move _ rfl | exact g_assign _ rfl | exact g_load _ _ rfl ty28 rfl (bR5 w1 h1) | (have fct0 := cR5 w1 h1; go_simp; first | exact ⟨rfl, rfl⟩ | rfl | (go_at_call 29; (with_reducible refine (tick_any (tks c (l.reverse.take i)) t2 OKB.out _).mono ?_); rintro e w' ⟨rfl, hb⟩; first | exact ⟨rfl, hb⟩ | exact ⟨rfl, hb ▸ Bel.refl _⟩))); simp only [Act.put, Act.eval, List.setIfInBounds_toArray, List.set_cons_zero, List.set_cons_succ, Array.getD_eq_getD_getElem?, List.getElem?_toArray, List.getElem?_cons_zero, List.getElem?_cons_succ, Option.getD_some]) | (refine wpG_go 10 (by simp only [List.getElem?_toArray, List.getElem?_cons_zero, List.getElem?_cons_succ] <;> rfl) (by decide +kernel) (by decide +kernel) (by kernel_rfl) (by rfl) (by exact fun _ _ _ _ h => h) (Nat.le_refl _) ?_; apply Exists.intro; refine ⟨fun w1 h1 => ?_, ?_⟩; (first | exact g_move _ rfl | exact g_assign _ rfl | exact g_load _ _ rfl ty28 rfl (bR5 w1 h1) | (have fct0 := cR5 w1 h1; go_simp; first | exact ⟨rfl, rfl⟩ | rfl | (go_at_call 29; (with_reducible refine (tick_any (tks c (l.reverse.take i)) t2 OKB.out _).mono ?_); rintro e w' ⟨rfl, hb⟩; first | exact ⟨rfl, hb⟩ | exact ⟨rfl, hb ▸ Bel.refl _⟩))); simp only [Act.put, Act.eval, List.setIfInBounds_toArray, List.set_cons_zero, List.set_cons_succ, Array.getD_eq_getD_getElem?, List.getElem?_toArray, List.getElem?_cons_zero, List.getElem?_cons_succ, Option.getD_some]) | (refine wpG_go 11 (by simp only [List.getElem?_toArray, List.getElem?_cons_zero, List.getElem?_cons_succ] <;> rfl) (by decide +kernel) (by decide +kernel) (by kernel_rfl) (by rfl) (by exact fun _ _ _ _ h => h) (Nat.le_refl _) ?_; apply Exists.intro; refine ⟨fun w1 h1 => ?_, ?_⟩; (first | exact g_move _ rfl | exact g_assign _ rfl | exact g_load _ _ rfl ty28 rfl (bR5 w1 h1) | (have fct0 := cR5 w1 h1; go_simp; first | exact ⟨rfl, rfl⟩ | rfl | (go_at_call 29; (with_reducible refine (tick_any (tks c (l.reverse.take i)) t2 OKB.out _).mono ?_); rintro e w' ⟨rfl, hb⟩; first | exact ⟨rfl, hb⟩ | exact ⟨rfl, hb ▸ Bel.refl _⟩))); simp only [Act.put, Act.eval, List.setIfInBounds_toArray, List.set_cons_zero, List.set_cons_succ, Array.getD_eq_getD_getElem?, List.getElem?_toArray, List.getElem?_cons_zero, List.getElem?_cons_succ, Option.getD_some]) | (refine wpG_go 12 (by simp only [List.getElem?_toArray, List.getElem?_cons_zero, List.getElem?_cons_succ] <;> rfl) (by decide +kernel) (by decide +kernel) (by kernel_rfl) (by rfl) (by exact fun _ _ _ _ h => h) (Nat.le_refl _) ?_; apply Exists.intro; refine ⟨fun w1 h1 => ?_, ?_⟩; (first | exact g_move _ rfl | exact g_assign _ rfl | exact g_load _ _ rfl ty28 rfl (bR5 w1 h1) | (have fct0 := cR5 w1 h1; go_simp; first | exact ⟨rfl, rfl⟩ | rfl | (go_at_call 29; (with_reducible refine (tick_any (tks c (l.reverse.take i)) t2 OKB.out _).mono ?_); rintro e w' ⟨rfl, hb⟩; first | exact ⟨rfl, hb⟩ | exact ⟨rfl, hb ▸ Bel.refl _⟩))); simp only [Act.put, Act.eval, List.setIfInBounds_toArray, List.set_cons_zero, List.set_cons_succ, Array.getD_eq_getD_getElem?, List.getElem?_toArray, List.getElem?_cons_zero, List.getElem?_cons_succ, Option.getD_some]) | (refine wpG_skip 0 (by simp only [List.getElem?_toArray, List.getElem?_cons_zero, List.getElem?_cons_succ] <;> rfl) (by decide +kernel) (by decide +kernel) (by kernel_rfl) (by rfl) (by exact fun _ _ _ _ h => h) (Nat.le_refl _) ?_; simp only [Act.put, Act.eval, List.setIfInBounds_toArray, List.set_cons_zero, List.set_cons_succ, Array.getD_eq_getD_getElem?, List.getElem?_toArray, List.getElem?_cons_zero, List.getElem?_cons_succ, Option.getD_some]) | (refine wpG_skip 1 (by simp only [List.getElem?_toArray, List.getElem?_cons_zero, List.getElem?_cons_succ] <;> rfl) (by decide +kernel) (by decide +kernel) (by kernel_rfl) (by rfl) (by exact fun _ _ _ _ h => h) (Nat.le_refl _) ?_; simp only [Act.put, Act.eval, List.setIfInBounds_toArray, List.set_cons_zero, List.set_cons_succ, Array.getD_eq_getD_getElem?, List.getElem?_toArray, List.getElem?_cons_zero, List.getElem?_cons_succ, Option.getD_some]) | (refine wpG_skip 2 (by simp only [List.getElem?_toArray, List.getElem?_cons_zero, List.getElem?_cons_succ] <;> rfl) (by decide +kernel) (by decide +kernel) (by kernel_rfl) (by rfl) (by exact fun _ _ _ _ h => h) (Nat.le_refl _) ?_; simp only [Act.put, Act.eval, List.setIfInBounds_toArray, List.set_cons_zero, List.set_cons_succ, Array.getD_eq_getD_getElem?, List.getElem?_toArray, List.getElem?_cons_zero, List.getElem?_cons_succ, Option.getD_some]) | (refine wpG_skip 3 (by simp only [List.getElem?_toArray, List.getElem?_cons_zero, List.getElem?_cons_succ] <;> rfl) (by decide +kernel) (by decide +kernel) (by kernel_rfl) (by rfl) (by exact fun _ _ _ _ h => h) (Nat.le_refl _) ?_; simp only [Act.put, Act.eval, List.setIfInBounds_toArray, List.set_cons_zero, List.set_cons_succ, Array.getD_eq_getD_getElem?, List.getElem?_toArray, List.getElem?_cons_zero, List.getElem?_cons_succ, Option.getD_some]) | (refine wpG_skip 4 (by simp only [List.getElem?_toArray, List.getElem?_cons_zero, List.getElem?_cons_succ] <;> rfl) (by decide +kernel) (by decide +kernel) (by kernel_rfl) (by rfl) (by exact fun _ _ _ _ h => h) (Nat.le_refl _) ?_; simp only [Act.put, Act.eval, List.setIfInBounds_toArray, List.set_cons_zero, List.set_cons_succ, Array.getD_eq_getD_getElem?, List.getElem?_toArray, List.getElem?_cons_zero, List.getElem?_cons_succ, Option.getD_some]) | (refine wpG_skip 5 (by simp only [List.getElem?_toArray, List.getElem?_cons_zero, List.getElem?_cons_succ] <;> rfl) (by decide +kernel) (by decide +kernel) (by kernel_rfl) (by rfl) (by exact fun _ _ _ _ h => h) (Nat.le_refl _) ?_; simp only [Act.put, Act.eval, List.setIfInBounds_toArray, List.set_cons_zero, List.set_cons_succ, Array.getD_eq_getD_getElem?, List.getElem?_toArray, List.getElem?_cons_zero, List.getElem?_cons_succ, Option.getD_some]) | (refine wpG_skip 6 (by simp only [List.getElem?_toArray, List.getElem?_cons_zero, List.getElem?_cons_succ] <;> rfl) (by decide +kernel) (by decide +kernel) (by kernel_rfl) (by rfl) (by exact fun _ _ _ _ h => h) (Nat.le_refl _) ?_; simp only [Act.put, Act.eval, List.setIfInBounds_toArray, List.set_cons_zero, List.set_cons_succ, Array.getD_eq_getD_getElem?, List.getElem?_toArray, List.getElem?_cons_zero, List.getElem?_cons_succ, Option.getD_some]) | (refine wpG_skip 7 (by simp only [List.getElem?_toArray, List.getElem?_cons_zero, List.getElem?_cons_succ] <;> rfl) (by decide +kernel) (by decide +kernel) (by kernel_rfl) (by rfl) (by exact fun _ _ _ _ h => h) (Nat.le_refl _) ?_; simp only [Act.put, Act.eval, List.setIfInBounds_toArray, List.set_cons_zero, List.set_cons_succ, Array.getD_eq_getD_getElem?, List.getElem?_toArray, List.getElem?_cons_zero, List.getElem?_cons_succ, Option.getD_some]) | (refine wpG_skip 8 (by simp only [List.getElem?_toArray, List.getElem?_cons_zero, List.getElem?_cons_succ] <;> rfl) (by decide +kernel) (by decide +kernel) (by kernel_rfl) (by rfl) (by exact fun _ _ _ _ h => h) (Nat.le_refl _) ?_; simp only [Act.put, Act.eval, List.setIfInBounds_toArray, List.set_cons_zero, List.set_cons_succ, Array.getD_eq_getD_getElem?, List.getElem?_toArray, List.getElem?_cons_zero, List.getElem?_cons_succ, Option.getD_some]) | (refine wpG_skip 9 (by simp only [List.getElem?_toArray, List.getElem?_cons_zero, List.getElem?_cons_succ] <;> rfl) (by decide +kernel) (by decide +kernel) (by kernel_rfl) (by rfl) (by exact fun _ _ _ _ h => h) (Nat.le_refl _) ?_; simp only [Act.put, Act.eval, List.setIfInBounds_toArray, List.set_cons_zero, List.set_cons_succ, Array.getD_eq_getD_getElem?, List.getElem?_toArray, List.getElem?_cons_zero, List.getElem?_cons_succ, Option.getD_some]) | (refine wpG_skip 10 (by simp only [List.getElem?_toArray, List.getElem?_cons_zero, List.getElem?_cons_succ] <;> rfl) (by decide +kernel) (by decide +kernel) (by kernel_rfl) (by rfl) (by exact fun _ _ _ _ h => h) (Nat.le_refl _) ?_; simp only [Act.put, Act.eval, List.setIfInBounds_toArray, List.set_cons_zero, List.set_cons_succ, Array.getD_eq_getD_getElem?, List.getElem?_toArray, List.getElem?_cons_zero, List.getElem?_cons_succ, Option.getD_some]) | (refine wpG_skip 11 (by simp only [List.getElem?_toArray, List.getElem?_cons_zero, List.getElem?_cons_succ] <;> rfl) (by decide +kernel) (by decide +kernel) (by kernel_rfl) (by rfl) (by exact fun _ _ _ _ h => h) (Nat.le_refl _) ?_; simp only [Act.put, Act.eval, List.setIfInBounds_toArray, List.set_cons_zero, List.set_cons_succ, Array.getD_eq_getD_getElem?, List.getElem?_toArray, List.getElem?_cons_zero, List.getElem?_cons_succ, Option.getD_some]) | (refine wpG_skip 12 (by simp only [List.getElem?_toArray, List.getElem?_cons_zero, List.getElem?_cons_succ] <;> rfl) (by decide +kernel) (by decide +kernel) (by kernel_rfl) (by rfl) (by exact fun _ _ _ _ h => h) (Nat.le_refl _) ?_; simp only [Act.put, Act.eval, List.setIfInBounds_toArray, List.set_cons_zero, List.set_cons_succ, Array.getD_eq_getD_getElem?, List.getElem?_toArray, List.getElem?_cons_zero, List.getElem?_cons_succ, Option.getD_some])))
        clear cR5 bR5 hwr1 hwr2
        (refine wpG_one 13 (by decide +kernel) ?_; intro w6 hw6; refine op_wanted (by simp only [List.getElem?_toArray, List.getElem?_cons_zero, List.getElem?_cons_succ] <;> rfl) rfl ?_)
        go_simp
        refine ⟨Below.alloc (Below.refl _ _) hw6.size _, ?_⟩
        have hw7 := hw6.alloc (.cells #[.int .i64 0, .int .i64 0, .int .i64 0, .int .i64 0, .int .i64 0, .int .i64 0] 43)
        have by6 := Box.new w6 #[.int .i64 0, .int .i64 0, .int .i64 0, .int .i64 0, .int .i64 0, .int .i64 0] 43
        have hz6 : w5.heap.size ≤ w6.heap.size := hw6.size
        clear hw6
        generalize w6.alloc (.cells #[.int .i64 0, .int .i64 0, .int .i64 0, .int .i64 0, .int .i64 0, .int .i64 0] 43) = w7 at *
        generalize w6.heap.size = B12 at *
        (refine wpG_one 14 (by decide +kernel) ?_; intro w8 hw8; refine op_wanted (by simp only [List.getElem?_toArray, List.getElem?_cons_zero, List.getElem?_cons_succ] <;> rfl) rfl ?_)
        refine wp_storeB ty28 _ _ rfl rfl rfl rfl (hw8.box by6) rfl (clk_all (tickC (tks c (l.reverse.take i)) t2)) ⟨below_setRow' (Below.refl _ _) _ _ hz6, ?_⟩
        have by8 := (hw8.box by6).setRow (clk (tickC (tks c (l.reverse.take i)) t2))
        have hN8 : Bel w5 _ := below_setRow' (hw7.trans hw8).out B12 (clk (tickC (tks c (l.reverse.take i)) t2)) hz6
        clear by6 hw7 hw8
        generalize w8.setRow B12 (clk (tickC (tks c (l.reverse.take i)) t2)) = w9 at *
        have hN9 := hN8.size
        (repeat (first | (refine wpG_go 15 (by simp only [List.getElem?_toArray, List.getElem?_cons_zero, List.getElem?_cons_succ] <;> rfl) (by decide +kernel) (by decide +kernel) (by kernel_rfl) (by rfl) (by exact fun _ _ _ _ h => h) hN9 ?_; apply Exists.intro; refine ⟨fun w1 h1 => ?_, ?_⟩; (first | exact g_move _ rfl | exact g_assign _ rfl | (go_simp; first | exact ⟨rfl, rfl⟩ | rfl)); simp only [Act.put, Act.eval, List.setIfInBounds_toArray, List.set_cons_zero, List.set_cons_succ, Array.getD_eq_getD_getElem?, List.getElem?_toArray, List.getElem?_cons_zero, List.getElem?_cons_succ, Option.getD_some]) | (refine wpG_skip 15 (by simp only [List.getElem?_toArray, List.getElem?_cons_zero, List.getElem?_cons_succ] <;> rfl) (by decide +kernel) (by decide +kernel) (by kernel_rfl) (by rfl) (by exact fun _ _ _ _ h => h) hN9 ?_; simp only [Act.put, Act.eval, List.setIfInBounds_toArray, List.set_cons_zero, List.set_cons_succ, Array.getD_eq_getD_getElem?, List.getElem?_toArray, List.getElem?_cons_zero, List.getElem?_cons_succ, Option.getD_some])))
        (refine wpG_done (by decide +kernel) ?_ _; intro wd hwd; try simp only [Act.put, Act.eval, List.setIfInBounds_toArray, List.set_cons_zero, List.set_cons_succ, Array.getD_eq_getD_getElem?, List.getElem?_toArray, List.getElem?_cons_zero, List.getElem?_cons_succ, Option.getD_some])
        have hxB := (hN8.trans hwd).box bx3
        have hyB := hwd.box by8
        have haB := (hN8.trans hwd).box ba5
        have hbB := (hN8.trans hwd).box bb5
        have HD := Lib.hid (HBEL.out.trans (hw5.trans (hN8.trans hwd)))
        have n1 : B5 ≠ B6 := h56
        have n2 : B12 ≠ B5 := by have := hw5.size; omega
        have n3 : B12 ≠ B6 := by have := hw5.size; omega
        have n4 : B5 ≠ B12 := Ne.symm n2
        have n5 : B6 ≠ B5 := Ne.symm h56
        clear by8 hN8 hN9 hwd bx3 ba5 bb5 hw5 hba hbb
        have HA := Lib.hid (show tks c (l.take (i + 1)) = tk (tks c (l.take i)) t1 by rw [HTK.out, tks_snoc])
        have HBk := Lib.hid (show tks c (l.reverse.take (i + 1)) = tk (tks c (l.reverse.take i)) t2 by rw [HTR.out, HRV.out, tks_snoc])
        have hg0 := gain_pos (tks c (l.take i)) c (fun j => tks_ge _ _ j) 6
        have hg1 := HR.out.few
        cases he1 : (tickE (tks c (l.take i)) t1 == 0)
        all_goals cases he2 : (tickE (tks c (l.reverse.take i)) t2 == 0)
        · have HN1 := Lib.hid (tick_no he1)
          have HN2 := Lib.hid (tick_no he2)
          go_wp2
          go_roundw
          case rel => exact ⟨i + 1, by omega, by go_num, by rw [HA.out, HN1.out], KRel.mk (by rw [HA.out, HN1.out]; exact haB) (by rw [HBk.out, HN2.out]; exact hbB) HD.out (by rw [HA.out, HN1.out]; omega)⟩
          case measure => simp [intOf]; omega
        · have HN1 := Lib.hid (tick_no he1)
          have HY2 := Lib.hid (tick_yes he2)
          go_wp2_with (first | (refine loadT ty28 _ rfl rfl rfl hyB rfl ?_) | (refine storeT ty28 _ _ rfl rfl rfl rfl rfl hbB rfl (clk_all _) ?_))
          go_roundw
          case rel => exact ⟨i + 1, by omega, by go_num, by rw [HA.out, HN1.out], KRel.mk (by rw [HA.out, HN1.out]; exact haB.setRow_ne _ _ n1) (by rw [HBk.out, ← HY2.out.1]; exact hbB.setRow _) (below_setRow' HD.out.out _ _ h6) (by rw [HA.out, HN1.out]; omega)⟩
          case measure => simp [intOf]; omega
        · have HY1 := Lib.hid (tick_yes he1)
          have HN2 := Lib.hid (tick_no he2)
          have HFe := Lib.hid (few_yes HR.out.few HTK.out HY1.out.2)
          go_wp2_with (first | (refine loadT ty28 _ rfl rfl rfl hxB rfl ?_) | (refine storeT ty28 _ _ rfl rfl rfl rfl rfl haB rfl (clk_all _) ?_))
          go_roundw
          case rel => exact ⟨i + 1, by omega, by go_num, by rw [HFe.out.1], KRel.mk (by rw [HA.out, ← HY1.out.1]; exact haB.setRow _) (by rw [HBk.out, HN2.out]; exact hbB.setRow_ne _ _ n5) (below_setRow' HD.out.out _ _ h5) HFe.out.2⟩
          case measure => simp [intOf]; omega
        · have HY1 := Lib.hid (tick_yes he1)
          have HY2 := Lib.hid (tick_yes he2)
          have HFe := Lib.hid (few_yes HR.out.few HTK.out HY1.out.2)
          have hyB2 := hyB.setRow_ne B5 (clk (tickC (tks c (l.take i)) t1)) n2
          have hbB2 := hbB.setRow_ne B5 (clk (tickC (tks c (l.take i)) t1)) n5
          go_wp2_with (first | (refine loadT ty28 _ rfl rfl rfl hxB rfl ?_) | (refine storeT ty28 _ _ rfl rfl rfl rfl rfl haB rfl (clk_all _) ?_) | (refine loadT ty28 _ rfl rfl rfl hyB2 rfl ?_) | (refine storeT ty28 _ _ rfl rfl rfl rfl rfl hbB2 rfl (clk_all _) ?_))
          go_roundw
          case rel => exact ⟨i + 1, by omega, by go_num, by rw [HFe.out.1], KRel.mk (by rw [HA.out, ← HY1.out.1]; exact (haB.setRow _).setRow_ne _ _ n1) (by rw [HBk.out, ← HY2.out.1]; exact hbB2.setRow _) (below_setRow' (below_setRow' HD.out.out _ _ h5) _ _ h6) HFe.out.2⟩
          case measure => simp [intOf]; omega
      · obtain rfl : i = n := by omega
        have HL := Lib.hid HS.out.1
        have hta : l.take i = l := by rw [← HL.out, List.take_length]
        have htr : l.reverse.take i = l.reverse := by rw [← HL.out, ← List.length_reverse, List.take_length]
        have hba := HR.out.a
        have hbb := HR.out.b
        have hfew := HR.out.few
        have HBEL := Lib.hid HR.out.bel
        rw [hta] at hba hfew
        rw [htr] at hbb
        have hcb := HBEL.out.box HX.out
        rw [hta]
        have hge := tks_ge l c
        have HG := Lib.hid hge
        have HE := Lib.hid (show ∀ w, (binOp .eql 43 (.agg (clk (tks c l))) (.agg (clk (tks c l.reverse)))).run Try.prog w = .ok (.bool true) w from fun w => by rw [eqlC, (eqc_iff _ _).2 fun k hk => (tks_reverse l c k hk).symm])
        have HOK := Lib.hid (tks_ok HK.out l)
        clear hge hta htr
        generalize tks c l.reverse = Bc at *
        generalize tks c l = Ac at *
        go_wp2_with (refine loadT ty28 _ rfl rfl rfl hba rfl ?_)
        go_loop [14, 57] (fun u t => ∃ k : Nat, k ≤ 6 ∧ t = .int .i64 k ∧ u = .int .i64 (gain Ac c k)) (fun _ t => 6 - (intOf t).toNat)
        case atStart => exact ⟨0, by omega, rfl, rfl⟩
        case round =>
          obtain ⟨k, hk, rfl, rfl⟩ := hrel
          by_cases hk6 : k < 6
          · have hkI : (k : Int) < 6 := by omega
            have HI := index_clk Try.underlying43 Try.underlying3 (by kernel_rfl) Ac k hk6
            have cc := hcb.cell k (clk_get c k hk6)
            have e1 : gain Ac c (k + 1) = gain Ac c k + (Ac k - c k) := rfl
            have e2 := gain_six Ac c HG.out (k + 1) (by omega)
            have e3 := gain_pos Ac c HG.out k
            have e4 := HG.out k
            have e5 : Ac k - c k ≤ 9223372036854775807 := by omega
            have e6 : gain Ac c k + (Ac k - c k) ≤ i := by omega
            have HE1 := Lib.hid e1
            clear e1
            go_wp2
            go_round
            case rel => exact ⟨k + 1, by omega, by go_num, by rw [HE1.out]⟩
            case measure => simp [intOf]; omega
          · obtain rfl : k = 6 := by omega
            have E := HE.out
            go_wp2_with (first | (refine loadT ty28 _ rfl rfl rfl hba rfl ?_) | (refine loadT ty28 _ rfl rfl rfl hbb rfl ?_))
            go_ret
            exact ⟨ret_val (by simp), HT.out _ HBEL.out⟩

set_option maxRecDepth 100000 in
theorem lifted (os : Os) (started : os.Started) (H : Type) (enc : TypeId × Value → H) :
    ReturnsInHanded {} Try.checked os 12 .any (Rows.clockCountsSpec.pre6 enc Try.prog Try.f12 Rows.clockCountsRow.domain false) (Rows.clockCountsSpec.post enc Try.prog Try.f12 false true false false) := by
  refine returnsInHanded_of_change_sized (C := Try.checked) own started (by kernel_rfl) Try.func12
    (ChangeSpec.witness6 (enc := enc) (C := Try.checked) false ⟨#[], #[.agg #[.int .i64 0, .int .i64 0, .int .i64 0, .int .i64 0, .int .i64 0, .int .i64 0], .slice none 0 0], []⟩ 8 (by kernel_rfl) (by kernel_rfl) (by kernel_rfl) (by kernel_rfl)) ?_
  intro W base args ds gs before hval0 hW hcnd hsz0 _
  have hsz : (DataW.weightsEach Try.prog (Try.f12.params.toList ++ Rows.clockCountsSpec.plain.varTypes Try.prog) (ds ++ gs)).all (· ≤ reachBytes) = true := hsz0
  clear hsz0
  have hval : ∀ (j : Nat) t v, Try.f12.params[j]? = some t → args[j]? = some v → Value.okWide Try.prog W .any base t v := hval0
  have hW' := hW
  obtain ⟨p, q, hA0, hV, rfl, hfz, hnd⟩ := hW
  have hA : DataW.TrodAll enc Try.prog W 0 (fun _ => true) true Try.f12.params.toList args.toList ds p := hA0
  rw [Try.params12] at hA hval hsz
  obtain ⟨v0, vs0, d0, ds0, p0, q0, hargs, rfl, rfl, h0, r0⟩ := trodAll_cons hA
  obtain ⟨v1, vs1, d1, ds1, p1, q1, rfl, rfl, rfl, h1, r1⟩ := trodAll_cons r0
  obtain ⟨rfl, rfl, rfl⟩ := trodAll_nil r1
  obtain rfl : args = #[v0, v1] := by cases args; simp_all
  obtain ⟨rfl, rfl⟩ := trodVars_none hV
  have t0 := h0
  have lt0 : ∀ x ∈ p0, x.block < W.heap.size := by obtain ⟨m, hm⟩ := t0; exact DataW.trod_lt m _ _ _ hm
  have t1 := h1
  have lt1 : ∀ x ∈ p1, x.block < W.heap.size := by obtain ⟨m, hm⟩ := t1; exact DataW.trod_lt m _ _ _ hm
  obtain ⟨a0, rfl, k0⟩ := open_clk Try.underlying43 Try.underlying3 (by kernel_rfl) (by kernel_rfl) (hval 0 43 v0 rfl rfl) h0
  obtain ⟨A1, n1, c1, l1, rfl, s1, m1, x1, g1⟩ := open_ints_arg Try.underlying32 Try.underlying3 (by kernel_rfl) (hval 1 32 v1 rfl rfl) h1
  clear hA0 hval0
  refine (walk W a0 k0 A1 n1 c1 l1 s1 m1 x1 g1).mono fun e W' ⟨he, bel⟩ => ?_
  subst he
  exact ⟨_, rfl, _, _, _, [], _, [], hW', trodAll_mk1 (shut_bool Try.underlying4 _), (trodAll_cons_mk (Below.trod laidOut (by kernel_rfl) (of_decide_eq_true (by kernel_rfl)) t0 bel lt0) (trodAll_cons_mk (Below.trod laidOut (by kernel_rfl) (of_decide_eq_true (by kernel_rfl)) t1 bel lt1) trodAll_mk0)), rfl, bel.frame _, fun h => by cases h⟩

theorem over : Rows.clockCountsRow.holds Try.pinned (OpenSpec.ofChange Rows.clockCountsSpec) :=
  OpenClaim.holds_of_wide 12 Try.f12 rfl rfl rfl rfl rfl rfl rfl ⟨rfl, rfl, rfl, rfl, rfl⟩ rfl rfl rfl rfl rfl (by kernel_rfl) Try.func12 (by kernel_rfl)
    (of_decide_eq_true (by kernel_rfl)) (by unfold Func.isWrapper; first | (rw [if_pos (by decide +kernel)]; kernel_rfl) | (rw [if_neg (by decide +kernel)]; exact ⟨rfl, rfl⟩))
    (fun os started H enc _ => lifted os started H enc)

theorem proved : Rows.ClockCountsSaid := over
#print axioms proved
end Go.Proofs.Ytioejkjbokcppaa.LClockCounts

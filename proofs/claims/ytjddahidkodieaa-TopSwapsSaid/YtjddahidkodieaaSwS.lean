/- The package swap: Swap. -/
import Derived.Test.YtjddahidkodieaaSwT
import Derived.Test.YtjddahidkodieaaSwR
set_option linter.all false
set_option maxRecDepth 100000
namespace Go.Proofs.Ytjddahidkodieaa
open Go Go.RowKit

theorem swAt_mk {l : List Ev} {k : Nat} {a b : Ev} (ha : l[k]? = some a) (hb : l[k + 1]? = some b) (hd : dep a b = false) : SwAt k l (l.take k ++ b :: a :: l.drop (k + 2)) := by
  have h1 : l = l.take k ++ a :: b :: l.drop (k + 2) := by
    have e1 := split_at ha
    obtain ⟨g1, g2⟩ := List.getElem?_eq_some_iff.1 hb
    have e2 : l.drop (k + 1) = b :: l.drop (k + 2) := by rw [← g2, List.getElem_cons_drop]
    rw [e2] at e1
    exact e1
  exact ⟨l.take k, a, b, l.drop (k + 2), by rw [List.length_take]; have := (List.getElem?_eq_some_iff.1 ha).1; omega, h1, rfl, hd⟩
theorem evs_nil (w w' : World) (c : Int) (h : Below w.heap.size w w') : EvsPost w [] c (.returned (.tuple #[.slice none 0 0, .int .i64 c])) w' :=
  ⟨none, 0, 0, rfl, ⟨rfl, fun h => absurd h (Nat.lt_irrefl 0)⟩, Nat.le_refl _, Nat.zero_le _, h⟩
set_option maxHeartbeats 16000000 in
theorem swap_any : SwapC := by
  intro A n c l i w hl hnc hcm hi64
  have HA := apart_any
  unfold ApartC at HA
  have HL := Lib.hid hl
  have HMX := Lib.hid (And.intro hnc hcm)
  have xx : c ≤ 9223372036854775807 := by unfold maxLen at hcm; omega
  have HML := Lib.hid (show (check l).2 = may l from rfl)
  have HWA := Lib.hid HA
  clear hl hnc hcm HA
  go_enter Try.func12, Try.ntmps12
  go_wp2_with fail
  refine (check_any A n c l _ HL.out).mono ?_
  rintro e1 w1 ⟨rfl, hb1⟩
  rw [HML.out]
  have HW1 := Lib.hid (Bel.of hb1)
  clear hb1
  cases h1 : (may l != 0)
  · have hm : may l = 0 := by simpa using h1
    have HM := Lib.hid hm
    have hn80 : n ≤ 80 := by rw [← HL.out.1]; exact ((may_iff l).1 hm).1
    have hwn : IntKind.i64.wrap ((n : Int) - 1) = (n : Int) - 1 := IntWalk.i64_in _ (by omega)
    clear hm
    by_cases h0 : i < 0
    · have HI := Lib.hid h0
      go_wp2
      go_ret2
      exact ⟨[], 1, .inr (.inl ⟨HM.out, .inl HI.out, rfl, rfl⟩), evs_nil _ _ _ HW1.out.out⟩
    · by_cases h2 : (n : Int) - 1 ≤ i
      · have HI := Lib.hid h2
        have h2d : decide ((n : Int) - 1 ≤ i) = true := decide_eq_true h2
        go_wp2
        go_ret2
        exact ⟨[], 1, .inr (.inl ⟨HM.out, .inr (by have := HI.out; have := HL.out.1; omega), rfl, rfl⟩), evs_nil _ _ _ HW1.out.out⟩
      · obtain ⟨k, rfl⟩ : ∃ k : Nat, i = k := ⟨i.toNat, by omega⟩
        have hw3 : IntKind.i64.wrap ((k : Int) + 1) = (k : Int) + 1 := IntWalk.i64_in _ (by omega)
        have h5 : ¬ (k : Int) < 0 := by omega
        have h7 : (k : Int) < n := by omega
        have h8 : (k : Int) + 1 < n := by omega
        have hn1 : 1 ≤ n := by omega
        have h2d : decide ((n : Int) - 1 ≤ (k : Int)) = false := decide_eq_false h2
        have h90 : (0 : Int) ≤ (k : Int) + 1 := by omega
        obtain ⟨b, o, ea, rfl, g1, he, r1⟩ := (HL.out.bel HW1.out.out).at_ (show k < n by omega)
        obtain ⟨b', o', eb, e9, g2, hf, r2⟩ := (HL.out.bel HW1.out.out).at_ (show k + 1 < n by omega)
        cases e9
        have R1 := Lib.hid (fun (w' : World) (h : Bel w1 w') => rangeAt_below h.out g1 r1)
        have R2 := Lib.hid (fun (w' : World) (h : Bel w1 w') => rangeAt_below h.out g2 r2)
        have HE1 := Lib.hid he
        have HE2 := Lib.hid hf
        have HG1 := Lib.hid g1
        have HRB := HWA.out ea eb
        clear r1 r2 g1 g2 he hf h0 h2
        cases hd : dep ea eb
        · rw [hd] at HRB
          have HRC := Lib.hid HRB
          have HD := Lib.hid hd
          clear HRB hd
          go_wp2
          (refine region_bel (by kernel_rfl) (by kernel_rfl) ?_; (repeat (first | ((with_reducible refine BigFrame.wpQuiet_skip ?_ ?_); exact rfl; simp only [Act.put, Act.eval, List.setIfInBounds_toArray, List.set_cons_zero, List.set_cons_succ, Array.getD_eq_getD_getElem?, List.getElem?_toArray, List.getElem?_cons_zero, List.getElem?_cons_succ, Option.getD_some]) | (refine q_move _ rfl rfl ?_; simp only [Act.put, Act.eval, List.setIfInBounds_toArray, List.set_cons_zero, List.set_cons_succ, Array.getD_eq_getD_getElem?, List.getElem?_toArray, List.getElem?_cons_zero, List.getElem?_cons_succ, Option.getD_some]) | (refine q_assign _ rfl rfl ?_; simp only [Act.put, Act.eval, List.setIfInBounds_toArray, List.set_cons_zero, List.set_cons_succ, Array.getD_eq_getD_getElem?, List.getElem?_toArray, List.getElem?_cons_zero, List.getElem?_cons_succ, Option.getD_some]) | (refine q_load_mid _ _ rfl rfl rfl R1.out T36 (evv ea) rfl ?_; simp only [Act.put, Act.eval, List.setIfInBounds_toArray, List.set_cons_zero, List.set_cons_succ, Array.getD_eq_getD_getElem?, List.getElem?_toArray, List.getElem?_cons_zero, List.getElem?_cons_succ, Option.getD_some]) | (refine q_load_mid _ _ rfl rfl rfl R2.out T36 (evv eb) rfl ?_; simp only [Act.put, Act.eval, List.setIfInBounds_toArray, List.set_cons_zero, List.set_cons_succ, Array.getD_eq_getD_getElem?, List.getElem?_toArray, List.getElem?_cons_zero, List.getElem?_cons_succ, Option.getD_some]) | (refine q_any rfl ?_; apply Exists.intro; refine ⟨fun w hw => ?_, ?_⟩; (go_simp; first | exact ⟨rfl, rfl⟩ | rfl | (go_at_call 32; (with_reducible refine (HRC.out _).mono ?_); rintro e w' ⟨rfl, hb⟩; exact ⟨rfl, hw.call hb⟩)); simp only [Act.put, Act.eval, List.setIfInBounds_toArray, List.set_cons_zero, List.set_cons_succ, Array.getD_eq_getD_getElem?, List.getElem?_toArray, List.getElem?_cons_zero, List.getElem?_cons_succ, Option.getD_some]))); refine wpQuiet_nil ?_; intro w2 hw2)
          have HB2 := Lib.hid hw2
          clear hw2
          go_wp2_with fail
          refine (clone_any (some ⟨b, o, none⟩) n c l _ (HL.out.bel (HW1.out.trans HB2.out).out) (by omega)).mono ?_
          rintro e8 w8 ⟨v8, rfl, ho8, hb8⟩
          obtain ⟨g, cap, cur, rfl, hg, hcap, hcm, hbox, hrow⟩ := own_rows ho8 (by omega)
          have HW8 := Lib.hid ((HW1.out.trans HB2.out).call hb8)
          have HB8 := Lib.hid (HB2.out.call hb8)
          have HBX := Lib.hid hbox
          have HRW := Lib.hid hrow
          have hGL := Lib.hid (Box.lt hbox)
          have hkc : (k : Int) ≤ cap := by omega
          have HGE := Lib.hid hg
          have HBG := Lib.hid (show b < g from Nat.lt_of_lt_of_le HG1.out (Nat.le_trans HB2.out.size hg))
          have RA := Lib.hid (R1.out _ HB8.out)
          have RB := Lib.hid (R2.out _ HB8.out)
          have HAT := Lib.hid (swAt_mk HE1.out HE2.out HD.out)
          clear ho8 hb8 hbox hrow hg
          go_wp2
          refine region_growN g (by kernel_rfl) ?_
          have FA := fun (w1 : World) (h1 : Below g w8 w1) => rangeAt_below h1 HBG.out RA.out
          have FB := fun (w1 : World) (h1 : Below g w8 w1) => rangeAt_below h1 HBG.out RB.out
          (repeat (first | ((first | refine wpG_go 0 (by simp only [List.getElem?_toArray, List.getElem?_cons_zero, List.getElem?_cons_succ] <;> rfl) (by decide +kernel) (by decide +kernel) (by kernel_rfl) (by rfl) (by exact fun _ _ _ _ h => h) (Nat.le_of_lt hGL.out) ?_ | refine wpG_go 1 (by simp only [List.getElem?_toArray, List.getElem?_cons_zero, List.getElem?_cons_succ] <;> rfl) (by decide +kernel) (by decide +kernel) (by kernel_rfl) (by rfl) (by exact fun _ _ _ _ h => h) (Nat.le_of_lt hGL.out) ?_ | refine wpG_go 2 (by simp only [List.getElem?_toArray, List.getElem?_cons_zero, List.getElem?_cons_succ] <;> rfl) (by decide +kernel) (by decide +kernel) (by kernel_rfl) (by rfl) (by exact fun _ _ _ _ h => h) (Nat.le_of_lt hGL.out) ?_ | refine wpG_go 3 (by simp only [List.getElem?_toArray, List.getElem?_cons_zero, List.getElem?_cons_succ] <;> rfl) (by decide +kernel) (by decide +kernel) (by kernel_rfl) (by rfl) (by exact fun _ _ _ _ h => h) (Nat.le_of_lt hGL.out) ?_ | refine wpG_go 4 (by simp only [List.getElem?_toArray, List.getElem?_cons_zero, List.getElem?_cons_succ] <;> rfl) (by decide +kernel) (by decide +kernel) (by kernel_rfl) (by rfl) (by exact fun _ _ _ _ h => h) (Nat.le_of_lt hGL.out) ?_ | refine wpG_go 5 (by simp only [List.getElem?_toArray, List.getElem?_cons_zero, List.getElem?_cons_succ] <;> rfl) (by decide +kernel) (by decide +kernel) (by kernel_rfl) (by rfl) (by exact fun _ _ _ _ h => h) (Nat.le_of_lt hGL.out) ?_ | refine wpG_go 6 (by simp only [List.getElem?_toArray, List.getElem?_cons_zero, List.getElem?_cons_succ] <;> rfl) (by decide +kernel) (by decide +kernel) (by kernel_rfl) (by rfl) (by exact fun _ _ _ _ h => h) (Nat.le_of_lt hGL.out) ?_ | refine wpG_go 7 (by simp only [List.getElem?_toArray, List.getElem?_cons_zero, List.getElem?_cons_succ] <;> rfl) (by decide +kernel) (by decide +kernel) (by kernel_rfl) (by rfl) (by exact fun _ _ _ _ h => h) (Nat.le_of_lt hGL.out) ?_ | refine wpG_go 8 (by simp only [List.getElem?_toArray, List.getElem?_cons_zero, List.getElem?_cons_succ] <;> rfl) (by decide +kernel) (by decide +kernel) (by kernel_rfl) (by rfl) (by exact fun _ _ _ _ h => h) (Nat.le_of_lt hGL.out) ?_ | refine wpG_go 9 (by simp only [List.getElem?_toArray, List.getElem?_cons_zero, List.getElem?_cons_succ] <;> rfl) (by decide +kernel) (by decide +kernel) (by kernel_rfl) (by rfl) (by exact fun _ _ _ _ h => h) (Nat.le_of_lt hGL.out) ?_ | refine wpG_go 10 (by simp only [List.getElem?_toArray, List.getElem?_cons_zero, List.getElem?_cons_succ] <;> rfl) (by decide +kernel) (by decide +kernel) (by kernel_rfl) (by rfl) (by exact fun _ _ _ _ h => h) (Nat.le_of_lt hGL.out) ?_ | refine wpG_go 11 (by simp only [List.getElem?_toArray, List.getElem?_cons_zero, List.getElem?_cons_succ] <;> rfl) (by decide +kernel) (by decide +kernel) (by kernel_rfl) (by rfl) (by exact fun _ _ _ _ h => h) (Nat.le_of_lt hGL.out) ?_ | refine wpG_go 12 (by simp only [List.getElem?_toArray, List.getElem?_cons_zero, List.getElem?_cons_succ] <;> rfl) (by decide +kernel) (by decide +kernel) (by kernel_rfl) (by rfl) (by exact fun _ _ _ _ h => h) (Nat.le_of_lt hGL.out) ?_ | refine wpG_go 13 (by simp only [List.getElem?_toArray, List.getElem?_cons_zero, List.getElem?_cons_succ] <;> rfl) (by decide +kernel) (by decide +kernel) (by kernel_rfl) (by rfl) (by exact fun _ _ _ _ h => h) (Nat.le_of_lt hGL.out) ?_ | refine wpG_go 14 (by simp only [List.getElem?_toArray, List.getElem?_cons_zero, List.getElem?_cons_succ] <;> rfl) (by decide +kernel) (by decide +kernel) (by kernel_rfl) (by rfl) (by exact fun _ _ _ _ h => h) (Nat.le_of_lt hGL.out) ?_ | refine wpG_go 16 (by simp only [List.getElem?_toArray, List.getElem?_cons_zero, List.getElem?_cons_succ] <;> rfl) (by decide +kernel) (by decide +kernel) (by kernel_rfl) (by rfl) (by exact fun _ _ _ _ h => h) (Nat.le_of_lt hGL.out) ?_); apply Exists.intro; refine ⟨fun w1 h1 => ?_, ?_⟩; (first | exact g_move _ rfl | exact g_assign _ rfl | exact g_load_mid _ _ rfl rfl (FA w1 h1) T36 (evv ea) rfl | exact g_load_mid _ _ rfl rfl (FB w1 h1) T36 (evv eb) rfl | (go_simp; first | exact ⟨rfl, rfl⟩ | rfl)); simp only [Act.put, Act.eval, List.setIfInBounds_toArray, List.set_cons_zero, List.set_cons_succ, Array.getD_eq_getD_getElem?, List.getElem?_toArray, List.getElem?_cons_zero, List.getElem?_cons_succ, Option.getD_some]) | ((first | refine wpG_skip 0 (by simp only [List.getElem?_toArray, List.getElem?_cons_zero, List.getElem?_cons_succ] <;> rfl) (by decide +kernel) (by decide +kernel) (by kernel_rfl) (by rfl) (by exact fun _ _ _ _ h => h) (Nat.le_of_lt hGL.out) ?_ | refine wpG_skip 1 (by simp only [List.getElem?_toArray, List.getElem?_cons_zero, List.getElem?_cons_succ] <;> rfl) (by decide +kernel) (by decide +kernel) (by kernel_rfl) (by rfl) (by exact fun _ _ _ _ h => h) (Nat.le_of_lt hGL.out) ?_ | refine wpG_skip 2 (by simp only [List.getElem?_toArray, List.getElem?_cons_zero, List.getElem?_cons_succ] <;> rfl) (by decide +kernel) (by decide +kernel) (by kernel_rfl) (by rfl) (by exact fun _ _ _ _ h => h) (Nat.le_of_lt hGL.out) ?_ | refine wpG_skip 3 (by simp only [List.getElem?_toArray, List.getElem?_cons_zero, List.getElem?_cons_succ] <;> rfl) (by decide +kernel) (by decide +kernel) (by kernel_rfl) (by rfl) (by exact fun _ _ _ _ h => h) (Nat.le_of_lt hGL.out) ?_ | refine wpG_skip 4 (by simp only [List.getElem?_toArray, List.getElem?_cons_zero, List.getElem?_cons_succ] <;> rfl) (by decide +kernel) (by decide +kernel) (by kernel_rfl) (by rfl) (by exact fun _ _ _ _ h => h) (Nat.le_of_lt hGL.out) ?_ | refine wpG_skip 5 (by simp only [List.getElem?_toArray, List.getElem?_cons_zero, List.getElem?_cons_succ] <;> rfl) (by decide +kernel) (by decide +kernel) (by kernel_rfl) (by rfl) (by exact fun _ _ _ _ h => h) (Nat.le_of_lt hGL.out) ?_ | refine wpG_skip 6 (by simp only [List.getElem?_toArray, List.getElem?_cons_zero, List.getElem?_cons_succ] <;> rfl) (by decide +kernel) (by decide +kernel) (by kernel_rfl) (by rfl) (by exact fun _ _ _ _ h => h) (Nat.le_of_lt hGL.out) ?_ | refine wpG_skip 7 (by simp only [List.getElem?_toArray, List.getElem?_cons_zero, List.getElem?_cons_succ] <;> rfl) (by decide +kernel) (by decide +kernel) (by kernel_rfl) (by rfl) (by exact fun _ _ _ _ h => h) (Nat.le_of_lt hGL.out) ?_ | refine wpG_skip 8 (by simp only [List.getElem?_toArray, List.getElem?_cons_zero, List.getElem?_cons_succ] <;> rfl) (by decide +kernel) (by decide +kernel) (by kernel_rfl) (by rfl) (by exact fun _ _ _ _ h => h) (Nat.le_of_lt hGL.out) ?_ | refine wpG_skip 9 (by simp only [List.getElem?_toArray, List.getElem?_cons_zero, List.getElem?_cons_succ] <;> rfl) (by decide +kernel) (by decide +kernel) (by kernel_rfl) (by rfl) (by exact fun _ _ _ _ h => h) (Nat.le_of_lt hGL.out) ?_ | refine wpG_skip 10 (by simp only [List.getElem?_toArray, List.getElem?_cons_zero, List.getElem?_cons_succ] <;> rfl) (by decide +kernel) (by decide +kernel) (by kernel_rfl) (by rfl) (by exact fun _ _ _ _ h => h) (Nat.le_of_lt hGL.out) ?_ | refine wpG_skip 11 (by simp only [List.getElem?_toArray, List.getElem?_cons_zero, List.getElem?_cons_succ] <;> rfl) (by decide +kernel) (by decide +kernel) (by kernel_rfl) (by rfl) (by exact fun _ _ _ _ h => h) (Nat.le_of_lt hGL.out) ?_ | refine wpG_skip 12 (by simp only [List.getElem?_toArray, List.getElem?_cons_zero, List.getElem?_cons_succ] <;> rfl) (by decide +kernel) (by decide +kernel) (by kernel_rfl) (by rfl) (by exact fun _ _ _ _ h => h) (Nat.le_of_lt hGL.out) ?_ | refine wpG_skip 13 (by simp only [List.getElem?_toArray, List.getElem?_cons_zero, List.getElem?_cons_succ] <;> rfl) (by decide +kernel) (by decide +kernel) (by kernel_rfl) (by rfl) (by exact fun _ _ _ _ h => h) (Nat.le_of_lt hGL.out) ?_ | refine wpG_skip 14 (by simp only [List.getElem?_toArray, List.getElem?_cons_zero, List.getElem?_cons_succ] <;> rfl) (by decide +kernel) (by decide +kernel) (by kernel_rfl) (by rfl) (by exact fun _ _ _ _ h => h) (Nat.le_of_lt hGL.out) ?_ | refine wpG_skip 16 (by simp only [List.getElem?_toArray, List.getElem?_cons_zero, List.getElem?_cons_succ] <;> rfl) (by decide +kernel) (by decide +kernel) (by kernel_rfl) (by rfl) (by exact fun _ _ _ _ h => h) (Nat.le_of_lt hGL.out) ?_); simp only [Act.put, Act.eval, List.setIfInBounds_toArray, List.set_cons_zero, List.set_cons_succ, Array.getD_eq_getD_getElem?, List.getElem?_toArray, List.getElem?_cons_zero, List.getElem?_cons_succ, Option.getD_some])))
          (refine wpG_one 15 (by decide +kernel) ?_; intro wA hwA; refine op_wanted (by simp only [List.getElem?_toArray, List.getElem?_cons_zero, List.getElem?_cons_succ] <;> rfl) rfl ?_)
          have HA0 := hwA.box HBX.out
          refine wp_store_mid 54 _ _ rfl g (k * 3) (evv eb) rfl rfl (there_row HA0 (HRW.out k ea HE1.out)) (by kernel_rfl) (evv_all _) ⟨below_set3 (Nat.le_refl _) _ _ _, ?_⟩
          simp only [Act.put, Act.eval, List.setIfInBounds_toArray, List.set_cons_zero, List.set_cons_succ, Array.getD_eq_getD_getElem?, List.getElem?_toArray, List.getElem?_cons_zero, List.getElem?_cons_succ, Option.getD_some]
          have HA1 := HA0.set3 (k * 3) eb
          have hGL1 := HA1.lt
          (repeat (first | ((first | refine wpG_go 16 (by simp only [List.getElem?_toArray, List.getElem?_cons_zero, List.getElem?_cons_succ] <;> rfl) (by decide +kernel) (by decide +kernel) (by kernel_rfl) (by rfl) (by exact fun _ _ _ _ h => h) (Nat.le_of_lt hGL1) ?_); apply Exists.intro; refine ⟨fun w1 h1 => ?_, ?_⟩; (first | exact g_move _ rfl | exact g_assign _ rfl | (go_simp; first | exact ⟨rfl, rfl⟩ | rfl)); simp only [Act.put, Act.eval, List.setIfInBounds_toArray, List.set_cons_zero, List.set_cons_succ, Array.getD_eq_getD_getElem?, List.getElem?_toArray, List.getElem?_cons_zero, List.getElem?_cons_succ, Option.getD_some]) | ((first | refine wpG_skip 16 (by simp only [List.getElem?_toArray, List.getElem?_cons_zero, List.getElem?_cons_succ] <;> rfl) (by decide +kernel) (by decide +kernel) (by kernel_rfl) (by rfl) (by exact fun _ _ _ _ h => h) (Nat.le_of_lt hGL1) ?_); simp only [Act.put, Act.eval, List.setIfInBounds_toArray, List.set_cons_zero, List.set_cons_succ, Array.getD_eq_getD_getElem?, List.getElem?_toArray, List.getElem?_cons_zero, List.getElem?_cons_succ, Option.getD_some])))
          (refine wpG_one 17 (by decide +kernel) ?_; intro wB hwB; refine op_wanted (by simp only [List.getElem?_toArray, List.getElem?_cons_zero, List.getElem?_cons_succ] <;> rfl) rfl ?_)
          have HB0 := hwB.box HA1
          refine wp_store_mid 54 _ _ rfl g ((k + 1) * 3) (evv ea) rfl rfl (there_row HB0 ((HRW.out (k + 1) eb HE2.out).set_ne (by omega))) (by kernel_rfl) (evv_all _) ⟨below_set3 (Nat.le_refl _) _ _ _, ?_⟩
          simp only [Act.put, Act.eval, List.setIfInBounds_toArray, List.set_cons_zero, List.set_cons_succ, Array.getD_eq_getD_getElem?, List.getElem?_toArray, List.getElem?_cons_zero, List.getElem?_cons_succ, Option.getD_some]
          have HB1 := HB0.set3 ((k + 1) * 3) ea
          (refine wpG_done (by decide +kernel) ?_ _; intro wC hwC; try simp only [Act.put, Act.eval, List.setIfInBounds_toArray, List.set_cons_zero, List.set_cons_succ, Array.getD_eq_getD_getElem?, List.getElem?_toArray, List.getElem?_cons_zero, List.getElem?_cons_succ, Option.getD_some])
          have HSW := Lib.hid (swap_rows (hwC.box HB1) HRW.out HAT.out HL.out.1 HE1.out HE2.out)
          have HG0 := Lib.hid (show w.heap.size ≤ g from Nat.le_trans (HW1.out.trans HB2.out).size HGE.out)
          have HWC := Lib.hid (show Below w.heap.size w wC from HW8.out.out.trans ((hwA.out.mono HW8.out.size).trans ((below_set3 HG0.out _ _ _).trans ((hwB.out.mono (Nat.le_trans HW8.out.size (Nat.le_trans hwA.size (set3_le _ _ _ _)))).trans ((below_set3 HG0.out _ _ _).trans (hwC.out.mono (Nat.le_trans HW8.out.size (Nat.le_trans hwA.size (Nat.le_trans (set3_le _ _ _ _) (Nat.le_trans hwB.size (set3_le _ _ _ _)))))))))))
          clear hwA hwB hwC HA0 HA1 HB0 HB1 FA FB hGL1
          go_wp2
          go_ret2
          exact ⟨_, 0, .inr (.inr (.inr ⟨HM.out, ⟨k, rfl, HAT.out⟩, rfl⟩)), some ⟨g, 0, none⟩, n, cap, rfl, HSW.out, hcap, hcm, HWC.out⟩
        · rw [hd] at HRB
          have HRC := Lib.hid HRB
          have HD := Lib.hid hd
          clear HRB hd
          go_wp2
          (refine region_bel (by kernel_rfl) (by kernel_rfl) ?_; (repeat (first | ((with_reducible refine BigFrame.wpQuiet_skip ?_ ?_); exact rfl; simp only [Act.put, Act.eval, List.setIfInBounds_toArray, List.set_cons_zero, List.set_cons_succ, Array.getD_eq_getD_getElem?, List.getElem?_toArray, List.getElem?_cons_zero, List.getElem?_cons_succ, Option.getD_some]) | (refine q_move _ rfl rfl ?_; simp only [Act.put, Act.eval, List.setIfInBounds_toArray, List.set_cons_zero, List.set_cons_succ, Array.getD_eq_getD_getElem?, List.getElem?_toArray, List.getElem?_cons_zero, List.getElem?_cons_succ, Option.getD_some]) | (refine q_assign _ rfl rfl ?_; simp only [Act.put, Act.eval, List.setIfInBounds_toArray, List.set_cons_zero, List.set_cons_succ, Array.getD_eq_getD_getElem?, List.getElem?_toArray, List.getElem?_cons_zero, List.getElem?_cons_succ, Option.getD_some]) | (refine q_load_mid _ _ rfl rfl rfl R1.out T36 (evv ea) rfl ?_; simp only [Act.put, Act.eval, List.setIfInBounds_toArray, List.set_cons_zero, List.set_cons_succ, Array.getD_eq_getD_getElem?, List.getElem?_toArray, List.getElem?_cons_zero, List.getElem?_cons_succ, Option.getD_some]) | (refine q_load_mid _ _ rfl rfl rfl R2.out T36 (evv eb) rfl ?_; simp only [Act.put, Act.eval, List.setIfInBounds_toArray, List.set_cons_zero, List.set_cons_succ, Array.getD_eq_getD_getElem?, List.getElem?_toArray, List.getElem?_cons_zero, List.getElem?_cons_succ, Option.getD_some]) | (refine q_any rfl ?_; apply Exists.intro; refine ⟨fun w hw => ?_, ?_⟩; (go_simp; first | exact ⟨rfl, rfl⟩ | rfl | (go_at_call 32; (with_reducible refine (HRC.out _).mono ?_); rintro e w' ⟨rfl, hb⟩; exact ⟨rfl, hw.call hb⟩)); simp only [Act.put, Act.eval, List.setIfInBounds_toArray, List.set_cons_zero, List.set_cons_succ, Array.getD_eq_getD_getElem?, List.getElem?_toArray, List.getElem?_cons_zero, List.getElem?_cons_succ, Option.getD_some]))); refine wpQuiet_nil ?_; intro w2 hw2)
          have HB2 := Lib.hid hw2
          clear hw2
          go_wp2
          go_ret2
          exact ⟨[], 5, .inr (.inr (.inl ⟨HM.out, ⟨k, rfl, by have := HL.out.1; omega, by rw [evZ_at HE1.out, evZ_at HE2.out]; exact HD.out⟩, rfl, rfl⟩)), evs_nil _ _ _ (HW1.out.trans HB2.out).out⟩
  · have hm : may l ≠ 0 := by simpa using h1
    have HM := Lib.hid hm
    clear hm
    go_wp2
    go_ret2
    exact ⟨[], may l, .inl ⟨HM.out, rfl, rfl⟩, evs_nil _ _ _ HW1.out.out⟩
end Go.Proofs.Ytjddahidkodieaa

import Derived.Test.YticnponenkfneaaZShG
import Derived.Test.YticnponenkfneaaZEr
set_option linter.all false
set_option maxRecDepth 100000
namespace Go.Proofs.Yticnponenkfneaa
open Go Go.RowKit

set_option maxHeartbeats 8000000 in
theorem without_any : WithoutC := by
  intro A n c l i w hl hnc hcm hi64
  have HL := Lib.hid hl
  have HC := Lib.hid (And.intro hnc hcm)
  have HML := Lib.hid (show (check l).2 = may l from rfl)
  clear hl hnc hcm
  go_enter Try.func60, Try.ntmps60
  go_wp2_with fail
  refine (check_any A n c l _ HL.out).mono ?_
  rintro e1 w1 ⟨rfl, hb1⟩
  rw [HML.out]
  have HW1 := Lib.hid (Bel.of hb1)
  clear hb1
  cases h1 : (may l != 0)
  · have hm : may l = 0 := by simpa using h1
    have HM := Lib.hid hm
    have hn80 : n ≤ 80 := by rw [← HL.out.1]; exact ((may_iff l).1 hm).1
    clear hm
    by_cases h0 : i < 0
    · have HI := Lib.hid h0
      go_wp2
      go_ret2
      exact ⟨[], 1, .inr (.inl ⟨HM.out, .inl HI.out, rfl, rfl⟩), own_nil _ _ _ HW1.out.out⟩
    · by_cases h2 : (n : Int) ≤ i
      · have HI := Lib.hid h2
        have h2d : decide ((n : Int) ≤ i) = true := decide_eq_true h2
        go_wp2
        go_ret2
        exact ⟨[], 1, .inr (.inl ⟨HM.out, .inr (by rw [HL.out.1]; exact HI.out), rfl, rfl⟩), own_nil _ _ _ HW1.out.out⟩
      · obtain ⟨k, rfl⟩ : ∃ k : Nat, i = k := ⟨i.toNat, by omega⟩
        have hkn : k < n := by omega
        have h5 : ¬ (k : Int) < 0 := by omega
        have h6 : ¬ (n : Int) ≤ (k : Int) := by omega
        have h6' : ¬ n ≤ k := by omega
        have hw8 : IntKind.i64.wrap ((k : Int) + 1) = (k : Int) + 1 := IntWalk.i64_in _ (by omega)
        have HMK := Lib.hid (show (check (l.eraseIdx k)).2 = may (l.eraseIdx k) from rfl)
        have HLE := Lib.hid (show (l.eraseIdx k).length = n - 1 by rw [List.length_eraseIdx_of_lt (by rw [HL.out.1]; exact hkn), HL.out.1])
        clear h0 h2 hi64
        obtain ⟨b, o, e0, rfl, _, _, _⟩ := HL.out.at_ (show k < n from hkn)
        have HSA := Lib.hid ((HL.out.bel HW1.out.out).take (Nat.le_of_lt hkn))
        have HSD0 := Sl.drop (c := c) (j := k + 1) (HL.out.bel HW1.out.out) (by omega) HC.out.1
        simp only [Option.map_some, Addr.add_lit] at HSD0
        have hkc : (k : Int) ≤ c := by have := HC.out.1; omega
        have hj1 : (k : Int) + 1 ≤ n := by omega
        have hjc : (n : Int) ≤ c := by have := HC.out.1; omega
        obtain ⟨i1, hi1, hz1, hs1⟩ := info_evs
        go_wp2_with fail
        refine region_grow (by kernel_rfl) ?_
        (repeat (first | ((first | refine wpG_go 0 (by simp only [List.getElem?_toArray, List.getElem?_cons_zero, List.getElem?_cons_succ] <;> rfl) (by decide +kernel) (by decide +kernel) (by kernel_rfl) (by rfl) (by exact fun _ _ _ _ h => h) (Nat.le_refl _) ?_ | refine wpG_go 1 (by simp only [List.getElem?_toArray, List.getElem?_cons_zero, List.getElem?_cons_succ] <;> rfl) (by decide +kernel) (by decide +kernel) (by kernel_rfl) (by rfl) (by exact fun _ _ _ _ h => h) (Nat.le_refl _) ?_ | refine wpG_go 2 (by simp only [List.getElem?_toArray, List.getElem?_cons_zero, List.getElem?_cons_succ] <;> rfl) (by decide +kernel) (by decide +kernel) (by kernel_rfl) (by rfl) (by exact fun _ _ _ _ h => h) (Nat.le_refl _) ?_ | refine wpG_go 3 (by simp only [List.getElem?_toArray, List.getElem?_cons_zero, List.getElem?_cons_succ] <;> rfl) (by decide +kernel) (by decide +kernel) (by kernel_rfl) (by rfl) (by exact fun _ _ _ _ h => h) (Nat.le_refl _) ?_ | refine wpG_go 4 (by simp only [List.getElem?_toArray, List.getElem?_cons_zero, List.getElem?_cons_succ] <;> rfl) (by decide +kernel) (by decide +kernel) (by kernel_rfl) (by rfl) (by exact fun _ _ _ _ h => h) (Nat.le_refl _) ?_ | refine wpG_go 5 (by simp only [List.getElem?_toArray, List.getElem?_cons_zero, List.getElem?_cons_succ] <;> rfl) (by decide +kernel) (by decide +kernel) (by kernel_rfl) (by rfl) (by exact fun _ _ _ _ h => h) (Nat.le_refl _) ?_ | refine wpG_go 6 (by simp only [List.getElem?_toArray, List.getElem?_cons_zero, List.getElem?_cons_succ] <;> rfl) (by decide +kernel) (by decide +kernel) (by kernel_rfl) (by rfl) (by exact fun _ _ _ _ h => h) (Nat.le_refl _) ?_); apply Exists.intro; refine ⟨fun w1 h1 => ?_, ?_⟩; (first | exact g_move _ rfl | exact g_assign _ rfl | (go_simp; first | exact ⟨rfl, rfl⟩ | rfl)); simp only [Act.put, Act.eval, List.setIfInBounds_toArray, List.set_cons_zero, List.set_cons_succ, Array.getD_eq_getD_getElem?, List.getElem?_toArray, List.getElem?_cons_zero, List.getElem?_cons_succ, Option.getD_some]) | ((first | refine wpG_skip 0 (by simp only [List.getElem?_toArray, List.getElem?_cons_zero, List.getElem?_cons_succ] <;> rfl) (by decide +kernel) (by decide +kernel) (by kernel_rfl) (by rfl) (by exact fun _ _ _ _ h => h) (Nat.le_refl _) ?_ | refine wpG_skip 1 (by simp only [List.getElem?_toArray, List.getElem?_cons_zero, List.getElem?_cons_succ] <;> rfl) (by decide +kernel) (by decide +kernel) (by kernel_rfl) (by rfl) (by exact fun _ _ _ _ h => h) (Nat.le_refl _) ?_ | refine wpG_skip 2 (by simp only [List.getElem?_toArray, List.getElem?_cons_zero, List.getElem?_cons_succ] <;> rfl) (by decide +kernel) (by decide +kernel) (by kernel_rfl) (by rfl) (by exact fun _ _ _ _ h => h) (Nat.le_refl _) ?_ | refine wpG_skip 3 (by simp only [List.getElem?_toArray, List.getElem?_cons_zero, List.getElem?_cons_succ] <;> rfl) (by decide +kernel) (by decide +kernel) (by kernel_rfl) (by rfl) (by exact fun _ _ _ _ h => h) (Nat.le_refl _) ?_ | refine wpG_skip 4 (by simp only [List.getElem?_toArray, List.getElem?_cons_zero, List.getElem?_cons_succ] <;> rfl) (by decide +kernel) (by decide +kernel) (by kernel_rfl) (by rfl) (by exact fun _ _ _ _ h => h) (Nat.le_refl _) ?_ | refine wpG_skip 5 (by simp only [List.getElem?_toArray, List.getElem?_cons_zero, List.getElem?_cons_succ] <;> rfl) (by decide +kernel) (by decide +kernel) (by kernel_rfl) (by rfl) (by exact fun _ _ _ _ h => h) (Nat.le_refl _) ?_ | refine wpG_skip 6 (by simp only [List.getElem?_toArray, List.getElem?_cons_zero, List.getElem?_cons_succ] <;> rfl) (by decide +kernel) (by decide +kernel) (by kernel_rfl) (by rfl) (by exact fun _ _ _ _ h => h) (Nat.le_refl _) ?_); simp only [Act.put, Act.eval, List.setIfInBounds_toArray, List.set_cons_zero, List.set_cons_succ, Array.getD_eq_getD_getElem?, List.getElem?_toArray, List.getElem?_cons_zero, List.getElem?_cons_succ, Option.getD_some])))
        generalize (if c = k + 1 then some (⟨b, o, none⟩ : Addr) else some ⟨b, o + (k + 1) * 3, none⟩) = AD at *
        have HSD := Lib.hid HSD0
        clear HSD0
        (refine wpG_one 7 (by decide +kernel) ?_; intro y1 hy1; refine op_wanted (by simp only [List.getElem?_toArray, List.getElem?_cons_zero, List.getElem?_cons_succ] <;> rfl) rfl ?_)
        have hE1 : Bel w1 y1 := (Bel.refl w1).trans hy1
        refine wp_build2 208 _ _ rfl 40 i1 Try.underlying208 hi1 hz1 hs1 _ _ _ _ _ _ rfl rfl ?_
        refine ⟨(Below.refl _ _).alloc hE1.size _, ?_⟩
        simp only [Act.put, Act.eval, List.setIfInBounds_toArray, List.set_cons_zero, List.set_cons_succ, Array.getD_eq_getD_getElem?, List.getElem?_toArray, List.getElem?_cons_zero, List.getElem?_cons_succ, Option.getD_some]
        have hC1 : Bel w1 (y1.alloc _) := hE1.alloc (.cells #[.slice (some ⟨b, o, none⟩) k c, .slice AD (n - (k + 1)) (c - (k + 1))] 40)
        have hBX := Box.new y1 #[.slice (some ⟨b, o, none⟩) k c, .slice AD (n - (k + 1)) (c - (k + 1))] 40
        (refine wpG_one 8 (by decide +kernel) ?_; intro y2 hy2; refine op_wanted (by simp only [List.getElem?_toArray, List.getElem?_cons_zero, List.getElem?_cons_succ] <;> rfl) rfl ?_)
        have hE2 := hC1.trans hy2
        go_simp
        refine (concat_any y1.heap.size k c (n - (k + 1)) (c - (k + 1)) _ AD (l.take k) (l.drop (k + 1)) _ y2 (hy2.box hBX) (HSA.out.bel hE2.out) (HSD.out.bel hE2.out) (by omega)).mono ?_
        rintro e3 w3 ⟨v3, rfl, ho3, hb3⟩
        refine ⟨hb3.mono hE2.size, ?_⟩
        rw [show k + (n - (k + 1)) = n - 1 by omega, ← List.eraseIdx_eq_take_drop_succ] at ho3
        have ho3 := own_drop_alloc ho3 hE2.size
        have hC3 := hE2.trans (Bel.of hb3)
        (repeat (first | ((first | refine wpG_go 9 (by simp only [List.getElem?_toArray, List.getElem?_cons_zero, List.getElem?_cons_succ] <;> rfl) (by decide +kernel) (by decide +kernel) (by kernel_rfl) (by rfl) (by exact fun _ _ _ _ h => h) hC3.size ?_); apply Exists.intro; refine ⟨fun w1 h1 => ?_, ?_⟩; (first | exact g_move _ rfl | exact g_assign _ rfl | (go_simp; first | exact ⟨rfl, rfl⟩ | rfl)); simp only [Act.put, Act.eval, List.setIfInBounds_toArray, List.set_cons_zero, List.set_cons_succ, Array.getD_eq_getD_getElem?, List.getElem?_toArray, List.getElem?_cons_zero, List.getElem?_cons_succ, Option.getD_some]) | ((first | refine wpG_skip 9 (by simp only [List.getElem?_toArray, List.getElem?_cons_zero, List.getElem?_cons_succ] <;> rfl) (by decide +kernel) (by decide +kernel) (by kernel_rfl) (by rfl) (by exact fun _ _ _ _ h => h) hC3.size ?_); simp only [Act.put, Act.eval, List.setIfInBounds_toArray, List.set_cons_zero, List.set_cons_succ, Array.getD_eq_getD_getElem?, List.getElem?_toArray, List.getElem?_cons_zero, List.getElem?_cons_succ, Option.getD_some])))
        (refine wpG_done (by decide +kernel) ?_ _; intro w4 hw4; try simp only [Act.put, Act.eval, List.setIfInBounds_toArray, List.set_cons_zero, List.set_cons_succ, Array.getD_eq_getD_getElem?, List.getElem?_toArray, List.getElem?_cons_zero, List.getElem?_cons_succ, Option.getD_some])
        have HW3 := Lib.hid (HW1.out.trans (hC3.trans hw4))
        have ho4 := own_bel ho3 hw4
        obtain ⟨A3, d3, rfl, hs3, hn3, hm3⟩ := Sl.own ho4
        have HO3 := Lib.hid (show w4.ownsRow w.heap.size 67 3 _ (l.eraseIdx k).length (evc (l.eraseIdx k)) from by rw [HLE.out]; exact own_drop_alloc ho4 HW1.out.size)
        have HS3 := Lib.hid hs3
        clear ho3 ho4 hs3 hn3 hm3 hC3 hw4 hb3 hE2 hy2 hC1 hBX hE1 hy1
        go_wp2_with fail
        refine (check_any A3 _ d3 _ _ HS3.out).mono ?_
        rintro e5 w5 ⟨rfl, hb5⟩
        rw [HMK.out]
        have HW5 := Lib.hid (HW3.out.call hb5)
        have HO5 := Lib.hid (own_bel HO3.out (Bel.of hb5))
        clear hb5
        cases h9 : (may (l.eraseIdx k) != 0)
        · have HZ := Lib.hid (show may (l.eraseIdx k) = 0 by simpa using h9)
          go_wp2
          go_ret2
          exact ⟨_, 0, .inr (.inr (.inr ⟨HM.out, ⟨k, rfl, by rw [HL.out.1]; exact hkn, HZ.out, rfl⟩, rfl⟩)), _, rfl, HO5.out, HW5.out.out⟩
        · have HZ := Lib.hid (show may (l.eraseIdx k) ≠ 0 by simpa using h9)
          go_wp2
          go_ret2
          exact ⟨[], 5, .inr (.inr (.inl ⟨HM.out, ⟨k, rfl, by rw [HL.out.1]; exact hkn, HZ.out⟩, rfl, rfl⟩)), own_nil _ _ _ HW5.out.out⟩
  · have HM := Lib.hid (show may l ≠ 0 by simpa using h1)
    go_wp2
    go_ret2
    exact ⟨[], may l, .inl ⟨HM.out, rfl, rfl⟩, own_nil _ _ _ HW1.out.out⟩
end Go.Proofs.Yticnponenkfneaa
set_option linter.all false
set_option maxRecDepth 100000
namespace Go.Proofs.Yticnponenkfneaa
open Go Go.RowKit

def CycI (m : List Ev) (i q : Nat) : Prop := ∀ j, j < m.length → (j < i ∧ i ≤ j + q) ∨ m.length + i ≤ j + q → ¬ Ok (m.eraseIdx j)
theorem CycI.start (m : List Ev) (i : Nat) : CycI m i 0 := fun j hj h => by omega
theorem CycI.fail {m : List Ev} {i q : Nat} (h : CycI m i q) (hi : i < m.length) (hn : ¬ Ok (m.eraseIdx i)) : CycI m (i + 1) (q + 1) := fun j hj hc => by
  by_cases he : j = i
  · subst he; exact hn
  · exact h j hj (by omega)
theorem CycI.wrap {m : List Ev} {q : Nat} (h : CycI m m.length q) : CycI m 0 q := fun j hj hc => h j hj (by omega)
theorem CycI.bare {m : List Ev} {i q : Nat} (h : CycI m i q) (hi : i ≤ m.length) (hq : m.length ≤ q) : Bare m := fun j hj => h j hj (by omega)
theorem Ok.pos {m : List Ev} (h : Ok m) : 0 < m.length := by
  obtain ⟨_, a, b, h1, _, _⟩ := ok_iff.1 h
  omega
theorem Ok.len {m : List Ev} (h : Ok m) : m.length ≤ 80 := ((may_iff m).1 h.1).1
end Go.Proofs.Yticnponenkfneaa

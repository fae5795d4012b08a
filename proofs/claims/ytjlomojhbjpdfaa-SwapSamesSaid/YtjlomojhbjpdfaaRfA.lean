/- Contract of the reference's Apart. -/
import Derived.Test.YtjlomojhbjpdfaaSw
import Derived.Test.YtjlomojhbjpdfaaRefTr
import Derived.Test.YtjlomojhbjpdfaaMid
import Derived.Deep.DeepCutAuto
set_option linter.all false
set_option maxRecDepth 100000
namespace Go.Proofs.Ytjlomojhbjpdfaa
open Go Go.RowKit

/-- Two events in variables of their own. -/
def TwoEv (w : World) (A B : Nat) (a b : Ev) : Prop := Box w A (evv a) 23 ∧ Box w B (evv b) 23
theorem pair_any (A B : Nat) (a b : Ev) (k m : Int) (w : World) (h : TwoEv w A B a b) :
    Calls Try.prog 38 #[.int .i64 k, .int .i64 m, .pointer (some ⟨A, 0, none⟩), .pointer (some ⟨B, 0, none⟩)] w fun e w' => e = .returned (.bool (pr2 k m a b)) ∧ w = w' := by
  have a0 := h.1.cell 0 (v := .int .i64 a.k) rfl
  have a2 := h.1.cell 2 (v := .int .i64 a.o) rfl
  have b0 := h.2.cell 0 (v := .int .i64 b.k) rfl
  have b2 := h.2.cell 2 (v := .int .i64 b.o) rfl
  have HP := Lib.hid (show pr2 k m a b = ((a.k == k || a.k == m) && (b.k == k || b.k == m) && a.o == b.o) from rfl)
  clear h
  go_enter Try.func38, Try.ntmps38
  cases h1 : (a.k == k)
  · cases h2 : (a.k == m)
    · go_wp2
      go_ret
      exact ⟨by rw [HP.out, h1, h2]; rfl, rfl⟩
    · cases h3 : (b.k == k)
      · cases h4 : (b.k == m)
        · go_wp2
          go_ret
          exact ⟨by rw [HP.out, h1, h2, h3, h4]; rfl, rfl⟩
        · cases h5 : (a.o == b.o)
          · go_wp2
            go_ret
            exact ⟨by rw [HP.out, h1, h2, h3, h4, h5]; rfl, rfl⟩
          · go_wp2
            go_ret
            exact ⟨by rw [HP.out, h1, h2, h3, h4, h5]; rfl, rfl⟩
      · cases h5 : (a.o == b.o)
        · go_wp2
          go_ret
          exact ⟨by rw [HP.out, h1, h2, h3, h5]; rfl, rfl⟩
        · go_wp2
          go_ret
          exact ⟨by rw [HP.out, h1, h2, h3, h5]; rfl, rfl⟩
  · cases h3 : (b.k == k)
    · cases h4 : (b.k == m)
      · go_wp2
        go_ret
        exact ⟨by rw [HP.out, h1, h3, h4]; rfl, rfl⟩
      · cases h5 : (a.o == b.o)
        · go_wp2
          go_ret
          exact ⟨by rw [HP.out, h1, h3, h4, h5]; rfl, rfl⟩
        · go_wp2
          go_ret
          exact ⟨by rw [HP.out, h1, h3, h4, h5]; rfl, rfl⟩
    · cases h5 : (a.o == b.o)
      · go_wp2
        go_ret
        exact ⟨by rw [HP.out, h1, h3, h5]; rfl, rfl⟩
      · go_wp2
        go_ret
        exact ⟨by rw [HP.out, h1, h3, h5]; rfl, rfl⟩
theorem touch_any (x y : Ev) (w : World) : Calls Try.prog 39 #[.agg (evv x), .agg (evv y)] w fun e w' => e = .returned (.bool (tch x y)) ∧ Below w.heap.size w w' := by
  obtain ⟨b1, b2, hB, hs⟩ := boxes2 w (evv x) (evv y) 23 23
  have a0 := b1.cell 0 (v := .int .i64 x.k) rfl
  have a2 := b1.cell 2 (v := .int .i64 x.o) rfl
  have c1 := b2.cell 1 (v := .int .i64 y.t) rfl
  have HP := Lib.hid (show tch x y = ((x.k == 5 || x.k == 6) && x.o == y.t) from rfl)
  have HB := Lib.hid hB
  clear b1 b2 hB hs
  go_enter Try.func39, Try.ntmps39
  cases h1 : (x.k == 5)
  · cases h2 : (x.k == 6)
    · go_wp2
      go_ret
      exact ⟨by rw [HP.out, h1, h2]; rfl, HB.out⟩
    · cases h5 : (x.o == y.t)
      · go_wp2
        go_ret
        exact ⟨by rw [HP.out, h1, h2, h5]; rfl, HB.out⟩
      · go_wp2
        go_ret
        exact ⟨by rw [HP.out, h1, h2, h5]; rfl, HB.out⟩
  · cases h5 : (x.o == y.t)
    · go_wp2
      go_ret
      exact ⟨by rw [HP.out, h1, h5]; rfl, HB.out⟩
    · go_wp2
      go_ret
      exact ⟨by rw [HP.out, h1, h5]; rfl, HB.out⟩
theorem pr2_small {k m : Int} {a b : Ev} (h : pr2 k m a b = true) (_ : 0 ≤ k) (_ : 0 ≤ m) : (a.k = k ∨ a.k = m) ∧ (b.k = k ∨ b.k = m) ∧ a.o = b.o := by
  simp only [pr2, Bool.and_eq_true, Bool.or_eq_true, beq_iff_eq] at h
  exact ⟨h.1.1, h.1.2, h.2⟩
theorem pr2_wrap {k m : Int} {a b : Ev} (h : pr2 k m a b = true) (hk : 0 ≤ k ∧ k ≤ 8) (hm : 0 ≤ m ∧ m ≤ 8) : IntKind.i64.wrap (a.k + b.k) = a.k + b.k := by
  obtain ⟨h1, h2, _⟩ := pr2_small h hk.1 hm.1
  exact IntWalk.i64_in _ (by omega)
theorem pr2_other {k m k' m' : Int} {a b : Ev} (h : pr2 k m a b = true) (h1 : k' ≠ k) (h2 : k' ≠ m) (h3 : m' ≠ k) (h4 : m' ≠ m) : pr2 k' m' a b = false := by
  have h9 : (a.k = k ∨ a.k = m) := by
    simp only [pr2, Bool.and_eq_true, Bool.or_eq_true, beq_iff_eq] at h
    exact h.1.1
  rw [← Bool.not_eq_true]
  intro g
  simp only [pr2, Bool.and_eq_true, Bool.or_eq_true, beq_iff_eq] at g
  have := g.1.1
  omega
set_option maxHeartbeats 16000000 in
theorem refapart_any (a b : Ev) (w : World) : Calls Try.prog 16 #[.agg (evv a), .agg (evv b)] w fun e w' => e = .returned (.bool (!dep a b)) ∧ Below w.heap.size w w' := by
  obtain ⟨b1, b2, hB, hs⟩ := boxes2 w (evv a) (evv b) 23 23
  have HT := Lib.hid (show TwoEv _ _ _ a b from ⟨b1, b2⟩)
  have a0 := b1.cell 0 (v := .int .i64 a.k) rfl
  have a1 := b1.cell 1 (v := .int .i64 a.t) rfl
  have c0 := b2.cell 0 (v := .int .i64 b.k) rfl
  have c1 := b2.cell 1 (v := .int .i64 b.t) rfl
  have HB := Lib.hid hB
  have HBW := Lib.hid (Bel.of hB)
  clear b1 b2 hB hs
  go_enter Try.func16, Try.ntmps16
  cases h0 : (a.t == b.t)
  · cases h12 : pr2 1 2 a b
    · skip
      go_wp2_with fail
      refine (pair_any _ _ a b 1 2 _ HT.out).mono ?_
      rintro e w' ⟨rfl, rfl⟩
      rw [h12]
      cases h34 : pr2 3 4 a b
      · skip
        go_wp2_with fail
        refine (pair_any _ _ a b 3 4 _ HT.out).mono ?_
        rintro e w' ⟨rfl, rfl⟩
        rw [h34]
        cases h78 : pr2 7 8 a b
        · skip
          go_wp2_with fail
          refine (pair_any _ _ a b 7 8 _ HT.out).mono ?_
          rintro e w' ⟨rfl, rfl⟩
          rw [h78]
          cases h56 : pr2 5 6 a b
          · skip
            go_wp2_with fail
            refine (pair_any _ _ a b 5 6 _ HT.out).mono ?_
            rintro e w' ⟨rfl, rfl⟩
            rw [h56]
            go_upto_region 5 with (fail)
            cases hta : tch a b
            · go_wp2_with (first | (refine loadB _ _ rfl rfl rfl HT.out.1 T36 ?_) | (refine loadB _ _ rfl rfl rfl HT.out.2 T36 ?_))
              refine (touch_any a b _).mono ?_
              rintro e w2 ⟨rfl, hb2⟩
              rw [hta]
              have HB2 := Lib.hid (HBW.out.call hb2)
              have h21 := HT.out.1.below hb2 HT.out.1.lt
              have h22 := HT.out.2.below hb2 HT.out.2.lt
              clear hb2
              go_wp2_with (first | (refine loadG _ _ rfl rfl rfl h21 T36 ?_) | (refine loadG _ _ rfl rfl rfl h22 T36 ?_))
              refine (touch_any b a _).mono ?_
              rintro e w3 ⟨rfl, hb3⟩
              have HB3 := Lib.hid (HB2.out.call hb3)
              clear hb3 h21 h22
              cases htb : tch b a
              · go_wp2
                go_ret
                exact ⟨by rw [show dep a b = false by unfold dep; simp [h0, h12, h34, h78, h56, hta, htb]]; rfl, HB3.out⟩
              · go_wp2
                go_ret
                exact ⟨by rw [show dep a b = true by unfold dep; simp [htb]]; rfl, HB3.out⟩
            · go_wp2_with (first | (refine loadB _ _ rfl rfl rfl HT.out.1 T36 ?_) | (refine loadB _ _ rfl rfl rfl HT.out.2 T36 ?_))
              refine (touch_any a b _).mono ?_
              rintro e w2 ⟨rfl, hb2⟩
              rw [hta]
              have HB2 := Lib.hid (HBW.out.call hb2)
              clear hb2
              go_wp2
              go_ret
              exact ⟨by rw [show dep a b = true by unfold dep; simp [hta]]; rfl, HB2.out⟩
          · obtain ⟨w1, w2, _⟩ := pr2_small (k := 5) (m := 6) h56 (by omega) (by omega)
            have hw := pr2_wrap (k := 5) (m := 6) h56 (by omega) (by omega)
            by_cases hs : a.k + b.k < 12
            · skip
              go_wp2_with fail
              refine (pair_any _ _ a b 5 6 _ HT.out).mono ?_
              rintro e w' ⟨rfl, rfl⟩
              rw [h56]
              go_wp2
              go_ret
              exact ⟨by rw [show dep a b = true by unfold dep; simp [h56, hs]]; rfl, HB.out⟩
            · skip
              go_wp2_with fail
              refine (pair_any _ _ a b 5 6 _ HT.out).mono ?_
              rintro e w' ⟨rfl, rfl⟩
              rw [h56]
              go_upto_region 5 with (fail)
              cases hta : tch a b
              · go_wp2_with (first | (refine loadB _ _ rfl rfl rfl HT.out.1 T36 ?_) | (refine loadB _ _ rfl rfl rfl HT.out.2 T36 ?_))
                refine (touch_any a b _).mono ?_
                rintro e w2 ⟨rfl, hb2⟩
                rw [hta]
                have HB2 := Lib.hid (HBW.out.call hb2)
                have h21 := HT.out.1.below hb2 HT.out.1.lt
                have h22 := HT.out.2.below hb2 HT.out.2.lt
                clear hb2
                go_wp2_with (first | (refine loadG _ _ rfl rfl rfl h21 T36 ?_) | (refine loadG _ _ rfl rfl rfl h22 T36 ?_))
                refine (touch_any b a _).mono ?_
                rintro e w3 ⟨rfl, hb3⟩
                have HB3 := Lib.hid (HB2.out.call hb3)
                clear hb3 h21 h22
                cases htb : tch b a
                · go_wp2
                  go_ret
                  exact ⟨by rw [show dep a b = false by unfold dep; simp [h0, h12, h34, h78, h56, hs, hta, htb]]; rfl, HB3.out⟩
                · go_wp2
                  go_ret
                  exact ⟨by rw [show dep a b = true by unfold dep; simp [htb]]; rfl, HB3.out⟩
              · go_wp2_with (first | (refine loadB _ _ rfl rfl rfl HT.out.1 T36 ?_) | (refine loadB _ _ rfl rfl rfl HT.out.2 T36 ?_))
                refine (touch_any a b _).mono ?_
                rintro e w2 ⟨rfl, hb2⟩
                rw [hta]
                have HB2 := Lib.hid (HBW.out.call hb2)
                clear hb2
                go_wp2
                go_ret
                exact ⟨by rw [show dep a b = true by unfold dep; simp [hta]]; rfl, HB2.out⟩
        · obtain ⟨w1, w2, _⟩ := pr2_small (k := 7) (m := 8) h78 (by omega) (by omega)
          have hw := pr2_wrap (k := 7) (m := 8) h78 (by omega) (by omega)
          by_cases hs : 14 < a.k + b.k
          · skip
            go_wp2_with fail
            refine (pair_any _ _ a b 7 8 _ HT.out).mono ?_
            rintro e w' ⟨rfl, rfl⟩
            rw [h78]
            go_wp2
            go_ret
            exact ⟨by rw [show dep a b = true by unfold dep; simp [h78, hs]]; rfl, HB.out⟩
          · skip
            go_wp2_with fail
            refine (pair_any _ _ a b 7 8 _ HT.out).mono ?_
            rintro e w' ⟨rfl, rfl⟩
            rw [h78]
            have h56 : pr2 5 6 a b = false := pr2_other (k := 7) (m := 8) h78 (by omega) (by omega) (by omega) (by omega)
            go_wp2_with fail
            refine (pair_any _ _ a b 5 6 _ HT.out).mono ?_
            rintro e w' ⟨rfl, rfl⟩
            rw [h56]
            go_upto_region 5 with (fail)
            cases hta : tch a b
            · go_wp2_with (first | (refine loadB _ _ rfl rfl rfl HT.out.1 T36 ?_) | (refine loadB _ _ rfl rfl rfl HT.out.2 T36 ?_))
              refine (touch_any a b _).mono ?_
              rintro e w2 ⟨rfl, hb2⟩
              rw [hta]
              have HB2 := Lib.hid (HBW.out.call hb2)
              have h21 := HT.out.1.below hb2 HT.out.1.lt
              have h22 := HT.out.2.below hb2 HT.out.2.lt
              clear hb2
              go_wp2_with (first | (refine loadG _ _ rfl rfl rfl h21 T36 ?_) | (refine loadG _ _ rfl rfl rfl h22 T36 ?_))
              refine (touch_any b a _).mono ?_
              rintro e w3 ⟨rfl, hb3⟩
              have HB3 := Lib.hid (HB2.out.call hb3)
              clear hb3 h21 h22
              cases htb : tch b a
              · go_wp2
                go_ret
                exact ⟨by rw [show dep a b = false by unfold dep; simp [h0, h12, h34, h78, hs, h56, hta, htb]]; rfl, HB3.out⟩
              · go_wp2
                go_ret
                exact ⟨by rw [show dep a b = true by unfold dep; simp [htb]]; rfl, HB3.out⟩
            · go_wp2_with (first | (refine loadB _ _ rfl rfl rfl HT.out.1 T36 ?_) | (refine loadB _ _ rfl rfl rfl HT.out.2 T36 ?_))
              refine (touch_any a b _).mono ?_
              rintro e w2 ⟨rfl, hb2⟩
              rw [hta]
              have HB2 := Lib.hid (HBW.out.call hb2)
              clear hb2
              go_wp2
              go_ret
              exact ⟨by rw [show dep a b = true by unfold dep; simp [hta]]; rfl, HB2.out⟩
      · skip
        go_wp2_with fail
        refine (pair_any _ _ a b 3 4 _ HT.out).mono ?_
        rintro e w' ⟨rfl, rfl⟩
        rw [h34]
        go_wp2
        go_ret
        exact ⟨by rw [show dep a b = true by unfold dep; simp [h34]]; rfl, HB.out⟩
    · obtain ⟨w1, w2, _⟩ := pr2_small (k := 1) (m := 2) h12 (by omega) (by omega)
      have hw := pr2_wrap (k := 1) (m := 2) h12 (by omega) (by omega)
      by_cases hs : 2 < a.k + b.k
      · skip
        go_wp2_with fail
        refine (pair_any _ _ a b 1 2 _ HT.out).mono ?_
        rintro e w' ⟨rfl, rfl⟩
        rw [h12]
        go_wp2
        go_ret
        exact ⟨by rw [show dep a b = true by unfold dep; simp [h12, hs]]; rfl, HB.out⟩
      · skip
        go_wp2_with fail
        refine (pair_any _ _ a b 1 2 _ HT.out).mono ?_
        rintro e w' ⟨rfl, rfl⟩
        rw [h12]
        have h34 : pr2 3 4 a b = false := pr2_other (k := 1) (m := 2) h12 (by omega) (by omega) (by omega) (by omega)
        have h78 : pr2 7 8 a b = false := pr2_other (k := 1) (m := 2) h12 (by omega) (by omega) (by omega) (by omega)
        have h56 : pr2 5 6 a b = false := pr2_other (k := 1) (m := 2) h12 (by omega) (by omega) (by omega) (by omega)
        go_wp2_with fail
        refine (pair_any _ _ a b 3 4 _ HT.out).mono ?_
        rintro e w' ⟨rfl, rfl⟩
        rw [h34]
        go_wp2_with fail
        refine (pair_any _ _ a b 7 8 _ HT.out).mono ?_
        rintro e w' ⟨rfl, rfl⟩
        rw [h78]
        go_wp2_with fail
        refine (pair_any _ _ a b 5 6 _ HT.out).mono ?_
        rintro e w' ⟨rfl, rfl⟩
        rw [h56]
        go_upto_region 5 with (fail)
        cases hta : tch a b
        · go_wp2_with (first | (refine loadB _ _ rfl rfl rfl HT.out.1 T36 ?_) | (refine loadB _ _ rfl rfl rfl HT.out.2 T36 ?_))
          refine (touch_any a b _).mono ?_
          rintro e w2 ⟨rfl, hb2⟩
          rw [hta]
          have HB2 := Lib.hid (HBW.out.call hb2)
          have h21 := HT.out.1.below hb2 HT.out.1.lt
          have h22 := HT.out.2.below hb2 HT.out.2.lt
          clear hb2
          go_wp2_with (first | (refine loadG _ _ rfl rfl rfl h21 T36 ?_) | (refine loadG _ _ rfl rfl rfl h22 T36 ?_))
          refine (touch_any b a _).mono ?_
          rintro e w3 ⟨rfl, hb3⟩
          have HB3 := Lib.hid (HB2.out.call hb3)
          clear hb3 h21 h22
          cases htb : tch b a
          · go_wp2
            go_ret
            exact ⟨by rw [show dep a b = false by unfold dep; simp [h0, h12, hs, h34, h78, h56, hta, htb]]; rfl, HB3.out⟩
          · go_wp2
            go_ret
            exact ⟨by rw [show dep a b = true by unfold dep; simp [htb]]; rfl, HB3.out⟩
        · go_wp2_with (first | (refine loadB _ _ rfl rfl rfl HT.out.1 T36 ?_) | (refine loadB _ _ rfl rfl rfl HT.out.2 T36 ?_))
          refine (touch_any a b _).mono ?_
          rintro e w2 ⟨rfl, hb2⟩
          rw [hta]
          have HB2 := Lib.hid (HBW.out.call hb2)
          clear hb2
          go_wp2
          go_ret
          exact ⟨by rw [show dep a b = true by unfold dep; simp [hta]]; rfl, HB2.out⟩
  · skip
    go_wp2
    go_ret
    exact ⟨by rw [show dep a b = true by unfold dep; simp [h0]]; rfl, HB.out⟩
end Go.Proofs.Ytjlomojhbjpdfaa

/- The package swap: Same. -/
import Derived.Test.YtjlomojhbjpdfaaSwT
set_option linter.all false
set_option maxRecDepth 100000
namespace Go.Proofs.Ytjlomojhbjpdfaa
open Go Go.RowKit

theorem sameB_no1 {a : List Ev} (h : may a ≠ 0) (b : List Ev) : sameB a b = false ∧ sameE a b = may a := by
  have h1 : sameE a b = may a := if_neg h
  exact ⟨by unfold sameB; rw [h1, decide_eq_false h]; rfl, h1⟩
theorem sameB_no2 {a b : List Ev} (h : may a = 0) (k : may b ≠ 0) : sameB a b = false ∧ sameE a b = may b := by
  have h1 : sameE a b = may b := if_pos h
  exact ⟨by unfold sameB; rw [h1, decide_eq_false k]; rfl, h1⟩
theorem sameB_yes {a b : List Ev} (h : may a = 0) (k : may b = 0) : sameB a b = decide (leastL a = leastL b) ∧ sameE a b = 0 := by
  have h1 : sameE a b = may b := if_pos h
  exact ⟨by unfold sameB; rw [h1, decide_eq_true k]; rfl, h1.trans k⟩
set_option maxHeartbeats 8000000 in
theorem same_any : SameC := by
  intro A n c a B m d b w ha hnc hcm hb hmd hdm
  have HLE := least_any
  unfold LeastC at HLE
  have HA := Lib.hid (And.intro ha (And.intro hnc hcm))
  have HB := Lib.hid (And.intro hb (And.intro hmd hdm))
  clear ha hnc hcm hb hmd hdm
  go_enter Try.func24, Try.ntmps24
  go_wp2_with fail
  refine (HLE A n c a w HA.out.1 HA.out.2.1 HA.out.2.2).mono ?_
  rintro e1 w1 ⟨r1, c1, h1, A1, n1, d1, rfl, hs1, hn1, hd1, hb1⟩
  have HW1 := Lib.hid (Bel.of hb1)
  have HS1 := Lib.hid (And.intro hs1 (And.intro hn1 hd1))
  clear hs1 hn1 hd1 hb1
  rcases h1 with ⟨hm, rfl, rfl⟩ | ⟨hm, rfl, rfl⟩
  · have HR := Lib.hid (sameB_no1 hm b)
    have h9 : (may a != 0) = true := by simpa using hm
    clear hm
    go_wp2
    go_ret2
    exact ⟨by rw [HR.out.1, HR.out.2]; rfl, HW1.out.out⟩
  · have HM := Lib.hid hm
    clear hm
    go_wp2_with fail
    refine (HLE B m d b w1 (HB.out.1.bel HW1.out.out) HB.out.2.1 HB.out.2.2).mono ?_
    rintro e2 w2 ⟨r2, c2, h2, A2, n2, d2, rfl, hs2, hn2, hd2, hb2⟩
    have HW2 := Lib.hid (HW1.out.call hb2)
    have HS2 := Lib.hid (And.intro hs2 (And.intro hn2 hd2))
    have HS3 := Lib.hid (HS1.out.1.bel hb2)
    clear hs2 hn2 hd2 hb2
    rcases h2 with ⟨hm, rfl, rfl⟩ | ⟨hm, rfl, rfl⟩
    · have HR := Lib.hid (sameB_no2 HM.out hm)
      have h9 : (may b != 0) = true := by simpa using hm
      clear hm
      go_wp2
      go_ret2
      exact ⟨by rw [HR.out.1, HR.out.2]; rfl, HW2.out.out⟩
    · have HR := Lib.hid (sameB_yes HM.out hm)
      clear hm
      go_wp2_with fail
      refine (equal_any A1 A2 n1 d1 n2 d2 _ _ w2 HS3.out HS2.out.1 HS1.out.2.1 HS2.out.2.1 HS1.out.2.2 HS2.out.2.2).mono ?_
      rintro e3 w3 ⟨rfl, hb3⟩
      have HW3 := Lib.hid (HW2.out.call hb3)
      clear hb3
      go_wp2
      go_ret2
      exact ⟨by rw [HR.out.1, HR.out.2]; rfl, HW3.out.out⟩
end Go.Proofs.Ytjlomojhbjpdfaa

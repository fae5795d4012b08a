import Derived.Laws.IdiomCopy
import Derived.Deep.RegionLaw
import Derived.Test.YticnponenkfneaaZSl
import Derived.Test.YticnponenkfneaaZAppend
import Derived.Test.YticnponenkfneaaZCp
import Derived.Test.YticnponenkfneaaZBase
import Derived.Test.YticnponenkfneaaZEqInt
import Derived.Test.YticnponenkfneaaZOr
set_option linter.all false
set_option maxRecDepth 100000
namespace Go.Proofs.Yticnponenkfneaa
open Go Go.RowKit

def ApartC : Prop := ∀ (a b : Ev) (w : World), Calls Try.prog 129 #[.agg (evv a), .agg (evv b)] w fun e w' => e = .returned (.bool (!dep a b)) ∧ Below w.heap.size w w'
def EvsPost (w : World) (r : List Ev) (c : Int) (e : Ending) (w' : World) : Prop :=
  ∃ A n d, e = .returned (.tuple #[.slice A n d, .int .i64 c]) ∧ Sl w' A n r ∧ n ≤ d ∧ d ≤ maxLen ∧ Below w.heap.size w w'
def LeB (l r : List Ev) (c : Int) : Prop := (may l ≠ 0 ∧ r = [] ∧ c = may l) ∨ (may l = 0 ∧ r = leastL l ∧ c = 0)
def LePost (w : World) (l : List Ev) (e : Ending) (w' : World) : Prop := ∃ r c, LeB l r c ∧ EvsPost w r c e w'
def LeastC : Prop := ∀ (A : Option Addr) (n c : Nat) (l : List Ev) (w : World), Sl w A n l → n ≤ c → c ≤ maxLen → Calls Try.prog 94 #[.slice A n c] w (LePost w l)
end Go.Proofs.Yticnponenkfneaa
namespace Go.Proofs.Yticnponenkfneaa
open Go Go.RowKit

def q2 (k m a b : Int) : Bool := (a == k || a == m) && (b == k || b == m)
def clashB (a b : Int) : Bool := (q2 1 2 a b && decide (2 < a + b)) || q2 3 4 a b || (q2 7 8 a b && decide (14 < a + b)) || (q2 5 6 a b && decide (a + b < 12))
theorem eight (b : Int) : b = 1 ∨ b = 2 ∨ b = 3 ∨ b = 4 ∨ b = 5 ∨ b = 6 ∨ b = 7 ∨ b = 8 ∨ ((b == 1) = false ∧ (b == 2) = false ∧ (b == 3) = false ∧ (b == 4) = false ∧ (b == 5) = false ∧ (b == 6) = false ∧ (b == 7) = false ∧ (b == 8) = false) := by
  simp only [beq_eq_false_iff_ne]
  omega
theorem clash1 (b : Int) : clashB 1 b = (b == 2) := by
  rcases eight b with rfl | rfl | rfl | rfl | rfl | rfl | rfl | rfl | ⟨h1, h2, h3, h4, h5, h6, h7, h8⟩ <;> first | rfl | simp [clashB, q2, h1, h2, h3, h4, h5, h6, h7, h8]
theorem clash2 (b : Int) : clashB 2 b = (b == 1 || b == 2) := by
  rcases eight b with rfl | rfl | rfl | rfl | rfl | rfl | rfl | rfl | ⟨h1, h2, h3, h4, h5, h6, h7, h8⟩ <;> first | rfl | simp [clashB, q2, h1, h2, h3, h4, h5, h6, h7, h8]
theorem clash3 (b : Int) : clashB 3 b = (b == 3 || b == 4) := by
  rcases eight b with rfl | rfl | rfl | rfl | rfl | rfl | rfl | rfl | ⟨h1, h2, h3, h4, h5, h6, h7, h8⟩ <;> first | rfl | simp [clashB, q2, h1, h2, h3, h4, h5, h6, h7, h8]
theorem clash4 (b : Int) : clashB 4 b = (b == 3 || b == 4) := by
  rcases eight b with rfl | rfl | rfl | rfl | rfl | rfl | rfl | rfl | ⟨h1, h2, h3, h4, h5, h6, h7, h8⟩ <;> first | rfl | simp [clashB, q2, h1, h2, h3, h4, h5, h6, h7, h8]
theorem clash5 (b : Int) : clashB 5 b = (b == 5 || b == 6) := by
  rcases eight b with rfl | rfl | rfl | rfl | rfl | rfl | rfl | rfl | ⟨h1, h2, h3, h4, h5, h6, h7, h8⟩ <;> first | rfl | simp [clashB, q2, h1, h2, h3, h4, h5, h6, h7, h8]
theorem clash6 (b : Int) : clashB 6 b = (b == 5) := by
  rcases eight b with rfl | rfl | rfl | rfl | rfl | rfl | rfl | rfl | ⟨h1, h2, h3, h4, h5, h6, h7, h8⟩ <;> first | rfl | simp [clashB, q2, h1, h2, h3, h4, h5, h6, h7, h8]
theorem clash7 (b : Int) : clashB 7 b = (b == 8) := by
  rcases eight b with rfl | rfl | rfl | rfl | rfl | rfl | rfl | rfl | ⟨h1, h2, h3, h4, h5, h6, h7, h8⟩ <;> first | rfl | simp [clashB, q2, h1, h2, h3, h4, h5, h6, h7, h8]
theorem clash8 (b : Int) : clashB 8 b = (b == 7 || b == 8) := by
  rcases eight b with rfl | rfl | rfl | rfl | rfl | rfl | rfl | rfl | ⟨h1, h2, h3, h4, h5, h6, h7, h8⟩ <;> first | rfl | simp [clashB, q2, h1, h2, h3, h4, h5, h6, h7, h8]
theorem clash0 {a : Int} (h : (a == 1) = false ∧ (a == 2) = false ∧ (a == 3) = false ∧ (a == 4) = false ∧ (a == 5) = false ∧ (a == 6) = false ∧ (a == 7) = false ∧ (a == 8) = false) (b : Int) : clashB a b = false := by
  obtain ⟨h1, h2, h3, h4, h5, h6, h7, h8⟩ := h
  simp [clashB, q2, h1, h2, h3, h4, h5, h6, h7, h8]
set_option maxHeartbeats 2000000 in
theorem clash_same (a b : Int) (w : World) : Calls Try.prog 132 #[.int .i64 a, .int .i64 b] w fun e w' => e = .returned (.bool (clashB a b)) ∧ w = w' := by
  rcases eight a with rfl | rfl | rfl | rfl | rfl | rfl | rfl | rfl | h
  · have HV := Lib.hid (clash1 b)
    go_enter Try.func132, Try.ntmps132
    go_wp2
    go_ret
    exact ⟨by rw [HV.out]; rfl, rfl⟩
  · have HV := Lib.hid (clash2 b)
    cases h1 : (b == 1)
    · go_enter Try.func132, Try.ntmps132
      go_wp2
      go_ret
      exact ⟨by rw [HV.out, h1]; rfl, rfl⟩
    · go_enter Try.func132, Try.ntmps132
      go_wp2
      go_ret
      exact ⟨by rw [HV.out, h1]; rfl, rfl⟩
  · have HV := Lib.hid (clash3 b)
    cases h1 : (b == 3)
    · go_enter Try.func132, Try.ntmps132
      go_wp2
      go_ret
      exact ⟨by rw [HV.out, h1]; rfl, rfl⟩
    · go_enter Try.func132, Try.ntmps132
      go_wp2
      go_ret
      exact ⟨by rw [HV.out, h1]; rfl, rfl⟩
  · have HV := Lib.hid (clash4 b)
    cases h1 : (b == 3)
    · go_enter Try.func132, Try.ntmps132
      go_wp2
      go_ret
      exact ⟨by rw [HV.out, h1]; rfl, rfl⟩
    · go_enter Try.func132, Try.ntmps132
      go_wp2
      go_ret
      exact ⟨by rw [HV.out, h1]; rfl, rfl⟩
  · have HV := Lib.hid (clash5 b)
    cases h1 : (b == 5)
    · go_enter Try.func132, Try.ntmps132
      go_wp2
      go_ret
      exact ⟨by rw [HV.out, h1]; rfl, rfl⟩
    · go_enter Try.func132, Try.ntmps132
      go_wp2
      go_ret
      exact ⟨by rw [HV.out, h1]; rfl, rfl⟩
  · have HV := Lib.hid (clash6 b)
    go_enter Try.func132, Try.ntmps132
    go_wp2
    go_ret
    exact ⟨by rw [HV.out]; rfl, rfl⟩
  · have HV := Lib.hid (clash7 b)
    go_enter Try.func132, Try.ntmps132
    go_wp2
    go_ret
    exact ⟨by rw [HV.out]; rfl, rfl⟩
  · have HV := Lib.hid (clash8 b)
    cases h1 : (b == 7)
    · go_enter Try.func132, Try.ntmps132
      go_wp2
      go_ret
      exact ⟨by rw [HV.out, h1]; rfl, rfl⟩
    · go_enter Try.func132, Try.ntmps132
      go_wp2
      go_ret
      exact ⟨by rw [HV.out, h1]; rfl, rfl⟩
  · have HV := Lib.hid (clash0 h b)
    obtain ⟨h1, h2, h3, h4, h5, h6, h7, h8⟩ := h
    go_enter Try.func132, Try.ntmps132
    go_wp2
    go_ret
    exact ⟨by rw [HV.out]; rfl, rfl⟩
theorem clash_any (a b : Int) (w : World) : Calls Try.prog 132 #[.int .i64 a, .int .i64 b] w fun e w' => e = .returned (.bool (clashB a b)) ∧ Below w.heap.size w w' :=
  (clash_same a b w).mono fun e w' h => ⟨h.1, h.2 ▸ Below.refl _ _⟩
def tchI (x : Ev) (t : Int) : Bool := (x.k == 5 || x.k == 6) && x.o == t
theorem isFJ_any (x : Ev) (t : Int) (w : World) : Calls Try.prog 131 #[.agg (evv x), .int .i64 t] w fun e w' => e = .returned (.bool (tchI x t)) ∧ Below w.heap.size w w' := by
  obtain ⟨b1, hB, hs⟩ := boxes1 w (evv x) 67
  have a0 := b1.cell 0 (v := .int .i64 x.k) rfl
  have a2 := b1.cell 2 (v := .int .i64 x.o) rfl
  have HP := Lib.hid (show tchI x t = ((x.k == 5 || x.k == 6) && x.o == t) from rfl)
  have HB := Lib.hid hB
  clear b1 hB hs
  go_enter Try.func131, Try.ntmps131
  cases h1 : (x.k == 5)
  · cases h2 : (x.k == 6)
    · go_wp2
      go_ret
      exact ⟨by rw [HP.out, h1, h2]; rfl, HB.out⟩
    · go_wp2
      go_ret
      exact ⟨by rw [HP.out, h1, h2]; rfl, HB.out⟩
  · go_wp2
    go_ret
    exact ⟨by rw [HP.out, h1]; rfl, HB.out⟩
theorem dep_eq (a b : Ev) : (!dep a b) = ((a.t != b.t) && !tchI a b.t && !tchI b a.t && ((a.o != b.o) || !clashB a.k b.k)) := by
  unfold dep pr2 tch tchI clashB q2 bne
  generalize (a.t == b.t) = T
  generalize (a.o == b.o) = O
  generalize ((a.k == 1 || a.k == 2) && (b.k == 1 || b.k == 2)) = A
  generalize ((a.k == 3 || a.k == 4) && (b.k == 3 || b.k == 4)) = B
  generalize ((a.k == 7 || a.k == 8) && (b.k == 7 || b.k == 8)) = C
  generalize ((a.k == 5 || a.k == 6) && (b.k == 5 || b.k == 6)) = D
  generalize ((a.k == 5 || a.k == 6) && a.o == b.t) = X
  generalize ((b.k == 5 || b.k == 6) && b.o == a.t) = Y
  generalize decide (2 < a.k + b.k) = d1
  generalize decide (14 < a.k + b.k) = d2
  generalize decide (a.k + b.k < 12) = d3
  cases T <;> cases O <;> cases A <;> cases B <;> cases C <;> cases D <;> cases X <;> cases Y <;> first | rfl | simp
theorem apart_any : ApartC := by
  intro a b w
  have HD := Lib.hid (dep_eq a b)
  obtain ⟨b1, b2, hB, hs⟩ := boxes2 w (evv a) (evv b) 67 67
  generalize hW : ((w.alloc (.cells (evv a) 67)).alloc (.cells (evv b) 67)) = W at *
  have HB := Lib.hid hB
  have HB1 := b1
  have HB2 := b2
  clear hB hs b1 b2
  have C0 := fun (w' : World) (h : Bel W w') => (h.box HB1).cell 0 (v := .int .i64 a.k) rfl
  have C1 := fun (w' : World) (h : Bel W w') => (h.box HB1).cell 1 (v := .int .i64 a.t) rfl
  have C2 := fun (w' : World) (h : Bel W w') => (h.box HB1).cell 2 (v := .int .i64 a.o) rfl
  have D0 := fun (w' : World) (h : Bel W w') => (h.box HB2).cell 0 (v := .int .i64 b.k) rfl
  have D1 := fun (w' : World) (h : Bel W w') => (h.box HB2).cell 1 (v := .int .i64 b.t) rfl
  have D2 := fun (w' : World) (h : Bel W w') => (h.box HB2).cell 2 (v := .int .i64 b.o) rfl
  cases h1 : (a.t != b.t)
  · go_enter Try.func129, Try.ntmps129
    go_wp2_with (first | (refine list_bel 35 rfl ?_; (repeat (first | ((with_reducible refine BigFrame.wpQuiet_skip ?_ ?_); exact rfl; simp only [Act.put, Act.eval, List.setIfInBounds_toArray, List.set_cons_zero, List.set_cons_succ, Array.getD_eq_getD_getElem?, List.getElem?_toArray, List.getElem?_cons_zero, List.getElem?_cons_succ, Option.getD_some]) | (refine q_move _ rfl rfl ?_; simp only [Act.put, Act.eval, List.setIfInBounds_toArray, List.set_cons_zero, List.set_cons_succ, Array.getD_eq_getD_getElem?, List.getElem?_toArray, List.getElem?_cons_zero, List.getElem?_cons_succ, Option.getD_some]) | (refine q_assign _ rfl rfl ?_; simp only [Act.put, Act.eval, List.setIfInBounds_toArray, List.set_cons_zero, List.set_cons_succ, Array.getD_eq_getD_getElem?, List.getElem?_toArray, List.getElem?_cons_zero, List.getElem?_cons_succ, Option.getD_some]) | (refine q_load _ _ rfl rfl rfl HB1 T36 ?_; simp only [Act.put, Act.eval, List.setIfInBounds_toArray, List.set_cons_zero, List.set_cons_succ, Array.getD_eq_getD_getElem?, List.getElem?_toArray, List.getElem?_cons_zero, List.getElem?_cons_succ, Option.getD_some]) | (refine q_load _ _ rfl rfl rfl HB2 T36 ?_; simp only [Act.put, Act.eval, List.setIfInBounds_toArray, List.set_cons_zero, List.set_cons_succ, Array.getD_eq_getD_getElem?, List.getElem?_toArray, List.getElem?_cons_zero, List.getElem?_cons_succ, Option.getD_some]) | (refine q_any rfl ?_; apply Exists.intro; refine ⟨fun w hw => ?_, ?_⟩; (have fct0 := C0 w hw; have fct1 := C1 w hw; have fct2 := C2 w hw; have fct3 := D0 w hw; have fct4 := D1 w hw; have fct5 := D2 w hw; go_simp; first | exact ⟨rfl, rfl⟩ | rfl | (go_at_call 131; (with_reducible refine (isFJ_any _ _ _).mono ?_); rintro e w' ⟨rfl, hb⟩; exact ⟨rfl, hw.call hb⟩) | (go_at_call 132; (with_reducible refine (clash_any _ _ _).mono ?_); rintro e w' ⟨rfl, hb⟩; exact ⟨rfl, hw.call hb⟩)); simp only [Act.put, Act.eval, List.setIfInBounds_toArray, List.set_cons_zero, List.set_cons_succ, Array.getD_eq_getD_getElem?, List.getElem?_toArray, List.getElem?_cons_zero, List.getElem?_cons_succ, Option.getD_some]))); refine wpQuiet_nil ?_; intro w2 hw2))
    go_wp2
    go_ret
    exact ⟨by rw [HD.out, h1]; rfl, HB.out.trans (hw2.out.mono HB.out.size)⟩
  · cases h2 : tchI a b.t
    · cases h3 : tchI b a.t
      · cases h4 : (a.o != b.o)
        · go_enter Try.func129, Try.ntmps129
          go_wp2_with (first | (refine list_bel 35 rfl ?_; (repeat (first | ((with_reducible refine BigFrame.wpQuiet_skip ?_ ?_); exact rfl; simp only [Act.put, Act.eval, List.setIfInBounds_toArray, List.set_cons_zero, List.set_cons_succ, Array.getD_eq_getD_getElem?, List.getElem?_toArray, List.getElem?_cons_zero, List.getElem?_cons_succ, Option.getD_some]) | (refine q_move _ rfl rfl ?_; simp only [Act.put, Act.eval, List.setIfInBounds_toArray, List.set_cons_zero, List.set_cons_succ, Array.getD_eq_getD_getElem?, List.getElem?_toArray, List.getElem?_cons_zero, List.getElem?_cons_succ, Option.getD_some]) | (refine q_assign _ rfl rfl ?_; simp only [Act.put, Act.eval, List.setIfInBounds_toArray, List.set_cons_zero, List.set_cons_succ, Array.getD_eq_getD_getElem?, List.getElem?_toArray, List.getElem?_cons_zero, List.getElem?_cons_succ, Option.getD_some]) | (refine q_load _ _ rfl rfl rfl HB1 T36 ?_; simp only [Act.put, Act.eval, List.setIfInBounds_toArray, List.set_cons_zero, List.set_cons_succ, Array.getD_eq_getD_getElem?, List.getElem?_toArray, List.getElem?_cons_zero, List.getElem?_cons_succ, Option.getD_some]) | (refine q_load _ _ rfl rfl rfl HB2 T36 ?_; simp only [Act.put, Act.eval, List.setIfInBounds_toArray, List.set_cons_zero, List.set_cons_succ, Array.getD_eq_getD_getElem?, List.getElem?_toArray, List.getElem?_cons_zero, List.getElem?_cons_succ, Option.getD_some]) | (refine q_any rfl ?_; apply Exists.intro; refine ⟨fun w hw => ?_, ?_⟩; (have fct0 := C0 w hw; have fct1 := C1 w hw; have fct2 := C2 w hw; have fct3 := D0 w hw; have fct4 := D1 w hw; have fct5 := D2 w hw; go_simp; first | exact ⟨rfl, rfl⟩ | rfl | (go_at_call 131; (with_reducible refine (isFJ_any _ _ _).mono ?_); rintro e w' ⟨rfl, hb⟩; exact ⟨rfl, hw.call hb⟩) | (go_at_call 132; (with_reducible refine (clash_any _ _ _).mono ?_); rintro e w' ⟨rfl, hb⟩; exact ⟨rfl, hw.call hb⟩)); simp only [Act.put, Act.eval, List.setIfInBounds_toArray, List.set_cons_zero, List.set_cons_succ, Array.getD_eq_getD_getElem?, List.getElem?_toArray, List.getElem?_cons_zero, List.getElem?_cons_succ, Option.getD_some]))); refine wpQuiet_nil ?_; intro w2 hw2))
          go_wp2
          go_ret
          exact ⟨by rw [HD.out, h1, h2, h3, h4]; rfl, HB.out.trans (hw2.out.mono HB.out.size)⟩
        · go_enter Try.func129, Try.ntmps129
          go_wp2_with (first | (refine list_bel 35 rfl ?_; (repeat (first | ((with_reducible refine BigFrame.wpQuiet_skip ?_ ?_); exact rfl; simp only [Act.put, Act.eval, List.setIfInBounds_toArray, List.set_cons_zero, List.set_cons_succ, Array.getD_eq_getD_getElem?, List.getElem?_toArray, List.getElem?_cons_zero, List.getElem?_cons_succ, Option.getD_some]) | (refine q_move _ rfl rfl ?_; simp only [Act.put, Act.eval, List.setIfInBounds_toArray, List.set_cons_zero, List.set_cons_succ, Array.getD_eq_getD_getElem?, List.getElem?_toArray, List.getElem?_cons_zero, List.getElem?_cons_succ, Option.getD_some]) | (refine q_assign _ rfl rfl ?_; simp only [Act.put, Act.eval, List.setIfInBounds_toArray, List.set_cons_zero, List.set_cons_succ, Array.getD_eq_getD_getElem?, List.getElem?_toArray, List.getElem?_cons_zero, List.getElem?_cons_succ, Option.getD_some]) | (refine q_load _ _ rfl rfl rfl HB1 T36 ?_; simp only [Act.put, Act.eval, List.setIfInBounds_toArray, List.set_cons_zero, List.set_cons_succ, Array.getD_eq_getD_getElem?, List.getElem?_toArray, List.getElem?_cons_zero, List.getElem?_cons_succ, Option.getD_some]) | (refine q_load _ _ rfl rfl rfl HB2 T36 ?_; simp only [Act.put, Act.eval, List.setIfInBounds_toArray, List.set_cons_zero, List.set_cons_succ, Array.getD_eq_getD_getElem?, List.getElem?_toArray, List.getElem?_cons_zero, List.getElem?_cons_succ, Option.getD_some]) | (refine q_any rfl ?_; apply Exists.intro; refine ⟨fun w hw => ?_, ?_⟩; (have fct0 := C0 w hw; have fct1 := C1 w hw; have fct2 := C2 w hw; have fct3 := D0 w hw; have fct4 := D1 w hw; have fct5 := D2 w hw; go_simp; first | exact ⟨rfl, rfl⟩ | rfl | (go_at_call 131; (with_reducible refine (isFJ_any _ _ _).mono ?_); rintro e w' ⟨rfl, hb⟩; exact ⟨rfl, hw.call hb⟩) | (go_at_call 132; (with_reducible refine (clash_any _ _ _).mono ?_); rintro e w' ⟨rfl, hb⟩; exact ⟨rfl, hw.call hb⟩)); simp only [Act.put, Act.eval, List.setIfInBounds_toArray, List.set_cons_zero, List.set_cons_succ, Array.getD_eq_getD_getElem?, List.getElem?_toArray, List.getElem?_cons_zero, List.getElem?_cons_succ, Option.getD_some]))); refine wpQuiet_nil ?_; intro w2 hw2))
          go_wp2
          go_ret
          exact ⟨by rw [HD.out, h1, h2, h3, h4]; rfl, HB.out.trans (hw2.out.mono HB.out.size)⟩
      · go_enter Try.func129, Try.ntmps129
        go_wp2_with (first | (refine list_bel 35 rfl ?_; (repeat (first | ((with_reducible refine BigFrame.wpQuiet_skip ?_ ?_); exact rfl; simp only [Act.put, Act.eval, List.setIfInBounds_toArray, List.set_cons_zero, List.set_cons_succ, Array.getD_eq_getD_getElem?, List.getElem?_toArray, List.getElem?_cons_zero, List.getElem?_cons_succ, Option.getD_some]) | (refine q_move _ rfl rfl ?_; simp only [Act.put, Act.eval, List.setIfInBounds_toArray, List.set_cons_zero, List.set_cons_succ, Array.getD_eq_getD_getElem?, List.getElem?_toArray, List.getElem?_cons_zero, List.getElem?_cons_succ, Option.getD_some]) | (refine q_assign _ rfl rfl ?_; simp only [Act.put, Act.eval, List.setIfInBounds_toArray, List.set_cons_zero, List.set_cons_succ, Array.getD_eq_getD_getElem?, List.getElem?_toArray, List.getElem?_cons_zero, List.getElem?_cons_succ, Option.getD_some]) | (refine q_load _ _ rfl rfl rfl HB1 T36 ?_; simp only [Act.put, Act.eval, List.setIfInBounds_toArray, List.set_cons_zero, List.set_cons_succ, Array.getD_eq_getD_getElem?, List.getElem?_toArray, List.getElem?_cons_zero, List.getElem?_cons_succ, Option.getD_some]) | (refine q_load _ _ rfl rfl rfl HB2 T36 ?_; simp only [Act.put, Act.eval, List.setIfInBounds_toArray, List.set_cons_zero, List.set_cons_succ, Array.getD_eq_getD_getElem?, List.getElem?_toArray, List.getElem?_cons_zero, List.getElem?_cons_succ, Option.getD_some]) | (refine q_any rfl ?_; apply Exists.intro; refine ⟨fun w hw => ?_, ?_⟩; (have fct0 := C0 w hw; have fct1 := C1 w hw; have fct2 := C2 w hw; have fct3 := D0 w hw; have fct4 := D1 w hw; have fct5 := D2 w hw; go_simp; first | exact ⟨rfl, rfl⟩ | rfl | (go_at_call 131; (with_reducible refine (isFJ_any _ _ _).mono ?_); rintro e w' ⟨rfl, hb⟩; exact ⟨rfl, hw.call hb⟩) | (go_at_call 132; (with_reducible refine (clash_any _ _ _).mono ?_); rintro e w' ⟨rfl, hb⟩; exact ⟨rfl, hw.call hb⟩)); simp only [Act.put, Act.eval, List.setIfInBounds_toArray, List.set_cons_zero, List.set_cons_succ, Array.getD_eq_getD_getElem?, List.getElem?_toArray, List.getElem?_cons_zero, List.getElem?_cons_succ, Option.getD_some]))); refine wpQuiet_nil ?_; intro w2 hw2))
        go_wp2
        go_ret
        exact ⟨by rw [HD.out, h1, h2, h3]; rfl, HB.out.trans (hw2.out.mono HB.out.size)⟩
    · go_enter Try.func129, Try.ntmps129
      go_wp2_with (first | (refine list_bel 35 rfl ?_; (repeat (first | ((with_reducible refine BigFrame.wpQuiet_skip ?_ ?_); exact rfl; simp only [Act.put, Act.eval, List.setIfInBounds_toArray, List.set_cons_zero, List.set_cons_succ, Array.getD_eq_getD_getElem?, List.getElem?_toArray, List.getElem?_cons_zero, List.getElem?_cons_succ, Option.getD_some]) | (refine q_move _ rfl rfl ?_; simp only [Act.put, Act.eval, List.setIfInBounds_toArray, List.set_cons_zero, List.set_cons_succ, Array.getD_eq_getD_getElem?, List.getElem?_toArray, List.getElem?_cons_zero, List.getElem?_cons_succ, Option.getD_some]) | (refine q_assign _ rfl rfl ?_; simp only [Act.put, Act.eval, List.setIfInBounds_toArray, List.set_cons_zero, List.set_cons_succ, Array.getD_eq_getD_getElem?, List.getElem?_toArray, List.getElem?_cons_zero, List.getElem?_cons_succ, Option.getD_some]) | (refine q_load _ _ rfl rfl rfl HB1 T36 ?_; simp only [Act.put, Act.eval, List.setIfInBounds_toArray, List.set_cons_zero, List.set_cons_succ, Array.getD_eq_getD_getElem?, List.getElem?_toArray, List.getElem?_cons_zero, List.getElem?_cons_succ, Option.getD_some]) | (refine q_load _ _ rfl rfl rfl HB2 T36 ?_; simp only [Act.put, Act.eval, List.setIfInBounds_toArray, List.set_cons_zero, List.set_cons_succ, Array.getD_eq_getD_getElem?, List.getElem?_toArray, List.getElem?_cons_zero, List.getElem?_cons_succ, Option.getD_some]) | (refine q_any rfl ?_; apply Exists.intro; refine ⟨fun w hw => ?_, ?_⟩; (have fct0 := C0 w hw; have fct1 := C1 w hw; have fct2 := C2 w hw; have fct3 := D0 w hw; have fct4 := D1 w hw; have fct5 := D2 w hw; go_simp; first | exact ⟨rfl, rfl⟩ | rfl | (go_at_call 131; (with_reducible refine (isFJ_any _ _ _).mono ?_); rintro e w' ⟨rfl, hb⟩; exact ⟨rfl, hw.call hb⟩) | (go_at_call 132; (with_reducible refine (clash_any _ _ _).mono ?_); rintro e w' ⟨rfl, hb⟩; exact ⟨rfl, hw.call hb⟩)); simp only [Act.put, Act.eval, List.setIfInBounds_toArray, List.set_cons_zero, List.set_cons_succ, Array.getD_eq_getD_getElem?, List.getElem?_toArray, List.getElem?_cons_zero, List.getElem?_cons_succ, Option.getD_some]))); refine wpQuiet_nil ?_; intro w2 hw2))
      go_wp2
      go_ret
      exact ⟨by rw [HD.out, h1, h2]; rfl, HB.out.trans (hw2.out.mono HB.out.size)⟩
set_option maxHeartbeats 2000000 in
theorem clone_any (A : Option Addr) (n c : Nat) (l : List Ev) (w : World) (h : Sl w A n l) (hn : n ≤ 1000) : Calls Try.prog 32 #[.slice A n c] w (CpPost w n l) := by
  cases A with
  | none =>
    have HO := Lib.hid (World.ownsRow_nil w w.heap.size 67 3)
    have h0 : n = 0 := by
      rcases Nat.eq_zero_or_pos n with h0 | h0
      · exact h0
      · obtain ⟨b, o, h1, _⟩ := h.2 h0
        cases h1
    subst h0
    have hl : l = [] := List.eq_nil_of_length_eq_zero h.1
    subst hl
    have NS := Lib.run_eql_slice_nil (P := Try.prog) w 40 67 none 0 c 0 0 Try.underlying40
    clear h hn
    go_enter Try.func32, Try.ntmps32
    go_wp2
    go_ret
    exact ⟨_, rfl, HO.out, Below.refl _ _⟩
  | some ad =>
    obtain ⟨i0, hi0, hz0, hz1, hz2⟩ := info_parts ev_info
    have HO := Lib.hid (show (w.alloc (.cells #[] 67)).ownsRow w.heap.size 67 3 (.slice (some ⟨w.heap.size, 0, none⟩) 0 0) 0 [] from
      ⟨rfl, .inr ⟨w.heap.size, 0, #[], rfl, Nat.le_refl _, Box.new w #[] _, Nat.le_refl _, by unfold maxLen; omega, rfl, rfl⟩⟩)
    have HS := Lib.hid (h.src.keep (Bel.of ((Below.refl w.heap.size w).alloc (Nat.le_refl _) (.cells #[] 67))))
    have HLN := Lib.hid (show (evc l).length = n * 3 by rw [evc_length, h.1])
    have HN := Lib.hid hn
    have NS := Lib.run_eql_slice_nil (P := Try.prog) w 40 67 (some ad) n c 0 0 Try.underlying40
    clear h hn
    go_enter Try.func32, Try.ntmps32
    go_wp2_with (at_builtin; refine wpList_append_srcE rfl (.tmp 5) (.tmp 6) _ rfl w.heap.size 67 i0 _ 3 24 Try.underlying40 hi0 hz0 hz1 hz2 rfl (by omega) (.slice (some ⟨w.heap.size, 0, none⟩) 0 0) 0 [] rfl HO.out (some ad) n c (evc l) rfl HLN.out HS.out (evc_one l) (by have := HN.out; unfold maxLen; omega) (by have := HN.out; omega) (by simp) ?_; intro v2 w2 hown2 hg2 hat2)
    go_ret
    refine ⟨_, rfl, by simpa using hown2, ((Below.refl w.heap.size w).alloc (Nat.le_refl _) (.cells #[] 67)).grown hg2 (by simp) (fun k hk => ?_)⟩
    simp [Value.ownBlock] at hk
    omega
end Go.Proofs.Yticnponenkfneaa
namespace Go.Proofs.Yticnponenkfneaa
open Go Go.RowKit

def Can (l : List Ev) (i : Nat) (e : Ev) : Prop := l[i]? = some e ∧ ((l.take i).any fun x => dep x e) = false
theorem Can.front {l : List Ev} {i : Nat} {e : Ev} (h : Can l i e) : ∀ x ∈ l.take i, dep x e = false := fun x hx => by
  have := h.2
  rw [List.any_eq_false] at this
  simpa using this x hx
theorem split_at {l : List Ev} {i : Nat} {e : Ev} (h : l[i]? = some e) : l = l.take i ++ e :: l.drop (i + 1) := by
  obtain ⟨h1, h2⟩ := List.getElem?_eq_some_iff.1 h
  rw [← h2, List.getElem_cons_drop, List.take_append_drop]
theorem Can.take1 {l : List Ev} {i : Nat} {e : Ev} (h : Can l i e) : take1 e.t l = some (e, l.eraseIdx i) := by
  have h1 : Proofs.Yticnponenkfneaa.take1 e.t (l.take i ++ e :: l.drop (i + 1)) = some (e, l.take i ++ l.drop (i + 1)) := take1_at rfl h.front
  rw [← split_at h.1] at h1
  rw [List.eraseIdx_eq_take_drop_succ]
  exact h1
theorem pick_low {l : List Ev} {f : Nat} {e : Ev} (h : Can l f e) (hf : Fit l) (hm : ∀ j e', Can l j e' → e.t ≤ e'.t) : pick l = some (e, l.eraseIdx f) := by
  have he := hf e (List.mem_of_getElem? h.1)
  refine pick_iff.2 ⟨e.t.toNat, by omega, ?_, fun j hj => ?_⟩
  · rw [Int.toNat_of_nonneg he.1]
    exact h.take1
  · cases hr : Proofs.Yticnponenkfneaa.take1 j l with
    | none => rfl
    | some er =>
      obtain ⟨e', r⟩ := er
      obtain ⟨h1, p, q, rfl, _, h4⟩ := take1_form hr
      have := hm p.length e' ⟨by simp, by
        rw [List.any_eq_false]
        intro x hx
        simp only [List.take_left'] at hx
        simpa using h4 x hx⟩
      omega
structure Low (l : List Ev) (i f : Nat) (e : Ev) : Prop where
  can : Can l f e
  min : ∀ j, j < i → ∀ e', Can l j e' → e.t ≤ e'.t
theorem Low.start {l : List Ev} {e : Ev} (h : l[0]? = some e) : Low l 0 0 e := ⟨⟨h, by simp⟩, fun j hj => absurd hj (Nat.not_lt_zero j)⟩
theorem Low.stay {l : List Ev} {i f : Nat} {e x : Ev} (h : Low l i f e) (hx : l[i]? = some x) (hn : ¬ x.t < e.t ∨ ((l.take i).any fun y => dep y x) = true) : Low l (i + 1) f e :=
  ⟨h.can, fun j hj e' hc => by
    rcases Nat.lt_succ_iff_lt_or_eq.1 hj with h1 | rfl
    · exact h.min j h1 e' hc
    · obtain ⟨c1, c2⟩ := hc
      rw [hx] at c1
      cases c1
      rcases hn with hn | hn
      · omega
      · rw [hn] at c2; cases c2⟩
theorem Low.turn {l : List Ev} {i f : Nat} {e x : Ev} (h : Low l i f e) (hx : l[i]? = some x) (hlt : x.t < e.t) (hn : ((l.take i).any fun y => dep y x) = false) : Low l (i + 1) i x :=
  ⟨⟨hx, hn⟩, fun j hj e' hc => by
    rcases Nat.lt_succ_iff_lt_or_eq.1 hj with h1 | rfl
    · have := h.min j h1 e' hc; omega
    · obtain ⟨c1, c2⟩ := hc
      rw [hx] at c1
      cases c1
      exact Int.le_refl _⟩
theorem Low.pick {l : List Ev} {f : Nat} {e : Ev} (h : Low l l.length f e) (hf : Fit l) : pick l = some (e, l.eraseIdx f) :=
  pick_low h.can hf fun j e' hc => h.min j (List.getElem?_eq_some_iff.1 hc.1).1 e' hc
def setL : Array Value → Nat → List Value → Array Value
  | c, _, [] => c
  | c, o, v :: r => setL (c.setIfInBounds o v) (o + 1) r
theorem setL_size : ∀ (vs : List Value) (c : Array Value) (o : Nat), (setL c o vs).size = c.size
  | [], _, _ => rfl
  | v :: r, c, o => by rw [setL, setL_size r]; simp
theorem setL_out : ∀ (vs : List Value) (c : Array Value) (o i : Nat), i < o ∨ o + vs.length ≤ i → (setL c o vs)[i]? = c[i]?
  | [], _, _, _, _ => rfl
  | v :: r, c, o, i, h => by
    simp only [List.length_cons] at h
    rw [setL, setL_out r _ (o + 1) i (by omega), Array.getElem?_setIfInBounds_ne (by omega)]
theorem setL_in : ∀ (vs : List Value) (c : Array Value) (o j : Nat) (v : Value), vs[j]? = some v → o + vs.length ≤ c.size → (setL c o vs)[o + j]? = some v
  | [], _, _, _, _, h, _ => by cases h
  | u :: r, c, o, 0, v, h, hs => by
    simp only [List.getElem?_cons_zero, Option.some.injEq] at h
    subst h
    simp only [List.length_cons] at hs
    rw [setL, setL_out r _ (o + 1) _ (by omega), Nat.add_zero, Array.getElem?_setIfInBounds_self, if_pos (by omega)]
  | u :: r, c, o, j + 1, v, h, hs => by
    simp only [List.length_cons] at hs
    rw [setL, show o + (j + 1) = o + 1 + j by omega]
    exact setL_in r _ (o + 1) j v (by simpa using h) (by simp; omega)
theorem Box.setL : ∀ (vs : List Value) {w : World} {B : Nat} {c : Array Value} {t : TypeId} (o : Nat), Box w B c t → Box (w.setCells B o vs) B (Proofs.Yticnponenkfneaa.setL c o vs) t
  | [], _, _, _, _, _, h => h
  | v :: r, _, _, _, _, o, h => Box.setL r (o + 1) (h.set o v)
theorem grown_setCells (X : Nat) : ∀ (vs : List Value) (o : Nat) (w : World), w.grownBy (w.setCells X o vs) (some X)
  | [], _, w => World.grownBy.refl w _
  | v :: r, o, w => by
    rw [World.setCells]
    have h := grown_setCells X r (o + 1) (w.setCell ⟨X, o, none⟩ v)
    have h1 : w.grownBy (w.setCell ⟨X, o, none⟩ v) (some X) := ⟨rfl, rfl, rfl, by simp [World.setCell], fun k _ hk => heap_setCell_other w ⟨X, o, none⟩ k v (fun e => hk (congrArg some e))⟩
    exact h1.trans h
theorem del_cells {cur : Array Value} {l : List Ev} {n i cap m : Nat} (hl : l.length = n) (hi : i < n) (hm : m + 1 = n) (hn : n ≤ cap) (hs : cur.size = cap * 3) (hc : cur.toList.take (n * 3) = evc l) (z : List Value) :
    (setL (setL cur (i * 3) (evc (l.drop (i + 1)))) (m * 3) z).toList.take (m * 3) = evc (l.eraseIdx i) := by
  have hd : (evc (l.drop (i + 1))).length = (m - i) * 3 := by rw [evc_length, List.length_drop, hl]; omega
  apply List.ext_getElem?
  intro j
  rw [List.getElem?_take, List.eraseIdx_eq_take_drop_succ, evc_append]
  have ht : (evc (l.take i)).length = i * 3 := by rw [evc_length, List.length_take, hl]; omega
  by_cases hj : j < m * 3
  · rw [if_pos hj, Array.getElem?_toList, setL_out _ _ _ _ (.inl hj)]
    by_cases h1 : j < i * 3
    · rw [setL_out _ _ _ _ (.inl h1), List.getElem?_append_left (by omega), ← evc_take, List.getElem?_take, if_pos h1, ← hc, List.getElem?_take, if_pos (by omega), Array.getElem?_toList]
    · rw [List.getElem?_append_right (by omega), ht]
      obtain ⟨v, hv⟩ : ∃ v, (evc (l.drop (i + 1)))[j - i * 3]? = some v := ⟨_, List.getElem?_eq_getElem (by omega)⟩
      rw [hv]
      have := setL_in _ cur (i * 3) _ v hv (by omega)
      rwa [show i * 3 + (j - i * 3) = j by omega] at this
  · rw [if_neg hj, List.getElem?_eq_none]
    rw [List.length_append, ht, hd]
    omega
end Go.Proofs.Yticnponenkfneaa
namespace Go.Proofs.Yticnponenkfneaa
open Go Go.RowKit

structure Cap (w : World) (L I : Nat) (A : Option Addr) (n c : Nat) (l : List Ev) (i : Nat) : Prop where
  sl : Box w L #[.slice A n c] 40
  ix : Box w I #[.int .i64 i] 3
  evs : Sl w A n l
theorem Cap.bel {w w' : World} {L I : Nat} {A : Option Addr} {n c : Nat} {l : List Ev} {i : Nat} (h : Cap w L I A n c l i) (hb : Bel w w') : Cap w' L I A n c l i := ⟨hb.box h.sl, hb.box h.ix, h.evs.bel hb.out⟩
set_option maxHeartbeats 2000000 in
theorem clo_any (L I : Nat) (A : Option Addr) (n c : Nat) (l : List Ev) (i : Nat) (x e : Ev) (w : World) (h : Cap w L I A n c l i) (hi : i < n) (he : l[i]? = some e) :
    Calls Try.prog 128 #[.agg (evv x), .pointer (some ⟨L, 0, none⟩), .pointer (some ⟨I, 0, none⟩)] w fun e' w' => e' = .returned (.bool (dep x e)) ∧ Below w.heap.size w w' := by
  have HA := apart_any
  unfold ApartC at HA
  obtain ⟨b, off, e', rfl, hb, he', hrg⟩ := h.evs.at_ hi
  rw [he] at he'
  cases he'
  obtain ⟨b1, hB, hs⟩ := boxes1 w (evv x) 67
  generalize hW : w.alloc (.cells (evv x) 67) = W at *
  have HBE := Lib.hid hB
  have HB1 := b1
  have h2 := h.bel (Bel.of hB)
  have F1 := fun (w' : World) (k : Bel W w') => (k.box h2.sl).cell 0 (v := .slice (some ⟨b, off, none⟩) n c) rfl
  have F2 := fun (w' : World) (k : Bel W w') => (k.box h2.ix).cell 0 (v := .int .i64 i) rfl
  have F3 := Lib.hid (fun (w' : World) (k : Bel W w') => rangeAt_below k.out (Nat.lt_of_lt_of_le hb hB.size) (rangeAt_below hB hb hrg))
  have hi' : (i : Int) < n := by omega
  clear hB hs b1 h h2 hrg hb he
  go_enter Try.func128, Try.ntmps128
  go_wp2
  (refine region_bel (by kernel_rfl) (by kernel_rfl) ?_; (repeat (first | ((with_reducible refine BigFrame.wpQuiet_skip ?_ ?_); exact rfl; simp only [Act.put, Act.eval, List.setIfInBounds_toArray, List.set_cons_zero, List.set_cons_succ, Array.getD_eq_getD_getElem?, List.getElem?_toArray, List.getElem?_cons_zero, List.getElem?_cons_succ, Option.getD_some]) | (refine q_move _ rfl rfl ?_; simp only [Act.put, Act.eval, List.setIfInBounds_toArray, List.set_cons_zero, List.set_cons_succ, Array.getD_eq_getD_getElem?, List.getElem?_toArray, List.getElem?_cons_zero, List.getElem?_cons_succ, Option.getD_some]) | (refine q_assign _ rfl rfl ?_; simp only [Act.put, Act.eval, List.setIfInBounds_toArray, List.set_cons_zero, List.set_cons_succ, Array.getD_eq_getD_getElem?, List.getElem?_toArray, List.getElem?_cons_zero, List.getElem?_cons_succ, Option.getD_some]) | (refine q_load _ _ rfl rfl rfl HB1 T36 ?_; simp only [Act.put, Act.eval, List.setIfInBounds_toArray, List.set_cons_zero, List.set_cons_succ, Array.getD_eq_getD_getElem?, List.getElem?_toArray, List.getElem?_cons_zero, List.getElem?_cons_succ, Option.getD_some]) | (refine q_load_mid _ _ rfl rfl rfl F3.out T36 (evv e) rfl ?_; simp only [Act.put, Act.eval, List.setIfInBounds_toArray, List.set_cons_zero, List.set_cons_succ, Array.getD_eq_getD_getElem?, List.getElem?_toArray, List.getElem?_cons_zero, List.getElem?_cons_succ, Option.getD_some]) | (refine q_any rfl ?_; apply Exists.intro; refine ⟨fun w hw => ?_, ?_⟩; (have fct0 := F1 w hw; have fct1 := F2 w hw; go_simp; first | exact ⟨rfl, rfl⟩ | rfl | (go_at_call 129; (with_reducible refine (HA x e _).mono ?_); rintro e w' ⟨rfl, hb⟩; exact ⟨rfl, hw.call hb⟩)); simp only [Act.put, Act.eval, List.setIfInBounds_toArray, List.set_cons_zero, List.set_cons_succ, Array.getD_eq_getD_getElem?, List.getElem?_toArray, List.getElem?_cons_zero, List.getElem?_cons_succ, Option.getD_some]))); refine wpQuiet_nil ?_; intro w2 hw2)
  go_wp2
  go_ret
  exact ⟨by simp, HBE.out.trans (hw2.out.mono HBE.out.size)⟩
def IdxPost (w : World) (b : Bool) (e : Ending) (w' : World) : Prop := ∃ r : Int, e = .returned (.int .i64 r) ∧ decide (0 ≤ r) = b ∧ Below w.heap.size w w'
theorem any_snoc {p : Ev → Bool} {l : List Ev} {i : Nat} {x : Ev} (h : l[i]? = some x) : (l.take (i + 1)).any p = ((l.take i).any p || p x) := by rw [take_snoc h, List.any_append]; simp
set_option maxHeartbeats 4000000 in
theorem indexF_any (L I : Nat) (A : Option Addr) (n c : Nat) (l : List Ev) (i : Nat) (e : Ev) (B : Option Addr) (m d : Nat) (p : List Ev) (w : World) (h : Cap w L I A n c l i) (hi : i < n) (he : l[i]? = some e) (hp : Sl w B m p) (hm : m ≤ 1000) :
    Calls Try.prog 130 #[.slice B m d, .func (.func 128) #[] #[.pointer (some ⟨L, 0, none⟩), .pointer (some ⟨I, 0, none⟩)]] w (IdxPost w (p.any fun x => dep x e)) := by
  have HC := Lib.hid h
  have HI := Lib.hid (And.intro hi he)
  have HP := Lib.hid hp
  have hw0 := Lib.hid (Below.refl w.heap.size w)
  clear h hi he hp
  go_enter Try.func130, Try.ntmps130
  go_wp2
  go_loopw [8] (fun t wr => ∃ j : Nat, j ≤ m ∧ t = .int .i64 j ∧ (p.take j).any (fun x => dep x e) = false ∧ Below w.heap.size w wr) (fun t _ => m - (intOf t).toNat)
  case atStart => exact ⟨0, by omega, rfl, rfl, hw0.out⟩
  case round =>
    obtain ⟨j, hj, rfl, hno, hbr⟩ := hrel
    have HB := Lib.hid hbr
    have HN := Lib.hid hno
    clear hbr hno
    by_cases hlt : j < m
    · have hlt' : (j : Int) < m := by omega
      obtain ⟨b, off, x, rfl, hb, hx, hrg⟩ := HP.out.at_ hlt
      have HX := Lib.hid hx
      have hR := Lib.hid (rangeAt_below HB.out hb hrg)
      have HC1 := Lib.hid (HC.out.bel (Bel.of HB.out))
      clear hx hrg hb
      go_wp2_with (first | (refine load_ev T36 _ rfl rfl rfl hR.out ?_) | (refine ewld_store T36 _ _ rfl rfl _ rfl rfl rfl ?_))
      refine (clo_any L I A n c l i x e _ HC1.out HI.out.1 HI.out.2).mono ?_
      rintro e6 w6 ⟨rfl, hb6⟩
      have HB6 := Lib.hid hb6
      clear hb6
      cases hd : dep x e
      · go_wp2
        go_roundw
        case rel => exact ⟨j + 1, by omega, by go_num, by rw [any_snoc HX.out, HN.out, hd]; rfl, HB.out.trans (HB6.out.mono HB.out.size)⟩
        case measure => simp [intOf]; omega
      · go_wp2
        go_ret
        refine ⟨_, rfl, ?_, HB.out.trans (HB6.out.mono HB.out.size)⟩
        rw [decide_eq_true (by omega)]
        symm
        rw [List.any_eq_true]
        exact ⟨x, List.mem_of_getElem? HX.out, hd⟩
    · obtain rfl : j = m := by omega
      go_wp2
      go_ret
      refine ⟨_, rfl, ?_, HB.out⟩
      have h1 := HN.out
      rw [take_all HP.out] at h1
      rw [h1]
      decide
theorem containsF_any (L I : Nat) (A : Option Addr) (n c : Nat) (l : List Ev) (i : Nat) (e : Ev) (B : Option Addr) (m d : Nat) (p : List Ev) (w : World) (h : Cap w L I A n c l i) (hi : i < n) (he : l[i]? = some e) (hp : Sl w B m p) (hm : m ≤ 1000) :
    Calls Try.prog 127 #[.slice B m d, .func (.func 128) #[] #[.pointer (some ⟨L, 0, none⟩), .pointer (some ⟨I, 0, none⟩)]] w fun e' w' => e' = .returned (.bool (p.any fun x => dep x e)) ∧ Below w.heap.size w w' := by
  go_enter Try.func127, Try.ntmps127
  go_wp2_with fail
  refine (indexF_any L I A n c l i e B m d p w h hi he hp hm).mono ?_
  rintro e1 w1 ⟨r, rfl, hr, hb⟩
  have HB := Lib.hid hb
  have HR := Lib.hid hr
  clear hr hb h hp
  go_wp2
  go_ret
  exact ⟨by rw [← HR.out]; rfl, HB.out⟩
set_option maxHeartbeats 2000000 in
theorem can_any (A : Option Addr) (n c : Nat) (l : List Ev) (i : Nat) (e : Ev) (w : World) (h : Sl w A n l) (hi : i < n) (he : l[i]? = some e) (hnc : n ≤ c) (hn : n ≤ 1000) :
    Calls Try.prog 122 #[.slice A n c, .int .i64 i] w fun e' w' => e' = .returned (.bool (!((l.take i).any fun x => dep x e))) ∧ Below w.heap.size w w' := by
  obtain ⟨b1, b2, hB, hs⟩ := boxes2 w #[.slice A n c] #[.int .i64 i] 40 3
  have HC := Lib.hid (Cap.mk b1 b2 (h.bel hB) : Cap _ w.heap.size (w.heap.size + 1) A n c l i)
  have HT := Lib.hid ((h.bel hB).take (Nat.le_of_lt hi))
  have HB := Lib.hid hB
  have c1 := b1.cell 0 (v := .slice A n c) rfl
  have c2 := b2.cell 0 (v := .int .i64 i) rfl
  have hi' : (i : Int) ≤ n := by omega
  have hic : i ≤ c := by omega
  clear hs b1 b2 hB h
  go_enter Try.func122, Try.ntmps122
  go_wp2_with fail
  refine (containsF_any w.heap.size (w.heap.size + 1) A n c l i e A i c (l.take i) _ HC.out hi he HT.out (by omega)).mono ?_
  rintro e1 w1 ⟨rfl, hb⟩
  have HB1 := Lib.hid hb
  clear hb
  go_wp2
  go_ret
  exact ⟨rfl, HB.out.trans (HB1.out.mono HB.out.size)⟩
end Go.Proofs.Yticnponenkfneaa
namespace Go.Proofs.Yticnponenkfneaa
open Go Go.RowKit

def LowPost (w : World) (n : Nat) (l : List Ev) (e : Ending) (w' : World) : Prop := ∃ (f : Nat) (x : Ev), e = .returned (.int .i64 f) ∧ f < n ∧ Low l n f x ∧ Below w.heap.size w w'
set_option maxHeartbeats 8000000 in
theorem lowest_any (A : Option Addr) (n c : Nat) (l : List Ev) (w : World) (h : Sl w A n l) (h0 : 0 < n) (hnc : n ≤ c) (hn : n ≤ 1000) :
    Calls Try.prog 110 #[.slice A n c] w (LowPost w n l) := by
  obtain ⟨b, off, e0, rfl, hb0, he0, _⟩ := h.at_ h0
  have HL := Lib.hid h
  have HS := Lib.hid (Low.start he0)
  have HN := Lib.hid (And.intro hnc hn)
  have HZ := Lib.hid (And.intro h0 hb0)
  have hw0 := Lib.hid (Below.refl w.heap.size w)
  clear h he0 h0 hb0
  go_enter Try.func110, Try.ntmps110
  go_wp2
  go_loopw [3, 8] (fun v t wr => ∃ (i f : Nat) (e : Ev), i ≤ n ∧ f < n ∧ v = .int .i64 f ∧ t = .int .i64 i ∧ Low l i f e ∧ Below w.heap.size w wr) (fun _ t _ => n - (intOf t).toNat)
  case atStart => exact ⟨0, 0, e0, by omega, HZ.out.1, rfl, rfl, HS.out, hw0.out⟩
  case round =>
    obtain ⟨i, f, e, hi, hf, rfl, rfl, hlow, hbr⟩ := hrel
    have HB := Lib.hid hbr
    have HW := Lib.hid hlow
    clear hlow hbr HS
    by_cases hlt : i < n
    · have hlt' : (i : Int) < n := by omega
      have hf' : (f : Int) < n := by omega
      obtain ⟨x, hx⟩ : ∃ x, l[i]? = some x := ⟨_, List.getElem?_eq_getElem (by rw [HL.out.1]; exact hlt)⟩
      have HSR := Lib.hid (HL.out.bel HB.out)
      have HX := Lib.hid hx
      have hR := Lib.hid (HSR.out.rng hlt hx).2
      have HB2 := Lib.hid (show Bel wr _ from ewld_below wr x 67)
      have HEX := Lib.hid (ewld_box wr x 67)
      have HS2 := Lib.hid (HSR.out.bel HB2.out.out)
      have F1 := fun (w' : World) (k : Bel (ewld wr x 67) w') => (k.box HEX.out).cell 1 (v := .int .i64 x.t) rfl
      have F2 := fun (w' : World) (k : Bel (ewld wr x 67) w') => (rangeAt_below k.out (HS2.out.rng hf HW.out.can.1).1 (HS2.out.rng hf HW.out.can.1).2) 1 (.int .i64 e.t) rfl
      have F3 := fun (w' : World) (k : Bel (ewld wr x 67) w') => can_any (some ⟨b, off, none⟩) n c l i x w' (HS2.out.bel k.out) hlt hx HN.out.1 HN.out.2
      have HF3 := Lib.hid F3
      clear hx F3
      by_cases hq : x.t < e.t
      · have HQ := Lib.hid hq
        cases hany : (l.take i).any fun y => dep y x
        · go_wp2_with (first | (refine load_ev T36 _ rfl rfl rfl hR.out ?_) | (refine ewld_store T36 _ _ rfl rfl _ rfl rfl rfl ?_))
          (refine region_bel (by kernel_rfl) (by kernel_rfl) ?_; (repeat (first | ((with_reducible refine BigFrame.wpQuiet_skip ?_ ?_); exact rfl; simp only [Act.put, Act.eval, List.setIfInBounds_toArray, List.set_cons_zero, List.set_cons_succ, Array.getD_eq_getD_getElem?, List.getElem?_toArray, List.getElem?_cons_zero, List.getElem?_cons_succ, Option.getD_some]) | (refine q_move _ rfl rfl ?_; simp only [Act.put, Act.eval, List.setIfInBounds_toArray, List.set_cons_zero, List.set_cons_succ, Array.getD_eq_getD_getElem?, List.getElem?_toArray, List.getElem?_cons_zero, List.getElem?_cons_succ, Option.getD_some]) | (refine q_assign _ rfl rfl ?_; simp only [Act.put, Act.eval, List.setIfInBounds_toArray, List.set_cons_zero, List.set_cons_succ, Array.getD_eq_getD_getElem?, List.getElem?_toArray, List.getElem?_cons_zero, List.getElem?_cons_succ, Option.getD_some]) | (refine q_any rfl ?_; apply Exists.intro; refine ⟨fun w hw => ?_, ?_⟩; (have fct0 := F1 w hw; have fct1 := F2 w hw; go_simp; first | exact ⟨rfl, rfl⟩ | rfl | (go_at_call 122; (with_reducible refine (HF3.out _ hw).mono ?_); rintro e w' ⟨rfl, hb⟩; exact ⟨rfl, hw.call hb⟩)); simp only [Act.put, Act.eval, List.setIfInBounds_toArray, List.set_cons_zero, List.set_cons_succ, Array.getD_eq_getD_getElem?, List.getElem?_toArray, List.getElem?_cons_zero, List.getElem?_cons_succ, Option.getD_some]))); refine wpQuiet_nil ?_; intro w2 hw2)
          have HW2 := Lib.hid hw2
          have HAN := Lib.hid hany
          clear hw2 F1 F2 hany hq
          go_wp2
          go_roundw
          case rel => exact ⟨i + 1, i, x, by omega, by omega, rfl, by go_num, HW.out.turn HX.out HQ.out HAN.out, HB.out.trans ((HB2.out.trans HW2.out).out.mono HB.out.size)⟩
          case measure => simp [intOf]; omega
        · go_wp2_with (first | (refine load_ev T36 _ rfl rfl rfl hR.out ?_) | (refine ewld_store T36 _ _ rfl rfl _ rfl rfl rfl ?_))
          (refine region_bel (by kernel_rfl) (by kernel_rfl) ?_; (repeat (first | ((with_reducible refine BigFrame.wpQuiet_skip ?_ ?_); exact rfl; simp only [Act.put, Act.eval, List.setIfInBounds_toArray, List.set_cons_zero, List.set_cons_succ, Array.getD_eq_getD_getElem?, List.getElem?_toArray, List.getElem?_cons_zero, List.getElem?_cons_succ, Option.getD_some]) | (refine q_move _ rfl rfl ?_; simp only [Act.put, Act.eval, List.setIfInBounds_toArray, List.set_cons_zero, List.set_cons_succ, Array.getD_eq_getD_getElem?, List.getElem?_toArray, List.getElem?_cons_zero, List.getElem?_cons_succ, Option.getD_some]) | (refine q_assign _ rfl rfl ?_; simp only [Act.put, Act.eval, List.setIfInBounds_toArray, List.set_cons_zero, List.set_cons_succ, Array.getD_eq_getD_getElem?, List.getElem?_toArray, List.getElem?_cons_zero, List.getElem?_cons_succ, Option.getD_some]) | (refine q_any rfl ?_; apply Exists.intro; refine ⟨fun w hw => ?_, ?_⟩; (have fct0 := F1 w hw; have fct1 := F2 w hw; go_simp; first | exact ⟨rfl, rfl⟩ | rfl | (go_at_call 122; (with_reducible refine (HF3.out _ hw).mono ?_); rintro e w' ⟨rfl, hb⟩; exact ⟨rfl, hw.call hb⟩)); simp only [Act.put, Act.eval, List.setIfInBounds_toArray, List.set_cons_zero, List.set_cons_succ, Array.getD_eq_getD_getElem?, List.getElem?_toArray, List.getElem?_cons_zero, List.getElem?_cons_succ, Option.getD_some]))); refine wpQuiet_nil ?_; intro w2 hw2)
          have HW2 := Lib.hid hw2
          have HAN := Lib.hid hany
          clear hw2 F1 F2 hany hq
          go_wp2
          go_roundw
          case rel => exact ⟨i + 1, f, e, by omega, by omega, rfl, by go_num, HW.out.stay HX.out (.inr HAN.out), HB.out.trans ((HB2.out.trans HW2.out).out.mono HB.out.size)⟩
          case measure => simp [intOf]; omega
      · have HQ := Lib.hid hq
        have hqd : decide (x.t < e.t) = false := decide_eq_false hq
        clear hq
        go_wp2_with (first | (refine load_ev T36 _ rfl rfl rfl hR.out ?_) | (refine ewld_store T36 _ _ rfl rfl _ rfl rfl rfl ?_))
        (refine region_bel (by kernel_rfl) (by kernel_rfl) ?_; (repeat (first | ((with_reducible refine BigFrame.wpQuiet_skip ?_ ?_); exact rfl; simp only [Act.put, Act.eval, List.setIfInBounds_toArray, List.set_cons_zero, List.set_cons_succ, Array.getD_eq_getD_getElem?, List.getElem?_toArray, List.getElem?_cons_zero, List.getElem?_cons_succ, Option.getD_some]) | (refine q_move _ rfl rfl ?_; simp only [Act.put, Act.eval, List.setIfInBounds_toArray, List.set_cons_zero, List.set_cons_succ, Array.getD_eq_getD_getElem?, List.getElem?_toArray, List.getElem?_cons_zero, List.getElem?_cons_succ, Option.getD_some]) | (refine q_assign _ rfl rfl ?_; simp only [Act.put, Act.eval, List.setIfInBounds_toArray, List.set_cons_zero, List.set_cons_succ, Array.getD_eq_getD_getElem?, List.getElem?_toArray, List.getElem?_cons_zero, List.getElem?_cons_succ, Option.getD_some]) | (refine q_any rfl ?_; apply Exists.intro; refine ⟨fun w hw => ?_, ?_⟩; (have fct0 := F1 w hw; have fct1 := F2 w hw; go_simp; first | exact ⟨rfl, rfl⟩ | rfl | (go_at_call 122; (with_reducible refine (HF3.out _ hw).mono ?_); rintro e w' ⟨rfl, hb⟩; exact ⟨rfl, hw.call hb⟩)); simp only [Act.put, Act.eval, List.setIfInBounds_toArray, List.set_cons_zero, List.set_cons_succ, Array.getD_eq_getD_getElem?, List.getElem?_toArray, List.getElem?_cons_zero, List.getElem?_cons_succ, Option.getD_some]))); refine wpQuiet_nil ?_; intro w2 hw2)
        have HW2 := Lib.hid hw2
        clear hw2 F1 F2 hqd
        go_wp2
        go_roundw
        case rel => exact ⟨i + 1, f, e, by omega, by omega, rfl, by go_num, HW.out.stay HX.out (.inl (by have := HQ.out; omega)), HB.out.trans ((HB2.out.trans HW2.out).out.mono HB.out.size)⟩
        case measure => simp [intOf]; omega
    · obtain rfl : i = n := by omega
      go_wp2
      go_ret
      exact ⟨f, e, rfl, hf, HW.out, HB.out⟩
end Go.Proofs.Yticnponenkfneaa
namespace Go.Proofs.Yticnponenkfneaa
open Go Go.RowKit

theorem run_clear3 {P : Program} (t e : TypeId) (i : TypeInfo) (ht : P.underlying t = some (.slice e)) (hi : P.info? e = some i) (hz : i.zero = some (.agg #[.int .i64 0, .int .i64 0, .int .i64 0])) (ty : TypeId) (w : World) (g o k c : Nat) (hk : k = 1)
    (hc : ∀ j, j < 3 → (w.cell? ⟨g, o + j, none⟩).isSome = true) (hf : ∀ j, j < 3 → w.frozen? ⟨g, o + j, none⟩ = false) :
    (Builtin.clear_ #[t] ty #[.slice (some ⟨g, o, none⟩) k c]).run P w = .ok (.tuple #[]) (w.setCells g o [.int .i64 0, .int .i64 0, .int .i64 0]) := by
  subst hk
  have hst := run_storeCells_cells (P := P) g o [.int .i64 0, .int .i64 0, .int .i64 0] 0 w (by simpa using hc) (by simpa using hf) (fun v hv => by
    simp only [List.mem_cons, List.not_mem_nil, or_false] at hv
    rcases hv with rfl | rfl | rfl <;> rfl)
  have hzc : (Builtin.zeroCells #[.int .i64 0, .int .i64 0, .int .i64 0] 1).toList = [.int .i64 0, .int .i64 0, .int .i64 0] := by kernel_rfl
  simp [Builtin.clear_, Sem.run_bind, run_underlying ht, typeInfo, hi, zeroValue, hz, Value.cells, hzc, hst, Result.andThen]
def DelPost (w : World) (base n : Nat) (v : Value) (l : List Ev) (e : Ending) (w' : World) : Prop := ∃ v', e = .returned v' ∧ w'.ownsRow base 67 3 v' n (evc l) ∧ w.grownBy w' v.ownBlock ∧ v'.ownBlock = v.ownBlock
set_option maxHeartbeats 4000000 in
set_option maxRecDepth 1000000 in
theorem delete_any (base n i m : Nat) (v : Value) (l : List Ev) (w : World) (h : w.ownsRow base 67 3 v n (evc l)) (hi : i < n) (hm : m + 1 = n) (hn : n ≤ 1000) :
    Calls Try.prog 111 #[v, .int .i64 i, .int .i64 ((i : Int) + 1)] w (DelPost w base m v (l.eraseIdx i)) := by
  rcases h.2 with ⟨_, h0⟩ | ⟨g, cap, cur, rfl, h2, h3, h4, h5, h6, h7⟩
  · omega
  have hln : l.length = n := by have := h.1; rw [evc_length] at this; omega
  obtain ⟨i0, hi0, hz0, hz1, hz2⟩ := info_parts ev_info
  have HBX : Box w g cur 67 := h3
  have HM := Lib.hid (del_cells hln hi hm h4 h6 h7 [.int .i64 0, .int .i64 0, .int .i64 0])
  have HS := Lib.hid h6
  have HG := Lib.hid h2
  have hcell : ∀ k, k < n * 3 → ∃ u, cur[k]? = some u ∧ (evc l)[k]? = some u := fun k hk => by
    obtain ⟨u, hu⟩ : ∃ u, (evc l)[k]? = some u := ⟨_, List.getElem?_eq_getElem (by rw [h.1]; exact hk)⟩
    refine ⟨u, ?_, hu⟩
    rw [← h7, List.getElem?_take, if_pos hk] at hu
    simpa using hu
  have hml : (evc (l.drop (i + 1))).length = (n - (i + 1)) * 3 := by rw [evc_length, List.length_drop, hln]
  obtain ⟨A, hA, hnews⟩ : ∃ A : Addr, (if cap = i + 1 then some (⟨g, 0, none⟩ : Addr) else some ⟨g, (i + 1) * 3, none⟩) = some A ∧ (∀ j u, (evc (l.drop (i + 1)))[j]? = some u → w.drew.cell? (A.add j) = some u) := by
    by_cases hc : cap = i + 1
    · refine ⟨⟨g, 0, none⟩, by simp [hc], fun j u hu => ?_⟩
      have h0 : (evc (l.drop (i + 1))).length = 0 := by rw [hml]; omega
      rw [List.length_eq_zero_iff.1 h0] at hu
      cases hu
    · refine ⟨⟨g, (i + 1) * 3, none⟩, by simp [hc], fun j u hu => ?_⟩
      have hj := (List.getElem?_eq_some_iff.1 hu).1
      rw [hml] at hj
      obtain ⟨u', hu1, hu2⟩ := hcell ((i + 1) * 3 + j) (by omega)
      rw [← evc_drop, List.getElem?_drop, hu2] at hu
      cases hu
      rw [Addr.add_lit]
      exact HBX.drew.cell _ hu1
  have hnews := Lib.hid hnews
  have s1 := Lib.hid hml
  have s2 := Lib.hid (evc_one (l.drop (i + 1)))
  have s3 := Lib.hid (show ∀ j, j < (evc (l.drop (i + 1))).length → (w.drew.cell? ⟨g, 0 + i * 3 + j, none⟩).isSome = true ∧ w.drew.frozen? ⟨g, 0 + i * 3 + j, none⟩ = false from fun j hj => by
    rw [hml] at hj
    obtain ⟨u', hu1, _⟩ := hcell (i * 3 + j) (by omega)
    rw [Nat.zero_add]
    exact ⟨by rw [HBX.drew.cell _ hu1]; rfl, HBX.drew.frozen _⟩)
  have HBX := Lib.hid HBX
  have hic : i ≤ cap := by omega
  have hwr : IntKind.i64.wrap ((i : Int) + 1) = (i : Int) + 1 := by rw [IntKind.wrap_i64]; omega
  have hp0 : (0 : Int) ≤ (i : Int) + 1 := by omega
  have hp1 : (i : Int) + 1 ≤ (n : Int) := by omega
  have hp2 : ((i : Int) + 1).toNat = i + 1 := by omega
  have hp3 : ((i : Int) == (i : Int) + 1) = false := beq_eq_false_iff_ne.2 (by omega)
  have hp4 : (i : Int) ≤ (i : Int) + 1 := by omega
  have hp5 : (n : Int) ≤ (cap : Int) := by omega
  have H := Lib.hid h
  clear h hcell h2 h3 h6 h7 hml
  go_enter Try.func111, Try.ntmps111
  go_wp2_with fail
  go_region_law (refine step_append_room rfl (.tmp 22) (.tmp 25) 40 rfl 67 i0 3 Try.underlying40 hi0 hz1 g 0 i cap (by simp [Act.eval, Act.put]) A (n - (i + 1)) (cap - (i + 1)) (evc (l.drop (i + 1))) (by simp [Act.eval, Act.put]) s1.out hnews.out s2.out (by omega) s3.out ?_)
  have hmm : i + (n - (i + 1)) = m := by omega
  rw [hmm]
  try rw [Nat.zero_add]
  have HB3 := Lib.hid (Box.setL (evc (l.drop (i + 1))) (i * 3) HBX.out.drew)
  have HG3 := Lib.hid (grown_setCells g (evc (l.drop (i + 1))) (i * 3) w.drew)
  generalize w.drew.setCells g (i * 3) (evc (l.drop (i + 1))) = w3 at *
  have hz3 := Lib.hid (fun j => HB3.out.frozen (m * 3 + j))
  have hc3 := Lib.hid (show ∀ j, j < 3 → (w3.cell? ⟨g, m * 3 + j, none⟩).isSome = true from fun j hj => by
    obtain ⟨u, hu⟩ : ∃ u, (setL cur (i * 3) (evc (l.drop (i + 1))))[m * 3 + j]? = some u := ⟨_, Array.getElem?_eq_getElem (by rw [setL_size, HS.out]; omega)⟩
    rw [HB3.out.cell _ hu]; rfl)
  have hq1 : (0 : Int) ≤ (m : Int) := by omega
  have hq2 : (m : Int) ≤ (n : Int) := by omega
  have hq3 : ¬ cap = m := by omega
  have hq4 : m ≤ n := by omega
  clear hwr hp0 hp1 hp2 hp3 hp4 hmm hA hnews s1 s2 s3
  go_wp2
  rw [run_clear3 40 67 i0 Try.underlying40 hi0 hz0 0 w3 g (m * 3) (n - m) (cap - m) (by omega) hc3.out (fun j _ => hz3.out j)]
  go_wp2
  go_ret
  have h9 := Box.setL [.int .i64 0, .int .i64 0, .int .i64 0] (m * 3) HB3.out
  refine ⟨_, rfl, ⟨by rw [evc_length, List.length_eraseIdx_of_lt (by omega), hln]; omega, .inr ⟨g, cap, _, rfl, HG.out, h9, by omega, h5, by rw [setL_size, setL_size]; exact HS.out, HM.out⟩⟩, ?_, rfl⟩
  have hd : w.grownBy w.drew (some g) := ⟨rfl, rfl, rfl, Nat.le_refl _, fun _ _ _ => rfl⟩
  exact (hd.trans HG3.out).trans (grown_setCells g _ _ _)
end Go.Proofs.Yticnponenkfneaa
namespace Go.Proofs.Yticnponenkfneaa
open Go Go.RowKit

theorem own_two {w w' : World} {b1 b2 : Nat} {e1 e2 : TypeId} {s1 s2 n1 n2 : Nat} {v1 v2 v1' : Value} {x1 x2 : List Value} (h1 : w.ownsRow b1 e1 s1 v1 n1 x1) (h2 : w.ownsRow b2 e2 s2 v2 n2 x2) (ap : ∀ g, v1.ownBlock = some g → v2.ownBlock ≠ some g)
    (hg : w.grownBy w' v1.ownBlock) (hat : v1'.ownBlock = v1.ownBlock ∨ v1'.ownBlock = some w.heap.size) : w'.ownsRow b2 e2 s2 v2 n2 x2 ∧ (∀ g, v1'.ownBlock = some g → v2.ownBlock ≠ some g) := by
  refine ⟨own_keep h2 fun g hv hlt => hg.block g hlt fun e => ap g e.symm hv, fun g hv hv2 => ?_⟩
  rcases hat with h | h
  · exact ap g (h ▸ hv) hv2
  · rw [h] at hv; have := Option.some.inj hv; have := (own_lt h2 hv2).2; omega
structure TwoR (w : World) (L1 L2 : List Ev) (v1 v2 : Value) (wr : World) : Prop where
  own1 : wr.ownsRow w.heap.size 67 3 v1 L1.length (evc L1)
  own2 : wr.ownsRow w.heap.size 67 3 v2 L2.length (evc L2)
  apart : ∀ g, v1.ownBlock = some g → v2.ownBlock ≠ some g
  below : Bel w wr
theorem TwoR.bel {w : World} {L1 L2 : List Ev} {v1 v2 : Value} {wr w' : World} (h : TwoR w L1 L2 v1 v2 wr) (hb : Bel wr w') : TwoR w L1 L2 v1 v2 w' := ⟨own_bel h.own1 hb, own_bel h.own2 hb, h.apart, h.below.trans hb⟩
theorem TwoR.add2 {w : World} {L1 L2 : List Ev} {v1 v2 v : Value} {wr w' : World} {e : Ev} (h : TwoR w L1 L2 v1 v2 wr) (hg : wr.grownBy w' v2.ownBlock) (hat : v.ownBlock = v2.ownBlock ∨ v.ownBlock = some wr.heap.size)
    (ho : w'.ownsRow w.heap.size 67 3 v (L2.length + 1) (evc L2 ++ evl e)) : TwoR w L1 (L2 ++ [e]) v1 v w' := by
  obtain ⟨h2, hap⟩ := own_two h.own2 h.own1 (fun g hv hv2 => h.apart g hv2 hv) hg hat
  refine ⟨h2, ?_, fun g hv hv2 => hap g hv2 hv, Bel.of (h.below.out.grown hg h.below.size (own_block_ge h.own2))⟩
  rw [List.length_append, evc_append]; exact ho
end Go.Proofs.Yticnponenkfneaa
namespace Go.Proofs.Yticnponenkfneaa
open Go Go.RowKit

def lenV : Value → Nat
  | .slice _ n _ => n
  | _ => 0
theorem leastL_cons {R q : List Ev} {e : Ev} (h : pick R = some (e, q)) : leastL R = e :: leastL q := by
  unfold leastL
  rw [pick_len h]
  exact least_cons h
def LsR (w : World) (l : List Ev) (v6 v7 : Value) (wr : World) : Prop := ∃ R L : List Ev, leastL l = L ++ leastL R ∧ Fit R ∧ R.length + L.length = l.length ∧ TwoR w R L v6 v7 wr
theorem TwoR.del {w : World} {R L q : List Ev} {v6 v7 v : Value} {wr w' : World} (h : TwoR w R L v6 v7 wr) (hg : wr.grownBy w' v6.ownBlock) (hat : v.ownBlock = v6.ownBlock) (ho : w'.ownsRow w.heap.size 67 3 v q.length (evc q)) : TwoR w q L v v7 w' := by
  obtain ⟨h2, hap⟩ := own_two h.own1 h.own2 h.apart hg (.inl hat)
  exact ⟨ho, h2, hap, Bel.of (h.below.out.grown hg h.below.size (own_block_ge h.own1))⟩
set_option maxHeartbeats 16000000 in
theorem least_any : LeastC := by
  intro A n c l w hl hnc hcm
  have HL := Lib.hid hl
  have HML := Lib.hid (show (check l).2 = may l from rfl)
  clear hl hnc hcm
  go_enter Try.func94, Try.ntmps94
  go_wp2_with fail
  refine (check_any A n c l _ HL.out).mono ?_
  rintro e1 w1 ⟨rfl, hb1⟩
  rw [HML.out]
  have HW1 := Lib.hid (Bel.of hb1)
  clear hb1
  cases h1 : (may l != 0)
  · have hm : may l = 0 := by simpa using h1
    have HM := Lib.hid hm
    have hn80 : n ≤ 80 := by rw [← HL.out.1]; exact ((may_iff l).1 hm).1
    have HN8 := Lib.hid hn80
    obtain ⟨i0, hi0, hz0, hz1, hz2⟩ := info_parts ev_info
    have J := Lib.hid (And.intro hi0 (And.intro hz0 (And.intro hz1 hz2)))
    clear hm hi0 hz0 hz1 hz2
    go_wp2_with fail
    refine (clone_any A n c l _ (HL.out.bel HW1.out.out) (by omega)).mono ?_
    rintro e2 w2 ⟨v2, rfl, ho2, hb2⟩
    have H0 := Lib.hid (show LsR w l v2 (.slice none 0 0) w2 from ⟨l, [], rfl, may_fit HM.out, by simp, ⟨own_drop_alloc (by rw [HL.out.1]; exact ho2) HW1.out.size, World.ownsRow_nil _ _ _ _, fun g _ hv => (by cases hv), HW1.out.call hb2⟩⟩)
    clear ho2 hb2
    go_wp2
    go_loopw [6, 7] (fun v6 v7 wr => LsR w l v6 v7 wr) (fun v6 _ _ => lenV v6)
    case atStart => exact H0.out
    case round =>
      obtain ⟨R, L, hinv, hfit, hlen, htw⟩ := hrel
      have HI := Lib.hid (And.intro hinv (And.intro hfit hlen))
      have HT := Lib.hid htw
      have hRl : R.length ≤ 80 := by have := HL.out.1; omega
      have hLl : L.length ≤ 80 := by have := HL.out.1; omega
      obtain ⟨B, d, rfl, hs, hnd, hdm⟩ := Sl.own htw.own1
      have HS := Lib.hid hs
      have HDM := Lib.hid (And.intro hnd hdm)
      clear hinv hfit hlen htw hs H0
      generalize hr : R.length = r at *
      by_cases hr0 : 0 < r
      · have hr0' : (0 : Int) < r := by omega
        have HR := Lib.hid hr
        obtain ⟨b, off, e0, rfl, hbb, _, _⟩ := HS.out.at_ hr0
        clear hr
        go_wp2_with fail
        refine (lowest_any (some ⟨b, off, none⟩) r d R _ HS.out hr0 hnd (by omega)).mono ?_
        rintro e3 w3 ⟨f, x, rfl, hf, hlow, hb3⟩
        have HPK := Lib.hid (show pick R = some (x, R.eraseIdx f) from Low.pick (by rw [HR.out]; exact hlow) HI.out.2.1)
        have HW3 := Lib.hid (Bel.of hb3)
        have HT3 := Lib.hid (HT.out.bel HW3.out)
        have hR := Lib.hid ((HS.out.bel hb3).rng hf hlow.can.1).2
        have HTA := Lib.hid (HT3.out.bel ((Bel.refl w3).alloc (.cells (evv x) 67)))
        have HNW := Lib.hid (Box.news (l := evl x) (Box.new w3 (evv x) 67))
        have HSZ := Lib.hid HTA.out.below.size
        have hf' : (f : Int) < r := by omega
        have hwf : IntKind.i64.wrap ((f : Int) + 1) = (f : Int) + 1 := IntWalk.i64_in _ (by omega)
        clear hb3 hlow hbb
        go_wp2_with (first | (refine build1 40 _ rfl rfl 67 i0 Try.underlying40 J.out.1 J.out.2.1 J.out.2.2.1 x rfl ?_) | (refine load_ev T36 _ rfl rfl rfl hR.out ?_) | (refine ewld_store T36 _ _ rfl rfl _ rfl rfl rfl ?_) | (at_builtin; refine wpList_append_own_at _ rfl (.tmp 24) (.tmp 29) _ rfl w.heap.size 67 i0 _ 3 24 Try.underlying40 J.out.1 J.out.2.1 J.out.2.2.1 J.out.2.2.2 rfl (by omega) _ L.length (evc L) rfl HTA.out.own2 _ 1 1 (evl x) rfl rfl HNW.out (by simp [evl, Value.oneCell']) (by unfold maxLen; omega) (by omega) HSZ.out ?_; intro v8 w8 hown8 hg8 hn8 hat8))
        have HT8 := Lib.hid (HTA.out.add2 hg8 hat8 hown8)
        clear hown8 hg8 hn8 hat8
        refine (delete_any w.heap.size r f (r - 1) _ R w8 (by have := HT8.out.own1; rwa [HR.out] at this) hf (by omega) (by omega)).mono ?_
        rintro e9 w9 ⟨v9, rfl, ho9, hg9, hb9⟩
        have hel : (R.eraseIdx f).length = r - 1 := by rw [List.length_eraseIdx_of_lt (by rw [HR.out]; exact hf), HR.out]
        have HT9 := Lib.hid (HT8.out.del (q := R.eraseIdx f) hg9 hb9 (by rw [hel]; exact ho9))
        obtain ⟨C, c9, rfl, _, _, _⟩ := Sl.own ho9
        have HEL := Lib.hid hel
        clear ho9 hg9 hb9 hel
        go_wp2
        go_roundw
        case rel =>
          refine ⟨R.eraseIdx f, L ++ [x], ?_, pick_fit HPK.out HI.out.2.1, ?_, HT9.out⟩
          · rw [HI.out.1, leastL_cons HPK.out, List.append_assoc]; rfl
          · have := HI.out.2.2; rw [HEL.out, List.length_append, List.length_singleton]; have := HR.out; omega
        case measure => simp [lenV]; omega
      · obtain rfl : r = 0 := by omega
        have hRn : R = [] := List.eq_nil_of_length_eq_zero hr
        subst hRn
        have hLL : L = leastL l := by rw [HI.out.1]; unfold leastL least; simp
        obtain ⟨C, c7, rfl, hs7, hn7, hm7⟩ := Sl.own HT.out.own2
        have H7 := Lib.hid (And.intro hLL (And.intro hs7 (And.intro hn7 hm7)))
        clear hr hLL hs7 hn7 hm7
        go_wp2
        go_ret2
        refine ⟨leastL l, 0, .inr ⟨HM.out, rfl, rfl⟩, C, L.length, c7, rfl, ?_, H7.out.2.2.1, H7.out.2.2.2, HT.out.below.out⟩
        have h1 := H7.out.2.1
        rwa [H7.out.1] at h1 ⊢
  · have hm : may l ≠ 0 := by simpa using h1
    have HM := Lib.hid hm
    clear hm
    go_wp2
    go_ret2
    exact ⟨[], may l, .inl ⟨HM.out, rfl, rfl⟩, none, 0, 0, rfl, ⟨rfl, fun h => absurd h (Nat.lt_irrefl 0)⟩, Nat.le_refl _, Nat.zero_le _, HW1.out.out⟩
end Go.Proofs.Yticnponenkfneaa
namespace Go.Proofs.Yticnponenkfneaa
open Go Go.RowKit

end Go.Proofs.Yticnponenkfneaa

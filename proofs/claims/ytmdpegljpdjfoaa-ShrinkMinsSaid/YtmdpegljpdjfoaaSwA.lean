/- The package swap: clash, isForkOrJoin, Apart; slices.Equal, slices.Clone over events. -/
import Derived.Test.YtmdpegljpdjfoaaSwC
import Derived.Test.YtmdpegljpdjfoaaCp
import Derived.Test.YtmdpegljpdjfoaaAppend
set_option linter.all false
set_option maxRecDepth 100000
namespace Go.Proofs.Ytmdpegljpdjfoaa
open Go Go.RowKit

def q2 (k m a b : Int) : Bool := (a == k || a == m) && (b == k || b == m)
def clashB (a b : Int) : Bool := (q2 1 2 a b && decide (2 < a + b)) || q2 3 4 a b || (q2 7 8 a b && decide (14 < a + b)) || (q2 5 6 a b && decide (a + b < 12))
theorem eight (b : Int) : b = 1 ∨ b = 2 ∨ b = 3 ∨ b = 4 ∨ b = 5 ∨ b = 6 ∨ b = 7 ∨ b = 8 ∨ ((b == 1) = false ∧ (b == 2) = false ∧ (b == 3) = false ∧ (b == 4) = false ∧ (b == 5) = false ∧ (b == 6) = false ∧ (b == 7) = false ∧ (b == 8) = false) := by
  simp only [beq_eq_false_iff_ne]
  omega
theorem clash1 (b : Int) : clashB 1 b = (b == 2) := by
  rcases eight b with rfl | rfl | rfl | rfl | rfl | rfl | rfl | rfl | ⟨h1, h2, h3, h4, h5, h6, h7, h8⟩ <;> first | rfl | simp [clashB, q2, h1, h2, h3, h4, h5, h6, h7, h8]
theorem clash2 (b : Int) : clashB 2 b = (b == 1 || b == 2) := by
  rcases eight b with rfl | rfl | rfl | rfl | rfl | rfl | rfl | rfl | ⟨h1, h2, h3, h4, h5, h6, h7, h8⟩ <;> first | rfl | simp [clashB, q2, h1, h2, h3, h4, h5, h6, h7, h8]
theorem clash3 (b : Int) : clashB 3 b = (b == 3 || b == 4) := by
  rcases eight b with rfl | rfl | rfl | rfl | rfl | rfl | rfl | rfl | ⟨h1, h2, h3, h4, h5, h6, h7, h8⟩ <;> first | rfl | simp [clashB, q2, h1, h2, h3, h4, h5, h6, h7, h8]
theorem clash4 (b : Int) : clashB 4 b = (b == 3 || b == 4) := by
  rcases eight b with rfl | rfl | rfl | rfl | rfl | rfl | rfl | rfl | ⟨h1, h2, h3, h4, h5, h6, h7, h8⟩ <;> first | rfl | simp [clashB, q2, h1, h2, h3, h4, h5, h6, h7, h8]
theorem clash5 (b : Int) : clashB 5 b = (b == 5 || b == 6) := by
  rcases eight b with rfl | rfl | rfl | rfl | rfl | rfl | rfl | rfl | ⟨h1, h2, h3, h4, h5, h6, h7, h8⟩ <;> first | rfl | simp [clashB, q2, h1, h2, h3, h4, h5, h6, h7, h8]
theorem clash6 (b : Int) : clashB 6 b = (b == 5) := by
  rcases eight b with rfl | rfl | rfl | rfl | rfl | rfl | rfl | rfl | ⟨h1, h2, h3, h4, h5, h6, h7, h8⟩ <;> first | rfl | simp [clashB, q2, h1, h2, h3, h4, h5, h6, h7, h8]
theorem clash7 (b : Int) : clashB 7 b = (b == 8) := by
  rcases eight b with rfl | rfl | rfl | rfl | rfl | rfl | rfl | rfl | ⟨h1, h2, h3, h4, h5, h6, h7, h8⟩ <;> first | rfl | simp [clashB, q2, h1, h2, h3, h4, h5, h6, h7, h8]
theorem clash8 (b : Int) : clashB 8 b = (b == 7 || b == 8) := by
  rcases eight b with rfl | rfl | rfl | rfl | rfl | rfl | rfl | rfl | ⟨h1, h2, h3, h4, h5, h6, h7, h8⟩ <;> first | rfl | simp [clashB, q2, h1, h2, h3, h4, h5, h6, h7, h8]
theorem clash0 {a : Int} (h : (a == 1) = false ∧ (a == 2) = false ∧ (a == 3) = false ∧ (a == 4) = false ∧ (a == 5) = false ∧ (a == 6) = false ∧ (a == 7) = false ∧ (a == 8) = false) (b : Int) : clashB a b = false := by
  obtain ⟨h1, h2, h3, h4, h5, h6, h7, h8⟩ := h
  simp [clashB, q2, h1, h2, h3, h4, h5, h6, h7, h8]
set_option maxHeartbeats 2000000 in
theorem clash_same (a b : Int) (w : World) : Calls Try.prog 47 #[.int .i64 a, .int .i64 b] w fun e w' => e = .returned (.bool (clashB a b)) ∧ w = w' := by
  rcases eight a with rfl | rfl | rfl | rfl | rfl | rfl | rfl | rfl | h
  · have HV := Lib.hid (clash1 b)
    go_enter Try.func47, Try.ntmps47
    go_wp2
    go_ret
    exact ⟨by rw [HV.out]; rfl, rfl⟩
  · have HV := Lib.hid (clash2 b)
    cases h1 : (b == 1)
    · go_enter Try.func47, Try.ntmps47
      go_wp2
      go_ret
      exact ⟨by rw [HV.out, h1]; rfl, rfl⟩
    · go_enter Try.func47, Try.ntmps47
      go_wp2
      go_ret
      exact ⟨by rw [HV.out, h1]; rfl, rfl⟩
  · have HV := Lib.hid (clash3 b)
    cases h1 : (b == 3)
    · go_enter Try.func47, Try.ntmps47
      go_wp2
      go_ret
      exact ⟨by rw [HV.out, h1]; rfl, rfl⟩
    · go_enter Try.func47, Try.ntmps47
      go_wp2
      go_ret
      exact ⟨by rw [HV.out, h1]; rfl, rfl⟩
  · have HV := Lib.hid (clash4 b)
    cases h1 : (b == 3)
    · go_enter Try.func47, Try.ntmps47
      go_wp2
      go_ret
      exact ⟨by rw [HV.out, h1]; rfl, rfl⟩
    · go_enter Try.func47, Try.ntmps47
      go_wp2
      go_ret
      exact ⟨by rw [HV.out, h1]; rfl, rfl⟩
  · have HV := Lib.hid (clash5 b)
    cases h1 : (b == 5)
    · go_enter Try.func47, Try.ntmps47
      go_wp2
      go_ret
      exact ⟨by rw [HV.out, h1]; rfl, rfl⟩
    · go_enter Try.func47, Try.ntmps47
      go_wp2
      go_ret
      exact ⟨by rw [HV.out, h1]; rfl, rfl⟩
  · have HV := Lib.hid (clash6 b)
    go_enter Try.func47, Try.ntmps47
    go_wp2
    go_ret
    exact ⟨by rw [HV.out]; rfl, rfl⟩
  · have HV := Lib.hid (clash7 b)
    go_enter Try.func47, Try.ntmps47
    go_wp2
    go_ret
    exact ⟨by rw [HV.out]; rfl, rfl⟩
  · have HV := Lib.hid (clash8 b)
    cases h1 : (b == 7)
    · go_enter Try.func47, Try.ntmps47
      go_wp2
      go_ret
      exact ⟨by rw [HV.out, h1]; rfl, rfl⟩
    · go_enter Try.func47, Try.ntmps47
      go_wp2
      go_ret
      exact ⟨by rw [HV.out, h1]; rfl, rfl⟩
  · have HV := Lib.hid (clash0 h b)
    obtain ⟨h1, h2, h3, h4, h5, h6, h7, h8⟩ := h
    go_enter Try.func47, Try.ntmps47
    go_wp2
    go_ret
    exact ⟨by rw [HV.out]; rfl, rfl⟩
theorem clash_any (a b : Int) (w : World) : Calls Try.prog 47 #[.int .i64 a, .int .i64 b] w fun e w' => e = .returned (.bool (clashB a b)) ∧ Below w.heap.size w w' :=
  (clash_same a b w).mono fun e w' h => ⟨h.1, h.2 ▸ Below.refl _ _⟩
/-- A Fork or a Join of the thread t. -/
def tchI (x : Ev) (t : Int) : Bool := (x.k == 5 || x.k == 6) && x.o == t
theorem isFJ_any (x : Ev) (t : Int) (w : World) : Calls Try.prog 46 #[.agg (evv x), .int .i64 t] w fun e w' => e = .returned (.bool (tchI x t)) ∧ Below w.heap.size w w' := by
  obtain ⟨b1, hB, hs⟩ := boxes1 w (evv x) 29
  have a0 := b1.cell 0 (v := .int .i64 x.k) rfl
  have a2 := b1.cell 2 (v := .int .i64 x.o) rfl
  have HP := Lib.hid (show tchI x t = ((x.k == 5 || x.k == 6) && x.o == t) from rfl)
  have HB := Lib.hid hB
  clear b1 hB hs
  go_enter Try.func46, Try.ntmps46
  cases h1 : (x.k == 5)
  · cases h2 : (x.k == 6)
    · go_wp2
      go_ret
      exact ⟨by rw [HP.out, h1, h2]; rfl, HB.out⟩
    · go_wp2
      go_ret
      exact ⟨by rw [HP.out, h1, h2]; rfl, HB.out⟩
  · go_wp2
    go_ret
    exact ⟨by rw [HP.out, h1]; rfl, HB.out⟩
theorem dep_eq (a b : Ev) : (!dep a b) = ((a.t != b.t) && !tchI a b.t && !tchI b a.t && ((a.o != b.o) || !clashB a.k b.k)) := by
  unfold dep pr2 tch tchI clashB q2 bne
  generalize (a.t == b.t) = T
  generalize (a.o == b.o) = O
  generalize ((a.k == 1 || a.k == 2) && (b.k == 1 || b.k == 2)) = A
  generalize ((a.k == 3 || a.k == 4) && (b.k == 3 || b.k == 4)) = B
  generalize ((a.k == 7 || a.k == 8) && (b.k == 7 || b.k == 8)) = C
  generalize ((a.k == 5 || a.k == 6) && (b.k == 5 || b.k == 6)) = D
  generalize ((a.k == 5 || a.k == 6) && a.o == b.t) = X
  generalize ((b.k == 5 || b.k == 6) && b.o == a.t) = Y
  generalize decide (2 < a.k + b.k) = d1
  generalize decide (14 < a.k + b.k) = d2
  generalize decide (a.k + b.k < 12) = d3
  cases T <;> cases O <;> cases A <;> cases B <;> cases C <;> cases D <;> cases X <;> cases Y <;> first | rfl | simp
theorem apart_any : ApartC := by
  intro a b w
  have HD := Lib.hid (dep_eq a b)
  obtain ⟨b1, b2, hB, hs⟩ := boxes2 w (evv a) (evv b) 29 29
  generalize hW : ((w.alloc (.cells (evv a) 29)).alloc (.cells (evv b) 29)) = W at *
  have HB := Lib.hid hB
  have HB1 := b1
  have HB2 := b2
  clear hB hs b1 b2
  have C0 := fun (w' : World) (h : Bel W w') => (h.box HB1).cell 0 (v := .int .i64 a.k) rfl
  have C1 := fun (w' : World) (h : Bel W w') => (h.box HB1).cell 1 (v := .int .i64 a.t) rfl
  have C2 := fun (w' : World) (h : Bel W w') => (h.box HB1).cell 2 (v := .int .i64 a.o) rfl
  have D0 := fun (w' : World) (h : Bel W w') => (h.box HB2).cell 0 (v := .int .i64 b.k) rfl
  have D1 := fun (w' : World) (h : Bel W w') => (h.box HB2).cell 1 (v := .int .i64 b.t) rfl
  have D2 := fun (w' : World) (h : Bel W w') => (h.box HB2).cell 2 (v := .int .i64 b.o) rfl
  cases h1 : (a.t != b.t)
  · go_enter Try.func35, Try.ntmps35
    go_wp2_with (first | (refine list_bel 35 rfl ?_; (repeat (first | ((with_reducible refine BigFrame.wpQuiet_skip ?_ ?_); exact rfl; simp only [Act.put, Act.eval, List.setIfInBounds_toArray, List.set_cons_zero, List.set_cons_succ, Array.getD_eq_getD_getElem?, List.getElem?_toArray, List.getElem?_cons_zero, List.getElem?_cons_succ, Option.getD_some]) | (refine q_move _ rfl rfl ?_; simp only [Act.put, Act.eval, List.setIfInBounds_toArray, List.set_cons_zero, List.set_cons_succ, Array.getD_eq_getD_getElem?, List.getElem?_toArray, List.getElem?_cons_zero, List.getElem?_cons_succ, Option.getD_some]) | (refine q_assign _ rfl rfl ?_; simp only [Act.put, Act.eval, List.setIfInBounds_toArray, List.set_cons_zero, List.set_cons_succ, Array.getD_eq_getD_getElem?, List.getElem?_toArray, List.getElem?_cons_zero, List.getElem?_cons_succ, Option.getD_some]) | (refine q_load _ _ rfl rfl rfl HB1 T36 ?_; simp only [Act.put, Act.eval, List.setIfInBounds_toArray, List.set_cons_zero, List.set_cons_succ, Array.getD_eq_getD_getElem?, List.getElem?_toArray, List.getElem?_cons_zero, List.getElem?_cons_succ, Option.getD_some]) | (refine q_load _ _ rfl rfl rfl HB2 T36 ?_; simp only [Act.put, Act.eval, List.setIfInBounds_toArray, List.set_cons_zero, List.set_cons_succ, Array.getD_eq_getD_getElem?, List.getElem?_toArray, List.getElem?_cons_zero, List.getElem?_cons_succ, Option.getD_some]) | (refine q_any rfl ?_; apply Exists.intro; refine ⟨fun w hw => ?_, ?_⟩; (have fct0 := C0 w hw; have fct1 := C1 w hw; have fct2 := C2 w hw; have fct3 := D0 w hw; have fct4 := D1 w hw; have fct5 := D2 w hw; go_simp; first | exact ⟨rfl, rfl⟩ | rfl | (go_at_call 46; (with_reducible refine (isFJ_any _ _ _).mono ?_); rintro e w' ⟨rfl, hb⟩; exact ⟨rfl, hw.call hb⟩) | (go_at_call 47; (with_reducible refine (clash_any _ _ _).mono ?_); rintro e w' ⟨rfl, hb⟩; exact ⟨rfl, hw.call hb⟩)); simp only [Act.put, Act.eval, List.setIfInBounds_toArray, List.set_cons_zero, List.set_cons_succ, Array.getD_eq_getD_getElem?, List.getElem?_toArray, List.getElem?_cons_zero, List.getElem?_cons_succ, Option.getD_some]))); refine wpQuiet_nil ?_; intro w2 hw2))
    go_wp2
    go_ret
    exact ⟨by rw [HD.out, h1]; rfl, HB.out.trans (hw2.out.mono HB.out.size)⟩
  · cases h2 : tchI a b.t
    · cases h3 : tchI b a.t
      · cases h4 : (a.o != b.o)
        · go_enter Try.func35, Try.ntmps35
          go_wp2_with (first | (refine list_bel 35 rfl ?_; (repeat (first | ((with_reducible refine BigFrame.wpQuiet_skip ?_ ?_); exact rfl; simp only [Act.put, Act.eval, List.setIfInBounds_toArray, List.set_cons_zero, List.set_cons_succ, Array.getD_eq_getD_getElem?, List.getElem?_toArray, List.getElem?_cons_zero, List.getElem?_cons_succ, Option.getD_some]) | (refine q_move _ rfl rfl ?_; simp only [Act.put, Act.eval, List.setIfInBounds_toArray, List.set_cons_zero, List.set_cons_succ, Array.getD_eq_getD_getElem?, List.getElem?_toArray, List.getElem?_cons_zero, List.getElem?_cons_succ, Option.getD_some]) | (refine q_assign _ rfl rfl ?_; simp only [Act.put, Act.eval, List.setIfInBounds_toArray, List.set_cons_zero, List.set_cons_succ, Array.getD_eq_getD_getElem?, List.getElem?_toArray, List.getElem?_cons_zero, List.getElem?_cons_succ, Option.getD_some]) | (refine q_load _ _ rfl rfl rfl HB1 T36 ?_; simp only [Act.put, Act.eval, List.setIfInBounds_toArray, List.set_cons_zero, List.set_cons_succ, Array.getD_eq_getD_getElem?, List.getElem?_toArray, List.getElem?_cons_zero, List.getElem?_cons_succ, Option.getD_some]) | (refine q_load _ _ rfl rfl rfl HB2 T36 ?_; simp only [Act.put, Act.eval, List.setIfInBounds_toArray, List.set_cons_zero, List.set_cons_succ, Array.getD_eq_getD_getElem?, List.getElem?_toArray, List.getElem?_cons_zero, List.getElem?_cons_succ, Option.getD_some]) | (refine q_any rfl ?_; apply Exists.intro; refine ⟨fun w hw => ?_, ?_⟩; (have fct0 := C0 w hw; have fct1 := C1 w hw; have fct2 := C2 w hw; have fct3 := D0 w hw; have fct4 := D1 w hw; have fct5 := D2 w hw; go_simp; first | exact ⟨rfl, rfl⟩ | rfl | (go_at_call 46; (with_reducible refine (isFJ_any _ _ _).mono ?_); rintro e w' ⟨rfl, hb⟩; exact ⟨rfl, hw.call hb⟩) | (go_at_call 47; (with_reducible refine (clash_any _ _ _).mono ?_); rintro e w' ⟨rfl, hb⟩; exact ⟨rfl, hw.call hb⟩)); simp only [Act.put, Act.eval, List.setIfInBounds_toArray, List.set_cons_zero, List.set_cons_succ, Array.getD_eq_getD_getElem?, List.getElem?_toArray, List.getElem?_cons_zero, List.getElem?_cons_succ, Option.getD_some]))); refine wpQuiet_nil ?_; intro w2 hw2))
          go_wp2
          go_ret
          exact ⟨by rw [HD.out, h1, h2, h3, h4]; rfl, HB.out.trans (hw2.out.mono HB.out.size)⟩
        · go_enter Try.func35, Try.ntmps35
          go_wp2_with (first | (refine list_bel 35 rfl ?_; (repeat (first | ((with_reducible refine BigFrame.wpQuiet_skip ?_ ?_); exact rfl; simp only [Act.put, Act.eval, List.setIfInBounds_toArray, List.set_cons_zero, List.set_cons_succ, Array.getD_eq_getD_getElem?, List.getElem?_toArray, List.getElem?_cons_zero, List.getElem?_cons_succ, Option.getD_some]) | (refine q_move _ rfl rfl ?_; simp only [Act.put, Act.eval, List.setIfInBounds_toArray, List.set_cons_zero, List.set_cons_succ, Array.getD_eq_getD_getElem?, List.getElem?_toArray, List.getElem?_cons_zero, List.getElem?_cons_succ, Option.getD_some]) | (refine q_assign _ rfl rfl ?_; simp only [Act.put, Act.eval, List.setIfInBounds_toArray, List.set_cons_zero, List.set_cons_succ, Array.getD_eq_getD_getElem?, List.getElem?_toArray, List.getElem?_cons_zero, List.getElem?_cons_succ, Option.getD_some]) | (refine q_load _ _ rfl rfl rfl HB1 T36 ?_; simp only [Act.put, Act.eval, List.setIfInBounds_toArray, List.set_cons_zero, List.set_cons_succ, Array.getD_eq_getD_getElem?, List.getElem?_toArray, List.getElem?_cons_zero, List.getElem?_cons_succ, Option.getD_some]) | (refine q_load _ _ rfl rfl rfl HB2 T36 ?_; simp only [Act.put, Act.eval, List.setIfInBounds_toArray, List.set_cons_zero, List.set_cons_succ, Array.getD_eq_getD_getElem?, List.getElem?_toArray, List.getElem?_cons_zero, List.getElem?_cons_succ, Option.getD_some]) | (refine q_any rfl ?_; apply Exists.intro; refine ⟨fun w hw => ?_, ?_⟩; (have fct0 := C0 w hw; have fct1 := C1 w hw; have fct2 := C2 w hw; have fct3 := D0 w hw; have fct4 := D1 w hw; have fct5 := D2 w hw; go_simp; first | exact ⟨rfl, rfl⟩ | rfl | (go_at_call 46; (with_reducible refine (isFJ_any _ _ _).mono ?_); rintro e w' ⟨rfl, hb⟩; exact ⟨rfl, hw.call hb⟩) | (go_at_call 47; (with_reducible refine (clash_any _ _ _).mono ?_); rintro e w' ⟨rfl, hb⟩; exact ⟨rfl, hw.call hb⟩)); simp only [Act.put, Act.eval, List.setIfInBounds_toArray, List.set_cons_zero, List.set_cons_succ, Array.getD_eq_getD_getElem?, List.getElem?_toArray, List.getElem?_cons_zero, List.getElem?_cons_succ, Option.getD_some]))); refine wpQuiet_nil ?_; intro w2 hw2))
          go_wp2
          go_ret
          exact ⟨by rw [HD.out, h1, h2, h3, h4]; rfl, HB.out.trans (hw2.out.mono HB.out.size)⟩
      · go_enter Try.func35, Try.ntmps35
        go_wp2_with (first | (refine list_bel 35 rfl ?_; (repeat (first | ((with_reducible refine BigFrame.wpQuiet_skip ?_ ?_); exact rfl; simp only [Act.put, Act.eval, List.setIfInBounds_toArray, List.set_cons_zero, List.set_cons_succ, Array.getD_eq_getD_getElem?, List.getElem?_toArray, List.getElem?_cons_zero, List.getElem?_cons_succ, Option.getD_some]) | (refine q_move _ rfl rfl ?_; simp only [Act.put, Act.eval, List.setIfInBounds_toArray, List.set_cons_zero, List.set_cons_succ, Array.getD_eq_getD_getElem?, List.getElem?_toArray, List.getElem?_cons_zero, List.getElem?_cons_succ, Option.getD_some]) | (refine q_assign _ rfl rfl ?_; simp only [Act.put, Act.eval, List.setIfInBounds_toArray, List.set_cons_zero, List.set_cons_succ, Array.getD_eq_getD_getElem?, List.getElem?_toArray, List.getElem?_cons_zero, List.getElem?_cons_succ, Option.getD_some]) | (refine q_load _ _ rfl rfl rfl HB1 T36 ?_; simp only [Act.put, Act.eval, List.setIfInBounds_toArray, List.set_cons_zero, List.set_cons_succ, Array.getD_eq_getD_getElem?, List.getElem?_toArray, List.getElem?_cons_zero, List.getElem?_cons_succ, Option.getD_some]) | (refine q_load _ _ rfl rfl rfl HB2 T36 ?_; simp only [Act.put, Act.eval, List.setIfInBounds_toArray, List.set_cons_zero, List.set_cons_succ, Array.getD_eq_getD_getElem?, List.getElem?_toArray, List.getElem?_cons_zero, List.getElem?_cons_succ, Option.getD_some]) | (refine q_any rfl ?_; apply Exists.intro; refine ⟨fun w hw => ?_, ?_⟩; (have fct0 := C0 w hw; have fct1 := C1 w hw; have fct2 := C2 w hw; have fct3 := D0 w hw; have fct4 := D1 w hw; have fct5 := D2 w hw; go_simp; first | exact ⟨rfl, rfl⟩ | rfl | (go_at_call 46; (with_reducible refine (isFJ_any _ _ _).mono ?_); rintro e w' ⟨rfl, hb⟩; exact ⟨rfl, hw.call hb⟩) | (go_at_call 47; (with_reducible refine (clash_any _ _ _).mono ?_); rintro e w' ⟨rfl, hb⟩; exact ⟨rfl, hw.call hb⟩)); simp only [Act.put, Act.eval, List.setIfInBounds_toArray, List.set_cons_zero, List.set_cons_succ, Array.getD_eq_getD_getElem?, List.getElem?_toArray, List.getElem?_cons_zero, List.getElem?_cons_succ, Option.getD_some]))); refine wpQuiet_nil ?_; intro w2 hw2))
        go_wp2
        go_ret
        exact ⟨by rw [HD.out, h1, h2, h3]; rfl, HB.out.trans (hw2.out.mono HB.out.size)⟩
    · go_enter Try.func35, Try.ntmps35
      go_wp2_with (first | (refine list_bel 35 rfl ?_; (repeat (first | ((with_reducible refine BigFrame.wpQuiet_skip ?_ ?_); exact rfl; simp only [Act.put, Act.eval, List.setIfInBounds_toArray, List.set_cons_zero, List.set_cons_succ, Array.getD_eq_getD_getElem?, List.getElem?_toArray, List.getElem?_cons_zero, List.getElem?_cons_succ, Option.getD_some]) | (refine q_move _ rfl rfl ?_; simp only [Act.put, Act.eval, List.setIfInBounds_toArray, List.set_cons_zero, List.set_cons_succ, Array.getD_eq_getD_getElem?, List.getElem?_toArray, List.getElem?_cons_zero, List.getElem?_cons_succ, Option.getD_some]) | (refine q_assign _ rfl rfl ?_; simp only [Act.put, Act.eval, List.setIfInBounds_toArray, List.set_cons_zero, List.set_cons_succ, Array.getD_eq_getD_getElem?, List.getElem?_toArray, List.getElem?_cons_zero, List.getElem?_cons_succ, Option.getD_some]) | (refine q_load _ _ rfl rfl rfl HB1 T36 ?_; simp only [Act.put, Act.eval, List.setIfInBounds_toArray, List.set_cons_zero, List.set_cons_succ, Array.getD_eq_getD_getElem?, List.getElem?_toArray, List.getElem?_cons_zero, List.getElem?_cons_succ, Option.getD_some]) | (refine q_load _ _ rfl rfl rfl HB2 T36 ?_; simp only [Act.put, Act.eval, List.setIfInBounds_toArray, List.set_cons_zero, List.set_cons_succ, Array.getD_eq_getD_getElem?, List.getElem?_toArray, List.getElem?_cons_zero, List.getElem?_cons_succ, Option.getD_some]) | (refine q_any rfl ?_; apply Exists.intro; refine ⟨fun w hw => ?_, ?_⟩; (have fct0 := C0 w hw; have fct1 := C1 w hw; have fct2 := C2 w hw; have fct3 := D0 w hw; have fct4 := D1 w hw; have fct5 := D2 w hw; go_simp; first | exact ⟨rfl, rfl⟩ | rfl | (go_at_call 46; (with_reducible refine (isFJ_any _ _ _).mono ?_); rintro e w' ⟨rfl, hb⟩; exact ⟨rfl, hw.call hb⟩) | (go_at_call 47; (with_reducible refine (clash_any _ _ _).mono ?_); rintro e w' ⟨rfl, hb⟩; exact ⟨rfl, hw.call hb⟩)); simp only [Act.put, Act.eval, List.setIfInBounds_toArray, List.set_cons_zero, List.set_cons_succ, Array.getD_eq_getD_getElem?, List.getElem?_toArray, List.getElem?_cons_zero, List.getElem?_cons_succ, Option.getD_some]))); refine wpQuiet_nil ?_; intro w2 hw2))
      go_wp2
      go_ret
      exact ⟨by rw [HD.out, h1, h2]; rfl, HB.out.trans (hw2.out.mono HB.out.size)⟩
set_option maxHeartbeats 2000000 in
theorem clone_any (A : Option Addr) (n c : Nat) (l : List Ev) (w : World) (h : Sl w A n l) (hn : n ≤ 1000) : Calls Try.prog 27 #[.slice A n c] w (CpPost w n l) := by
  cases A with
  | none =>
    have HO := Lib.hid (World.ownsRow_nil w w.heap.size 29 3)
    have h0 : n = 0 := by
      rcases Nat.eq_zero_or_pos n with h0 | h0
      · exact h0
      · obtain ⟨b, o, h1, _⟩ := h.2 h0
        cases h1
    subst h0
    have hl : l = [] := List.eq_nil_of_length_eq_zero h.1
    subst hl
    have NS := Lib.run_eql_slice_nil (P := Try.prog) w 22 29 none 0 c 0 0 Try.underlying22
    clear h hn
    go_enter Try.func27, Try.ntmps27
    go_wp2
    go_ret
    exact ⟨_, rfl, HO.out, Below.refl _ _⟩
  | some ad =>
    obtain ⟨i0, hi0, hz0, hz1, hz2⟩ := info_parts ev_info
    have HO := Lib.hid (show (w.alloc (.cells #[] 29)).ownsRow w.heap.size 29 3 (.slice (some ⟨w.heap.size, 0, none⟩) 0 0) 0 [] from
      ⟨rfl, .inr ⟨w.heap.size, 0, #[], rfl, Nat.le_refl _, Box.new w #[] _, Nat.le_refl _, by unfold maxLen; omega, rfl, rfl⟩⟩)
    have HS := Lib.hid (h.src.keep (Bel.of ((Below.refl w.heap.size w).alloc (Nat.le_refl _) (.cells #[] 29))))
    have HLN := Lib.hid (show (evc l).length = n * 3 by rw [evc_length, h.1])
    have HN := Lib.hid hn
    have NS := Lib.run_eql_slice_nil (P := Try.prog) w 22 29 (some ad) n c 0 0 Try.underlying22
    clear h hn
    go_enter Try.func27, Try.ntmps27
    go_wp2_with (at_builtin; refine wpList_append_srcE rfl (.tmp 5) (.tmp 6) _ rfl w.heap.size 29 i0 _ 3 24 Try.underlying22 hi0 hz0 hz1 hz2 rfl (by omega) (.slice (some ⟨w.heap.size, 0, none⟩) 0 0) 0 [] rfl HO.out (some ad) n c (evc l) rfl HLN.out HS.out (evc_one l) (by have := HN.out; unfold maxLen; omega) (by have := HN.out; omega) (by simp) ?_; intro v2 w2 hown2 hg2 hat2)
    go_ret
    refine ⟨_, rfl, by simpa using hown2, ((Below.refl w.heap.size w).alloc (Nat.le_refl _) (.cells #[] 29)).grown hg2 (by simp) (fun k hk => ?_)⟩
    simp [Value.ownBlock] at hk
    omega
end Go.Proofs.Ytmdpegljpdjfoaa

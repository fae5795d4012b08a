import Derived.Test.YtjddahidkodieaaYGu
set_option linter.all false
set_option maxRecDepth 100000
namespace Go.Proofs.Ytjddahidkodieaa
open Go Go.RowKit

theorem gev_eq (a b : Nat) (p : Nat → Bool) : gev ⟨a, b, p⟩ = ⟨(a : Nat), (b : Nat), hset p⟩ := by unfold gev; rw [lkN_eq]
theorem kp_cell {N B : Nat} (hne : N ≠ B) (w : World) (k : Nat) (v : Value) : Kp N w (w.setCell ⟨B, k, none⟩ v) := Kp.grown (chg_cell w k v) (fun e => hne (Option.some.inj e))
set_option maxHeartbeats 4000000 in
theorem gnext_any (g : Gd) (k : Int) (t o : Nat) (p : Nat → Bool) (w : World) (hg : GdOk g) (hk : k = 1 ∨ k = 2) :
    Calls Try.prog 76 #[.agg (evv (gev g)), .agg (evv ⟨k, (t : Nat), (o : Nat)⟩), .int .i64 (hset p)] w fun e w' => e = .returned (.agg (evv (gev (gdStep g k t p)))) ∧ Below w.heap.size w w' := by
  obtain ⟨st, th, lk⟩ := g
  obtain ⟨hst, hlk⟩ := hg
  dsimp only at hst hlk
  obtain ⟨b1, b2, b3, hB, hs⟩ := boxes3 w (evv (gev ⟨st, th, lk⟩)) (evv ⟨k, (t : Nat), (o : Nat)⟩) #[.int .i64 0, .int .i64 0, .int .i64 0] 101 54 101
  have HB := Lib.hid hB
  have HB1 := Lib.hid b1
  have HB2 := Lib.hid b2
  have HB3 := Lib.hid b3
  clear hB hs b1 b2 b3
  generalize hW : (((w.alloc (.cells (evv (gev ⟨st, th, lk⟩)) 101)).alloc (.cells (evv ⟨k, (t : Nat), (o : Nat)⟩) 54)).alloc (.cells #[.int .i64 0, .int .i64 0, .int .i64 0] 101)) = W at *
  have c0 := HB1.out.cell 0 (v := .int .i64 st) rfl
  have c1 := HB1.out.cell 1 (v := .int .i64 th) rfl
  have c2 := HB1.out.cell 2 (v := .int .i64 (hset lk)) (by rw [gev_eq]; rfl)
  have f0 := HB1.out.frozen 0
  have f1 := HB1.out.frozen 1
  have f2 := HB1.out.frozen 2
  have d0 := HB2.out.cell 0 (v := .int .i64 k) rfl
  have d1 := HB2.out.cell 1 (v := .int .i64 t) rfl
  have hcase : st = 0 ∨ st = 1 ∨ st = 2 ∨ st = 3 := by omega
  have HLK := Lib.hid hlk
  clear hst hlk
  rcases hcase with rfl | rfl | rfl | rfl
  · go_enter Try.func76, Try.ntmps76
    go_wp2
    clear hW c0 c1 c2 f0 f1 f2 d0 d1
    have HFD := Lib.hid (fun (w' : World) (h : Kp (w.heap.size + 1) W w') => (h.box HB2.out).cell 1 (v := .int .i64 t) rfl)
    refine region_keep (w.heap.size + 1) (by kernel_rfl) ?_
    (repeat (first | ((first | refine wpK_go 0 (by simp only [List.getElem?_toArray, List.getElem?_cons_zero, List.getElem?_cons_succ] <;> rfl) (by decide +kernel) (by decide +kernel) (by kernel_rfl) (by rfl) (by exact fun _ _ _ _ h => h) ?_ | refine wpK_go 1 (by simp only [List.getElem?_toArray, List.getElem?_cons_zero, List.getElem?_cons_succ] <;> rfl) (by decide +kernel) (by decide +kernel) (by kernel_rfl) (by rfl) (by exact fun _ _ _ _ h => h) ?_ | refine wpK_go 2 (by simp only [List.getElem?_toArray, List.getElem?_cons_zero, List.getElem?_cons_succ] <;> rfl) (by decide +kernel) (by decide +kernel) (by kernel_rfl) (by rfl) (by exact fun _ _ _ _ h => h) ?_); apply Exists.intro; refine ⟨fun w1 h1 => ?_, ?_⟩; (first | exact g_move _ rfl | exact g_assign _ rfl | (have fct0 := HFD.out w1 h1; go_simp; first | exact ⟨rfl, rfl⟩ | rfl)); simp only [Act.put, Act.eval, List.setIfInBounds_toArray, List.set_cons_zero, List.set_cons_succ, Array.getD_eq_getD_getElem?, List.getElem?_toArray, List.getElem?_cons_zero, List.getElem?_cons_succ, Option.getD_some]) | ((first | refine wpK_skip 0 (by simp only [List.getElem?_toArray, List.getElem?_cons_zero, List.getElem?_cons_succ] <;> rfl) (by decide +kernel) (by decide +kernel) (by kernel_rfl) (by rfl) (by exact fun _ _ _ _ h => h) ?_ | refine wpK_skip 1 (by simp only [List.getElem?_toArray, List.getElem?_cons_zero, List.getElem?_cons_succ] <;> rfl) (by decide +kernel) (by decide +kernel) (by kernel_rfl) (by rfl) (by exact fun _ _ _ _ h => h) ?_ | refine wpK_skip 2 (by simp only [List.getElem?_toArray, List.getElem?_cons_zero, List.getElem?_cons_succ] <;> rfl) (by decide +kernel) (by decide +kernel) (by kernel_rfl) (by rfl) (by exact fun _ _ _ _ h => h) ?_); simp only [Act.put, Act.eval, List.setIfInBounds_toArray, List.set_cons_zero, List.set_cons_succ, Array.getD_eq_getD_getElem?, List.getElem?_toArray, List.getElem?_cons_zero, List.getElem?_cons_succ, Option.getD_some])))
    (refine wpK_one 3 (by decide +kernel) ?_; intro w4 hw4; refine op_wanted (by simp only [List.getElem?_toArray, List.getElem?_cons_zero, List.getElem?_cons_succ] <;> rfl) rfl ?_)
    have B4 := hw4.box HB1.out
    have HX4 := Lib.hid (hw4.box HB2.out)
    have HR4 := Lib.hid (hw4.box HB3.out)
    have HBB := Lib.hid ((Bel.of HB.out).trans hw4)
    have c0 := B4.cell 0 (v := .int .i64 (0 : Nat)) rfl
    have g0 := B4.frozen 0
    have HB4 := Lib.hid (show Box (w4.setCell ⟨w.heap.size, 0, none⟩ (.int .i64 1)) w.heap.size (evv (gev ⟨1, th, lk⟩)) 101 from B4.set 0 (.int .i64 1))
    have HR5 := Lib.hid (HR4.out.set_ne ⟨w.heap.size, 0, none⟩ (.int .i64 1) (by simp; omega))
    have HBB5 := Lib.hid (HBB.out.setCell ⟨w.heap.size, 0, none⟩ (Nat.le_refl _) (.int .i64 1))
    clear B4 hw4
    go_simp
    refine ⟨kp_cell (by omega) _ _ _, ?_⟩
    clear c0 g0
    try simp only [Act.put, Act.eval, List.setIfInBounds_toArray, List.set_cons_zero, List.set_cons_succ, Array.getD_eq_getD_getElem?, List.getElem?_toArray, List.getElem?_cons_zero, List.getElem?_cons_succ, Option.getD_some]
    (repeat (first | ((first | refine wpK_go 4 (by simp only [List.getElem?_toArray, List.getElem?_cons_zero, List.getElem?_cons_succ] <;> rfl) (by decide +kernel) (by decide +kernel) (by kernel_rfl) (by rfl) (by exact fun _ _ _ _ h => h) ?_); apply Exists.intro; refine ⟨fun w1 h1 => ?_, ?_⟩; (first | exact g_move _ rfl | exact g_assign _ rfl | (go_simp; first | exact ⟨rfl, rfl⟩ | rfl)); simp only [Act.put, Act.eval, List.setIfInBounds_toArray, List.set_cons_zero, List.set_cons_succ, Array.getD_eq_getD_getElem?, List.getElem?_toArray, List.getElem?_cons_zero, List.getElem?_cons_succ, Option.getD_some]) | ((first | refine wpK_skip 4 (by simp only [List.getElem?_toArray, List.getElem?_cons_zero, List.getElem?_cons_succ] <;> rfl) (by decide +kernel) (by decide +kernel) (by kernel_rfl) (by rfl) (by exact fun _ _ _ _ h => h) ?_); simp only [Act.put, Act.eval, List.setIfInBounds_toArray, List.set_cons_zero, List.set_cons_succ, Array.getD_eq_getD_getElem?, List.getElem?_toArray, List.getElem?_cons_zero, List.getElem?_cons_succ, Option.getD_some])))
    (refine wpK_one 5 (by decide +kernel) ?_; intro w5 hw5; refine op_wanted (by simp only [List.getElem?_toArray, List.getElem?_cons_zero, List.getElem?_cons_succ] <;> rfl) rfl ?_)
    have B5 := hw5.box HB4.out
    have HR6 := Lib.hid ((hw5.box HR5.out).set_ne ⟨w.heap.size, 1, none⟩ (.int .i64 t) (by simp; omega))
    have HBB6 := Lib.hid ((HBB5.out.trans hw5).setCell ⟨w.heap.size, 1, none⟩ (Nat.le_refl _) (.int .i64 t))
    have c0 := B5.cell 1 (v := .int .i64 (th : Nat)) rfl
    have g0 := B5.frozen 1
    have HB5 := Lib.hid (show Box (w5.setCell ⟨w.heap.size, 1, none⟩ (.int .i64 t)) w.heap.size (evv (gev ⟨1, t, lk⟩)) 101 from B5.set 1 (.int .i64 t))
    clear B5 hw5
    go_simp
    refine ⟨kp_cell (by omega) _ _ _, ?_⟩
    clear c0 g0
    try simp only [Act.put, Act.eval, List.setIfInBounds_toArray, List.set_cons_zero, List.set_cons_succ, Array.getD_eq_getD_getElem?, List.getElem?_toArray, List.getElem?_cons_zero, List.getElem?_cons_succ, Option.getD_some]
    (refine wpK_done (by decide +kernel) ?_ _; intro w6 hw6; try simp only [Act.put, Act.eval, List.setIfInBounds_toArray, List.set_cons_zero, List.set_cons_succ, Array.getD_eq_getD_getElem?, List.getElem?_toArray, List.getElem?_cons_zero, List.getElem?_cons_succ, Option.getD_some])
    have hn := hw6.box HB5.out
    have hr := hw6.box HR6.out
    have HBB7 := Lib.hid (HBB6.out.trans hw6)
    clear hw6
    go_wp2_with (first | (refine loadB _ _ rfl rfl rfl hn TGd ?_) | (refine storeB _ _ _ rfl rfl rfl rfl hr rfl TGd (evv_all _) ?_))
    refine bodyPost_ret (res_c Try.results76 rfl (hr.setRow (evv (gev ⟨1, t, lk⟩))) TGd) rfl ⟨?_, ?_⟩
    · unfold gdStep; rw [if_pos rfl]
    · exact below_setRow' HBB7.out.out _ _ (by omega)
  · have HL1 := Lib.hid (HLK.out (Nat.le_refl _))
    by_cases ht : th = t
    · have hb : ((t : Int) == (th : Int)) = true := by simp; omega
      have HT := Lib.hid ht
      clear ht hk
      have HN := Lib.hid (show Box W w.heap.size (evv ⟨(1 : Nat), (th : Nat), hset lk⟩) 101 from by have := HB1.out; rw [gev_eq] at this; exact this)
      have HR := Lib.hid HB3.out
      have HBB := Lib.hid (show Below w.heap.size w W from HB.out)
      go_enter Try.func76, Try.ntmps76
      go_wp2_with (first | (refine loadB _ _ rfl rfl rfl HN.out TGd ?_) | (refine storeB _ _ _ rfl rfl rfl rfl HR.out rfl TGd (evv_all _) ?_))
      refine bodyPost_ret (res_c Try.results76 rfl (HR.out.setRow (evv ⟨(1 : Nat), (th : Nat), hset lk⟩)) TGd) rfl ⟨?_, ?_⟩
      · unfold gdStep; rw [if_neg (by simp), if_pos ⟨rfl, HT.out⟩, gev_eq]
      · exact below_setRow' HBB.out _ _ (by omega)
    · have hb : ((t : Int) == (th : Int)) = false := by simp; omega
      have HT := Lib.hid ht
      clear ht
      rcases hk with rfl | rfl
      · have HE := Lib.hid (show gdStep ⟨1, th, lk⟩ 1 t p = ⟨2, th, p⟩ by unfold gdStep; rw [if_neg (by simp), if_neg (fun h => HT.out h.2), HL1.out]; simp)
        have HN := Lib.hid (show Box ((W.setCell ⟨w.heap.size, 0, none⟩ (.int .i64 2)).setCell ⟨w.heap.size, 2, none⟩ (.int .i64 (hset p))) w.heap.size (evv ⟨(2 : Nat), (th : Nat), hset p⟩) 101 from by have := ((HB1.out.set 0 (.int .i64 2)).set 2 (.int .i64 (hset p))); rw [gev_eq] at this; exact this)
        have HR := Lib.hid ((HB3.out.set_ne ⟨w.heap.size, 0, none⟩ (.int .i64 2) (by simp; omega)).set_ne ⟨w.heap.size, 2, none⟩ (.int .i64 (hset p)) (by simp; omega))
        have HBB := Lib.hid (show Below w.heap.size w ((W.setCell ⟨w.heap.size, 0, none⟩ (.int .i64 2)).setCell ⟨w.heap.size, 2, none⟩ (.int .i64 (hset p))) from ((HB.out.setCell (Nat.le_refl _) (.int .i64 2)).setCell (Nat.le_refl _) (.int .i64 (hset p))))
        go_enter Try.func76, Try.ntmps76
        go_wp2_with (first | (refine loadB _ _ rfl rfl rfl HN.out TGd ?_) | (refine storeB _ _ _ rfl rfl rfl rfl HR.out rfl TGd (evv_all _) ?_))
        refine bodyPost_ret (res_c Try.results76 rfl (HR.out.setRow (evv ⟨(2 : Nat), (th : Nat), hset p⟩)) TGd) rfl ⟨?_, ?_⟩
        · rw [HE.out, gev_eq]
        · exact below_setRow' HBB.out _ _ (by omega)
      · have HE := Lib.hid (show gdStep ⟨1, th, lk⟩ 2 t p = ⟨3, th, p⟩ by unfold gdStep; rw [if_neg (by simp), if_neg (fun h => HT.out h.2), HL1.out]; simp)
        have HN := Lib.hid (show Box (((W.setCell ⟨w.heap.size, 0, none⟩ (.int .i64 2)).setCell ⟨w.heap.size, 2, none⟩ (.int .i64 (hset p))).setCell ⟨w.heap.size, 0, none⟩ (.int .i64 3)) w.heap.size (evv ⟨(3 : Nat), (th : Nat), hset p⟩) 101 from by have := (((HB1.out.set 0 (.int .i64 2)).set 2 (.int .i64 (hset p))).set 0 (.int .i64 3)); rw [gev_eq] at this; exact this)
        have HR := Lib.hid (((HB3.out.set_ne ⟨w.heap.size, 0, none⟩ (.int .i64 2) (by simp; omega)).set_ne ⟨w.heap.size, 2, none⟩ (.int .i64 (hset p)) (by simp; omega)).set_ne ⟨w.heap.size, 0, none⟩ (.int .i64 3) (by simp; omega))
        have HBB := Lib.hid (show Below w.heap.size w (((W.setCell ⟨w.heap.size, 0, none⟩ (.int .i64 2)).setCell ⟨w.heap.size, 2, none⟩ (.int .i64 (hset p))).setCell ⟨w.heap.size, 0, none⟩ (.int .i64 3)) from (((HB.out.setCell (Nat.le_refl _) (.int .i64 2)).setCell (Nat.le_refl _) (.int .i64 (hset p))).setCell (Nat.le_refl _) (.int .i64 3)))
        go_enter Try.func76, Try.ntmps76
        go_wp2_with (first | (refine loadB _ _ rfl rfl rfl HN.out TGd ?_) | (refine storeB _ _ _ rfl rfl rfl rfl HR.out rfl TGd (evv_all _) ?_))
        refine bodyPost_ret (res_c Try.results76 rfl (HR.out.setRow (evv ⟨(3 : Nat), (th : Nat), hset p⟩)) TGd) rfl ⟨?_, ?_⟩
        · rw [HE.out, gev_eq]
        · exact below_setRow' HBB.out _ _ (by omega)
  · have fa := gand_sets lk p
    generalize hq : (fun q => lk q && p q) = pq at *
    have HQ := Lib.hid hq
    clear hq
    rcases hk with rfl | rfl
    · have HE := Lib.hid (show gdStep ⟨2, th, lk⟩ 1 t p = ⟨2, th, pq⟩ by unfold gdStep; rw [if_neg (by simp), if_neg (by simp), ← HQ.out]; simp)
      have HN := Lib.hid (show Box (W.setCell ⟨w.heap.size, 2, none⟩ (.int .i64 (hset pq))) w.heap.size (evv ⟨(2 : Nat), (th : Nat), hset pq⟩) 101 from by have := (HB1.out.set 2 (.int .i64 (hset pq))); rw [gev_eq] at this; exact this)
      have HR := Lib.hid (HB3.out.set_ne ⟨w.heap.size, 2, none⟩ (.int .i64 (hset pq)) (by simp; omega))
      have HBB := Lib.hid (show Below w.heap.size w (W.setCell ⟨w.heap.size, 2, none⟩ (.int .i64 (hset pq))) from (HB.out.setCell (Nat.le_refl _) (.int .i64 (hset pq))))
      go_enter Try.func76, Try.ntmps76
      go_wp2_with (first | (refine loadB _ _ rfl rfl rfl HN.out TGd ?_) | (refine storeB _ _ _ rfl rfl rfl rfl HR.out rfl TGd (evv_all _) ?_))
      refine bodyPost_ret (res_c Try.results76 rfl (HR.out.setRow (evv ⟨(2 : Nat), (th : Nat), hset pq⟩)) TGd) rfl ⟨?_, ?_⟩
      · rw [HE.out, gev_eq]
      · exact below_setRow' HBB.out _ _ (by omega)
    · have HE := Lib.hid (show gdStep ⟨2, th, lk⟩ 2 t p = ⟨3, th, pq⟩ by unfold gdStep; rw [if_neg (by simp), if_neg (by simp), ← HQ.out]; simp)
      have HN := Lib.hid (show Box ((W.setCell ⟨w.heap.size, 2, none⟩ (.int .i64 (hset pq))).setCell ⟨w.heap.size, 0, none⟩ (.int .i64 3)) w.heap.size (evv ⟨(3 : Nat), (th : Nat), hset pq⟩) 101 from by have := ((HB1.out.set 2 (.int .i64 (hset pq))).set 0 (.int .i64 3)); rw [gev_eq] at this; exact this)
      have HR := Lib.hid ((HB3.out.set_ne ⟨w.heap.size, 2, none⟩ (.int .i64 (hset pq)) (by simp; omega)).set_ne ⟨w.heap.size, 0, none⟩ (.int .i64 3) (by simp; omega))
      have HBB := Lib.hid (show Below w.heap.size w ((W.setCell ⟨w.heap.size, 2, none⟩ (.int .i64 (hset pq))).setCell ⟨w.heap.size, 0, none⟩ (.int .i64 3)) from ((HB.out.setCell (Nat.le_refl _) (.int .i64 (hset pq))).setCell (Nat.le_refl _) (.int .i64 3)))
      go_enter Try.func76, Try.ntmps76
      go_wp2_with (first | (refine loadB _ _ rfl rfl rfl HN.out TGd ?_) | (refine storeB _ _ _ rfl rfl rfl rfl HR.out rfl TGd (evv_all _) ?_))
      refine bodyPost_ret (res_c Try.results76 rfl (HR.out.setRow (evv ⟨(3 : Nat), (th : Nat), hset pq⟩)) TGd) rfl ⟨?_, ?_⟩
      · rw [HE.out, gev_eq]
      · exact below_setRow' HBB.out _ _ (by omega)
  · have fa := gand_sets lk p
    generalize hq : (fun q => lk q && p q) = pq at *
    have HQ := Lib.hid hq
    clear hq
    rcases hk with rfl | rfl
    · have HE := Lib.hid (show gdStep ⟨3, th, lk⟩ 1 t p = ⟨3, th, pq⟩ by unfold gdStep; rw [if_neg (by simp), if_neg (by simp), ← HQ.out]; simp)
      have HN := Lib.hid (show Box (W.setCell ⟨w.heap.size, 2, none⟩ (.int .i64 (hset pq))) w.heap.size (evv ⟨(3 : Nat), (th : Nat), hset pq⟩) 101 from by have := (HB1.out.set 2 (.int .i64 (hset pq))); rw [gev_eq] at this; exact this)
      have HR := Lib.hid (HB3.out.set_ne ⟨w.heap.size, 2, none⟩ (.int .i64 (hset pq)) (by simp; omega))
      have HBB := Lib.hid (show Below w.heap.size w (W.setCell ⟨w.heap.size, 2, none⟩ (.int .i64 (hset pq))) from (HB.out.setCell (Nat.le_refl _) (.int .i64 (hset pq))))
      go_enter Try.func76, Try.ntmps76
      go_wp2_with (first | (refine loadB _ _ rfl rfl rfl HN.out TGd ?_) | (refine storeB _ _ _ rfl rfl rfl rfl HR.out rfl TGd (evv_all _) ?_))
      refine bodyPost_ret (res_c Try.results76 rfl (HR.out.setRow (evv ⟨(3 : Nat), (th : Nat), hset pq⟩)) TGd) rfl ⟨?_, ?_⟩
      · rw [HE.out, gev_eq]
      · exact below_setRow' HBB.out _ _ (by omega)
    · have HE := Lib.hid (show gdStep ⟨3, th, lk⟩ 2 t p = ⟨3, th, pq⟩ by unfold gdStep; rw [if_neg (by simp), if_neg (by simp), ← HQ.out]; simp)
      have HN := Lib.hid (show Box ((W.setCell ⟨w.heap.size, 2, none⟩ (.int .i64 (hset pq))).setCell ⟨w.heap.size, 0, none⟩ (.int .i64 3)) w.heap.size (evv ⟨(3 : Nat), (th : Nat), hset pq⟩) 101 from by have := ((HB1.out.set 2 (.int .i64 (hset pq))).set 0 (.int .i64 3)); rw [gev_eq] at this; exact this)
      have HR := Lib.hid ((HB3.out.set_ne ⟨w.heap.size, 2, none⟩ (.int .i64 (hset pq)) (by simp; omega)).set_ne ⟨w.heap.size, 0, none⟩ (.int .i64 3) (by simp; omega))
      have HBB := Lib.hid (show Below w.heap.size w ((W.setCell ⟨w.heap.size, 2, none⟩ (.int .i64 (hset pq))).setCell ⟨w.heap.size, 0, none⟩ (.int .i64 3)) from ((HB.out.setCell (Nat.le_refl _) (.int .i64 (hset pq))).setCell (Nat.le_refl _) (.int .i64 3)))
      go_enter Try.func76, Try.ntmps76
      go_wp2_with (first | (refine loadB _ _ rfl rfl rfl HN.out TGd ?_) | (refine storeB _ _ _ rfl rfl rfl rfl HR.out rfl TGd (evv_all _) ?_))
      refine bodyPost_ret (res_c Try.results76 rfl (HR.out.setRow (evv ⟨(3 : Nat), (th : Nat), hset pq⟩)) TGd) rfl ⟨?_, ?_⟩
      · rw [HE.out, gev_eq]
      · exact below_setRow' HBB.out _ _ (by omega)
end Go.Proofs.Ytjddahidkodieaa

import Derived.Test.YtnklpifnknmdgaaGreatDoorZGu
import Derived.Test.YtnklpifnknmdgaaGreatDoorZTrace
set_option linter.all false
set_option maxRecDepth 100000
namespace Go.Proofs.YtnklpifnknmdgaaGreatDoor
open Go Go.RowKit Go.Shelf
attribute [local go_sem] Oper.semAt_some

set_option maxHeartbeats 1000000 in
theorem acs_in (d : Nat) (A : Option Addr) (n c : Nat) (w : World) :
    CallsIn Fence.wide d Tryz.prog 171 #[.slice A n c] w fun e w' => e = .returned (.func (.func 190) #[] #[.pointer (some ⟨w.heap.size, 0, none⟩)]) ∧ w' = w.alloc (.cells #[.slice A n c] 30) := by
  refine callsIn_of_wp Tryz.func171 rfl trivial ?_ rfl
  simp only [Tryz.ntmps171, List.size_toArray, List.length_cons, List.length_nil, Nat.reduceAdd, Nat.reduceSub, Array.replicate_succ, Array.replicate_zero, List.push_toArray, List.append_toArray, List.nil_append, List.cons_append]
  gi_wp2
  go_ret
  exact ⟨rfl, rfl⟩
theorem acs_stops (d : Nat) (hd : 1 ≤ d) (Bs : Nat) (N : Nat → Prop) (A : Option Addr) (n c : Nat) (l : List Ev) (hm : may l = 0) (hnc : n ≤ c) (w : World) (hBs : Box w Bs #[.slice A n c] 30) (hN : N Bs) (hl : Sl w A n l) (hA : 0 < n → ∀ b off, A = some ⟨b, off, none⟩ → N b) :
    SeqStopsK Fence.wide d Tryz.prog 190 #[.pointer (some ⟨Bs, 0, none⟩)] (accE l) (Ks N) (fun ys => ys.map Acc.i = acs l n) (fun _ => True) n w := fun lp J Jx W hW hJ _ hY h0 =>
  acc1_in d hd lp Bs W.heap.size N A n c l hm hnc J Jx hJ hY W ((Bel.of hW).box hBs) hN (hl.bel hW) hA h0
theorem ks_put {N : Nat → Prop} {M : Nat} (hN : ∀ b, N b → b < M) (W : World) (l : Nat) (o' : Obj) (hl : M ≤ l) : Ks N W (W.putObj l o') := by
  refine ⟨(grownBy_putObj' W l o').size, fun b hb hlt => (grownBy_putObj' W l o').block b hlt (fun e => ?_)⟩
  have := hN b hb
  have := Option.some.inj e
  omega
theorem own_ks {β : Type} {N : Nat → Prop} {w2 : World} (hN : ∀ b, N b → b < w2.heap.size) : OwnFrom w2.heap.size (fun (_ : β) W => Ks N w2 W) := fun s X Y row hs hg hr =>
  ⟨Nat.le_trans hs.1 hg.size, fun b hb hlt => (hg.block b (Nat.lt_of_lt_of_le hlt hs.1) (fun e => by have h1 := (hr b e.symm).1; have := hN b hb; omega)).trans (hs.2 b hb hlt)⟩
theorem ks_cell {N : Nat → Prop} {B : Nat} (hB : ¬ N B) (w : World) (k : Nat) (v : Value) : Ks N w (w.setCell ⟨B, k, none⟩ v) := Ks.grown (chg_cell w k v) (fun b hb e => hB (Option.some.inj e ▸ hb))

theorem kf_bel {B : Nat} {W W' : World} (h : Bel W W') : KeepsFrom B W W' := ⟨h.size, fun k o _ hk _ => (h.out.block k (Array.getElem?_eq_some_iff.1 hk).1).trans hk⟩
theorem range_upd {n : Nat} {P : Program} {α : Type} {g : Operand} {ps : Array Tmp} {assign body : Code} {Q : Exit → Act → World → Prop} {a : Act} {w : World} (upd : Array Value → α → Array Value)
    (h1 : 1 ≤ n) {gf : Nat} {lb : Array Value} (hg : a.eval g = .func (.func gf) #[] lb) (eg : ∀ args w, (callFunc gf args).run P w = .ok (.enter gf args) w)
    {encs : α → Array Value} {N : Nat → Prop} {S Sp : List α → Prop} {M : Nat} (hseq : SeqStopsK Fence.wide (n - 1) P gf lb encs (Ks N) S Sp M w) (hN : ∀ b, N b → b < w.heap.size) (hps : ∀ x, (encs x).size = ps.size)
    (I : List α → World → Prop) (hI : OwnFrom w.heap.size I) (h0 : I [] w)
    (hassign : ∀ (l : Nat) (x : α) (W : World) (K : Act → World → Prop), K { tmps := upd a.tmps x, defers := [] } W →
      assign.wpIn (Fence.wide.inRound l) (n - 1 - 1) P (Exit.then K (fun _ _ _ => False)) { tmps := (ps.zip (encs x)).foldl (fun t (p, v) => t.setIfInBounds p v) a.tmps, defers := [] } W)
    (hbody : ∀ (l : Nat) (pre : List α) (x : α) (W : World), I pre W → pre.length < M → body.wpIn (Fence.wide.inRound l) (n - 1 - 1) P (ownPostG w.heap.size (Ks N) I (fun _ _ _ => False) (pre ++ [x]) W) { tmps := upd a.tmps x, defers := [] } W)
    (hdone : ∀ (D : Nat) (xs : List α) (W : World), w.heap.size ≤ D → S xs → I xs W → W.heap[D]? = some (.deferred (some [])) → Q .normal { a with defers := { target := .collected D, args := #[] } :: a.defers } W) :
    (Code.rangeFunc g ps assign body).wpIn Fence.wide n P Q a w :=
  wpIn_rangeFunc_ownH rfl h1 hg trivial eg hseq (fun h k => Ks.trans h k) (fun W l o o' hl _ _ _ => ks_put hN W l o' hl) (Below.refl _ _) hps I (fun _ _ _ => False) hI (fun _ _ _ _ _ h _ _ => h) h0 (fun x a' _ => a' = { tmps := upd a.tmps x, defers := [] }) (fun _ _ _ _ _ _ h _ _ => h)
    (fun l pre x W K hi hK => hassign l x W K (hK _ _ (KeepsFrom.refl _ _) (Ks.of (Bel.refl W)) hi rfl))
    (fun l pre x a' W _ _ hi ha hlen => by subst ha; exact hbody l pre x W hi hlen) hdone (fun _ _ _ _ _ _ h _ => h.elim)
end Go.Proofs.YtnklpifnknmdgaaGreatDoor
set_option linter.all false
set_option maxRecDepth 100000
namespace Go.Proofs.YtnklpifnknmdgaaGreatDoor
open Go Go.RowKit

theorem gev_eq (a b : Nat) (p : Nat → Bool) : gev ⟨a, b, p⟩ = ⟨(a : Nat), (b : Nat), hset p⟩ := by unfold gev; rw [lkN_eq]
theorem kp_cell {N B : Nat} (hne : N ≠ B) (w : World) (k : Nat) (v : Value) : Kp N w (w.setCell ⟨B, k, none⟩ v) := Kp.grown (chg_cell w k v) (fun e => hne (Option.some.inj e))
set_option maxHeartbeats 4000000 in
theorem gnext_any (g : Gd) (k : Int) (t o : Nat) (p : Nat → Bool) (w : World) (hg : GdOk g) (hk : k = 1 ∨ k = 2) :
    Calls Tryz.prog 172 #[.agg (evv (gev g)), .agg (evv ⟨k, (t : Nat), (o : Nat)⟩), .int .i64 (hset p)] w fun e w' => e = .returned (.agg (evv (gev (gdStep g k t p)))) ∧ Below w.heap.size w w' := by
  obtain ⟨st, th, lk⟩ := g
  obtain ⟨hst, hlk⟩ := hg
  dsimp only at hst hlk
  obtain ⟨b1, b2, b3, hB, hs⟩ := boxes3 w (evv (gev ⟨st, th, lk⟩)) (evv ⟨k, (t : Nat), (o : Nat)⟩) #[.int .i64 0, .int .i64 0, .int .i64 0] 68 45 68
  have HB := Lib.hid hB
  have HB1 := Lib.hid b1
  have HB2 := Lib.hid b2
  have HB3 := Lib.hid b3
  clear hB hs b1 b2 b3
  generalize hW : (((w.alloc (.cells (evv (gev ⟨st, th, lk⟩)) 68)).alloc (.cells (evv ⟨k, (t : Nat), (o : Nat)⟩) 45)).alloc (.cells #[.int .i64 0, .int .i64 0, .int .i64 0] 68)) = W at *
  have c0 := HB1.out.cell 0 (v := .int .i64 st) rfl
  have c1 := HB1.out.cell 1 (v := .int .i64 th) rfl
  have c2 := HB1.out.cell 2 (v := .int .i64 (hset lk)) (by rw [gev_eq]; rfl)
  have f0 := HB1.out.frozen 0
  have f1 := HB1.out.frozen 1
  have f2 := HB1.out.frozen 2
  have d0 := HB2.out.cell 0 (v := .int .i64 k) rfl
  have d1 := HB2.out.cell 1 (v := .int .i64 t) rfl
  have hcase : st = 0 ∨ st = 1 ∨ st = 2 ∨ st = 3 := by omega
  have HLK := Lib.hid hlk
  clear hst hlk
  rcases hcase with rfl | rfl | rfl | rfl
  · go_enter Tryz.func172, Tryz.ntmps172
    go_wp2
    clear hW c0 c1 c2 f0 f1 f2 d0 d1
    have HFD := Lib.hid (fun (w' : World) (h : Kp (w.heap.size + 1) W w') => (h.box HB2.out).cell 1 (v := .int .i64 t) rfl)
    refine region_keep (w.heap.size + 1) (by kernel_rfl) ?_
    (repeat (first | ((first | refine wpK_go 0 (by simp only [List.getElem?_toArray, List.getElem?_cons_zero, List.getElem?_cons_succ] <;> rfl) (by decide +kernel) (by decide +kernel) (by kernel_rfl) (by rfl) (by exact fun _ _ _ _ h => h) ?_ | refine wpK_go 1 (by simp only [List.getElem?_toArray, List.getElem?_cons_zero, List.getElem?_cons_succ] <;> rfl) (by decide +kernel) (by decide +kernel) (by kernel_rfl) (by rfl) (by exact fun _ _ _ _ h => h) ?_ | refine wpK_go 2 (by simp only [List.getElem?_toArray, List.getElem?_cons_zero, List.getElem?_cons_succ] <;> rfl) (by decide +kernel) (by decide +kernel) (by kernel_rfl) (by rfl) (by exact fun _ _ _ _ h => h) ?_); apply Exists.intro; refine ⟨fun w1 h1 => ?_, ?_⟩; (first | exact g_move _ rfl | exact g_assign _ rfl | (have fct0 := HFD.out w1 h1; go_simp; first | exact ⟨rfl, rfl⟩ | rfl)); simp only [Act.put, Act.eval, List.setIfInBounds_toArray, List.set_cons_zero, List.set_cons_succ, Array.getD_eq_getD_getElem?, List.getElem?_toArray, List.getElem?_cons_zero, List.getElem?_cons_succ, Option.getD_some]) | ((first | refine wpK_skip 0 (by simp only [List.getElem?_toArray, List.getElem?_cons_zero, List.getElem?_cons_succ] <;> rfl) (by decide +kernel) (by decide +kernel) (by kernel_rfl) (by rfl) (by exact fun _ _ _ _ h => h) ?_ | refine wpK_skip 1 (by simp only [List.getElem?_toArray, List.getElem?_cons_zero, List.getElem?_cons_succ] <;> rfl) (by decide +kernel) (by decide +kernel) (by kernel_rfl) (by rfl) (by exact fun _ _ _ _ h => h) ?_ | refine wpK_skip 2 (by simp only [List.getElem?_toArray, List.getElem?_cons_zero, List.getElem?_cons_succ] <;> rfl) (by decide +kernel) (by decide +kernel) (by kernel_rfl) (by rfl) (by exact fun _ _ _ _ h => h) ?_); simp only [Act.put, Act.eval, List.setIfInBounds_toArray, List.set_cons_zero, List.set_cons_succ, Array.getD_eq_getD_getElem?, List.getElem?_toArray, List.getElem?_cons_zero, List.getElem?_cons_succ, Option.getD_some])))
    (refine wpK_one 3 (by decide +kernel) ?_; intro w4 hw4; refine op_wanted (by simp only [List.getElem?_toArray, List.getElem?_cons_zero, List.getElem?_cons_succ] <;> rfl) rfl ?_)
    have B4 := hw4.box HB1.out
    have HX4 := Lib.hid (hw4.box HB2.out)
    have HR4 := Lib.hid (hw4.box HB3.out)
    have HBB := Lib.hid ((Bel.of HB.out).trans hw4)
    have c0 := B4.cell 0 (v := .int .i64 (0 : Nat)) rfl
    have g0 := B4.frozen 0
    have HB4 := Lib.hid (show Box (w4.setCell ⟨w.heap.size, 0, none⟩ (.int .i64 1)) w.heap.size (evv (gev ⟨1, th, lk⟩)) 68 from B4.set 0 (.int .i64 1))
    have HR5 := Lib.hid (HR4.out.set_ne ⟨w.heap.size, 0, none⟩ (.int .i64 1) (by simp; omega))
    have HBB5 := Lib.hid (HBB.out.setCell ⟨w.heap.size, 0, none⟩ (Nat.le_refl _) (.int .i64 1))
    clear B4 hw4
    go_simp
    refine ⟨kp_cell (by omega) _ _ _, ?_⟩
    clear c0 g0
    try simp only [Act.put, Act.eval, List.setIfInBounds_toArray, List.set_cons_zero, List.set_cons_succ, Array.getD_eq_getD_getElem?, List.getElem?_toArray, List.getElem?_cons_zero, List.getElem?_cons_succ, Option.getD_some]
    (repeat (first | ((first | refine wpK_go 4 (by simp only [List.getElem?_toArray, List.getElem?_cons_zero, List.getElem?_cons_succ] <;> rfl) (by decide +kernel) (by decide +kernel) (by kernel_rfl) (by rfl) (by exact fun _ _ _ _ h => h) ?_); apply Exists.intro; refine ⟨fun w1 h1 => ?_, ?_⟩; (first | exact g_move _ rfl | exact g_assign _ rfl | (go_simp; first | exact ⟨rfl, rfl⟩ | rfl)); simp only [Act.put, Act.eval, List.setIfInBounds_toArray, List.set_cons_zero, List.set_cons_succ, Array.getD_eq_getD_getElem?, List.getElem?_toArray, List.getElem?_cons_zero, List.getElem?_cons_succ, Option.getD_some]) | ((first | refine wpK_skip 4 (by simp only [List.getElem?_toArray, List.getElem?_cons_zero, List.getElem?_cons_succ] <;> rfl) (by decide +kernel) (by decide +kernel) (by kernel_rfl) (by rfl) (by exact fun _ _ _ _ h => h) ?_); simp only [Act.put, Act.eval, List.setIfInBounds_toArray, List.set_cons_zero, List.set_cons_succ, Array.getD_eq_getD_getElem?, List.getElem?_toArray, List.getElem?_cons_zero, List.getElem?_cons_succ, Option.getD_some])))
    (refine wpK_one 5 (by decide +kernel) ?_; intro w5 hw5; refine op_wanted (by simp only [List.getElem?_toArray, List.getElem?_cons_zero, List.getElem?_cons_succ] <;> rfl) rfl ?_)
    have B5 := hw5.box HB4.out
    have HR6 := Lib.hid ((hw5.box HR5.out).set_ne ⟨w.heap.size, 1, none⟩ (.int .i64 t) (by simp; omega))
    have HBB6 := Lib.hid ((HBB5.out.trans hw5).setCell ⟨w.heap.size, 1, none⟩ (Nat.le_refl _) (.int .i64 t))
    have c0 := B5.cell 1 (v := .int .i64 (th : Nat)) rfl
    have g0 := B5.frozen 1
    have HB5 := Lib.hid (show Box (w5.setCell ⟨w.heap.size, 1, none⟩ (.int .i64 t)) w.heap.size (evv (gev ⟨1, t, lk⟩)) 68 from B5.set 1 (.int .i64 t))
    clear B5 hw5
    go_simp
    refine ⟨kp_cell (by omega) _ _ _, ?_⟩
    clear c0 g0
    try simp only [Act.put, Act.eval, List.setIfInBounds_toArray, List.set_cons_zero, List.set_cons_succ, Array.getD_eq_getD_getElem?, List.getElem?_toArray, List.getElem?_cons_zero, List.getElem?_cons_succ, Option.getD_some]
    (refine wpK_done (by decide +kernel) ?_ _; intro w6 hw6; try simp only [Act.put, Act.eval, List.setIfInBounds_toArray, List.set_cons_zero, List.set_cons_succ, Array.getD_eq_getD_getElem?, List.getElem?_toArray, List.getElem?_cons_zero, List.getElem?_cons_succ, Option.getD_some])
    have hn := hw6.box HB5.out
    have hr := hw6.box HR6.out
    have HBB7 := Lib.hid (HBB6.out.trans hw6)
    clear hw6
    go_wp2_with (first | (refine loadB _ _ rfl rfl rfl hn TGd ?_) | (refine storeB _ _ _ rfl rfl rfl rfl hr rfl TGd (evv_all _) ?_))
    refine bodyPost_ret (res_c Tryz.results172 rfl (hr.setRow (evv (gev ⟨1, t, lk⟩))) TGd) rfl ⟨?_, ?_⟩
    · unfold gdStep; rw [if_pos rfl]
    · exact below_setRow' HBB7.out.out _ _ (by omega)
  · have HL1 := Lib.hid (HLK.out (Nat.le_refl _))
    by_cases ht : th = t
    · have hb : ((t : Int) == (th : Int)) = true := by simp; omega
      have HT := Lib.hid ht
      clear ht hk
      have HN := Lib.hid (show Box W w.heap.size (evv ⟨(1 : Nat), (th : Nat), hset lk⟩) 68 from by have := HB1.out; rw [gev_eq] at this; exact this)
      have HR := Lib.hid HB3.out
      have HBB := Lib.hid (show Below w.heap.size w W from HB.out)
      go_enter Tryz.func172, Tryz.ntmps172
      go_wp2_with (first | (refine loadB _ _ rfl rfl rfl HN.out TGd ?_) | (refine storeB _ _ _ rfl rfl rfl rfl HR.out rfl TGd (evv_all _) ?_))
      refine bodyPost_ret (res_c Tryz.results172 rfl (HR.out.setRow (evv ⟨(1 : Nat), (th : Nat), hset lk⟩)) TGd) rfl ⟨?_, ?_⟩
      · unfold gdStep; rw [if_neg (by simp), if_pos ⟨rfl, HT.out⟩, gev_eq]
      · exact below_setRow' HBB.out _ _ (by omega)
    · have hb : ((t : Int) == (th : Int)) = false := by simp; omega
      have HT := Lib.hid ht
      clear ht
      rcases hk with rfl | rfl
      · have HE := Lib.hid (show gdStep ⟨1, th, lk⟩ 1 t p = ⟨2, th, p⟩ by unfold gdStep; rw [if_neg (by simp), if_neg (fun h => HT.out h.2), HL1.out]; simp)
        have HN := Lib.hid (show Box ((W.setCell ⟨w.heap.size, 0, none⟩ (.int .i64 2)).setCell ⟨w.heap.size, 2, none⟩ (.int .i64 (hset p))) w.heap.size (evv ⟨(2 : Nat), (th : Nat), hset p⟩) 68 from by have := ((HB1.out.set 0 (.int .i64 2)).set 2 (.int .i64 (hset p))); rw [gev_eq] at this; exact this)
        have HR := Lib.hid ((HB3.out.set_ne ⟨w.heap.size, 0, none⟩ (.int .i64 2) (by simp; omega)).set_ne ⟨w.heap.size, 2, none⟩ (.int .i64 (hset p)) (by simp; omega))
        have HBB := Lib.hid (show Below w.heap.size w ((W.setCell ⟨w.heap.size, 0, none⟩ (.int .i64 2)).setCell ⟨w.heap.size, 2, none⟩ (.int .i64 (hset p))) from ((HB.out.setCell (Nat.le_refl _) (.int .i64 2)).setCell (Nat.le_refl _) (.int .i64 (hset p))))
        go_enter Tryz.func172, Tryz.ntmps172
        go_wp2_with (first | (refine loadB _ _ rfl rfl rfl HN.out TGd ?_) | (refine storeB _ _ _ rfl rfl rfl rfl HR.out rfl TGd (evv_all _) ?_))
        refine bodyPost_ret (res_c Tryz.results172 rfl (HR.out.setRow (evv ⟨(2 : Nat), (th : Nat), hset p⟩)) TGd) rfl ⟨?_, ?_⟩
        · rw [HE.out, gev_eq]
        · exact below_setRow' HBB.out _ _ (by omega)
      · have HE := Lib.hid (show gdStep ⟨1, th, lk⟩ 2 t p = ⟨3, th, p⟩ by unfold gdStep; rw [if_neg (by simp), if_neg (fun h => HT.out h.2), HL1.out]; simp)
        have HN := Lib.hid (show Box (((W.setCell ⟨w.heap.size, 0, none⟩ (.int .i64 2)).setCell ⟨w.heap.size, 2, none⟩ (.int .i64 (hset p))).setCell ⟨w.heap.size, 0, none⟩ (.int .i64 3)) w.heap.size (evv ⟨(3 : Nat), (th : Nat), hset p⟩) 68 from by have := (((HB1.out.set 0 (.int .i64 2)).set 2 (.int .i64 (hset p))).set 0 (.int .i64 3)); rw [gev_eq] at this; exact this)
        have HR := Lib.hid (((HB3.out.set_ne ⟨w.heap.size, 0, none⟩ (.int .i64 2) (by simp; omega)).set_ne ⟨w.heap.size, 2, none⟩ (.int .i64 (hset p)) (by simp; omega)).set_ne ⟨w.heap.size, 0, none⟩ (.int .i64 3) (by simp; omega))
        have HBB := Lib.hid (show Below w.heap.size w (((W.setCell ⟨w.heap.size, 0, none⟩ (.int .i64 2)).setCell ⟨w.heap.size, 2, none⟩ (.int .i64 (hset p))).setCell ⟨w.heap.size, 0, none⟩ (.int .i64 3)) from (((HB.out.setCell (Nat.le_refl _) (.int .i64 2)).setCell (Nat.le_refl _) (.int .i64 (hset p))).setCell (Nat.le_refl _) (.int .i64 3)))
        go_enter Tryz.func172, Tryz.ntmps172
        go_wp2_with (first | (refine loadB _ _ rfl rfl rfl HN.out TGd ?_) | (refine storeB _ _ _ rfl rfl rfl rfl HR.out rfl TGd (evv_all _) ?_))
        refine bodyPost_ret (res_c Tryz.results172 rfl (HR.out.setRow (evv ⟨(3 : Nat), (th : Nat), hset p⟩)) TGd) rfl ⟨?_, ?_⟩
        · rw [HE.out, gev_eq]
        · exact below_setRow' HBB.out _ _ (by omega)
  · have fa := gand_sets lk p
    generalize hq : (fun q => lk q && p q) = pq at *
    have HQ := Lib.hid hq
    clear hq
    rcases hk with rfl | rfl
    · have HE := Lib.hid (show gdStep ⟨2, th, lk⟩ 1 t p = ⟨2, th, pq⟩ by unfold gdStep; rw [if_neg (by simp), if_neg (by simp), ← HQ.out]; simp)
      have HN := Lib.hid (show Box (W.setCell ⟨w.heap.size, 2, none⟩ (.int .i64 (hset pq))) w.heap.size (evv ⟨(2 : Nat), (th : Nat), hset pq⟩) 68 from by have := (HB1.out.set 2 (.int .i64 (hset pq))); rw [gev_eq] at this; exact this)
      have HR := Lib.hid (HB3.out.set_ne ⟨w.heap.size, 2, none⟩ (.int .i64 (hset pq)) (by simp; omega))
      have HBB := Lib.hid (show Below w.heap.size w (W.setCell ⟨w.heap.size, 2, none⟩ (.int .i64 (hset pq))) from (HB.out.setCell (Nat.le_refl _) (.int .i64 (hset pq))))
      go_enter Tryz.func172, Tryz.ntmps172
      go_wp2_with (first | (refine loadB _ _ rfl rfl rfl HN.out TGd ?_) | (refine storeB _ _ _ rfl rfl rfl rfl HR.out rfl TGd (evv_all _) ?_))
      refine bodyPost_ret (res_c Tryz.results172 rfl (HR.out.setRow (evv ⟨(2 : Nat), (th : Nat), hset pq⟩)) TGd) rfl ⟨?_, ?_⟩
      · rw [HE.out, gev_eq]
      · exact below_setRow' HBB.out _ _ (by omega)
    · have HE := Lib.hid (show gdStep ⟨2, th, lk⟩ 2 t p = ⟨3, th, pq⟩ by unfold gdStep; rw [if_neg (by simp), if_neg (by simp), ← HQ.out]; simp)
      have HN := Lib.hid (show Box ((W.setCell ⟨w.heap.size, 2, none⟩ (.int .i64 (hset pq))).setCell ⟨w.heap.size, 0, none⟩ (.int .i64 3)) w.heap.size (evv ⟨(3 : Nat), (th : Nat), hset pq⟩) 68 from by have := ((HB1.out.set 2 (.int .i64 (hset pq))).set 0 (.int .i64 3)); rw [gev_eq] at this; exact this)
      have HR := Lib.hid ((HB3.out.set_ne ⟨w.heap.size, 2, none⟩ (.int .i64 (hset pq)) (by simp; omega)).set_ne ⟨w.heap.size, 0, none⟩ (.int .i64 3) (by simp; omega))
      have HBB := Lib.hid (show Below w.heap.size w ((W.setCell ⟨w.heap.size, 2, none⟩ (.int .i64 (hset pq))).setCell ⟨w.heap.size, 0, none⟩ (.int .i64 3)) from ((HB.out.setCell (Nat.le_refl _) (.int .i64 (hset pq))).setCell (Nat.le_refl _) (.int .i64 3)))
      go_enter Tryz.func172, Tryz.ntmps172
      go_wp2_with (first | (refine loadB _ _ rfl rfl rfl HN.out TGd ?_) | (refine storeB _ _ _ rfl rfl rfl rfl HR.out rfl TGd (evv_all _) ?_))
      refine bodyPost_ret (res_c Tryz.results172 rfl (HR.out.setRow (evv ⟨(3 : Nat), (th : Nat), hset pq⟩)) TGd) rfl ⟨?_, ?_⟩
      · rw [HE.out, gev_eq]
      · exact below_setRow' HBB.out _ _ (by omega)
  · have fa := gand_sets lk p
    generalize hq : (fun q => lk q && p q) = pq at *
    have HQ := Lib.hid hq
    clear hq
    rcases hk with rfl | rfl
    · have HE := Lib.hid (show gdStep ⟨3, th, lk⟩ 1 t p = ⟨3, th, pq⟩ by unfold gdStep; rw [if_neg (by simp), if_neg (by simp), ← HQ.out]; simp)
      have HN := Lib.hid (show Box (W.setCell ⟨w.heap.size, 2, none⟩ (.int .i64 (hset pq))) w.heap.size (evv ⟨(3 : Nat), (th : Nat), hset pq⟩) 68 from by have := (HB1.out.set 2 (.int .i64 (hset pq))); rw [gev_eq] at this; exact this)
      have HR := Lib.hid (HB3.out.set_ne ⟨w.heap.size, 2, none⟩ (.int .i64 (hset pq)) (by simp; omega))
      have HBB := Lib.hid (show Below w.heap.size w (W.setCell ⟨w.heap.size, 2, none⟩ (.int .i64 (hset pq))) from (HB.out.setCell (Nat.le_refl _) (.int .i64 (hset pq))))
      go_enter Tryz.func172, Tryz.ntmps172
      go_wp2_with (first | (refine loadB _ _ rfl rfl rfl HN.out TGd ?_) | (refine storeB _ _ _ rfl rfl rfl rfl HR.out rfl TGd (evv_all _) ?_))
      refine bodyPost_ret (res_c Tryz.results172 rfl (HR.out.setRow (evv ⟨(3 : Nat), (th : Nat), hset pq⟩)) TGd) rfl ⟨?_, ?_⟩
      · rw [HE.out, gev_eq]
      · exact below_setRow' HBB.out _ _ (by omega)
    · have HE := Lib.hid (show gdStep ⟨3, th, lk⟩ 2 t p = ⟨3, th, pq⟩ by unfold gdStep; rw [if_neg (by simp), if_neg (by simp), ← HQ.out]; simp)
      have HN := Lib.hid (show Box ((W.setCell ⟨w.heap.size, 2, none⟩ (.int .i64 (hset pq))).setCell ⟨w.heap.size, 0, none⟩ (.int .i64 3)) w.heap.size (evv ⟨(3 : Nat), (th : Nat), hset pq⟩) 68 from by have := ((HB1.out.set 2 (.int .i64 (hset pq))).set 0 (.int .i64 3)); rw [gev_eq] at this; exact this)
      have HR := Lib.hid ((HB3.out.set_ne ⟨w.heap.size, 2, none⟩ (.int .i64 (hset pq)) (by simp; omega)).set_ne ⟨w.heap.size, 0, none⟩ (.int .i64 3) (by simp; omega))
      have HBB := Lib.hid (show Below w.heap.size w ((W.setCell ⟨w.heap.size, 2, none⟩ (.int .i64 (hset pq))).setCell ⟨w.heap.size, 0, none⟩ (.int .i64 3)) from ((HB.out.setCell (Nat.le_refl _) (.int .i64 (hset pq))).setCell (Nat.le_refl _) (.int .i64 3)))
      go_enter Tryz.func172, Tryz.ntmps172
      go_wp2_with (first | (refine loadB _ _ rfl rfl rfl HN.out TGd ?_) | (refine storeB _ _ _ rfl rfl rfl rfl HR.out rfl TGd (evv_all _) ?_))
      refine bodyPost_ret (res_c Tryz.results172 rfl (HR.out.setRow (evv ⟨(3 : Nat), (th : Nat), hset pq⟩)) TGd) rfl ⟨?_, ?_⟩
      · rw [HE.out, gev_eq]
      · exact below_setRow' HBB.out _ _ (by omega)
end Go.Proofs.YtnklpifnknmdgaaGreatDoor
set_option linter.all false
set_option maxRecDepth 100000
namespace Go.Proofs.YtnklpifnknmdgaaGreatDoor
open Go.RowKit

theorem Bel.size {W w : World} (h : Bel W w) : W.heap.size ≤ w.heap.size := Below.size h
theorem ev_info : (Tryz.prog.info? 45).map (fun i => (i.zero, i.size, i.bytes)) = some (some (.agg #[.int .i64 0, .int .i64 0, .int .i64 0]), 3, 24) := by kernel_rfl
theorem Box.news {w : World} {B : Nat} {l : List Value} {t : TypeId} (h : Box w B l.toArray t) (j : Nat) (u : Value) (hu : l[j]? = some u) : w.cell? ((⟨B, 0, none⟩ : Addr).add j) = some u := by
  have : (⟨B, 0, none⟩ : Addr).add j = ⟨B, j, none⟩ := by unfold Addr.add; split <;> simp_all
  rw [this]
  exact h.cell j (by simpa using hu)
theorem Sl.own {w : World} {base : Nat} {t : TypeId} {v : Value} {n : Nat} {l : List Ev} (h : w.ownsRow base t 3 v n (evc l)) : ∃ A c, v = .slice A n c ∧ Sl w A n l ∧ n ≤ c ∧ c ≤ maxLen := by
  have hl : l.length = n := by have := h.1; rw [evc_length] at this; omega
  rcases h.2 with ⟨rfl, rfl⟩ | ⟨g, cap, cur, rfl, hg, hh, hn, hc, hs, ht⟩
  · exact ⟨none, 0, rfl, ⟨hl, fun h => absurd h (by omega)⟩, by omega, by omega⟩
  · have hb : Box w g cur t := hh
    refine ⟨_, cap, rfl, ⟨hl, fun _ => ⟨g, 0, rfl, hb.lt, fun j v hv => ?_⟩⟩, hn, hc⟩
    rw [Nat.zero_add]
    refine hb.cell j ?_
    rw [← ht, List.getElem?_take] at hv
    split at hv
    · simpa using hv
    · cases hv
theorem own_drop_alloc {w : World} {base : Nat} {e : TypeId} {size n : Nat} {v : Value} {xs : List Value} (h : w.ownsRow base e size v n xs) {b : Nat} (hb : b ≤ base) : w.ownsRow b e size v n xs :=
  ⟨h.1, h.2.imp id fun ⟨g, cap, cur, h1, h2, h3⟩ => ⟨g, cap, cur, h1, Nat.le_trans hb h2, h3⟩⟩
theorem Sl.drop {w : World} {A : Option Addr} {n : Nat} {l : List Ev} (h : Sl w A n l) {j c : Nat} (hj : j ≤ n) (hc : n ≤ c) : Sl w (if c = j then A else Option.map (fun x => x.add (j * 3)) A) (n - j) (l.drop j) := by
  refine ⟨by rw [List.length_drop, h.1], fun h0 => ?_⟩
  obtain ⟨b, off, rfl, hlt, hr⟩ := h.2 (by omega)
  rw [if_neg (by omega)]
  refine ⟨b, off + j * 3, ?_, hlt, fun i v hv => ?_⟩
  · simp only [Option.map_some]
    congr 1
    unfold Addr.add; split <;> simp_all
  · rw [← evc_drop, List.getElem?_drop] at hv
    rw [Nat.add_assoc]
    exact hr _ v hv
end Go.Proofs.YtnklpifnknmdgaaGreatDoor

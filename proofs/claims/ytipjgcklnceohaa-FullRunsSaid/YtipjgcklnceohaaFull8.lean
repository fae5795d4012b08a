/- Contracts of package full: pass, of whatever event. | Contracts of package full: detect. -/
import Derived.Test.YtipjgcklnceohaaFull5
import Derived.Test.YtipjgcklnceohaaFull6
import Derived.Test.YtipjgcklnceohaaFull7
import Derived.Test.YtipjgcklnceohaaTrace3
import Derived.Test.YtipjgcklnceohaaGrow
import Derived.Test.YtipjgcklnceohaaOrder2
import Derived.Test.YtipjgcklnceohaaKeepTw
set_option linter.all false
set_option maxRecDepth 100000
namespace Go.Proofs.Ytipjgcklnceohaa
open Go Go.RowKit

theorem pass_any (X : Nat) (s : Dj) (k : Int) (t o : Nat) (w : World) (ht : t < 6) (hk : 3 ≤ k ∧ k ≤ 8) (ho : (o : Int) < nobj k) (hc : s.C t t ≤ 1000) (hne : k = 5 → o ≠ t) (hb : Box w X (ns 90 (gD s)) 66) :
    Calls Try.prog 27 #[.pointer (some ⟨X, 0, none⟩), .agg (evv ⟨k, t, o⟩)] w (PassPost X (djStep s k t o) w) := by
  obtain h | h | h | h | h | h : k = 3 ∨ k = 4 ∨ k = 5 ∨ k = 6 ∨ k = 7 ∨ k = 8 := by omega
  · subst h; exact pass3 X s t o w ht (by have : (o : Int) < 5 := ho; omega) hb
  · subst h; exact pass4 X s t o w ht (by have : (o : Int) < 5 := ho; omega) hc hb
  · subst h; exact pass5 X s t o w ht (by have : (o : Int) < 6 := ho; omega) hc (hne rfl) hb
  · subst h; exact pass6 X s t o w ht (by have : (o : Int) < 6 := ho; omega) hb
  · subst h; exact pass7 X s t o w ht (by have : (o : Int) < 4 := ho; omega) hb
  · subst h; exact pass8 X s t o w ht (by have : (o : Int) < 4 := ho; omega) hc hb
end Go.Proofs.Ytipjgcklnceohaa
namespace Go.Proofs.Ytipjgcklnceohaa
open Go Go.RowKit

theorem TVz (g : Nat → Nat) : RowTy Try.prog 49 (ns 96 g).size := by rw [ns_size]; exact TVs
theorem TCz (g : Nat → Nat) : RowTy Try.prog 66 (ns 90 g).size := by rw [ns_size]; exact TCs
theorem res_tct {P : Program} {w : World} {fn : Func} {p u v : Tmp} {ty : TypeId} (h : fn.results = #[.tmp u, .cell p ty, .tmp v]) {tmps : Array Value} {B : Nat} {c : Array Value} {t : TypeId} (hp : tmps.getD p undef = .pointer (some ⟨B, 0, none⟩)) (hb : Box w B c t) (hT : RowTy P ty c.size) :
    (results fn tmps).run P w = .ok (.tuple #[tmps.getD u undef, .agg c, tmps.getD v undef]) w := by
  obtain ⟨d, hu, hd, hi⟩ := hT
  have hp' : tmps[p]?.getD undef = .pointer (some ⟨B, 0, none⟩) := by rw [← Array.getD_eq_getD_getElem?]; exact hp
  simp [results, h, hp', asAddr, Sem.run_pure, Result.andThen_ok, run_loadVar_row w B t ty c (0, 0) d hb hu (by cases d <;> simp_all [TypeDesc.isRow]) hi, Sem.run_bind]
theorem kp_setRow {N B : Nat} (hne : N ≠ B) (w : World) (c : Array Value) : Kp N w (w.setRow B c) := ⟨by simp, fun _ => setRow_other w B N c hne⟩
def vF (l : List Ev) : Nat → Nat := if may l = 0 then gV (rwF l 1 l.length) (rwF l 2 l.length) else fun _ => 0
def DetPost (w : World) (l : List Ev) (e : Ending) (w' : World) : Prop :=
  ∃ v, e = .returned (.tuple #[v, .agg (ns 96 (vF l)), .int .i64 (may l)]) ∧ w'.ownsRow w.heap.size 35 3 v (flags l).length (evc (flags l)) ∧ Below w.heap.size w w'
set_option maxHeartbeats 4000000 in
theorem detect_bad (A : Option Addr) (n c : Nat) (l : List Ev) (w : World) (hl : Sl w A n l) (hm : may l ≠ 0) : Calls Try.prog 18 #[.slice A n c] w (DetPost w l) := by
  obtain ⟨b1, b2, hB, hs⟩ := boxes2 w (ns 96 fun _ => 0) (ns 96 fun _ => 0) 49 49
  have h1 : ((check l).2 != 0) = true := by simpa [may] using hm
  have HL := Lib.hid (hl.bel (Bel.of hB))
  have HV := Lib.hid (show vF l = fun _ => 0 by unfold vF; rw [if_neg hm])
  have HF := Lib.hid (flags_no hm)
  have HB := Lib.hid hB
  have HB1 := Lib.hid b1
  have HB2 := Lib.hid b2
  clear hl hs hB b1 b2 hm
  go_enter Try.func18, Try.ntmps18
  go_wp2_with fail
  change Calls _ _ _ ((w.alloc (.cells (ns 96 fun _ => 0) 49)).alloc (.cells (ns 96 fun _ => 0) 49)) _
  generalize ((w.alloc (.cells (ns 96 fun _ => 0) 49)).alloc (.cells (ns 96 fun _ => 0) 49)) = W at *
  refine (check_any A n c l _ HL.out).mono ?_
  rintro e w1 ⟨rfl, hb⟩
  have HX := Lib.hid (Bel.of hb)
  clear hb
  go_wp2
  have HV1 := Lib.hid (fun (w' : World) (h : Kp (w.heap.size + 1) w1 w') => h.box (HX.out.box HB2.out))
  refine region_keep (w.heap.size + 1) (by kernel_rfl) ?_
  (repeat (first | (refine wpK_go 0 (by simp only [List.getElem?_toArray, List.getElem?_cons_zero, List.getElem?_cons_succ] <;> rfl) (by decide +kernel) (by decide +kernel) (by kernel_rfl) (by rfl) (by exact fun _ _ _ _ h => h) ?_; apply Exists.intro; refine ⟨fun w1 h1 => ?_, ?_⟩; (first | exact g_move _ rfl | exact g_assign _ rfl | exact g_load _ _ rfl (TVz _) rfl (HV1.out w1 h1) | (go_simp; first | exact ⟨rfl, rfl⟩ | rfl)); simp only [Act.put, Act.eval, List.setIfInBounds_toArray, List.set_cons_zero, List.set_cons_succ, Array.getD_eq_getD_getElem?, List.getElem?_toArray, List.getElem?_cons_zero, List.getElem?_cons_succ, Option.getD_some]) | (refine wpK_go 1 (by simp only [List.getElem?_toArray, List.getElem?_cons_zero, List.getElem?_cons_succ] <;> rfl) (by decide +kernel) (by decide +kernel) (by kernel_rfl) (by rfl) (by exact fun _ _ _ _ h => h) ?_; apply Exists.intro; refine ⟨fun w1 h1 => ?_, ?_⟩; (first | exact g_move _ rfl | exact g_assign _ rfl | exact g_load _ _ rfl (TVz _) rfl (HV1.out w1 h1) | (go_simp; first | exact ⟨rfl, rfl⟩ | rfl)); simp only [Act.put, Act.eval, List.setIfInBounds_toArray, List.set_cons_zero, List.set_cons_succ, Array.getD_eq_getD_getElem?, List.getElem?_toArray, List.getElem?_cons_zero, List.getElem?_cons_succ, Option.getD_some]) | (refine wpK_go 2 (by simp only [List.getElem?_toArray, List.getElem?_cons_zero, List.getElem?_cons_succ] <;> rfl) (by decide +kernel) (by decide +kernel) (by kernel_rfl) (by rfl) (by exact fun _ _ _ _ h => h) ?_; apply Exists.intro; refine ⟨fun w1 h1 => ?_, ?_⟩; (first | exact g_move _ rfl | exact g_assign _ rfl | exact g_load _ _ rfl (TVz _) rfl (HV1.out w1 h1) | (go_simp; first | exact ⟨rfl, rfl⟩ | rfl)); simp only [Act.put, Act.eval, List.setIfInBounds_toArray, List.set_cons_zero, List.set_cons_succ, Array.getD_eq_getD_getElem?, List.getElem?_toArray, List.getElem?_cons_zero, List.getElem?_cons_succ, Option.getD_some]) | (refine wpK_go 4 (by simp only [List.getElem?_toArray, List.getElem?_cons_zero, List.getElem?_cons_succ] <;> rfl) (by decide +kernel) (by decide +kernel) (by kernel_rfl) (by rfl) (by exact fun _ _ _ _ h => h) ?_; apply Exists.intro; refine ⟨fun w1 h1 => ?_, ?_⟩; (first | exact g_move _ rfl | exact g_assign _ rfl | exact g_load _ _ rfl (TVz _) rfl (HV1.out w1 h1) | (go_simp; first | exact ⟨rfl, rfl⟩ | rfl)); simp only [Act.put, Act.eval, List.setIfInBounds_toArray, List.set_cons_zero, List.set_cons_succ, Array.getD_eq_getD_getElem?, List.getElem?_toArray, List.getElem?_cons_zero, List.getElem?_cons_succ, Option.getD_some]) | (refine wpK_skip 0 (by simp only [List.getElem?_toArray, List.getElem?_cons_zero, List.getElem?_cons_succ] <;> rfl) (by decide +kernel) (by decide +kernel) (by kernel_rfl) (by rfl) (by exact fun _ _ _ _ h => h) ?_; simp only [Act.put, Act.eval, List.setIfInBounds_toArray, List.set_cons_zero, List.set_cons_succ, Array.getD_eq_getD_getElem?, List.getElem?_toArray, List.getElem?_cons_zero, List.getElem?_cons_succ, Option.getD_some]) | (refine wpK_skip 1 (by simp only [List.getElem?_toArray, List.getElem?_cons_zero, List.getElem?_cons_succ] <;> rfl) (by decide +kernel) (by decide +kernel) (by kernel_rfl) (by rfl) (by exact fun _ _ _ _ h => h) ?_; simp only [Act.put, Act.eval, List.setIfInBounds_toArray, List.set_cons_zero, List.set_cons_succ, Array.getD_eq_getD_getElem?, List.getElem?_toArray, List.getElem?_cons_zero, List.getElem?_cons_succ, Option.getD_some]) | (refine wpK_skip 2 (by simp only [List.getElem?_toArray, List.getElem?_cons_zero, List.getElem?_cons_succ] <;> rfl) (by decide +kernel) (by decide +kernel) (by kernel_rfl) (by rfl) (by exact fun _ _ _ _ h => h) ?_; simp only [Act.put, Act.eval, List.setIfInBounds_toArray, List.set_cons_zero, List.set_cons_succ, Array.getD_eq_getD_getElem?, List.getElem?_toArray, List.getElem?_cons_zero, List.getElem?_cons_succ, Option.getD_some]) | (refine wpK_skip 4 (by simp only [List.getElem?_toArray, List.getElem?_cons_zero, List.getElem?_cons_succ] <;> rfl) (by decide +kernel) (by decide +kernel) (by kernel_rfl) (by rfl) (by exact fun _ _ _ _ h => h) ?_; simp only [Act.put, Act.eval, List.setIfInBounds_toArray, List.set_cons_zero, List.set_cons_succ, Array.getD_eq_getD_getElem?, List.getElem?_toArray, List.getElem?_cons_zero, List.getElem?_cons_succ, Option.getD_some])))
  (refine wpK_one 3 (by decide +kernel) ?_; intro w2 hw2; refine op_wanted (by simp only [List.getElem?_toArray, List.getElem?_cons_zero, List.getElem?_cons_succ] <;> rfl) rfl ?_)
  have HR2 := Lib.hid (hw2.box (HX.out.box HB1.out))
  have HBW := Lib.hid ((Bel.of HB.out).trans (HX.out.trans hw2))
  clear hw2
  refine wp_storeB TVs _ _ rfl rfl (ns_size _ _) rfl HR2.out (ns_size _ _) (ns_all _ _) ?_
  refine ⟨kp_setRow (by omega) _ _, ?_⟩
  simp only [Act.put, Act.eval, List.setIfInBounds_toArray, List.set_cons_zero, List.set_cons_succ, Array.getD_eq_getD_getElem?, List.getElem?_toArray, List.getElem?_cons_zero, List.getElem?_cons_succ, Option.getD_some]
  (repeat (first | (refine wpK_go 4 (by simp only [List.getElem?_toArray, List.getElem?_cons_zero, List.getElem?_cons_succ] <;> rfl) (by decide +kernel) (by decide +kernel) (by kernel_rfl) (by rfl) (by exact fun _ _ _ _ h => h) ?_; apply Exists.intro; refine ⟨fun w1 h1 => ?_, ?_⟩; (first | exact g_move _ rfl | exact g_assign _ rfl | (go_simp; first | exact ⟨rfl, rfl⟩ | rfl)); simp only [Act.put, Act.eval, List.setIfInBounds_toArray, List.set_cons_zero, List.set_cons_succ, Array.getD_eq_getD_getElem?, List.getElem?_toArray, List.getElem?_cons_zero, List.getElem?_cons_succ, Option.getD_some]) | (refine wpK_skip 4 (by simp only [List.getElem?_toArray, List.getElem?_cons_zero, List.getElem?_cons_succ] <;> rfl) (by decide +kernel) (by decide +kernel) (by kernel_rfl) (by rfl) (by exact fun _ _ _ _ h => h) ?_; simp only [Act.put, Act.eval, List.setIfInBounds_toArray, List.set_cons_zero, List.set_cons_succ, Array.getD_eq_getD_getElem?, List.getElem?_toArray, List.getElem?_cons_zero, List.getElem?_cons_succ, Option.getD_some])))
  (refine wpK_done (by decide +kernel) ?_ _; intro w3 hw3; try simp only [Act.put, Act.eval, List.setIfInBounds_toArray, List.set_cons_zero, List.set_cons_succ, Array.getD_eq_getD_getElem?, List.getElem?_toArray, List.getElem?_cons_zero, List.getElem?_cons_succ, Option.getD_some])
  have HR3 := Lib.hid (hw3.box (HR2.out.setRow (ns 96 fun _ => 0)))
  have HB3 := Lib.hid ((below_setRow' HBW.out.out w.heap.size (ns 96 fun _ => 0) (Nat.le_refl _)).trans (hw3.out.mono (by have := HBW.out.size; simp; exact this)))
  clear hw3
  go_wp2
  refine bodyPost_ret (res_tct Try.results18 rfl HR3.out (TVz _)) rfl ⟨.slice none 0 0, ?_, ?_, ?_⟩
  · rw [HV.out]; rfl
  · rw [HF.out]; exact World.ownsRow_nil _ _ _ _
  · exact HB3.out
/-- The detector's memory ahead of event k, with the flags of the first j events. -/
structure DetR (w : World) (N : Nat) (l : List Ev) (k j : Nat) (v : Value) (wr : World) : Prop where
  res : Box wr w.heap.size (ns 96 fun _ => 0) 49
  vars : Box wr (w.heap.size + 1) (ns 96 (gV (rwF l 1 k) (rwF l 2 k))) 49
  now : Box wr N (ns 90 (gD (djTo l k))) 66
  own : wr.ownsRow (N + 1) 35 3 v (flT l j).length (evc (flT l j))
  below : Below w.heap.size w wr
section
variable {w wr wr' : World} {N : Nat} {l : List Ev} {k j : Nat} {v : Value}
theorem DetR.bel (h : DetR w N l k j v wr) (hb : Bel wr wr') : DetR w N l k j v wr' := ⟨hb.box h.res, hb.box h.vars, hb.box h.now, own_bel h.own hb, h.below.trans (hb.out.mono h.below.size)⟩
theorem DetR.nbl (h : DetR w N l k j v wr) {X : Nat} (hX : X ≤ N) : v.ownBlock = none ∨ v.ownBlock ≠ some X := .inr fun e => by have := own_block_ge h.own X e; omega
theorem DetR.pass (h : DetR w N l k k v wr) (hp : Psd N (djTo l (k + 1)) wr wr') (hN : w.heap.size + 2 ≤ N) (h1 : kZ l k ≠ 1) (h2 : kZ l k ≠ 2) : DetR w N l (k + 1) (k + 1) v wr' :=
  ⟨h.res.grown hp.chg (fun e => by have := Option.some.inj e; omega), by rw [rwF_no h1, rwF_no h2]; exact h.vars.grown hp.chg (fun e => by have := Option.some.inj e; omega), hp.box,
    by rw [flT_no (djK_none h1 h2)]; exact h.own.kept hp.chg (h.nbl (Nat.le_refl _)), h.below.grown hp.chg h.below.size (fun x e => by have := Option.some.inj e; omega)⟩
theorem DetR.acc (h : DetR w N l k k v wr) (hb : Box wr' (w.heap.size + 1) (ns 96 (gV (rwF l 1 (k + 1)) (rwF l 2 (k + 1)))) 49) (hc : wr.grownBy wr' (some (w.heap.size + 1))) (hN : w.heap.size + 2 ≤ N) (hk : kZ l k = 1 ∨ kZ l k = 2) : DetR w N l (k + 1) k v wr' :=
  ⟨h.res.grown hc (fun e => by have := Option.some.inj e; omega), hb, by rw [djTo_acc hk]; exact h.now.grown hc (fun e => by have := Option.some.inj e; omega),
    h.own.kept hc (h.nbl (by omega)), h.below.grown hc h.below.size (fun x e => by have := Option.some.inj e; omega)⟩
theorem DetR.none (h : DetR w N l (k + 1) k v wr) (h0 : djK l k = 0) : DetR w N l (k + 1) (k + 1) v wr := ⟨h.res, h.vars, h.now, by rw [flT_no h0]; exact h.own, h.below⟩
theorem DetR.add (h : DetR w N l (k + 1) k v wr) (h0 : djK l k ≠ 0) (hN : w.heap.size + 2 ≤ N) {v' : Value} {e : Ev} (he : e = ⟨(k : Nat), (eZ l k).o, djK l k⟩) (ho : wr'.ownsRow (N + 1) 35 3 v' ((flT l k).length + 1) (evc (flT l k) ++ evl e)) (hg : wr.grownBy wr' v.ownBlock) : DetR w N l (k + 1) (k + 1) v' wr' := by
  have hn : ∀ X, X ≤ N → some X ≠ v.ownBlock := fun X hX e => by have := own_block_ge h.own X e.symm; omega
  refine ⟨h.res.grown hg (hn _ (by omega)), h.vars.grown hg (hn _ (by omega)), h.now.grown hg (hn _ (Nat.le_refl _)), ?_, h.below.grown hg h.below.size (fun x e => by have := own_block_ge h.own x e; omega)⟩
  rw [flT_yes h0, List.length_append, evc_append, ← he]
  exact ho
end
end Go.Proofs.Ytipjgcklnceohaa

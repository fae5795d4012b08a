/- The law's own: names. -/
import Derived.Test.YtjddahidkodieaaSl
import Derived.Test.YtjddahidkodieaaPr
import Derived.Test.YtjddahidkodieaaAppend
import Derived.Test.YtjddahidkodieaaRefTr
import Derived.Test.YtjddahidkodieaaKeepTw
import Derived.Test.YtjddahidkodieaaGrow
import Derived.Deep.DeepCutAuto
set_option linter.all false
set_option maxRecDepth 100000
namespace Go.Proofs.Ytjddahidkodieaa
open Go Go.RowKit

theorem wp_buildp {P : Program} {o : Oper} {a : Act} {w : World} {K : Act → World → Prop} {Q : Exit → Act → World → Prop} (t : TypeId) (x : Operand) (ho : o.op = .buildSlice t 1 #[(0, x)]) (e : TypeId) (i : TypeInfo) (ht : P.underlying t = some (.slice e)) (hi : P.info? e = some i)
    (hz : i.zero = some (.agg #[.int .i64 0, .int .i64 0])) (hs : i.size = 2) (p : Nat × Nat) (hx : a.eval x = .agg (prv p))
    (h : K (a.put o.dst (.slice (some ⟨w.heap.size, 0, none⟩) 1 1)) (w.alloc (.cells (prv p) e))) : o.wp P a w K Q := by
  unfold Oper.wp execOp
  simp only [ho, Sem.run_bind, Sem.run_pure, Result.andThen_ok, List.map_toArray, List.map_cons, List.map_nil, hx, run_buildp t e i ht hi hz hs p w]
  exact h
theorem own_setN {w : World} {base : Nat} {t : TypeId} {size n : Nat} {v : Value} {xs : List Value} (h : w.ownsRow base t size v n xs) {B : Nat} (hB : B < base) (k : Nat) (u : Value) : (w.setCell ⟨B, k, none⟩ u).ownsRow base t size v n xs :=
  own_keep h fun g hg hlt => by
    have := own_block_ge h g hg
    exact heap_setCell_other w ⟨B, k, none⟩ g u (by show g ≠ B; omega)
def nmL (l : List Ev) (i : Nat) : List (Nat × Nat) := (List.range i).map (nameN l)
theorem nmL_snoc (l : List Ev) (i : Nat) : nmL l (i + 1) = nmL l i ++ [nameN l i] := by unfold nmL; rw [List.range_succ, List.map_append]; rfl
theorem nmL_len (l : List Ev) (i : Nat) : (nmL l i).length = i := by unfold nmL; rw [List.length_map, List.length_range]
theorem nmL_get (l : List Ev) {i k : Nat} (h : k < i) : (nmL l i)[k]? = some (nameN l k) := by
  unfold nmL
  rw [List.getElem?_map, List.getElem?_range h]; rfl
def mny (l : List Ev) (i : Nat) : Nat → Int := fun t => (cntT (l.take i) (t : Nat) : Nat)
theorem mny_up {l : List Ev} {i : Nat} {k o : Int} {t : Nat} (h : l[i]? = some ⟨k, t, o⟩) (j : Nat) : upd (mny l i) t (mny l i t + 1) j = mny l (i + 1) j := by
  unfold upd mny
  rw [take_snoc' h, cntT_append, cntT_one]
  by_cases hj : j = t
  · subst hj; simp
  · rw [if_neg hj, if_neg (by simp only; omega)]; rfl
/-- The names of the first i events, in a row; the counts, in an array; an event in a variable. -/
structure NmX (w : World) (l : List Ev) (i j : Nat) (v : Value) (X : Nat) (x : Ev) (wr : World) : Prop where
  own : wr.ownsRow (w.heap.size + 1) 40 2 v i (prc (nmL l i))
  many : Box wr w.heap.size (clk (mny l j)) 47
  bx : Box wr X (evv x) 54
  gt : w.heap.size < X
  apart : ∀ g, v.ownBlock = some g → g ≠ X
  below : Below w.heap.size w wr
structure NmR (w : World) (l : List Ev) (i : Nat) (v : Value) (wr : World) : Prop where
  own : wr.ownsRow (w.heap.size + 1) 40 2 v i (prc (nmL l i))
  many : Box wr w.heap.size (clk (mny l i)) 47
  below : Below w.heap.size w wr
theorem NmR.ewld {w : World} {l : List Ev} {i : Nat} {v : Value} {wr : World} (h : NmR w l i v wr) (x : Ev) : NmX w l i i v wr.heap.size x (Proofs.Ytjddahidkodieaa.ewld wr x 54) :=
  have hb : Bel wr _ := ewld_below wr x 54
  ⟨own_bel h.own hb, hb.box h.many, ewld_box wr x _, h.many.lt, fun g hg e => by have := (own_lt h.own hg).2; omega, h.below.trans (hb.out.mono h.below.size)⟩
theorem NmX.bel {w : World} {l : List Ev} {i j : Nat} {v : Value} {X : Nat} {x : Ev} {wr w' : World} (h : NmX w l i j v X x wr) (hb : Bel wr w') : NmX w l i j v X x w' :=
  ⟨own_bel h.own hb, hb.box h.many, hb.box h.bx, h.gt, h.apart, h.below.trans (hb.out.mono h.below.size)⟩
theorem NmX.add {w : World} {l : List Ev} {i j : Nat} {v v' : Value} {X : Nat} {x : Ev} {wr w' : World} (h : NmX w l i j v X x wr) (hg : wr.grownBy w' v.ownBlock) (hat : v'.ownBlock = v.ownBlock ∨ v'.ownBlock = some wr.heap.size)
    (ho : w'.ownsRow (w.heap.size + 1) 40 2 v' (i + 1) (prc (nmL l (i + 1)))) : NmX w l (i + 1) j v' X x w' :=
  ⟨ho, h.many.grown hg (fun e => by have := own_block_ge h.own _ e.symm; omega), h.bx.grown hg (fun e => h.apart _ e.symm rfl), h.gt, fun g hg' e => by
      rcases hat with h1 | h1
      · exact h.apart g (h1 ▸ hg') e
      · rw [h1] at hg'; have := Option.some.inj hg'; have := h.bx.lt; omega,
    h.below.grown hg h.below.size (fun k hk => by have := own_block_ge h.own _ hk; omega)⟩
def NmPost (w : World) (n : Nat) (l : List Ev) (e : Ending) (w' : World) : Prop := ∃ v, e = .returned v ∧ w'.ownsRow w.heap.size 40 2 v n (prc (nmL l n)) ∧ Below w.heap.size w w'
set_option maxHeartbeats 8000000 in
theorem names_any (A : Option Addr) (n c : Nat) (l : List Ev) (w : World) (h : Sl w A n l) (hf : Fit l) (hn : n ≤ 80) : Calls Try.prog 16 #[.slice A n c] w (NmPost w n l) := by
  obtain ⟨i0, hi0, hz0, hz1, hz2⟩ := info_parts pr_info
  have J := Lib.hid (And.intro hi0 (And.intro hz0 (And.intro hz1 hz2)))
  have HL := Lib.hid h
  have HF := Lib.hid hf
  have hb0 : Below w.heap.size w (w.alloc (.cells (clk (mny l 0)) 47)) := (Below.refl _ _).alloc (Nat.le_refl _) _
  have H0 := Lib.hid (show NmR w l 0 (.slice none 0 0) (w.alloc (.cells (clk (mny l 0)) 47)) from ⟨World.ownsRow_nil _ _ _ _, Box.new w _ _, hb0⟩)
  clear hi0 hz0 hz1 hz2 h hf hb0
  go_enter Try.func16, Try.ntmps16
  go_wp2
  change Code.wp _ _ _ _ (w.alloc (.cells (clk (mny l 0)) 47))
  generalize w.alloc (.cells (clk (mny l 0)) 47) = wz at *
  go_loopw [4, 9] (fun v t wr => ∃ i : Nat, i ≤ n ∧ t = .int .i64 i ∧ NmR w l i v wr) (fun _ t _ => n - (intOf t).toNat)
  case atStart => exact ⟨0, by omega, rfl, H0.out⟩
  case round =>
    obtain ⟨i, hi, rfl, hr⟩ := hrel
    have HR := Lib.hid hr
    clear hr H0
    by_cases hlt : i < n
    · have hlt' : (i : Int) < n := by omega
      obtain ⟨b, off, x, rfl, hbb, hx, hrg⟩ := (HL.out.below HR.out.below (Nat.le_refl _)).at_ hlt
      have hfx := HF.out x (List.mem_of_getElem? hx)
      obtain ⟨xk, xt, xo⟩ := x
      obtain ⟨t, rfl⟩ := Int.eq_ofNat_of_zero_le hfx.1
      have ht6 : t < 6 := by have := hfx.2; simp only at this; omega
      have ht6' : (t : Int) < 6 := by omega
      have HX := Lib.hid hx
      have hR := Lib.hid hrg
      have HN := Lib.hid (HR.out.ewld ⟨xk, t, xo⟩)
      have HNM := Lib.hid (show nmL l (i + 1) = nmL l i ++ [(t, cntT (l.take i) (t : Nat))] by
        rw [nmL_snoc]; unfold nameN; rw [evZ_at hx]; simp)
      have HUP := Lib.hid (clk_congr (fun j _ => mny_up hx j))
      have hc80 : cntT (l.take i) (t : Nat) ≤ 80 := Nat.le_trans (cntT_le _ _) (by rw [List.length_take]; omega)
      have HMC := Lib.hid (show mny l i t = (cntT (l.take i) (t : Nat) : Nat) from rfl)
      clear hx hrg hbb hfx
      go_wp2_with (first | (refine load_ev T36 _ rfl rfl rfl hR.out ?_) | (refine ewld_store T36 _ _ rfl rfl _ rfl rfl rfl ?_))
      generalize hw3 : ewld wr ⟨xk, t, xo⟩ 54 = w3 at *
      generalize hXX : wr.heap.size = X at *
      generalize hcc : cntT (l.take i) (t : Nat) = c1 at *
      have hwc : IntKind.i64.wrap ((c1 : Int) + 1) = (c1 : Int) + 1 := IntWalk.i64_in _ (by omega)
      have HCC := Lib.hid hcc
      clear hw3 hXX hcc
      have F1 := fun (w1 : World) (h : Ks (fun b => b = X ∨ b = w.heap.size) w3 w1) => (h.box (.inl rfl) HN.out.bx).cell 1 (v := .int .i64 t) rfl
      have F2 := fun (w1 : World) (h : Ks (fun b => b = X ∨ b = w.heap.size) w3 w1) => (h.box (.inr rfl) HN.out.many).cell t ((clk_get _ t ht6).trans (by rw [HMC.out]))
      refine region_keepS (fun b => b = X ∨ b = w.heap.size) (by kernel_rfl) ?_
      (repeat (first | ((first | refine wpS_go 0 (by simp only [List.getElem?_toArray, List.getElem?_cons_zero, List.getElem?_cons_succ] <;> rfl) (by decide +kernel) (by decide +kernel) (by kernel_rfl) (by rfl) (by exact fun _ _ _ _ h => h) ?_ | refine wpS_go 1 (by simp only [List.getElem?_toArray, List.getElem?_cons_zero, List.getElem?_cons_succ] <;> rfl) (by decide +kernel) (by decide +kernel) (by kernel_rfl) (by rfl) (by exact fun _ _ _ _ h => h) ?_ | refine wpS_go 2 (by simp only [List.getElem?_toArray, List.getElem?_cons_zero, List.getElem?_cons_succ] <;> rfl) (by decide +kernel) (by decide +kernel) (by kernel_rfl) (by rfl) (by exact fun _ _ _ _ h => h) ?_ | refine wpS_go 3 (by simp only [List.getElem?_toArray, List.getElem?_cons_zero, List.getElem?_cons_succ] <;> rfl) (by decide +kernel) (by decide +kernel) (by kernel_rfl) (by rfl) (by exact fun _ _ _ _ h => h) ?_ | refine wpS_go 4 (by simp only [List.getElem?_toArray, List.getElem?_cons_zero, List.getElem?_cons_succ] <;> rfl) (by decide +kernel) (by decide +kernel) (by kernel_rfl) (by rfl) (by exact fun _ _ _ _ h => h) ?_ | refine wpS_go 5 (by simp only [List.getElem?_toArray, List.getElem?_cons_zero, List.getElem?_cons_succ] <;> rfl) (by decide +kernel) (by decide +kernel) (by kernel_rfl) (by rfl) (by exact fun _ _ _ _ h => h) ?_ | refine wpS_go 6 (by simp only [List.getElem?_toArray, List.getElem?_cons_zero, List.getElem?_cons_succ] <;> rfl) (by decide +kernel) (by decide +kernel) (by kernel_rfl) (by rfl) (by exact fun _ _ _ _ h => h) ?_ | refine wpS_go 7 (by simp only [List.getElem?_toArray, List.getElem?_cons_zero, List.getElem?_cons_succ] <;> rfl) (by decide +kernel) (by decide +kernel) (by kernel_rfl) (by rfl) (by exact fun _ _ _ _ h => h) ?_); apply Exists.intro; refine ⟨fun w1 h1 => ?_, ?_⟩; (first | exact g_move _ rfl | exact g_assign _ rfl | (have fct0 := F1 w1 h1; have fct1 := F2 w1 h1; go_simp; first | exact ⟨rfl, rfl⟩ | rfl)); simp only [Act.put, Act.eval, List.setIfInBounds_toArray, List.set_cons_zero, List.set_cons_succ, Array.getD_eq_getD_getElem?, List.getElem?_toArray, List.getElem?_cons_zero, List.getElem?_cons_succ, Option.getD_some]) | ((first | refine wpS_skip 0 (by simp only [List.getElem?_toArray, List.getElem?_cons_zero, List.getElem?_cons_succ] <;> rfl) (by decide +kernel) (by decide +kernel) (by kernel_rfl) (by rfl) (by exact fun _ _ _ _ h => h) ?_ | refine wpS_skip 1 (by simp only [List.getElem?_toArray, List.getElem?_cons_zero, List.getElem?_cons_succ] <;> rfl) (by decide +kernel) (by decide +kernel) (by kernel_rfl) (by rfl) (by exact fun _ _ _ _ h => h) ?_ | refine wpS_skip 2 (by simp only [List.getElem?_toArray, List.getElem?_cons_zero, List.getElem?_cons_succ] <;> rfl) (by decide +kernel) (by decide +kernel) (by kernel_rfl) (by rfl) (by exact fun _ _ _ _ h => h) ?_ | refine wpS_skip 3 (by simp only [List.getElem?_toArray, List.getElem?_cons_zero, List.getElem?_cons_succ] <;> rfl) (by decide +kernel) (by decide +kernel) (by kernel_rfl) (by rfl) (by exact fun _ _ _ _ h => h) ?_ | refine wpS_skip 4 (by simp only [List.getElem?_toArray, List.getElem?_cons_zero, List.getElem?_cons_succ] <;> rfl) (by decide +kernel) (by decide +kernel) (by kernel_rfl) (by rfl) (by exact fun _ _ _ _ h => h) ?_ | refine wpS_skip 5 (by simp only [List.getElem?_toArray, List.getElem?_cons_zero, List.getElem?_cons_succ] <;> rfl) (by decide +kernel) (by decide +kernel) (by kernel_rfl) (by rfl) (by exact fun _ _ _ _ h => h) ?_ | refine wpS_skip 6 (by simp only [List.getElem?_toArray, List.getElem?_cons_zero, List.getElem?_cons_succ] <;> rfl) (by decide +kernel) (by decide +kernel) (by kernel_rfl) (by rfl) (by exact fun _ _ _ _ h => h) ?_ | refine wpS_skip 7 (by simp only [List.getElem?_toArray, List.getElem?_cons_zero, List.getElem?_cons_succ] <;> rfl) (by decide +kernel) (by decide +kernel) (by kernel_rfl) (by rfl) (by exact fun _ _ _ _ h => h) ?_); simp only [Act.put, Act.eval, List.setIfInBounds_toArray, List.set_cons_zero, List.set_cons_succ, Array.getD_eq_getD_getElem?, List.getElem?_toArray, List.getElem?_cons_zero, List.getElem?_cons_succ, Option.getD_some])))
      clear F1 F2
      (refine wpS_one 8 (by decide +kernel) ?_; intro w4 hw4; refine op_wanted (by simp only [List.getElem?_toArray, List.getElem?_cons_zero, List.getElem?_cons_succ] <;> rfl) rfl ?_)
      refine wp_buildp 35 _ rfl 40 i0 Try.underlying35 J.out.1 J.out.2.1 J.out.2.2.1 (t, c1) rfl ?_
      refine ⟨Ks.of ((Bel.refl _).alloc _), ?_⟩
      simp only [Act.put, Act.eval, List.setIfInBounds_toArray, List.set_cons_zero, List.set_cons_succ, Array.getD_eq_getD_getElem?, List.getElem?_toArray, List.getElem?_cons_zero, List.getElem?_cons_succ, Option.getD_some]
      (refine wpS_one 9 (by decide +kernel) ?_; intro w5 hw5; refine op_wanted (by simp only [List.getElem?_toArray, List.getElem?_cons_zero, List.getElem?_cons_succ] <;> rfl) rfl ?_)
      have HN5 := Lib.hid ((HN.out.bel (hw4.alloc (.cells (prv (t, c1)) 40))).bel hw5)
      refine wp_append_src _ _ 35 rfl (w.heap.size + 1) 40 i0 _ 2 16 Try.underlying35 J.out.1 J.out.2.1 J.out.2.2.1 J.out.2.2.2 rfl (by omega) _ i _ rfl HN5.out.own (some ⟨w4.heap.size, 0, none⟩) 1 1 (prl (t, c1)) rfl rfl (Src.box (l := prl (t, c1)) (hw5.box (Box.new w4 (prv (t, c1)) 40)) 1) (by simp [prl, Value.oneCell']) (by unfold maxLen; omega) (by omega) (Nat.le_trans HN5.out.gt (Nat.le_of_lt HN5.out.bx.lt)) ?_
      intro v8 w8 hown8 hg8 hat8
      have HN8 := Lib.hid (HN5.out.add hg8 hat8 (by rw [HNM.out, prc_append]; exact hown8))
      refine ⟨Ks.grown hg8 (fun b hb e => by
        rcases hb with rfl | rfl
        · exact HN5.out.apart _ e.symm rfl
        · have := own_block_ge HN5.out.own _ e.symm; omega), ?_⟩
      simp only [Act.put, Act.eval, List.setIfInBounds_toArray, List.set_cons_zero, List.set_cons_succ, Array.getD_eq_getD_getElem?, List.getElem?_toArray, List.getElem?_cons_zero, List.getElem?_cons_succ, Option.getD_some]
      clear hown8 hg8 hat8 hw4 hw5
      (repeat (first | ((first | refine wpS_go 10 (by simp only [List.getElem?_toArray, List.getElem?_cons_zero, List.getElem?_cons_succ] <;> rfl) (by decide +kernel) (by decide +kernel) (by kernel_rfl) (by rfl) (by exact fun _ _ _ _ h => h) ?_); apply Exists.intro; refine ⟨fun w1 h1 => ?_, ?_⟩; (first | exact g_move _ rfl | exact g_assign _ rfl | (go_simp; first | exact ⟨rfl, rfl⟩ | rfl)); simp only [Act.put, Act.eval, List.setIfInBounds_toArray, List.set_cons_zero, List.set_cons_succ, Array.getD_eq_getD_getElem?, List.getElem?_toArray, List.getElem?_cons_zero, List.getElem?_cons_succ, Option.getD_some]) | ((first | refine wpS_skip 10 (by simp only [List.getElem?_toArray, List.getElem?_cons_zero, List.getElem?_cons_succ] <;> rfl) (by decide +kernel) (by decide +kernel) (by kernel_rfl) (by rfl) (by exact fun _ _ _ _ h => h) ?_); simp only [Act.put, Act.eval, List.setIfInBounds_toArray, List.set_cons_zero, List.set_cons_succ, Array.getD_eq_getD_getElem?, List.getElem?_toArray, List.getElem?_cons_zero, List.getElem?_cons_succ, Option.getD_some])))
      (refine wpS_done (by decide +kernel) ?_ _; intro w9 hw9; try simp only [Act.put, Act.eval, List.setIfInBounds_toArray, List.set_cons_zero, List.set_cons_succ, Array.getD_eq_getD_getElem?, List.getElem?_toArray, List.getElem?_cons_zero, List.getElem?_cons_succ, Option.getD_some])
      have HN9 := Lib.hid (HN8.out.bel hw9)
      clear hw9
      have c9 := HN9.out.bx.cell 1 (v := .int .i64 t) rfl
      have d9 := HN9.out.many.cell t ((clk_get _ t ht6).trans (by rw [HMC.out]))
      have f9 := HN9.out.many.frozen t
      go_wp2
      go_roundw
      case rel =>
        refine ⟨i + 1, by omega, by go_num, own_setN HN9.out.own (Nat.lt_succ_self _) _ _, ?_, HN9.out.below.setCell (Nat.le_refl _) _⟩
        have h9 := HN9.out.many.set t (.int .i64 (mny l i t + 1))
        rw [clk_set _ t ht6, HUP.out] at h9
        rw [HMC.out] at h9
        exact h9
      case measure => simp [intOf]; omega
    · obtain rfl : i = n := by omega
      go_wp2
      go_ret
      exact ⟨_, rfl, own_drop_alloc HR.out.own (Nat.le_succ _), HR.out.below⟩
end Go.Proofs.Ytjddahidkodieaa

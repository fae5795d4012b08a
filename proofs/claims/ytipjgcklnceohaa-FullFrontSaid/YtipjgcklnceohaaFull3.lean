/- Contracts of package full: access. -/
import Derived.Test.YtipjgcklnceohaaFull2
set_option linter.all false
set_option maxRecDepth 100000
namespace Go.Proofs.Ytipjgcklnceohaa
open Go Go.RowKit

def readPost (Y x : Nat) (r v : Nat → Nat → Nat) (t : Nat) (c : Nat → Nat) (w : World) (e : Ending) (w' : World) : Prop :=
  e = .returned (.int .i64 (kndA 1 (v x) (r x) c)) ∧ Box w' Y (ns 96 (gV (upd2 r x t (c t)) v)) 49 ∧ w.grownBy w' (some Y)
set_option maxHeartbeats 4000000 in
theorem read_any (Y x : Nat) (r v : Nat → Nat → Nat) (t : Nat) (o : Int) (c : Nat → Nat) (w : World) (hx : x < 8) (ht : t < 6) (hb : Box w Y (ns 96 (gV r v)) 49) :
    Calls Try.prog 28 #[.pointer (some ⟨Y, x * 12, none⟩), .agg (evv ⟨1, t, o⟩), .agg (clk (ck c))] w (readPost Y x r v t c w) := by
  obtain ⟨b1, b2, hB, hs⟩ := boxes2 w (evv ⟨1, t, o⟩) (clk (ck c)) 45 30
  have hY := (Bel.of hB).box hb
  have hYl := hb.lt
  have HY := Lib.hid hY
  have HYL := Lib.hid hYl
  generalize hW : ((w.alloc (.cells (evv ⟨1, t, o⟩) 45)).alloc (.cells (clk (ck c)) 30)) = W at *
  have HB := Lib.hid hB
  have HB1 := Lib.hid b1
  have HB2 := Lib.hid b2
  have c0 := b1.cell 0 (v := .int .i64 1) rfl
  have HS := Lib.hid hs
  clear b1 hB hs hb hY
  go_enter Try.func28, Try.ntmps28
  go_wp2_with (first | (refine loadB _ _ rfl rfl rfl b2 ty28 ?_))
  refine (conflict_any Y x r v 1 c _ hx HY.out).mono ?_
  rintro e3 w3 ⟨rfl, hb3⟩
  have HB3 := Lib.hid (Bel.of hb3)
  clear b2 hb3 c0 hW
  have d0 := (HB3.out.box HB1.out).cell 0 (v := .int .i64 1) rfl
  have d1 := (HB3.out.box HB1.out).cell 1 (v := .int .i64 t) rfl
  have d2 := (HB3.out.box HB2.out).cell t (clk_get _ t ht)
  have hY3 := HB3.out.box HY.out
  have dY := hY3.cell (x * 12 + t) (ns_get _ (by omega))
  have gY := hY3.frozen (x * 12 + t)
  have HY3 := Lib.hid hY3
  have ht' : (t : Int) < 6 := by omega
  clear hY3
  go_wp2
  (refine wp_region_still_tail 9 (by kernel_rfl) (by kernel_rfl) ?_; simp only [List.take_succ_cons, List.take_zero, List.drop_succ_cons, List.drop_zero]; (repeat (first | ((with_reducible refine s_skip ?_ ?_); exact rfl; simp only [Act.put, Act.eval, List.setIfInBounds_toArray, List.set_cons_zero, List.set_cons_succ, Array.getD_eq_getD_getElem?, List.getElem?_toArray, List.getElem?_cons_zero, List.getElem?_cons_succ, Option.getD_some]) | ((with_reducible refine wpStill_step ?_); intro K hK; go_simp; (with_reducible refine hK _ ?_); clear hK K))); (with_reducible refine wpStill_nil ?_))
  change wpList _ _ _ _ _ w3.drew
  go_wp2
  go_ret
  refine ⟨rfl, ?_, ?_⟩
  · have h9 := ((Bel.refl w3).drew.box HY3.out).set (x * 12 + t) (.int .i64 (c t : Nat))
    rw [ns_set, updN_R r v ht] at h9
    exact h9
  · refine (chg_bel ((Bel.of HB.out).trans (HB3.out.trans (Bel.refl w3).drew)) _).trans (chg_cell _ _ _)

def writePost (Y x : Nat) (r v : Nat → Nat → Nat) (t : Nat) (c : Nat → Nat) (w : World) (e : Ending) (w' : World) : Prop :=
  e = .returned (.int .i64 (kndA 2 (v x) (r x) c)) ∧ Box w' Y (ns 96 (gV r (upd2 v x t (c t)))) 49 ∧ w.grownBy w' (some Y)
set_option maxHeartbeats 4000000 in
theorem write_any (Y x : Nat) (r v : Nat → Nat → Nat) (t : Nat) (o : Int) (c : Nat → Nat) (w : World) (hx : x < 8) (ht : t < 6) (hb : Box w Y (ns 96 (gV r v)) 49) :
    Calls Try.prog 28 #[.pointer (some ⟨Y, x * 12, none⟩), .agg (evv ⟨2, t, o⟩), .agg (clk (ck c))] w (writePost Y x r v t c w) := by
  obtain ⟨b1, b2, hB, hs⟩ := boxes2 w (evv ⟨2, t, o⟩) (clk (ck c)) 45 30
  have hY := (Bel.of hB).box hb
  have hYl := hb.lt
  have HY := Lib.hid hY
  have HYL := Lib.hid hYl
  generalize hW : ((w.alloc (.cells (evv ⟨2, t, o⟩) 45)).alloc (.cells (clk (ck c)) 30)) = W at *
  have HB := Lib.hid hB
  have HB1 := Lib.hid b1
  have HB2 := Lib.hid b2
  have c0 := b1.cell 0 (v := .int .i64 2) rfl
  have HS := Lib.hid hs
  clear b1 hB hs hb hY
  go_enter Try.func28, Try.ntmps28
  go_wp2_with (first | (refine loadB _ _ rfl rfl rfl b2 ty28 ?_))
  refine (conflict_any Y x r v 2 c _ hx HY.out).mono ?_
  rintro e3 w3 ⟨rfl, hb3⟩
  have HB3 := Lib.hid (Bel.of hb3)
  clear b2 hb3 c0 hW
  have d0 := (HB3.out.box HB1.out).cell 0 (v := .int .i64 2) rfl
  have d1 := (HB3.out.box HB1.out).cell 1 (v := .int .i64 t) rfl
  have d2 := (HB3.out.box HB2.out).cell t (clk_get _ t ht)
  have hY3 := HB3.out.box HY.out
  have dY := hY3.cell (x * 12 + 6 + t) (ns_get _ (by omega))
  have gY := hY3.frozen (x * 12 + 6 + t)
  have HY3 := Lib.hid hY3
  have ht' : (t : Int) < 6 := by omega
  clear hY3
  go_wp2
  (refine wp_region_still_tail 9 (by kernel_rfl) (by kernel_rfl) ?_; simp only [List.take_succ_cons, List.take_zero, List.drop_succ_cons, List.drop_zero]; (repeat (first | ((with_reducible refine s_skip ?_ ?_); exact rfl; simp only [Act.put, Act.eval, List.setIfInBounds_toArray, List.set_cons_zero, List.set_cons_succ, Array.getD_eq_getD_getElem?, List.getElem?_toArray, List.getElem?_cons_zero, List.getElem?_cons_succ, Option.getD_some]) | ((with_reducible refine wpStill_step ?_); intro K hK; go_simp; (with_reducible refine hK _ ?_); clear hK K))); (with_reducible refine wpStill_nil ?_))
  change wpList _ _ _ _ _ w3.drew
  go_wp2
  go_ret
  refine ⟨rfl, ?_, ?_⟩
  · have h9 := ((Bel.refl w3).drew.box HY3.out).set (x * 12 + 6 + t) (.int .i64 (c t : Nat))
    rw [ns_set, updN_W r v ht] at h9
    exact h9
  · refine (chg_bel ((Bel.of HB.out).trans (HB3.out.trans (Bel.refl w3).drew)) _).trans (chg_cell _ _ _)
end Go.Proofs.Ytipjgcklnceohaa

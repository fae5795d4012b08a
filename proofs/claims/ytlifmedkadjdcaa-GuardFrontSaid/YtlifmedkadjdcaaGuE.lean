/- Equal arrays of guards; what stands in an array of guards, of sets. -/
import Derived.Test.YtlifmedkadjdcaaGuR
import Derived.ChangeKeysEq
import Derived.DeepKeys
set_option linter.all false
set_option maxRecDepth 100000
namespace Go.Proofs.Ytlifmedkadjdcaa
open Go Go.RowKit

theorem eq_guard (e : Ev) (w : World) : (Op.equalIn 9999 24 (.agg (evv e)) (.agg (evv e))).run Try.prog w = .ok true w := by
  unfold evv
  simp [go_sem]
theorem gd_info : (Try.prog.info? 24).map (·.size) = some 3 := by kernel_rfl
theorem part_guard (g : Nat → Nat) (i : Nat) (hi : i < 8) (w : World) : (part 24 (ns 24 g) (i * 3)).run Try.prog w = .ok (.agg (evv ⟨(g (i * 3) : Nat), (g (i * 3 + 1) : Nat), (g (i * 3 + 2) : Nat)⟩)) w := by
  have h := gd_info
  cases hq : Try.prog.info? 24 with
  | none => simp [hq] at h
  | some j =>
    have hs : j.size = 3 := by simpa [hq] using h
    unfold part isAgg
    simp only [Sem.run_bind, run_underlying Try.underlying24, Result.andThen_ok, Sem.run_pure, sizeOf, typeInfo, hq, hs, if_true]
    have e : (ns 24 g).extract (i * 3) (i * 3 + 3) = evv ⟨(g (i * 3) : Nat), (g (i * 3 + 1) : Nat), (g (i * 3 + 2) : Nat)⟩ := by
      apply Array.ext_getElem?
      intro k
      rw [Array.getElem?_extract]
      by_cases hk : k < 3
      · have h9 : k = 0 ∨ k = 1 ∨ k = 2 := by omega
        rw [if_pos (by rw [ns_size]; omega), ns_get g (by omega)]
        rcases h9 with rfl | rfl | rfl <;> rfl
      · rw [if_neg (by rw [ns_size]; omega)]
        simp [evv]; omega
    simp [e, hq, hs]
theorem items_gs (g : Nat → Nat) (w : World) : ∀ is : List Nat, (∀ i ∈ is, i < 8) → (Op.eqItems 9999 24 3 (ns 24 g) (ns 24 g) is).run Try.prog w = .ok true w
  | [], _ => rfl
  | i :: is, h => by
    simp only [Op.eqItems, Sem.run_bind, part_guard g i (h i (List.mem_cons_self ..)), Result.andThen_ok, eq_guard, Bool.not_true, Bool.false_eq_true, if_false]
    exact items_gs g w is fun j hj => h j (List.mem_cons_of_mem _ hj)
theorem cells_gd : Try.prog.cellsOf 24 = 3 := by kernel_rfl
theorem eq_gs (g : Nat → Nat) (w : World) : (binOp .eql 25 (.agg (ns 24 g)) (.agg (ns 24 g))).run Try.prog w = .ok (.bool true) w := by
  have h := gd_info
  cases hq : Try.prog.info? 24 with
  | none => simp [hq] at h
  | some j =>
    rw [run_eql_struct, run_equalIn_array w 9999 _ _ Try.underlying25 hq, cells_gd, items_gs g w _ (fun i hi => by simpa using hi)]
    rfl
theorem eq_gz (w : World) : (binOp .eql 25 (.agg (ns 24 fun _ => 0)) (.agg #[.int .i64 0, .int .i64 0, .int .i64 0, .int .i64 0, .int .i64 0, .int .i64 0, .int .i64 0, .int .i64 0, .int .i64 0, .int .i64 0, .int .i64 0, .int .i64 0, .int .i64 0, .int .i64 0, .int .i64 0, .int .i64 0, .int .i64 0, .int .i64 0, .int .i64 0, .int .i64 0, .int .i64 0, .int .i64 0, .int .i64 0, .int .i64 0])).run Try.prog w = .ok (.bool true) w := eq_gs (fun _ => 0) w
/-- The world behind a new variable that holds guards; one that holds eight numbers. -/
def gwld (w : World) (g : Nat → Nat) : World := (w.alloc (.cells (ns 24 fun _ => 0) 25)).setRow w.heap.size (ns 24 g)
theorem gwld_box (w : World) (g : Nat → Nat) : Box (gwld w g) w.heap.size (ns 24 g) 25 := (Box.new w _ _).setRow _
theorem gwld_bel (w : World) (g : Nat → Nat) : Bel w (gwld w g) := below_setRow' ((Bel.refl w).alloc _).out _ _ (Nat.le_refl _)
theorem gwld_store {P : Program} {ops : Array Oper} {rest : List Oper} {o : Oper} {a : Act} {w' w : World} {Q : Exit → Act → World → Prop} {ty : TypeId} (hT : RowTy P ty 24) (x y : Operand) (ho : o.op = .store ty x y) (hgd : o.guard = none) (g : Nat → Nat)
    (hw : w' = w.alloc (.cells (ns 24 fun _ => 0) 25)) (hx : a.eval x = .pointer (some ⟨w.heap.size, 0, none⟩)) (hy : a.eval y = .agg (ns 24 g)) (h : wpList P ops Q rest (a.put o.dst undef) (gwld w g)) : wpList P ops Q (o :: rest) a w' := by
  subst hw
  exact storeB ty x y ho hgd hx hy (Box.new w _ _) (by rw [ns_size, ns_size]) (by rw [ns_size]; exact hT) (gns_all _ _) h
/-- The same for two variables, guards and sets. -/
def gcwld (w : World) (g c : Nat → Nat) : World := (((w.alloc (.cells (ns 24 fun _ => 0) 25)).alloc (.cells (ns 8 fun _ => 0) 32)).setRow w.heap.size (ns 24 g)).setRow (w.heap.size + 1) (ns 8 c)
theorem gcwld_box1 (w : World) (g c : Nat → Nat) : Box (gcwld w g c) w.heap.size (ns 24 g) 25 := (((Box.new w (ns 24 fun _ => 0) 25).old _).setRow _).setRow_ne _ _ (by omega)
theorem gcwld_box2 (w : World) (g c : Nat → Nat) : Box (gcwld w g c) (w.heap.size + 1) (ns 8 c) 32 := by
  have h := Box.new (w.alloc (.cells (ns 24 fun _ => 0) 25)) (ns 8 fun _ => 0) 32
  rw [World.size_alloc] at h
  exact (h.setRow_ne _ _ (by omega)).setRow _
theorem gcwld_bel (w : World) (g c : Nat → Nat) : Bel w (gcwld w g c) := below_setRow' (below_setRow' (((Bel.refl w).alloc _).alloc _).out _ _ (Nat.le_refl _)) _ _ (by omega)
theorem grd_gs : Try.prog.eqGuardType Try.prog.depth 25 = false := by kernel_rfl
end Go.Proofs.Ytlifmedkadjdcaa

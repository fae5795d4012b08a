/- The reference's Full: flags. -/
import Derived.Test.YtnjaeampnakbbaaFl
import Derived.Test.YtnjaeampnakbbaaClock
import Derived.Test.YtnjaeampnakbbaaAppend
import Derived.Test.YtnjaeampnakbbaaGrow
import Derived.Test.YtnjaeampnakbbaaKeepTw
import Derived.Deep.DeepCutAuto
set_option linter.all false
set_option maxRecDepth 100000
namespace Go.Proofs.Ytnjaeampnakbbaa
open Go Go.RowKit

theorem ck28 : RowTy Try.prog 30 6 := ⟨_, Try.underlying30, rfl, by kernel_rfl⟩
theorem results_tcc {P : Program} {w : World} {fn : Func} {p q r : Tmp} {ty u : TypeId} (h : fn.results = #[.tmp r, .cell p ty, .cell q u]) {tmps : Array Value} {B C : Nat} {c d : Array Value} {t s : TypeId} (hp : tmps.getD p undef = .pointer (some ⟨B, 0, none⟩)) (hq : tmps.getD q undef = .pointer (some ⟨C, 0, none⟩)) (hb : Box w B c t) (hT : RowTy P ty c.size) (hd : Box w C d s) (hU : RowTy P u d.size) :
    (results fn tmps).run P w = .ok (.tuple #[tmps.getD r undef, .agg c, .agg d]) w := by
  obtain ⟨d1, hu1, hd1, hi1⟩ := hT
  obtain ⟨d2, hu2, hd2, hi2⟩ := hU
  have hp' : tmps[p]?.getD undef = .pointer (some ⟨B, 0, none⟩) := by rw [← Array.getD_eq_getD_getElem?]; exact hp
  have hq' : tmps[q]?.getD undef = .pointer (some ⟨C, 0, none⟩) := by rw [← Array.getD_eq_getD_getElem?]; exact hq
  simp [results, h, hp', hq', asAddr, Sem.run_pure, Result.andThen_ok, run_loadVar_row w B t ty c (0, 0) d1 hb hu1 (by cases d1 <;> simp_all [TypeDesc.isRow]) hi1, run_loadVar_row w C s u d (0, 0) d2 hd hu2 (by cases d2 <;> simp_all [TypeDesc.isRow]) hi2, Sem.run_bind]
/-- The flags found among the first j events. -/
structure RfR (w : World) (l : List Ev) (j : Nat) (v : Value) (wr : World) : Prop where
  own : wr.ownsRow w.heap.size 35 3 v (flT l j).length (evc (flT l j))
  below : Bel w wr
theorem RfR.bel {w wr w' : World} {l : List Ev} {j : Nat} {v : Value} (h : RfR w l j v wr) (hb : Bel wr w') : RfR w l j v w' := ⟨own_bel h.own hb, h.below.trans hb⟩
theorem RfR.none {w wr : World} {l : List Ev} {j : Nat} {v : Value} (h : RfR w l j v wr) (h0 : djK l j = 0) : RfR w l (j + 1) v wr := ⟨by rw [flT_no h0]; exact h.own, h.below⟩
/-- Own numbers and the numbers of variable x, of the first k events. -/
structure RfS (w : World) (l : List Ev) (x k : Nat) (wr : World) : Prop where
  own : Box wr w.heap.size (clk (ck (gvn l k))) 30
  rd : Box wr (w.heap.size + 1) (clk (ck (rwF l 1 k x))) 30
  wt : Box wr (w.heap.size + 1 + 1) (clk (ck (rwF l 2 k x))) 30
  below : Below w.heap.size w wr
section
variable {w wr w' : World} {l : List Ev} {x k t : Nat}
theorem RfS.bel (h : RfS w l x k wr) (hb : Bel wr w') : RfS w l x k w' := ⟨hb.box h.own, hb.box h.rd, hb.box h.wt, h.below.trans (hb.out.mono h.below.size)⟩
theorem RfS.no (h : RfS w l x k wr) (hm : may l = 0) (hk : k < l.length) (h1 : ¬ (kZ l k = 4 ∨ kZ l k = 5 ∨ kZ l k = 8)) (h2 : ¬ (kZ l k = 1 ∧ oZ l k = x)) (h3 : ¬ (kZ l k = 2 ∧ oZ l k = x)) : RfS w l x (k + 1) wr :=
  ⟨by rw [gvn_no hm hk h1]; exact h.own, by rw [rwn_no h2]; exact h.rd, by rw [rwn_no h3]; exact h.wt, h.below⟩
theorem RfS.give (h : RfS w l x k wr) (hm : may l = 0) (hk : k < l.length) (h1 : kZ l k = 4 ∨ kZ l k = 5 ∨ kZ l k = 8) (ht : tZ l k = t) (ht6 : t < 6) {n : Int} (hn : n = (gvn l k t : Nat) + 1) : RfS w l x (k + 1) (wr.setCell ⟨w.heap.size, t, none⟩ (.int .i64 n)) :=
  ⟨by have := h.own.set t (.int .i64 n); rw [clk_set _ _ ht6, gvn_yes hm hk h1 ht hn] at this; exact this, by rw [rwn_no (by omega)]; exact h.rd.set_ne _ _ (by simp), by rw [rwn_no (by omega)]; exact h.wt.set_ne _ _ (by simp; omega), h.below.setCell (Nat.le_refl _) _⟩
theorem RfS.read (h : RfS w l x k wr) (hm : may l = 0) (hk : k < l.length) (h1 : kZ l k = 1) (ho : oZ l k = x) (ht : tZ l k = t) (ht6 : t < 6) {n : Int} (hn : n = (gvn l k t : Nat) + 1) : RfS w l x (k + 1) (wr.setCell ⟨w.heap.size + 1, t, none⟩ (.int .i64 n)) :=
  ⟨by rw [gvn_no hm hk (by omega)]; exact h.own.set_ne _ _ (by simp), by have := h.rd.set t (.int .i64 n); rw [clk_set _ _ ht6, rwn_yes hm hk h1 ho ht hn] at this; exact this, by rw [rwn_no (by omega)]; exact h.wt.set_ne _ _ (by simp), h.below.setCell (by simp) _⟩
theorem RfS.write (h : RfS w l x k wr) (hm : may l = 0) (hk : k < l.length) (h1 : kZ l k = 2) (ho : oZ l k = x) (ht : tZ l k = t) (ht6 : t < 6) {n : Int} (hn : n = (gvn l k t : Nat) + 1) : RfS w l x (k + 1) (wr.setCell ⟨w.heap.size + 1 + 1, t, none⟩ (.int .i64 n)) :=
  ⟨by rw [gvn_no hm hk (by omega)]; exact h.own.set_ne _ _ (by simp; omega), by rw [rwn_no (by omega)]; exact h.rd.set_ne _ _ (by simp), by have := h.wt.set t (.int .i64 n); rw [clk_set _ _ ht6, rwn_yes hm hk h1 ho ht hn] at this; exact this, h.below.setCell (by simp; omega) _⟩
theorem RfS.cell (h : RfS w l x k wr) (ht6 : t < 6) : wr.cell? ⟨w.heap.size, t, none⟩ = some (.int .i64 (gvn l k t : Nat)) := h.own.cell t (clk_get _ t ht6)
end
end Go.Proofs.Ytnjaeampnakbbaa

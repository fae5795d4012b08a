import Derived.Laws.MakeOwn
import Derived.Test.YtlcldcbdobgdbaaZKeepTw
import Derived.Test.YtlcldcbdobgdbaaZEc
import Derived.Test.YtlcldcbdobgdbaaZOrder
import Derived.Test.YtlcldcbdobgdbaaZVr
import Derived.Test.YtlcldcbdobgdbaaZFo
set_option linter.all false
set_option maxRecDepth 100000
namespace Go.Proofs.Ytlcldcbdobgdbaa
open Go Go.RowKit

set_option maxHeartbeats 2000000 in
theorem fill9 {n : Nat} (hn : n = 9) (ff : Fin n → Value) (a b c d e f g h i : Value) : ((((((((((Array.ofFn ff).setIfInBounds 0 a).setIfInBounds 1 b).setIfInBounds 2 c).setIfInBounds 3 d).setIfInBounds 4 e).setIfInBounds 5 f).setIfInBounds 6 g).setIfInBounds 7 h).setIfInBounds 8 i) = #[a, b, c, d, e, f, g, h, i] := by
  subst hn
  apply Array.ext
  · simp
  · intro i h1 h2
    have hi : i < 9 := by simpa using h2
    rcases (show i = 0 ∨ i = 1 ∨ i = 2 ∨ i = 3 ∨ i = 4 ∨ i = 5 ∨ i = 6 ∨ i = 7 ∨ i = 8 by omega) with rfl | rfl | rfl | rfl | rfl | rfl | rfl | rfl | rfl <;> simp [Array.getElem_setIfInBounds]
theorem run_bld3 {P : Program} (t e : TypeId) (i : TypeInfo) (ht : P.underlying t = some (.slice e)) (hi : P.info? e = some i) (hz : i.zero = some (.agg #[.int .i64 0, .int .i64 0, .int .i64 0])) (hs : i.size = 3) (x y z : Ev) (w : World) :
    (Instr.buildSlice t 3 #[(0, .agg (evv x)), (1, .agg (evv y)), (2, .agg (evv z))]).run P w = .ok (.slice (some ⟨w.heap.size, 0, none⟩) 3 3) (w.alloc (.cells (evc [x, y, z]).toArray e)) := by
  simp [Instr.buildSlice, Sem.run_bind, run_underlying ht, sizeOf, typeInfo, hi, hs, zeroValue, hz, Instr.fill, Value.cells, evv, newRow, newObj, List.zipIdx, Array.range, Result.andThen, go_sem]
  rw [fill9 (by rw [hs])]
  rfl
theorem wp_bld3 {P : Program} {o : Oper} {a : Act} {w : World} {K : Act → World → Prop} {Q : Exit → Act → World → Prop} (t : TypeId) (p0 p1 p2 : Operand) (ho : o.op = .buildSlice t 3 #[(0, p0), (1, p1), (2, p2)]) (e : TypeId) (i : TypeInfo) (ht : P.underlying t = some (.slice e)) (hi : P.info? e = some i)
    (hz : i.zero = some (.agg #[.int .i64 0, .int .i64 0, .int .i64 0])) (hs : i.size = 3) (x y z : Ev) (h0 : a.eval p0 = .agg (evv x)) (h1 : a.eval p1 = .agg (evv y)) (h2 : a.eval p2 = .agg (evv z))
    (h : K (a.put o.dst (.slice (some ⟨w.heap.size, 0, none⟩) 3 3)) (w.alloc (.cells (evc [x, y, z]).toArray e))) : o.wp P a w K Q := by
  unfold Oper.wp execOp
  simp only [ho, Sem.run_bind, Sem.run_pure, Result.andThen_ok, List.map_toArray, List.map_cons, List.map_nil, h0, h1, h2, run_bld3 t e i ht hi hz hs x y z w]
  exact h
theorem bld3 {P : Program} {ops : Array Oper} {rest : List Oper} {o : Oper} {a : Act} {w : World} {Q : Exit → Act → World → Prop} (t : TypeId) (p0 p1 p2 : Operand) (ho : o.op = .buildSlice t 3 #[(0, p0), (1, p1), (2, p2)]) (hgd : o.guard = none) (e : TypeId) (i : TypeInfo) (ht : P.underlying t = some (.slice e)) (hi : P.info? e = some i)
    (hz : i.zero = some (.agg #[.int .i64 0, .int .i64 0, .int .i64 0])) (hs : i.size = 3) (x y z : Ev) (h0 : a.eval p0 = .agg (evv x)) (h1 : a.eval p1 = .agg (evv y)) (h2 : a.eval p2 = .agg (evv z))
    (h : wpList P ops Q rest (a.put o.dst (.slice (some ⟨w.heap.size, 0, none⟩) 3 3)) (w.alloc (.cells (evc [x, y, z]).toArray e))) : wpList P ops Q (o :: rest) a w :=
  wpList_plain hgd fun _ hK' => wp_bld3 t p0 p1 p2 ho e i ht hi hz hs x y z h0 h1 h2 (hK' _ _ h)
theorem made_ints (n : Nat) : madeCells #[Value.int .i64 0] n = Array.replicate n (.int .i64 0) := by
  apply Array.ext
  · simp [madeCells]
  · intro i h1 h2
    simp [madeCells, Nat.mod_one]
end Go.Proofs.Ytlcldcbdobgdbaa
set_option linter.all false
set_option maxRecDepth 100000
namespace Go.Proofs.Ytlcldcbdobgdbaa
open Go Go.RowKit

def p1 : List (List Ev) := [[⟨3, 0, 1⟩]]
theorem p1_ok : OkP p1 := chk_ok.1 (by decide +kernel)
theorem p1_ev : evC p1 = 0 := by decide +kernel
theorem p1_end {xs : List (Array Value)} (h : EndsOk p1 xs) : ∃ x : Array Value, xs = [x] ∧ x[12]? = some (.int .i64 1) ∧ x[18]? = some (.bool true) := by
  refine ⟨_, h.one (one_ends (ops := [⟨3, 0, 1⟩]) p1_ok), ?_, ?_⟩ <;> kernel_rfl
theorem row_cells {w : World} {base : Nat} {e : TypeId} {v : Value} {n : Nat} {xs : List Value} {size : Nat} (h : w.ownsRow base e size v n xs) (h0 : 0 < n) : ∃ g cap, v = .slice (some ⟨g, 0, none⟩) n cap ∧ base ≤ g ∧ n ≤ cap ∧ cap ≤ maxLen ∧ ∀ t u, xs[t]? = some u → w.cell? ⟨g, t, none⟩ = some u := by
  rcases h.2 with ⟨_, h1⟩ | ⟨g, cap, cur, rfl, h2, h3, h4, h5, h6, h7⟩
  · omega
  · refine ⟨g, cap, rfl, h2, h4, h5, fun t u hu => ?_⟩
    have hbx : Box w g cur e := h3
    refine hbx.cell t ?_
    have ht : t < n * size := by have := (List.getElem?_eq_some_iff.1 hu).1; rw [h.1] at this; exact this
    rw [← h7, List.getElem?_take_of_lt ht] at hu
    rw [← Array.getElem?_toList]; exact hu
set_option maxHeartbeats 4000000 in
theorem everied_any (w : World) : Calls Try.prog 24 #[] w fun e w' => e = .returned (.bool true) ∧ Below w.heap.size w w' := by
  obtain ⟨i0, hi0, hz0, hz1, hz2⟩ := info_parts op_info
  obtain ⟨hb1, hb2, hb3, hsz⟩ := boxes2 w (evv ⟨3, 0, 1⟩) #[.slice (some ⟨w.heap.size, 0, none⟩) 1 1] 59 57
  have hsl : Sl ((w.alloc (.cells (evv ⟨3, 0, 1⟩) 59)).alloc (.cells #[.slice (some ⟨w.heap.size, 0, none⟩) 1 1] 57)) (some ⟨w.heap.size, 0, none⟩) 1 [⟨3, 0, 1⟩] :=
    ⟨rfl, fun _ => ⟨_, 0, rfl, hb1.lt, fun j v hv => by rw [Nat.zero_add]; exact hb1.cell j (by simpa [evc, evl, evv] using hv)⟩⟩
  have HP := Lib.hid (Prg.one hb2 hsl (Nat.le_refl _) (by unfold maxLen; omega))
  have HB := Lib.hid (Bel.of hb3)
  clear hb1 hb2 hb3 hsz hsl
  go_enter Try.func24, Try.ntmps24
  go_wp2_with (first | (refine build1 57 _ rfl rfl 59 i0 Try.underlying57 hi0 hz0 hz1 ⟨3, 0, 1⟩ rfl ?_))
  refine (eends_any _ 1 1 [[⟨3, 0, 1⟩]] _ HP.out (Nat.le_refl _) (by unfold maxLen; omega)).mono ?_
  rintro e1 w1 ⟨v, xs, rfl, _, hok, hown, hb1⟩
  have hev : evC [[⟨3, 0, 1⟩]] = 0 := p1_ev
  obtain ⟨x, rfl, hx1, hx2⟩ := p1_end (hok p1_ev)
  obtain ⟨g, cap, rfl, _, hnc, _, hc⟩ := row_cells hown (by simp)
  have c1 := hc 12 (.int .i64 1) (by unfold ens; simpa using hx1)
  have c2 := hc 18 (.bool true) (by unfold ens; simpa using hx2)
  have HB1 := Lib.hid (HB.out.trans (Bel.of hb1))
  have hl : ([x] : List (Array Value)).length = 1 := rfl
  rw [hl, hev] at *
  have hnc1 : 1 ≤ cap := hnc
  clear hok hown hb1 hx1 hx2 hc hl hev HP
  go_wp2
  go_ret
  exact ⟨rfl, HB1.out.out⟩
end Go.Proofs.Ytlcldcbdobgdbaa
set_option linter.all false
set_option maxRecDepth 100000
namespace Go.Proofs.Ytlcldcbdobgdbaa
open Go Go.RowKit

theorem isop_kind {o : Ev} (h : isOp o = true) : 1 ≤ o.k ∧ o.k ≤ 9 := by
  unfold isOp at h
  simp at h
  omega
theorem isop_lock {o : Ev} (h : isOp o = true) (h4 : o.k = 4) : 0 ≤ o.t ∧ o.t ≤ 4 := by
  unfold isOp at h
  simp [h4] at h
  omega
theorem row_slice {w : World} {base n size : Nat} {e : TypeId} {v : Value} {xs : List Value} (h : w.ownsRow base e size v n xs) : ∃ A c, v = .slice A n c ∧ n ≤ c ∧ c ≤ maxLen := by
  rcases h.2 with ⟨rfl, rfl⟩ | ⟨g, cap, cur, rfl, _, _, hc, hm, _⟩
  · exact ⟨none, 0, rfl, Nat.le_refl _, Nat.zero_le _⟩
  · exact ⟨_, cap, rfl, hc, hm⟩
theorem row_si {w : World} {base n : Nat} {v : Value} {l : List Int} (h : w.ownsRow base 3 1 v n (intq l)) : ∃ A c, v = .slice A n c ∧ SI w A n l ∧ n ≤ c ∧ c ≤ maxLen := by
  have hl : l.length = n := by have := h.1; simp [intq] at this; omega
  rcases h.2 with ⟨rfl, rfl⟩ | ⟨g, cap, cur, rfl, hg, hb, hn, hc, hs, ht⟩
  · exact ⟨none, 0, rfl, ⟨hl, fun h => absurd h (by omega)⟩, by omega, by omega⟩
  · refine ⟨_, cap, rfl, ⟨hl, fun _ => ⟨g, 0, rfl, fun i hi => ?_⟩⟩, hn, hc⟩
    have hbx : Box w g cur 3 := hb
    rw [Nat.zero_add]
    refine hbx.cell i ?_
    have h1 : (intq l)[i]? = some (.int .i64 (l[i]?.getD 0)) := by unfold intq; rw [List.getElem?_map, List.getElem?_eq_getElem (by omega)]; rfl
    rw [← ht, List.getElem?_take, if_pos (by omega)] at h1
    simpa using h1
theorem evC_tot {P : List (List Ev)} (h : evC P = 0) : totP P ≤ 10 := by
  unfold evC at h
  unfold totP
  split at h
  · contradiction
  · split at h
    · omega
    · omega
theorem enA_v (y : En) : EnV (enA y) := .of _ _ _ _ _
end Go.Proofs.Ytlcldcbdobgdbaa

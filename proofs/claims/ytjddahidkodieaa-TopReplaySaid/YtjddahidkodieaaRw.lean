/- What TopReplay's loop holds: variables, signals, registers, places, as blocks; bounds of what is told by events. -/
import Derived.Test.YtjddahidkodieaaPg
import Derived.Test.YtjddahidkodieaaVs
import Derived.Test.YtjddahidkodieaaRpR
import Derived.Test.YtjddahidkodieaaKeepPg
set_option linter.all false
set_option maxRecDepth 100000
namespace Go.Proofs.Ytjddahidkodieaa
open Go Go.RowKit

def iv (n : Nat) (f : Nat → Int) : Array Value := vs n fun j => .int .i64 (f j)
theorem iv_get {n : Nat} (f : Nat → Int) {j : Nat} (h : j < n) : (iv n f)[j]? = some (.int .i64 (f j)) := vs_get _ h
theorem iv_set (n : Nat) (f : Nat → Int) (j : Nat) (v : Int) : (iv n f).setIfInBounds j (.int .i64 v) = iv n (upF f j v) := by
  unfold iv
  rw [vs_set]
  exact vs_congr fun i _ => by unfold updC upF; split <;> rfl
theorem iv_congr {n : Nat} {f g : Nat → Int} (h : ∀ j, j < n → f j = g j) : iv n f = iv n g := vs_congr fun j hj => by rw [h j hj]
structure ReW (wB : World) (T1 T2 T3 T4 MM : Nat) (mem vol has : Nat → Int) (a : Nat → Nat) (w : World) : Prop where
  m : Box w T1 (iv 8 mem) 45
  v : Box w T2 (iv 4 vol) 46
  h : Box w T3 (iv 6 has) 47
  a : Box w T4 (iv 6 fun t => (a t : Int)) 47
  mp : w.heap[MM]? = some (.map (kEt 8) 8)
  bel : Bel wB w
structure ReN (wB : World) (T1 T2 T3 T4 MM : Nat) : Prop where
  b : wB.heap.size ≤ T1
  l1 : T1 < T2
  l2 : T2 < T3
  l3 : T3 < T4
  l4 : T4 < MM
section
variable {wB w w' : World} {T1 T2 T3 T4 MM : Nat} {mem vol has : Nat → Int} {a : Nat → Nat}
theorem ReW.grow (h : ReW wB T1 T2 T3 T4 MM mem vol has a w) (hb : Bel w w') : ReW wB T1 T2 T3 T4 MM mem vol has a w' :=
  ⟨hb.box h.m, hb.box h.v, hb.box h.h, hb.box h.a, (hb.out.block MM (Array.getElem?_eq_some_iff.1 h.mp).1).trans h.mp, h.bel.trans hb⟩
theorem ReW.setM (h : ReW wB T1 T2 T3 T4 MM mem vol has a w) (hn : ReN wB T1 T2 T3 T4 MM) (j : Nat) (x : Int) : ReW wB T1 T2 T3 T4 MM (upF mem j x) vol has a (w.setCell ⟨T1, j, none⟩ (.int .i64 x)) := by
  obtain ⟨n0, n1, n2, n3, n4⟩ := hn
  exact ⟨by have := h.m.set j (.int .i64 x); rwa [iv_set] at this, h.v.set_ne ⟨T1, j, none⟩ _ (by dsimp only; omega), h.h.set_ne ⟨T1, j, none⟩ _ (by dsimp only; omega), h.a.set_ne ⟨T1, j, none⟩ _ (by dsimp only; omega), (heap_setCell_other w ⟨T1, j, none⟩ MM _ (by dsimp only; omega)).trans h.mp, h.bel.setCell ⟨T1, j, none⟩ (by dsimp only; omega) _⟩
theorem ReW.setV (h : ReW wB T1 T2 T3 T4 MM mem vol has a w) (hn : ReN wB T1 T2 T3 T4 MM) (j : Nat) (x : Int) : ReW wB T1 T2 T3 T4 MM mem (upF vol j x) has a (w.setCell ⟨T2, j, none⟩ (.int .i64 x)) := by
  obtain ⟨n0, n1, n2, n3, n4⟩ := hn
  exact ⟨h.m.set_ne ⟨T2, j, none⟩ _ (by dsimp only; omega), by have := h.v.set j (.int .i64 x); rwa [iv_set] at this, h.h.set_ne ⟨T2, j, none⟩ _ (by dsimp only; omega), h.a.set_ne ⟨T2, j, none⟩ _ (by dsimp only; omega), (heap_setCell_other w ⟨T2, j, none⟩ MM _ (by dsimp only; omega)).trans h.mp, h.bel.setCell ⟨T2, j, none⟩ (by dsimp only; omega) _⟩
theorem ReW.setH (h : ReW wB T1 T2 T3 T4 MM mem vol has a w) (hn : ReN wB T1 T2 T3 T4 MM) (j : Nat) (x : Int) : ReW wB T1 T2 T3 T4 MM mem vol (upF has j x) a (w.setCell ⟨T3, j, none⟩ (.int .i64 x)) := by
  obtain ⟨n0, n1, n2, n3, n4⟩ := hn
  exact ⟨h.m.set_ne ⟨T3, j, none⟩ _ (by dsimp only; omega), h.v.set_ne ⟨T3, j, none⟩ _ (by dsimp only; omega), by have := h.h.set j (.int .i64 x); rwa [iv_set] at this, h.a.set_ne ⟨T3, j, none⟩ _ (by dsimp only; omega), (heap_setCell_other w ⟨T3, j, none⟩ MM _ (by dsimp only; omega)).trans h.mp, h.bel.setCell ⟨T3, j, none⟩ (by dsimp only; omega) _⟩
theorem ReW.setA (h : ReW wB T1 T2 T3 T4 MM mem vol has a w) (hn : ReN wB T1 T2 T3 T4 MM) (j x : Nat) : ReW wB T1 T2 T3 T4 MM mem vol has (upF a j x) (w.setCell ⟨T4, j, none⟩ (.int .i64 (x : Nat))) := by
  obtain ⟨n0, n1, n2, n3, n4⟩ := hn
  refine ⟨h.m.set_ne ⟨T4, j, none⟩ _ (by dsimp only; omega), h.v.set_ne ⟨T4, j, none⟩ _ (by dsimp only; omega), h.h.set_ne ⟨T4, j, none⟩ _ (by dsimp only; omega), ?_, (heap_setCell_other w ⟨T4, j, none⟩ MM _ (by dsimp only; omega)).trans h.mp, h.bel.setCell ⟨T4, j, none⟩ (by dsimp only; omega) _⟩
  have := h.a.set j (.int .i64 (x : Nat))
  rw [iv_set] at this
  rwa [iv_congr (g := fun t => ((upF a j x t : Nat) : Int)) (fun t _ => by unfold upF; split <;> rfl)] at this
theorem ReW.to (h : ReW wB T1 T2 T3 T4 MM mem vol has a w) {mem' vol' has' : Nat → Int} {a' : Nat → Nat} (h1 : ∀ j, j < 8 → mem' j = mem j) (h2 : ∀ j, j < 4 → vol' j = vol j) (h3 : ∀ j, j < 6 → has' j = has j) (h4 : ∀ j, j < 6 → a' j = a j) : ReW wB T1 T2 T3 T4 MM mem' vol' has' a' w :=
  ⟨by rw [iv_congr h1]; exact h.m, by rw [iv_congr h2]; exact h.v, by rw [iv_congr h3]; exact h.h, by rw [iv_congr (g := fun t => (a t : Int)) (fun j hj => by rw [h4 j hj])]; exact h.a, h.mp, h.bel⟩
end
/-! How large the numbers are. -/
structure LimR (K : Int) (r : Rp) : Prop where
  pos : 0 ≤ K
  mem : ∀ k, Lim K (r.mem k)
  vol : ∀ k, Lim K (r.vol k)
  has : ∀ k, Lim K (r.has k)
theorem addL_b : ∀ {l : List Ev}, (∀ o ∈ l, isOp o = true) → Lim (1000 * l.length) (addL l)
  | [], _ => ⟨by simp [addL], by simp [addL]⟩
  | o :: l, h => by
    have ih := addL_b (l := l) fun x hx => h x (List.mem_cons_of_mem _ hx)
    have h1 := isOp_num (h o (List.mem_cons_self ..))
    have h2 : Lim 1000 (addO o) := by unfold addO; split; exact h1; exact ⟨by omega, by omega⟩
    have e : addL (o :: l) = addO o + addL l := rfl
    rw [e, List.length_cons]
    exact ⟨by have := ih.1; have := h2.1; omega, by have := ih.2; have := h2.2; omega⟩
theorem add_part {P : List (List Ev)} (hP : OkP P) (t i j : Nat) : Lim 12000 (addL (((opsP P t).drop i).take j)) := by
  have h := addL_b (l := ((opsP P t).drop i).take j) fun o ho => hP.op t o (List.mem_of_mem_drop (List.mem_of_mem_take ho))
  have hl : (((opsP P t).drop i).take j).length ≤ 12 := by have := hP.len t; rw [List.length_take, List.length_drop]; omega
  exact ⟨by have := h.1; omega, by have := h.2; omega⟩
theorem LimR.step {P : List (List Ev)} (hP : OkP P) {K : Int} {r : Rp} (h : LimR K r) (x : Ev) : LimR (K + 12000) (repE P r x) := by
  have h0 := h.pos
  have hm : Lim (K + 12000) (midR P r x) := by
    have h1 := add_part hP x.t.toNat (r.a x.t.toNat) (skN x ((opsP P x.t.toNat).drop (r.a x.t.toNat)))
    have h2 := h.has x.t.toNat
    unfold midR
    exact ⟨by have := h1.1; have := h2.1; omega, by have := h1.2; have := h2.2; omega⟩
  have U : ∀ {y}, Lim K y → Lim (K + 12000) y := fun hy => hy.up (by omega)
  refine ⟨by omega, fun k => ?_, fun k => ?_, fun k => ?_⟩
  · show Lim _ ((if x.k = 2 then updI r.mem x.o (midR P r x) else r.mem) k)
    split
    · unfold updI; split; exact hm; exact U (h.mem k)
    · exact U (h.mem k)
  · show Lim _ ((if x.k = 8 then updI r.vol x.o (midR P r x) else r.vol) k)
    split
    · unfold updI; split; exact hm; exact U (h.vol k)
    · exact U (h.vol k)
  · show Lim _ (upF r.has x.t.toNat (newR P r x) k)
    unfold upF
    split
    · unfold newR; repeat' split
      · exact U (h.mem _)
      · exact U (h.vol _)
      · exact hm
    · exact U (h.has k)
theorem limR_take {P : List (List Ev)} (hP : OkP P) (l : List Ev) : ∀ i, i ≤ l.length → LimR (12000 * (i : Int)) (repL P (l.take i))
  | 0, _ => ⟨by omega, fun _ => ⟨by simp [repL, rp0], by simp [repL, rp0]⟩, fun _ => ⟨by simp [repL, rp0], by simp [repL, rp0]⟩, fun _ => ⟨by simp [repL, rp0], by simp [repL, rp0]⟩⟩
  | i + 1, hi => by
    have h := limR_take hP l i (by omega)
    rw [take_snoc (List.getElem?_eq_getElem (show i < l.length by omega)), repL_snoc, show (12000 * ((i + 1 : Nat) : Int)) = 12000 * (i : Int) + 12000 by omega]
    exact h.step hP _
/-! An end is not unequal to itself. -/
theorem neq_of_eql {t : TypeId} {x y : Array Value} {w : World} (h : (binOp .eql t (.agg x) (.agg y)).run Try.prog w = .ok (.bool true) w) : (binOp .neq t (.agg x) (.agg y)).run Try.prog w = .ok (.bool false) w := by
  rw [run_eql_struct] at h
  rw [run_neq_struct]
  generalize (Op.equalIn 10000 t (.agg x) (.agg y)).run Try.prog w = q at *
  cases q with
  | ok b w' =>
    simp only [Result.andThen] at h ⊢
    cases h
    rfl
  | halt e w' => simp [Result.andThen] at h
theorem neqG_step {P : Program} {ops : Array Oper} {rest : List Oper} {o : Oper} {a : Act} {w : World} {Q : Exit → Act → World → Prop} (t t2 : TypeId) (x y : Operand) (ho : o.op = .binOp .neq t x y t2) (hw : Region.wanted o (yielded ops a.tmps) = true) {u v : Array Value} {b : Value} (hx : a.eval x = .agg u) (hy : a.eval y = .agg v)
    (hq : P.eqGuardType P.depth t = false) (hr : (binOp .neq t (.agg u) (.agg v)).run P w = .ok b w) (h : wpList P ops Q rest (a.put o.dst b) w) : wpList P ops Q (o :: rest) a w := by
  refine BigFrame.wpList_want hw fun _ hK => ?_
  unfold Oper.wp execOp
  have he : (eqGuard .neq t x y (.agg u) (.agg v)).run P w = .ok () w := by simp [eqGuard, Sem.run_bind, hq]
  simp [ho, hx, hy, Sem.run_bind, he, hr]
  exact hK _ _ h
theorem items_r (d : Nat) (xs : Array Value) (w : World) : ∀ is : List Nat, (∀ i ∈ is, ∃ n, xs[i]? = some (.int .i64 n)) → (Op.eqItems (d + 1) 3 1 xs xs is).run Try.prog w = .ok true w
  | [], _ => rfl
  | i :: is, h => by
    obtain ⟨n, hn⟩ := h i (List.mem_cons_self ..)
    have hp : (part 3 xs (i * 1)).run Try.prog w = .ok (.int .i64 n) w := run_part_int Try.underlying3 xs _ _ (by rw [Nat.mul_one]; exact hn) w
    have he : (Op.equalIn (d + 1) 3 (.int .i64 n) (.int .i64 n)).run Try.prog w = .ok true w := by
      rw [run_equalIn_int w d 3 .i64 .i64 n n Try.underlying3]; simp
    simp only [Op.eqItems, Sem.run_bind, hp, Result.andThen_ok, he, Bool.not_true, Bool.false_eq_true, if_false]
    exact items_r d xs w is fun j hj => h j (List.mem_cons_of_mem _ hj)
theorem loadGmR {P : Program} {ops : Array Oper} {rest : List Oper} {o : Oper} {a : Act} {w : World} {Q : Exit → Act → World → Prop} (ty : TypeId) (x : Operand) (ho : o.op = .load ty x) (hw : Region.wanted o (yielded ops a.tmps) = true) {b off : Nat} {cs : List Value} (hx : a.eval x = .pointer (some ⟨b, off, none⟩)) (hr : w.rangeAt b off cs) (hT : RowTy P ty cs.length) (c : Array Value) (hc : cs.toArray = c)
    (h : wpList P ops Q rest (a.put o.dst (.agg c)) w) : wpList P ops Q (o :: rest) a w := by
  subst hc
  obtain ⟨d, hu, hd, hi⟩ := hT
  refine BigFrame.wpList_want hw fun _ hK => ?_
  unfold Oper.wp execOp
  simp only [ho, hx, Instr.loadAt, Instr.sureAddr, Sem.run_bind, Sem.run_pure, Result.andThen_ok, run_loadVar_mid w b off ty cs d hr hu hd hi]
  exact hK _ _ h
theorem TI8 : RowTy Try.prog 45 8 := ⟨_, Try.underlying45, rfl, by kernel_rfl⟩
theorem TI4 : RowTy Try.prog 46 4 := ⟨_, Try.underlying46, rfl, by kernel_rfl⟩
theorem TIv8 (f : Nat → Int) : RowTy Try.prog 45 (iv 8 f).size := by unfold iv; rw [vs_size]; exact TI8
theorem TIv4 (f : Nat → Int) : RowTy Try.prog 46 (iv 4 f).size := by unfold iv; rw [vs_size]; exact TI4
theorem grd8 : Try.prog.eqGuardType Try.prog.depth 45 = false := by kernel_rfl
theorem grd4 : Try.prog.eqGuardType Try.prog.depth 46 = false := by kernel_rfl
theorem eql_iv8 (f : Nat → Int) (w : World) : (binOp .eql 45 (.agg (iv 8 f)) (.agg (iv 8 f))).run Try.prog w = .ok (.bool true) w := by
  obtain ⟨j, hj, _⟩ := enint_info
  rw [run_eql_struct, run_equalIn_array w 9999 (iv 8 f) (iv 8 f) Try.underlying45 hj, cells_int, items_r 9998]
  · rfl
  · intro i hi
    have h8 : i < 8 := by simpa using hi
    exact ⟨_, iv_get f h8⟩
theorem eql_iv4 (f : Nat → Int) (w : World) : (binOp .eql 46 (.agg (iv 4 f)) (.agg (iv 4 f))).run Try.prog w = .ok (.bool true) w := by
  obtain ⟨j, hj, _⟩ := enint_info
  rw [run_eql_struct, run_equalIn_array w 9999 (iv 4 f) (iv 4 f) Try.underlying46 hj, cells_int, items_r 9998]
  · rfl
  · intro i hi
    have h4 : i < 4 := by simpa using hi
    exact ⟨_, iv_get f h4⟩
theorem ev_k18 {e : Ev} (h : isEv e = true) : 1 ≤ e.k ∧ e.k ≤ 8 := by
  have := isEv_o h
  unfold nobj at this
  repeat' split at this
  all_goals omega
/-! The registers and places while one event's op is looked for. -/
def hasJ (r : Rp) (ops : List Ev) (t j : Nat) : Nat → Int := upF r.has t (r.has t + addL ((ops.drop (r.a t)).take j))
def atJ (r : Rp) (t j : Nat) : Nat → Nat := upF r.a t (r.a t + j)
theorem hasJ_zero (r : Rp) (ops : List Ev) (t j : Nat) (_ : j < 6) : hasJ r ops t 0 j = r.has j := by unfold hasJ upF; split; subst_vars; simp [addL]; rfl
theorem atJ_zero (r : Rp) (t j : Nat) (_ : j < 6) : atJ r t 0 j = r.a j := by unfold atJ upF; split; subst_vars; simp; rfl
theorem hasJ_at (r : Rp) (ops : List Ev) (t j : Nat) : hasJ r ops t j t = r.has t + addL ((ops.drop (r.a t)).take j) := upF_at _ _ _
theorem atJ_at (r : Rp) (t j : Nat) : atJ r t j t = r.a t + j := upF_at _ _ _
theorem dr_snoc {l : List Ev} {i j : Nat} {o : Ev} (h : l[i + j]? = some o) : (l.drop i).take (j + 1) = (l.drop i).take j ++ [o] := take_snoc (by rw [List.getElem?_drop]; exact h)
theorem hasJ_no {r : Rp} {ops : List Ev} {t j : Nat} {y : Ev} (h : ops[r.a t + j]? = some y) (h3 : y.k ≠ 3) : hasJ r ops t (j + 1) = hasJ r ops t j := by
  unfold hasJ; rw [dr_snoc h, addL_snoc]; unfold addO; rw [if_neg h3, Int.add_zero]
theorem hasJ_add {r : Rp} {ops : List Ev} {t j : Nat} {y : Ev} (h : ops[r.a t + j]? = some y) (h3 : y.k = 3) : upF (hasJ r ops t j) t (hasJ r ops t j t + y.o) = hasJ r ops t (j + 1) := by
  rw [hasJ_at]
  funext z
  unfold hasJ upF
  split
  · rw [dr_snoc h, addL_snoc]; unfold addO; rw [if_pos h3, Int.add_assoc]
  · rfl
theorem atJ_next (r : Rp) (t j : Nat) : upF (atJ r t j) t (r.a t + j + 1) = atJ r t (j + 1) := by funext z; unfold atJ upF; split <;> rfl
theorem repE_a' (P : List (List Ev)) (r : Rp) (x : Ev) {t : Nat} (h : x.t = (t : Int)) : (repE P r x).a = upF r.a t (r.a t + skN x ((opsP P t).drop (r.a t)) + 1) := by
  show upF r.a x.t.toNat _ = _
  rw [h, Int.toNat_natCast]
theorem repE_has' (P : List (List Ev)) (r : Rp) (x : Ev) {t : Nat} (h : x.t = (t : Int)) : (repE P r x).has = upF r.has t (newR P r x) := by
  show upF r.has x.t.toNat _ = _
  rw [h, Int.toNat_natCast]
theorem fin_has {r : Rp} {ops : List Ev} {t jj : Nat} {x y : Int} (h : y = x) (j : Nat) : upF r.has t y j = upF (hasJ r ops t jj) t x j := by
  subst h
  unfold hasJ upF
  split <;> rfl
theorem fin_hasN {r : Rp} {ops : List Ev} {t jj : Nat} {y : Int} (h : y = hasJ r ops t jj t) (j : Nat) : upF r.has t y j = hasJ r ops t jj j := by
  subst h
  by_cases hj : j = t
  · subst hj; rw [upF_at]
  · rw [upF_ne _ _ hj]; unfold hasJ; rw [upF_ne _ _ hj]
theorem mid_has {P : List (List Ev)} {r : Rp} {e o : Ev} {t nn : Nat} (ht : e.t = (t : Int)) (hs : skN e ((opsP P t).drop (r.a t)) = nn) (ho : (opsP P t)[r.a t + nn]? = some o) (h3 : o.k ≠ 3) : midR P r e = hasJ r (opsP P t) t (nn + 1) t := by
  rw [hasJ_no ho h3, hasJ_at]
  unfold midR
  rw [ht, Int.toNat_natCast, hs]
end Go.Proofs.Ytjddahidkodieaa

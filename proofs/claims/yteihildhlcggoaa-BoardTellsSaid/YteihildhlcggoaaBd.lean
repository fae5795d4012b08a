/- Package board, one goroutine: a board in memory; New, Tell, Trace, Flags. -/
import Derived.Test.YteihildhlcggoaaApB
import Derived.Test.YteihildhlcggoaaTrace
import Derived.Test.YteihildhlcggoaaGrowU
import Derived.Test.YteihildhlcggoaaCp
import Derived.Conc.MuLone
import Derived.Defers
import Derived.Deep.DeepCutAuto
set_option linter.all false
set_option maxRecDepth 100000
namespace Go.Proofs.Yteihildhlcggoaa
open Go Go.RowKit Go.Conc.Locks Go.MuLone

abbrev muLink : MuLink := { lock := 46, unlock := 47, ilock := 66, iunlock := 67, lockSlow := 85, unlockSlow := 88, disable := 81, enable := 83, acquire := 84, relMerge := 86, cas32 := 82, add32 := 87, tMutex := 100, tIMutex := 98, tPMutex := 129, tPIMutex := 147, tPI32 := 149, tUP := 151, tNoCopy := 95, tU32 := 96 }
theorem muLib : MuLib Try.prog muLink where
  f_lock := by kernel_rfl
  f_unlock := by kernel_rfl
  f_ilock := by kernel_rfl
  f_iunlock := by kernel_rfl
  f_disable := by kernel_rfl
  f_enable := by kernel_rfl
  f_acquire := by kernel_rfl
  f_relMerge := by kernel_rfl
  f_cas32 := by kernel_rfl
  f_add32 := by kernel_rfl
  underlying_tIMutex := by kernel_rfl
  runUnderlying_tIMutex := fun w => by kernel_rfl
  sizeOf_tIMutex := fun w => by kernel_rfl
  isAgg_tIMutex := fun w => by kernel_rfl
  zeroValue_tIMutex := fun w => by kernel_rfl
  underlying_tMutex := by kernel_rfl
  runUnderlying_tMutex := fun w => by kernel_rfl
  sizeOf_tMutex := fun w => by kernel_rfl
  isAgg_tMutex := fun w => by kernel_rfl
  zeroValue_tMutex := fun w => by kernel_rfl
  underlying_tPMutex := by kernel_rfl
  runUnderlying_tPMutex := fun w => by kernel_rfl
  sizeOf_tPMutex := fun w => by kernel_rfl
  isAgg_tPMutex := fun w => by kernel_rfl
  zeroValue_tPMutex := fun w => by kernel_rfl
  underlying_tPIMutex := by kernel_rfl
  runUnderlying_tPIMutex := fun w => by kernel_rfl
  sizeOf_tPIMutex := fun w => by kernel_rfl
  isAgg_tPIMutex := fun w => by kernel_rfl
  zeroValue_tPIMutex := fun w => by kernel_rfl
  underlying_tPI32 := by kernel_rfl
  runUnderlying_tPI32 := fun w => by kernel_rfl
  sizeOf_tPI32 := fun w => by kernel_rfl
  isAgg_tPI32 := fun w => by kernel_rfl
  zeroValue_tPI32 := fun w => by kernel_rfl
  underlying_tUP := by kernel_rfl
  runUnderlying_tUP := fun w => by kernel_rfl
  sizeOf_tUP := fun w => by kernel_rfl
  isAgg_tUP := fun w => by kernel_rfl
  zeroValue_tUP := fun w => by kernel_rfl
  underlying_tNoCopy := by kernel_rfl
  runUnderlying_tNoCopy := fun w => by kernel_rfl
  sizeOf_tNoCopy := fun w => by kernel_rfl
  isAgg_tNoCopy := fun w => by kernel_rfl
  zeroValue_tNoCopy := fun w => by kernel_rfl
  underlying_t21 := by kernel_rfl
  runUnderlying_t21 := fun w => by kernel_rfl
  sizeOf_t21 := fun w => by kernel_rfl
  isAgg_t21 := fun w => by kernel_rfl
  zeroValue_t21 := fun w => by kernel_rfl
  room_tIMutex := by kernel_rfl

/-- A board's three cells: the lock's two, the events. -/
def bdc (s : Int) (v : Value) : Array Value := #[.int .i32 s, .int .u32 0, v]
/-- A board at block B, its lock's word s; the events lie in a row of its own. -/
structure Bd (w : World) (N B : Nat) (s : Int) (v : Value) (l : List Ev) : Prop where
  box : Box w B (bdc s v) 102
  own : w.ownsRow N 50 3 v l.length (evc l)
  ne : ∀ g, v.ownBlock = some g → g ≠ B
  ok : may l = 0
theorem Bd.bel {w w' : World} {N B : Nat} {s : Int} {v : Value} {l : List Ev} (h : Bd w N B s v l) (hb : Bel w w') : Bd w' N B s v l := ⟨hb.box h.box, own_bel h.own hb, h.ne, h.ok⟩
theorem Bd.setS {w : World} {N B : Nat} {s : Int} {v : Value} {l : List Ev} (h : Bd w N B s v l) (s' : Int) : Bd (w.setCell ⟨B, 0, none⟩ (.int .i32 s')) N B s' v l :=
  ⟨h.box.set 0 (.int .i32 s'), own_keep h.own fun g hg _ => heap_setCell_other w ⟨B, 0, none⟩ g _ (h.ne g hg), h.ne, h.ok⟩
/-- What Tell answers, and what it leaves. -/
def tellA (l : List Ev) (e : Ev) : Int × Int := if 80 ≤ l.length then (0, 2) else if wrong l e = 0 then (l.length, 0) else (0, wrong l e)
def tellL (l : List Ev) (e : Ev) : List Ev := if l.length < 80 ∧ wrong l e = 0 then l ++ [e] else l
theorem check_tell {l : List Ev} (h : may l = 0) (e : Ev) : (check (l ++ [e])).2 = (tellA l e).2 ∧ ((tellA l e).2 = 0 → tellL l e = l ++ [e] ∧ may (l ++ [e]) = 0 ∧ (tellA l e).1 = l.length) ∧ ((tellA l e).2 ≠ 0 → tellL l e = l ∧ (tellA l e).1 = 0) := by
  have hl : l.length ≤ 80 := ((may_iff l).1 h).1
  unfold tellA tellL
  by_cases h80 : 80 ≤ l.length
  · rw [if_pos h80, if_neg (by omega)]
    exact ⟨check_large.2 (by simp; omega), (fun h => absurd h (by decide)), fun _ => ⟨rfl, rfl⟩⟩
  · rw [if_neg h80]
    by_cases hw : wrong l e = 0
    · rw [if_pos hw, if_pos ⟨by omega, hw⟩]
      have hm := may_snoc e h (by omega) hw
      exact ⟨hm, fun _ => ⟨rfl, hm, rfl⟩, fun h => absurd rfl h⟩
    · rw [if_neg hw, if_neg (fun hh => hw hh.2)]
      refine ⟨?_, fun h => absurd h hw, fun _ => ⟨rfl, rfl⟩⟩
      have := check_snoc e [] h (by simp; omega) hw
      rw [this]
/-- What a call leaves as it was: all but the board's own block and the events' row. -/
structure BdG (w w' : World) (B : Nat) (v : Value) : Prop where
  os : w'.os = w.os
  tape : w'.tape = w.tape
  output : w'.output = w.output
  size : w.heap.size ≤ w'.heap.size
  block : ∀ k, k < w.heap.size → k ≠ B → v.ownBlock ≠ some k → w'.heap[k]? = w.heap[k]?
theorem BdG.of {w w' : World} (h : Bel w w') (B : Nat) (v : Value) : BdG w w' B v := ⟨h.out.os, h.out.tape, h.out.output, h.out.size, fun k hk _ _ => h.out.block k hk⟩
theorem BdG.grown {w w' : World} {v : Value} (h : w.grownBy w' v.ownBlock) (B : Nat) : BdG w w' B v := ⟨h.os, h.tape, h.output, h.size, fun k hk _ h3 => h.block k hk (fun e => h3 e.symm)⟩
theorem BdG.setC (w : World) (B o : Nat) (u v : Value) : BdG w (w.setCell ⟨B, o, none⟩ u) B v := ⟨rfl, rfl, rfl, by simp, fun k _ h2 _ => heap_setCell_other w ⟨B, o, none⟩ k u h2⟩
theorem BdG.trans {w w1 w2 : World} {B : Nat} {v v' : Value} (h : BdG w w1 B v) (k : BdG w1 w2 B v') (hv : v'.ownBlock = v.ownBlock ∨ ∀ g, v'.ownBlock = some g → w.heap.size ≤ g) : BdG w w2 B v :=
  ⟨k.os.trans h.os, k.tape.trans h.tape, k.output.trans h.output, Nat.le_trans h.size k.size, fun j hj h1 h2 => (k.block j (Nat.lt_of_lt_of_le hj h.size) h1 fun e => by
    rcases hv with hv | hv
    · exact h2 (hv ▸ e)
    · have := hv j e; omega).trans (h.block j hj h1 h2)⟩
theorem BdG.below {w w' : World} {N B : Nat} {s : Int} {v : Value} {l : List Ev} (h : BdG w w' B v) (hb : Bd w N B s v l) (hB : N ≤ B) (hN : N ≤ w.heap.size) : Below N w w' :=
  ⟨h.os, h.tape, h.output, h.size, fun k hk => h.block k (by omega) (by omega) fun hv => by have := (own_lt hb.own hv).1; omega⟩
/-- Another row of the call's own stands. -/
theorem BdG.own {w w' : World} {B : Nat} {v : Value} (h : BdG w w' B v) {base : Nat} {e : TypeId} {size n : Nat} {u : Value} {xs : List Value} (hu : w.ownsRow base e size u n xs) (hB : ∀ g, u.ownBlock = some g → g ≠ B ∧ v.ownBlock ≠ some g) : w'.ownsRow base e size u n xs :=
  own_keep hu fun g hg hl => h.block g hl (hB g hg).1 (hB g hg).2
theorem BdG.sl {w w' : World} {B : Nat} {v : Value} (h : BdG w w' B v) {A : Option Addr} {n : Nat} {l : List Ev} (hl : Sl w A n l) (hA : ∀ b off, A = some ⟨b, off, none⟩ → b ≠ B ∧ v.ownBlock ≠ some b) : Sl w' A n l :=
  ⟨hl.1, fun hn => by
    obtain ⟨b, off, rfl, hlt, hr⟩ := hl.2 hn
    obtain ⟨h1, h2⟩ := hA b off rfl
    refine ⟨b, off, rfl, Nat.lt_of_lt_of_le hlt h.size, fun j x hx => ?_⟩
    have := hr j x hx
    unfold World.cell? at this ⊢
    rw [h.block b hlt h1 h2]
    exact this⟩
def TellPost (N B : Nat) (v : Value) (l : List Ev) (e : Ev) (w : World) (r : Ending) (w' : World) : Prop :=
  ∃ v', r = .returned (.tuple #[.int .i64 (tellA l e).1, .int .i64 (tellA l e).2]) ∧ Bd w' N B 0 v' (tellL l e) ∧ BdG w w' B v ∧ (v'.ownBlock = v.ownBlock ∨ ∀ k, v'.ownBlock = some k → w.heap.size ≤ k)
set_option maxHeartbeats 1000000 in
theorem bnew_any (w : World) : Calls Try.prog 27 #[] w fun e w' => e = .returned (.pointer (some ⟨w.heap.size, 0, none⟩)) ∧ Box w' w.heap.size (bdc 0 (.slice none 0 0)) 102 ∧ Below w.heap.size w w' := by
  go_enter Try.func27, Try.ntmps27
  go_wp2
  go_ret
  exact ⟨rfl, Box.new _ _ _, (Below.refl _ _).alloc (Nat.le_refl _) _⟩
/-- An append onto a row of the call's own that lives on, as an operation that comes up; where the new row lies. -/
theorem wp_append_both {P : Program} {o : Oper} {a : Act} {w : World} {K : Act → World → Prop} {Q : Exit → Act → World → Prop} (s x : Operand) (t : TypeId)
    (ho : o.op = .call { callee := .builtin .append, args := #[s, x], argTypes := #[t, t] })
    (base : Nat) (e : TypeId) (i : TypeInfo) (z : Value) (size bytes : Nat) (ht : P.underlying t = some (.slice e)) (hi : P.info? e = some i) (hz : i.zero = some z)
    (hsize : i.size = size) (hby : i.bytes = bytes) (hzs : z.cells.size = size) (hsz : 0 < size)
    (v : Value) (n : Nat) (xs : List Value) (hs : a.eval s = v) (hown : w.ownsRow base e size v n xs)
    (ad : Addr) (m c : Nat) (hm : 0 < m) (news : List Value) (hx : a.eval x = .slice (some ad) m c) (hl : news.length = m * size) (hnews : ∀ j u, news[j]? = some u → w.cell? (ad.add j) = some u) (h1 : ∀ u ∈ news, u.oneCell' = true)
    (h63 : n + m ≤ maxLen) (hbytes : (n + m) * bytes ≤ 140737488355328) (hbase : base ≤ w.heap.size)
    (h : ∀ v' w', Under base e size w v n xs w' v' (n + m) (xs ++ news) → (v'.ownBlock = v.ownBlock ∨ v'.ownBlock = some w.heap.size) → K (a.put o.dst v') w') : o.wp P a w K Q := by
  obtain ⟨v', w', hr, h2⟩ := run_append_both (P := P) base t o.type e i z size bytes ht hi hz hsize hby hzs hsz v n xs hown ad m c hm news hl hnews h1 h63 hbytes hbase
  obtain ⟨v2, w2, hr2, _, _, _, h5⟩ := run_append_own_at (P := P) w base t o.type e i z size bytes ht hi hz hsize hby hzs hsz v n xs hown ad m c news hl hnews h1 h63 hbytes hbase
  rw [hr] at hr2
  cases hr2
  have h9 := h v' w' h2 h5
  unfold Oper.wp execOp
  simp only [ho, resolve, invoke, builtin, Sem.run_bind, Sem.run_pure, Result.andThen_ok, List.map_toArray, List.map_cons, List.map_nil, hs, hx, hr]
  exact h9
theorem Bel.grownBy {w w' : World} (h : Bel w w') (r : Option Nat) : w.grownBy w' r := ⟨h.out.os, h.out.tape, h.out.output, h.out.size, fun k hk _ => h.out.block k hk⟩
theorem Under.at {w w1 z : World} {base : Nat} {e : TypeId} {size n m : Nat} {v v' : Value} {xs ys : List Value} (h : Under base e size w v n xs w1 v' m ys) (hz : Bel w1 z) (B : Nat) :
    BdG w z B v ∧ z.ownsRow base e size v n xs ∧ z.ownsRow base e size v' m ys := by
  have h2 := own_bel h.2.1 hz
  obtain ⟨h3, h4⟩ := h.2.2 z (hz.grownBy _) h2
  exact ⟨.grown h3 B, h4, h2⟩
theorem Bd.sl {w : World} {N B : Nat} {s : Int} {v : Value} {l : List Ev} (h : Bd w N B s v l) : ∃ A c, v = .slice A l.length c ∧ Sl w A l.length l := by
  obtain ⟨A, c, h1, h2, _⟩ := Sl.own h.own
  exact ⟨A, c, h1, h2⟩
/-- A region left as it is left in the end. -/
def OnlyB (Q : Exit → Act → World → Prop) : Exit → Act → World → Prop
  | .normal, a, w => Q .normal a w
  | _, _, _ => False
theorem wp_onlyB {P : Program} {c : Code} {Q : Exit → Act → World → Prop} {a : Act} {w : World} (h : c.wp P (OnlyB Q) a w) : c.wp P Q a w := fun b k cs =>
  let ⟨e, a', w', q, r⟩ := h b k cs
  ⟨e, a', w', by cases e <;> first | exact q | exact q.elim, r⟩
/-- Behind the lock: the board and the new variable that holds the event. -/
theorem Bd.begin {w : World} {N B : Nat} {v : Value} {l : List Ev} (h : Bd w N B 0 v l) (e : Ev) : Bd ((w.alloc (.cells (evv e) 50)).setCell ⟨B, 0, none⟩ (.int .i32 1)) N B 1 v l ∧
    Box ((w.alloc (.cells (evv e) 50)).setCell ⟨B, 0, none⟩ (.int .i32 1)) w.heap.size (evv e) 50 ∧ BdG w ((w.alloc (.cells (evv e) 50)).setCell ⟨B, 0, none⟩ (.int .i32 1)) B v := by
  have hb := (Bel.refl w).alloc (.cells (evv e) 50)
  have hl := h.box.lt
  exact ⟨(h.bel hb).setS 1, (Box.new w (evv e) 50).set_ne ⟨B, 0, none⟩ _ (by show w.heap.size ≠ B; omega), (BdG.of hb B v).trans (.setC _ B 0 _ v) (.inl rfl)⟩
set_option maxHeartbeats 4000000 in
theorem tell_any (N B : Nat) (v : Value) (l : List Ev) (e : Ev) (w : World) (h : Bd w N B 0 v l) (hN : N ≤ w.heap.size) : Calls Try.prog 28 #[.pointer (some ⟨B, 0, none⟩), .agg (evv e)] w (TellPost N B v l e w) := by
  have hX := Box.old h.box (.cells (evv e) 50)
  have c0 : (w.alloc (.cells (evv e) 50)).cell? ⟨B, 0, none⟩ = some (.int .i32 0) := hX.cell 0 rfl
  have f0 := hX.frozen 0
  have HBL := Lib.hid h.box.lt
  have HN := Lib.hid hN
  obtain ⟨q1, q2, q3⟩ := h.begin e
  have HOK := Lib.hid h.ok
  have HV := Lib.hid (show l.length ≤ 80 from ((may_iff l).1 h.ok).1)
  have HNE := Lib.hid h.ne
  have HOW := Lib.hid h.own
  have H1 := Lib.hid q1
  have HE := Lib.hid q2
  have HG := Lib.hid q3
  clear h hN q1 q2 q3 hX
  go_enter_defers Try.func28, Try.ntmps28
  go_wp2_with (go_at_call 46; refine (lock_free muLib ⟨B, 0, none⟩ _ c0 f0).mono ?_; rintro e' w' ⟨rfl, rfl⟩)
  clear c0 f0
  generalize (w.alloc (.cells (evv e) 50)).setCell ⟨B, 0, none⟩ (.int .i32 1) = w1 at *
  obtain ⟨i0, hi0, hz0, hz1, hz2⟩ := info_parts ev_info
  have hNw : N ≤ w1.heap.size := Nat.le_trans HN.out HG.out.size
  have F := fun (y : World) (hy : Below w1.heap.size w1 y) => (H1.out.bel (Bel.of hy)).box.cell 2 (v := v) rfl
  have BX := fun (y : World) (hy : Below w1.heap.size w1 y) => (Bel.of hy).box HE.out
  refine wp_onlyB ?_
  refine region_growU 6 (by kernel_rfl) ?_
  (repeat (first | ((first | refine wpU_goN 0 (by simp only [List.getElem?_toArray, List.getElem?_cons_zero, List.getElem?_cons_succ] <;> rfl) (by decide +kernel) (by decide +kernel) (by kernel_rfl) (by rfl) (by exact fun _ _ _ _ h => h) (Nat.le_refl _) ?_ | refine wpU_goN 1 (by simp only [List.getElem?_toArray, List.getElem?_cons_zero, List.getElem?_cons_succ] <;> rfl) (by decide +kernel) (by decide +kernel) (by kernel_rfl) (by rfl) (by exact fun _ _ _ _ h => h) (Nat.le_refl _) ?_ | refine wpU_goN 2 (by simp only [List.getElem?_toArray, List.getElem?_cons_zero, List.getElem?_cons_succ] <;> rfl) (by decide +kernel) (by decide +kernel) (by kernel_rfl) (by rfl) (by exact fun _ _ _ _ h => h) (Nat.le_refl _) ?_ | refine wpU_goN 3 (by simp only [List.getElem?_toArray, List.getElem?_cons_zero, List.getElem?_cons_succ] <;> rfl) (by decide +kernel) (by decide +kernel) (by kernel_rfl) (by rfl) (by exact fun _ _ _ _ h => h) (Nat.le_refl _) ?_ | refine wpU_goN 4 (by simp only [List.getElem?_toArray, List.getElem?_cons_zero, List.getElem?_cons_succ] <;> rfl) (by decide +kernel) (by decide +kernel) (by kernel_rfl) (by rfl) (by exact fun _ _ _ _ h => h) (Nat.le_refl _) ?_); apply Exists.intro; refine ⟨fun w1 h1 => ?_, ?_⟩; (first | exact g_move _ rfl | exact g_assign _ rfl | exact g_load _ _ rfl T36 rfl (BX w1 h1) | (have fct0 := F w1 h1; go_simp; first | exact ⟨rfl, rfl⟩ | rfl)); simp only [Act.put, Act.eval, List.setIfInBounds_toArray, List.set_cons_zero, List.set_cons_succ, Array.getD_eq_getD_getElem?, List.getElem?_toArray, List.getElem?_cons_zero, List.getElem?_cons_succ, Option.getD_some]) | ((first | refine wpU_skip 0 (by simp only [List.getElem?_toArray, List.getElem?_cons_zero, List.getElem?_cons_succ] <;> rfl) (by decide +kernel) (by decide +kernel) (by kernel_rfl) (by rfl) (by exact fun _ _ _ _ h => h) (Nat.le_refl _) ?_ | refine wpU_skip 1 (by simp only [List.getElem?_toArray, List.getElem?_cons_zero, List.getElem?_cons_succ] <;> rfl) (by decide +kernel) (by decide +kernel) (by kernel_rfl) (by rfl) (by exact fun _ _ _ _ h => h) (Nat.le_refl _) ?_ | refine wpU_skip 2 (by simp only [List.getElem?_toArray, List.getElem?_cons_zero, List.getElem?_cons_succ] <;> rfl) (by decide +kernel) (by decide +kernel) (by kernel_rfl) (by rfl) (by exact fun _ _ _ _ h => h) (Nat.le_refl _) ?_ | refine wpU_skip 3 (by simp only [List.getElem?_toArray, List.getElem?_cons_zero, List.getElem?_cons_succ] <;> rfl) (by decide +kernel) (by decide +kernel) (by kernel_rfl) (by rfl) (by exact fun _ _ _ _ h => h) (Nat.le_refl _) ?_ | refine wpU_skip 4 (by simp only [List.getElem?_toArray, List.getElem?_cons_zero, List.getElem?_cons_succ] <;> rfl) (by decide +kernel) (by decide +kernel) (by kernel_rfl) (by rfl) (by exact fun _ _ _ _ h => h) (Nat.le_refl _) ?_); simp only [Act.put, Act.eval, List.setIfInBounds_toArray, List.set_cons_zero, List.set_cons_succ, Array.getD_eq_getD_getElem?, List.getElem?_toArray, List.getElem?_cons_zero, List.getElem?_cons_succ, Option.getD_some]) | ((first | refine wpU_goA 0 (by simp only [List.getElem?_toArray, List.getElem?_cons_zero, List.getElem?_cons_succ] <;> rfl) (by decide +kernel) (by decide +kernel) (by kernel_rfl) (by rfl) (by exact fun _ _ _ _ h => h) ?_ | refine wpU_goA 1 (by simp only [List.getElem?_toArray, List.getElem?_cons_zero, List.getElem?_cons_succ] <;> rfl) (by decide +kernel) (by decide +kernel) (by kernel_rfl) (by rfl) (by exact fun _ _ _ _ h => h) ?_ | refine wpU_goA 2 (by simp only [List.getElem?_toArray, List.getElem?_cons_zero, List.getElem?_cons_succ] <;> rfl) (by decide +kernel) (by decide +kernel) (by kernel_rfl) (by rfl) (by exact fun _ _ _ _ h => h) ?_ | refine wpU_goA 3 (by simp only [List.getElem?_toArray, List.getElem?_cons_zero, List.getElem?_cons_succ] <;> rfl) (by decide +kernel) (by decide +kernel) (by kernel_rfl) (by rfl) (by exact fun _ _ _ _ h => h) ?_ | refine wpU_goA 4 (by simp only [List.getElem?_toArray, List.getElem?_cons_zero, List.getElem?_cons_succ] <;> rfl) (by decide +kernel) (by decide +kernel) (by kernel_rfl) (by rfl) (by exact fun _ _ _ _ h => h) ?_); apply Exists.intro; refine ⟨fun w1 => ?_, ?_⟩; (first | exact a_move _ rfl | exact a_assign _ rfl | (go_simp; first | exact ⟨rfl, rfl⟩ | rfl)); simp only [Act.put, Act.eval, List.setIfInBounds_toArray, List.set_cons_zero, List.set_cons_succ, Array.getD_eq_getD_getElem?, List.getElem?_toArray, List.getElem?_cons_zero, List.getElem?_cons_succ, Option.getD_some])))
  clear F BX
  (refine wpU_one 5 (by decide +kernel) ?_; intro y1 hy1; refine op_wanted (by simp only [List.getElem?_toArray, List.getElem?_cons_zero, List.getElem?_cons_succ] <;> rfl) rfl ?_)
  refine wp_build1 22 _ rfl 50 i0 Try.underlying22 hi0 hz0 hz1 e rfl ?_
  refine ⟨Below.alloc (Below.refl _ _) hy1.size _, ?_⟩
  simp only [Act.put, Act.eval, List.setIfInBounds_toArray, List.set_cons_zero, List.set_cons_succ, Array.getD_eq_getD_getElem?, List.getElem?_toArray, List.getElem?_cons_zero, List.getElem?_cons_succ, Option.getD_some]
  have hbx0 := Box.new y1 (evv e) 50
  have hE1 := hy1.alloc (.cells (evv e) 50)
  generalize y1.heap.size = yb at *
  generalize y1.alloc (.cells (evv e) 50) = y2 at *
  refine wpU_now (by decide +kernel) ?_
  intro y5 hy5
  refine op_wanted (by simp only [List.getElem?_toArray, List.getElem?_cons_zero, List.getElem?_cons_succ] <;> rfl) rfl ?_
  have hE5 := hE1.trans hy5
  have h5 := H1.out.bel hE5
  have hbx := hy5.box hbx0
  have hsz5 : N ≤ y5.heap.size := Nat.le_trans hNw hE5.size
  refine wp_append_both (.tmp 19) (.tmp 21) _ rfl N 50 i0 _ 3 24 Try.underlying22 hi0 hz0 hz1 hz2 rfl (by omega) v l.length (evc l) rfl h5.own ⟨yb, 0, none⟩ 1 1 (by omega) (evl e) rfl rfl (Box.news (l := evl e) hbx) (by simp [evl, Value.oneCell']) (by have := HV.out; unfold maxLen; omega) (by have := HV.out; omega) hsz5 ?_
  intro v3 u3 hU hat3
  simp only [Act.put, Act.eval, List.setIfInBounds_toArray, List.set_cons_zero, List.set_cons_succ, Array.getD_eq_getD_getElem?, List.getElem?_toArray, List.getElem?_cons_zero, List.getElem?_cons_succ, Option.getD_some]
  refine wpU_next 7 (by decide +kernel) (by decide +kernel) ?_
  intro y8 hy8
  refine op_wanted (by simp only [List.getElem?_toArray, List.getElem?_cons_zero, List.getElem?_cons_succ] <;> rfl) rfl ?_
  go_simp
  refine wpU_done (by decide +kernel) ?_ _
  intro y9 hy9
  rw [OnlyB]
  rw [show evc l ++ evl e = evc (l ++ [e]) by rw [evc_append]; rfl] at hU
  have HU := Lib.hid hU
  have HY := Lib.hid (hy8.trans hy9)
  have HB5 := Lib.hid h5
  have HG5 := Lib.hid (HG.out.trans (.of hE5 B v) (.inl rfl))
  have HAT := Lib.hid (show v3.ownBlock = v.ownBlock ∨ ∀ k, v3.ownBlock = some k → w.heap.size ≤ k from hat3.imp id fun h k hk => by rw [h] at hk; cases hk; exact HG5.out.size)
  have HN3 := Lib.hid (show ∀ g, v3.ownBlock = some g → g ≠ B from fun g hg => by
    rcases HAT.out with h | h
    · exact HNE.out g (h ▸ hg)
    · have := h g hg; have := HBL.out; omega)
  obtain ⟨A3, c3, rfl, hs3, _, _⟩ := Sl.own (HU.out.at HY.out B).2.2
  have HS3 := Lib.hid hs3
  have HCT := Lib.hid (check_tell HOK.out e)
  clear hU hat3 hy8 hy9 h5 hE5 hE1 hbx hbx0 hy5 hsz5 hy1 hNw hi0 hz0 hz1 hz2 hs3
  go_wp2_with fail
  refine (check_any A3 (l.length + 1) c3 (l ++ [e]) _ HS3.out).mono ?_
  rintro e4 w4 ⟨rfl, hb4⟩
  rw [HCT.out.1]
  have HZ := Lib.hid (HY.out.trans (Bel.of hb4))
  obtain ⟨k1, k2, k3⟩ := HU.out.at HZ.out B
  have HB4 := Lib.hid (HZ.out.box (HB5.out.box.grown HU.out.1 (fun e => HB5.out.ne B e.symm rfl)))
  have HK := Lib.hid (And.intro (HG5.out.trans k1 (.inl rfl)) (And.intro k2 k3))
  clear hb4 k1 k2 k3
  by_cases h0 : (tellA l e).2 = 0
  · have h0' : ((tellA l e).2 != 0) = false := by simp [h0]
    obtain ⟨t1, t2, t3⟩ := HCT.out.2.1 h0
    have HT := Lib.hid (And.intro t1 (And.intro t2 t3))
    have H0 := Lib.hid h0
    have cv := HB4.out.cell 2 (v := v) rfl
    have fv := HB4.out.frozen 2
    have hw1 : IntKind.i64.wrap (((l.length + 1 : Nat) : Int) - 1) = (l.length : Int) := by have := HV.out; rw [IntWalk.i64_in _ (by omega)]; omega
    clear h0 t1 t2 t3
    have hw2 : wrap64 (l.length : Int) = (l.length : Int) := by have := HV.out; unfold wrap64; omega
    go_wp2
    have hbx : Box (w4.setCell ⟨B, 2, none⟩ (.slice A3 (l.length + 1) c3)) B (bdc 1 (.slice A3 (l.length + 1) c3)) 102 := HB4.out.set 2 _
    have hbd : Bd (w4.setCell ⟨B, 2, none⟩ (.slice A3 (l.length + 1) c3)) N B 1 (.slice A3 (l.length + 1) c3) (l ++ [e]) := ⟨hbx, by
      rw [show (l ++ [e]).length = l.length + 1 by simp]
      exact own_keep HK.out.2.2 fun g hg _ => heap_setCell_other w4 ⟨B, 2, none⟩ g _ (HN3.out g hg), HN3.out, HT.out.2.1⟩
    refine leaves_cons (f := 47) (args := #[.pointer (some ⟨B, 0, none⟩)]) (by simp) (by simp [go_sem]) ?_
    refine (unlock_deferred muLib ⟨B, 0, none⟩ .returning _ (hbx.cell 0 rfl) (hbx.frozen 0)).mono ?_
    rintro e5 u' w5 ⟨rfl, rfl, rfl⟩
    refine ⟨_, results_tmp2 rfl _ _ _, _, ?_, ?_, (HK.out.1.trans (.setC w4 B 2 _ v) (.inl rfl)).trans (.setC _ B 0 _ v) (.inl rfl), HAT.out⟩
    · rw [HT.out.2.2, H0.out, hw2]; rfl
    · rw [HT.out.1]
      exact hbd.setS 0
  · have h0' : ((tellA l e).2 != 0) = true := by simp [h0]
    obtain ⟨t1, t2⟩ := HCT.out.2.2 h0
    have HT := Lib.hid (And.intro t1 t2)
    clear h0 t1 t2
    go_wp2
    refine leaves_cons (f := 47) (args := #[.pointer (some ⟨B, 0, none⟩)]) (by simp) (by simp [go_sem]) ?_
    refine (unlock_deferred muLib ⟨B, 0, none⟩ .returning _ (HB4.out.cell 0 rfl) (HB4.out.frozen 0)).mono ?_
    rintro e5 u' w5 ⟨rfl, rfl, rfl⟩
    refine ⟨_, results_tmp2 rfl _ _ _, v, ?_, ?_, HK.out.1.trans (.setC w4 B 0 _ v) (.inl rfl), .inl rfl⟩
    · rw [HT.out.2]; rfl
    · rw [HT.out.1]
      exact (Bd.mk (s := 1) HB4.out HK.out.2.1 HB5.out.ne HOK.out).setS 0
end Go.Proofs.Yteihildhlcggoaa

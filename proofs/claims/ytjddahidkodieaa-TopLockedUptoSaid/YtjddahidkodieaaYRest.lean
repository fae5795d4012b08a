import Derived.Test.YtjddahidkodieaaYPg
import Derived.Test.YtjddahidkodieaaYEqInt
import Derived.Test.YtjddahidkodieaaYKeepTw
import Derived.Test.YtjddahidkodieaaYBase
import Derived.Test.YtjddahidkodieaaRows
import Derived.WalkKit
import Derived.WalkSpells
import Derived.WalkLawsBesides
import Derived.Lib.Hide
import Derived.IntWalk
set_option linter.all false
set_option maxRecDepth 100000
namespace Go.Proofs.Ytjddahidkodieaa
open Go Go.RowKit

def Prg (w : World) (A : Option Addr) (n : Nat) (P : List (List Ev)) : Prop :=
  P.length = n ∧ (0 < n → ∃ b off, A = some ⟨b, off, none⟩ ∧ b < w.heap.size ∧ ∀ t ops, P[t]? = some ops → ∃ B m c, w.cell? ⟨b, off + t, none⟩ = some (.slice B m c) ∧ Sl w B m ops ∧ m ≤ c ∧ c ≤ maxLen)
theorem Prg.bel {w w' : World} {A : Option Addr} {n : Nat} {P : List (List Ev)} (h : Prg w A n P) (hb : Bel w w') : Prg w' A n P :=
  ⟨h.1, fun hn => by
    obtain ⟨b, off, hA, hlt, hr⟩ := h.2 hn
    refine ⟨b, off, hA, Nat.lt_of_lt_of_le hlt hb.size, fun t ops ht => ?_⟩
    obtain ⟨B, m, c, h1, h2, h3, h4⟩ := hr t ops ht
    exact ⟨B, m, c, hb.cell h1, h2.bel hb, h3, h4⟩⟩
theorem Prg.at_ {w : World} {A : Option Addr} {n : Nat} {P : List (List Ev)} (h : Prg w A n P) {t : Nat} (ht : t < n) :
    ∃ b off B m c, A = some ⟨b, off, none⟩ ∧ b < w.heap.size ∧ w.cell? ⟨b, off + t, none⟩ = some (.slice B m c) ∧ Sl w B m (opsP P t) ∧ m ≤ c ∧ c ≤ maxLen := by
  obtain ⟨b, off, hA, hlt, hr⟩ := h.2 (by omega)
  have hP : P[t]? = some (opsP P t) := by
    unfold opsP
    rw [List.getD_eq_getElem?_getD, List.getElem?_eq_getElem (by rw [h.1]; exact ht)]
    rfl
  obtain ⟨B, m, c, h1, h2, h3, h4⟩ := hr t _ hP
  exact ⟨b, off, B, m, c, hA, hlt, h1, h2, h3, h4⟩
theorem Prg.nil (w : World) : Prg w none 0 [] := ⟨rfl, fun h => absurd h (Nat.lt_irrefl 0)⟩
def chkP (P : List (List Ev)) : Int := if 1 ≤ P.length ∧ P.length ≤ 6 ∧ (∀ ops ∈ P, ops.length ≤ 12) then (if ∀ ops ∈ P, ∀ o ∈ ops, isOp o = true then 0 else 1) else 2
theorem opsP_mem {P : List (List Ev)} {t : Nat} (h : t < P.length) : opsP P t ∈ P := by
  unfold opsP
  rw [List.getD_eq_getElem?_getD, List.getElem?_eq_getElem h]
  exact List.getElem_mem h
theorem mem_opsP {P : List (List Ev)} {ops : List Ev} (h : ops ∈ P) : ∃ t, t < P.length ∧ opsP P t = ops := by
  obtain ⟨t, ht, rfl⟩ := List.getElem_of_mem h
  refine ⟨t, ht, ?_⟩
  unfold opsP
  rw [List.getD_eq_getElem?_getD, List.getElem?_eq_getElem ht]
  rfl
theorem chk_ok {P : List (List Ev)} : chkP P = 0 ↔ OkP P := by
  unfold chkP
  constructor
  · intro h
    split at h
    · rename_i h1
      split at h
      · rename_i h2
        refine ⟨h1.1, h1.2.1, fun t => ?_, fun t o ho => ?_⟩
        · rcases Nat.lt_or_ge t P.length with ht | ht
          · exact h1.2.2 _ (opsP_mem ht)
          · rw [opsP_out ht]; simp
        · rcases Nat.lt_or_ge t P.length with ht | ht
          · exact h2 _ (opsP_mem ht) o ho
          · rw [opsP_out ht] at ho; cases ho
      · cases h
    · cases h
  · intro h
    rw [if_pos ⟨h.one, h.six, fun ops ho => by obtain ⟨t, _, rfl⟩ := mem_opsP ho; exact h.len t⟩, if_pos fun ops ho o hm => by obtain ⟨t, _, rfl⟩ := mem_opsP ho; exact h.op t o hm]
def Lim (K x : Int) : Prop := -K ≤ x ∧ x ≤ K
structure LimS (K : Int) (s : Ps) : Prop where
  pos : 0 ≤ K
  mem : ∀ k, Lim K (s.mem k)
  vol : ∀ k, Lim K (s.vol k)
  has : ∀ k, Lim K (s.has k)
theorem Lim.up {K J x : Int} (h : Lim K x) (hk : K ≤ J) : Lim J x := ⟨by have := h.1; omega, by have := h.2; omega⟩
theorem LimS.up {K J : Int} {s : Ps} (h : LimS K s) (hk : K ≤ J) : LimS J s := ⟨by have := h.pos; omega, fun k => (h.mem k).up hk, fun k => (h.vol k).up hk, fun k => (h.has k).up hk⟩
theorem LimS.start : LimS 0 ps0 := ⟨Int.le_refl _, fun _ => ⟨Int.le_refl _, Int.le_refl _⟩, fun _ => ⟨Int.le_refl _, Int.le_refl _⟩, fun _ => ⟨Int.le_refl _, Int.le_refl _⟩⟩
theorem isOp_num {o : Ev} (h : isOp o = true) : Lim 1000 o.o := by
  unfold isOp at h
  simp only [Bool.and_eq_true, decide_eq_true_iff] at h
  exact ⟨by omega, by omega⟩
theorem LimS.step {P : List (List Ev)} {K : Int} {s : Ps} (h : LimS K s) {t : Nat} {o : Ev} (ho : isOp o = true) : LimS (K + 1000) (stepO P s t o) := by
  have h0 := h.pos
  have hn := isOp_num ho
  have hU := h.up (show K ≤ K + 1000 by omega)
  refine ⟨hU.pos, fun k => ?_, fun k => ?_, fun k => ?_⟩
  · show Lim _ (memO s t o k)
    unfold memO
    split
    · unfold updI
      split
      · exact hU.has t
      · exact hU.mem k
    · exact hU.mem k
  · show Lim _ (volO s t o k)
    unfold volO
    split
    · unfold updI
      split
      · exact hU.has t
      · exact hU.vol k
    · exact hU.vol k
  · show Lim _ (hasO s t o k)
    unfold hasO
    split
    · unfold upF
      split
      · exact hU.mem _
      · exact hU.has k
    · split
      · unfold upF
        split
        · have := h.has t
          exact ⟨by have := this.1; have := hn.1; omega, by have := this.2; have := hn.2; omega⟩
        · exact hU.has k
      · split
        · unfold upF
          split
          · exact hU.vol _
          · exact hU.has k
        · exact hU.has k
theorem LimS.pick {P : List (List Ev)} (hP : OkP P) {K : Int} {s : Ps} (h : LimS K s) (t : Int) : LimS (K + 1000) (pickP P s t) := by
  unfold pickP
  split
  · rename_i hc
    obtain ⟨_, _, o, h3, _⟩ := can_op hc.2
    rw [step_op h3]
    exact h.step (hP.op _ o (List.mem_of_getElem? h3))
  · exact h.up (by omega)
theorem LimS.picks {P : List (List Ev)} (hP : OkP P) : ∀ (ts : List Int) {K : Int} {s : Ps}, LimS K s → LimS (K + 1000 * ts.length) (ts.foldl (pickP P) s)
  | [], _, _, h => by simpa using h
  | t :: ts, K, s, h => by
    have := LimS.picks hP ts (h.pick hP t)
    rw [show K + 1000 * ((t :: ts).length : Int) = K + 1000 + 1000 * (ts.length : Int) by rw [List.length_cons]; omega]
    exact this
theorem run_lim {P : List (List Ev)} (hP : OkP P) (ts : List Int) : LimS (1000 * ts.length) (runP P ts) := by
  have := LimS.picks hP ts LimS.start
  rw [Int.zero_add] at this
  exact this

def endc (m v h : Nat → Int) (d k : Bool) : List Value :=
  [.int .i64 (m 0), .int .i64 (m 1), .int .i64 (m 2), .int .i64 (m 3), .int .i64 (m 4), .int .i64 (m 5), .int .i64 (m 6), .int .i64 (m 7), .int .i64 (v 0), .int .i64 (v 1), .int .i64 (v 2), .int .i64 (v 3),
   .int .i64 (h 0), .int .i64 (h 1), .int .i64 (h 2), .int .i64 (h 3), .int .i64 (h 4), .int .i64 (h 5), .bool d, .bool k]
def nat (f : Int → Int) (k : Nat) : Int := f k
def endP (P : List (List Ev)) (s : Ps) : Array Value := (endc (nat s.mem) (nat s.vol) s.has (doneP P s) (stuckP P s)).toArray
def end0 : Array Value := (endc (fun _ => 0) (fun _ => 0) (fun _ => 0) false false).toArray
def RunB (P : List (List Ev)) (ts : List Int) (x : Array Value) (l : List Ev) (c : Int) : Prop :=
  (chkP P ≠ 0 ∧ x = end0 ∧ l = [] ∧ c = chkP P) ∨ (chkP P = 0 ∧ 100 < ts.length ∧ x = end0 ∧ l = [] ∧ c = 2) ∨ (chkP P = 0 ∧ ts.length ≤ 100 ∧ x = endP P (runP P ts) ∧ l = (runP P ts).L ∧ c = 0)
def PRunPost (w : World) (P : List (List Ev)) (ts : List Int) (e : Ending) (w' : World) : Prop :=
  ∃ v x l c, e = .returned (.tuple #[.agg x, v, .int .i64 c]) ∧ RunB P ts x l c ∧ w'.ownsRow w.heap.size 54 3 v l.length (evc l) ∧ Below w.heap.size w w'
def CheckC : Prop := ∀ (A : Option Addr) (n c : Nat) (P : List (List Ev)) (w : World), Prg w A n P → n ≤ c → c ≤ maxLen → Calls Try.prog 20 #[.slice A n c] w fun e w' => e = .returned (.int .i64 (chkP P)) ∧ Below w.heap.size w w'
def RunC : Prop := ∀ (A : Option Addr) (n c : Nat) (P : List (List Ev)) (B : Option Addr) (m d : Nat) (ts : List Int) (w : World), Prg w A n P → n ≤ c → c ≤ maxLen → SI w B m ts → m ≤ d → d ≤ maxLen → Calls Try.prog 17 #[.slice A n c, .slice B m d] w (PRunPost w P ts)
end Go.Proofs.Ytjddahidkodieaa
set_option linter.all false
set_option maxRecDepth 100000
namespace Go.Proofs.Ytjddahidkodieaa
open Go Go.RowKit

theorem wpList_append_srcE {P : Program} {ops : Array Oper} {rest : List Oper} {o : Oper} {a : Act} {w : World} {Q : Exit → Act → World → Prop} (hgd : o.guard = none) (s x : Operand) (t : TypeId)
    (ho : o.op = .call { callee := .builtin .append, args := #[s, x], argTypes := #[t, t] })
    (base : Nat) (e : TypeId) (i : TypeInfo) (z : Value) (size bytes : Nat) (ht : P.underlying t = some (.slice e)) (hi : P.info? e = some i) (hz : i.zero = some z)
    (hsize : i.size = size) (hby : i.bytes = bytes) (hzs : z.cells.size = size) (hsz : 0 < size)
    (v : Value) (n : Nat) (xs : List Value) (hv : a.eval s = v) (hown : w.ownsRow base e size v n xs)
    (A : Option Addr) (m c : Nat) (news : List Value) (hx : a.eval x = .slice A m c) (hl : news.length = m * size) (hs : Src w A m news) (h1 : ∀ u ∈ news, u.oneCell' = true)
    (h63 : n + m ≤ maxLen) (hbytes : (n + m) * bytes ≤ 140737488355328) (hbase : base ≤ w.heap.size)
    (h : ∀ v' w', w'.ownsRow base e size v' (n + m) (xs ++ news) → w.grownBy w' v.ownBlock → (v'.ownBlock = v.ownBlock ∨ v'.ownBlock = some w.heap.size) → wpList P ops Q rest (a.put o.dst v') w') : wpList P ops Q (o :: rest) a w :=
  wpList_plain hgd fun _ hK => wp_append_src s x t ho base e i z size bytes ht hi hz hsize hby hzs hsz v n xs hv hown A m c news hx hl hs h1 h63 hbytes hbase (fun v' w' a b c => hK _ _ (h v' w' a b c))
end Go.Proofs.Ytjddahidkodieaa
set_option linter.all false
set_option maxRecDepth 100000
namespace Go.Proofs.Ytjddahidkodieaa
open Go Go.RowKit

theorem wpList_append_src {P : Program} {ops : Array Oper} {rest : List Oper} {o : Oper} {a : Act} {w : World} {Q : Exit → Act → World → Prop} (hgd : o.guard = none) (s x : Operand) (t : TypeId)
    (ho : o.op = .call { callee := .builtin .append, args := #[s, x], argTypes := #[t, t] })
    (base : Nat) (e : TypeId) (i : TypeInfo) (z : Value) (size bytes : Nat) (ht : P.underlying t = some (.slice e)) (hi : P.info? e = some i) (hz : i.zero = some z)
    (hsize : i.size = size) (hby : i.bytes = bytes) (hzs : z.cells.size = size) (hsz : 0 < size)
    (v : Value) (n : Nat) (xs : List Value) (hv : a.eval s = v) (hown : w.ownsRow base e size v n xs)
    (A : Option Addr) (m c : Nat) (news : List Value) (hx : a.eval x = .slice A m c) (hl : news.length = m * size) (hs : Src w A m news) (h1 : ∀ u ∈ news, u.oneCell' = true)
    (h63 : n + m ≤ maxLen) (hbytes : (n + m) * bytes ≤ 140737488355328) (hbase : base ≤ w.heap.size)
    (h : ∀ v' w', w'.ownsRow base e size v' (n + m) (xs ++ news) → w.grownBy w' v.ownBlock → (v'.ownBlock = v.ownBlock ∨ v'.ownBlock = some w.heap.size) → wpList P ops Q rest (a.put o.dst v') w') : wpList P ops Q (o :: rest) a w :=
  wpList_plain hgd fun _ hK => wp_append_src s x t ho base e i z size bytes ht hi hz hsize hby hzs hsz v n xs hv hown A m c news hx hl hs h1 h63 hbytes hbase (fun v' w' a b c => hK _ _ (h v' w' a b c))
theorem fill1 {n : Nat} (hn : n = 1) (f : Fin n → Value) (a : Value) : (Array.ofFn f).setIfInBounds 0 a = #[a] := by
  subst hn
  apply Array.ext
  · simp
  · intro i h1 h2
    have hi : i < 1 := by simpa using h2
    match i, hi with
    | 0, _ => simp [Array.getElem_setIfInBounds]
theorem run_build_int {P : Program} (t e : TypeId) (i : TypeInfo) (ht : P.underlying t = some (.slice e)) (hi : P.info? e = some i) (hz : i.zero = some (.int .i64 0)) (hs : i.size = 1) (x : Int) (w : World) :
    (Instr.buildSlice t 1 #[(0, .int .i64 x)]).run P w = .ok (.slice (some ⟨w.heap.size, 0, none⟩) 1 1) (w.alloc (.cells #[.int .i64 x] e)) := by
  simp [Instr.buildSlice, Sem.run_bind, run_underlying ht, sizeOf, typeInfo, hi, hs, zeroValue, hz, Instr.fill, Value.cells, newRow, newObj, List.zipIdx, Array.range, Result.andThen, go_sem]
  rw [fill1 (by rw [hs])]
  rfl
section
variable {ops : Array Oper} {o : Oper} {a : Act} {w : World} {K : Act → World → Prop} {Q : Exit → Act → World → Prop}
theorem wp_build_int (t : TypeId) (x : Operand) (ho : o.op = .buildSlice t 1 #[(0, x)]) (e : TypeId) (i : TypeInfo) {P : Program} (ht : P.underlying t = some (.slice e)) (hi : P.info? e = some i) (hz : i.zero = some (.int .i64 0)) (hs : i.size = 1) (n : Int) (hx : a.eval x = .int .i64 n)
    (h : K (a.put o.dst (.slice (some ⟨w.heap.size, 0, none⟩) 1 1)) (w.alloc (.cells #[.int .i64 n] e))) : o.wp P a w K Q := by
  unfold Oper.wp execOp
  simp only [ho, Sem.run_bind, Sem.run_pure, Result.andThen_ok, List.map_toArray, List.map_cons, List.map_nil, hx, run_build_int t e i ht hi hz hs n w]
  exact h
end
end Go.Proofs.Ytjddahidkodieaa
set_option linter.all false
set_option maxRecDepth 100000
namespace Go.Proofs.Ytjddahidkodieaa
open Go Go.RowKit

section
variable {P : Program}
theorem run_store1 (w : World) (b k : Nat) (ty : TypeId) (v : Value) (hc : (w.cell? ⟨b, k, none⟩).isSome = true) (hf : w.frozen? ⟨b, k, none⟩ = false) (hi : (P.info? ty).map (·.size) = some 1) (h1 : v.oneCell' = true) :
    (Instr.storeAt ty (.pointer (some ⟨b, k, none⟩)) v).run P w = .ok () (w.setCell ⟨b, k, none⟩ v) := by
  have := run_storeCells_cells (P := P) b k [v] 0 w (fun j hj => by have : j = 0 := by simpa using hj
                                                                    subst this; simpa using hc)
    (fun j hj => by have : j = 0 := by simpa using hj
                    subst this; simpa using hf) (fun x hx => by simp at hx; subst hx; exact h1)
  have hv : v.cells = #[v] := by cases v <;> first | rfl | cases h1
  cases hq : P.info? ty with
  | none => simp [hq] at hi
  | some i =>
    have hs : i.size = 1 := by simpa [hq] using hi
    simp only [Nat.add_zero] at this
    simp only [Instr.storeAt, Instr.sureAddr, Sem.run_bind, Sem.run_pure, Result.andThen_ok]
    simp [storeVar, sizeOf, typeInfo, hq, hv, hs, this]
    rfl
variable {ops : Array Oper} {rest : List Oper} {o : Oper} {a : Act} {w : World} {Q : Exit → Act → World → Prop}
theorem wp_cell1 {K : Act → World → Prop} (ty : TypeId) (x y : Operand) (ho : o.op = .store ty x y) {v : Value} (hy : a.eval y = v) {b k : Nat} (hx : a.eval x = .pointer (some ⟨b, k, none⟩)) (hi : (P.info? ty).map (·.size) = some 1) (h1 : v.oneCell' = true)
    (hc : (w.cell? ⟨b, k, none⟩).isSome = true) (hf : w.frozen? ⟨b, k, none⟩ = false) (h : K (a.put o.dst undef) (w.setCell ⟨b, k, none⟩ v)) : o.wp P a w K Q := by
  unfold Oper.wp execOp
  simp only [ho, hx, hy, Sem.run_bind, run_store1 w b k ty v hc hf hi h1, Sem.run_pure, Result.andThen_ok]
  exact h
end
def vs (n : Nat) (g : Nat → Value) : Array Value := ((List.range n).map g).toArray
theorem vs_size (n : Nat) (g : Nat → Value) : (vs n g).size = n := by simp [vs]
theorem vs_get {n : Nat} (g : Nat → Value) {j : Nat} (hj : j < n) : (vs n g)[j]? = some (g j) := by simp [vs, hj]
theorem vs_congr {n : Nat} {g g' : Nat → Value} (h : ∀ j, j < n → g j = g' j) : vs n g = vs n g' := by
  unfold vs
  rw [List.map_congr_left fun j hj => h j (List.mem_range.1 hj)]
def updC (g : Nat → Value) (j : Nat) (v : Value) : Nat → Value := fun i => if i = j then v else g i
theorem vs_set (n : Nat) (g : Nat → Value) (j : Nat) (v : Value) : (vs n g).setIfInBounds j v = vs n (updC g j v) := by
  apply Array.ext_getElem?
  intro i
  rw [Array.getElem?_setIfInBounds]
  by_cases hi : i < n
  · by_cases hij : j = i
    · subst hij; rw [if_pos rfl, if_pos (by rw [vs_size]; exact hi), vs_get _ hi]; simp [updC]
    · rw [if_neg hij, vs_get _ hi, vs_get _ hi]
      simp [updC, Ne.symm hij]
  · have h1 : (vs n g)[i]? = none := Array.getElem?_eq_none (by rw [vs_size]; omega)
    have h2 : (vs n (updC g j v))[i]? = none := Array.getElem?_eq_none (by rw [vs_size]; omega)
    rw [h1, h2]
    split
    · rename_i hij; subst hij; simp [vs_size, hi]
    · rfl
theorem vs_all {n : Nat} {g : Nat → Value} (h : ∀ i, (g i).oneCell' = true) : (vs n g).all (·.oneCell') = true := by
  rw [Array.all_eq_true_iff_forall_mem]
  intro v hv
  simp only [vs, List.mem_toArray, List.mem_map] at hv
  obtain ⟨i, _, rfl⟩ := hv
  exact h i
end Go.Proofs.Ytjddahidkodieaa
set_option linter.all false
set_option maxRecDepth 100000
namespace Go.Proofs.Ytjddahidkodieaa
open Go Go.RowKit

end Go.Proofs.Ytjddahidkodieaa

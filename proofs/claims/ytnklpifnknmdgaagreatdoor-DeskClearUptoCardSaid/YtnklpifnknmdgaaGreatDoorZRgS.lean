import Derived.Test.YtnklpifnknmdgaaGreatDoorZTr
import Derived.Test.YtnklpifnknmdgaaGreatDoorRows
import Derived.WalkKit
import Derived.WalkSpells
import Derived.WalkLawsBesides
import Derived.Lib.Hide
import Derived.Test.YtnklpifnknmdgaaGreatDoorZGu
import Derived.Test.YtnklpifnknmdgaaGreatDoorZKeepTw
import Derived.RangeFuncBox
import Derived.Test.YtnklpifnknmdgaaGreatDoorZBs
import Derived.Test.YtnklpifnknmdgaaGreatDoorZTrace4
import Derived.Test.YtnklpifnknmdgaaGreatDoorZGrow
import Derived.Test.YtnklpifnknmdgaaGreatDoorZOr
set_option linter.all false
set_option maxRecDepth 100000
namespace Go.Proofs.YtnklpifnknmdgaaGreatDoor
open Go Go.RowKit

def Chn (P : Nat → Nat → Bool) : List Nat → Prop
  | [] => True
  | [_] => True
  | a :: b :: r => P a b = true ∧ Chn P (b :: r)
theorem chn_join {P : Nat → Nat → Bool} {b : Nat} {y : List Nat} : ∀ {x : List Nat}, Chn P (x ++ b :: y) ↔ Chn P (x ++ [b]) ∧ Chn P (b :: y)
  | [] => ⟨fun h => ⟨trivial, h⟩, fun h => h.2⟩
  | [a] => ⟨fun h => ⟨⟨h.1, trivial⟩, h.2⟩, fun h => ⟨h.1.1, h.2⟩⟩
  | a :: c :: x => by
    have ih := chn_join (P := P) (b := b) (y := y) (x := c :: x)
    constructor
    · intro h
      obtain ⟨h1, h2⟩ := ih.1 h.2
      exact ⟨⟨h.1, h1⟩, h2⟩
    · intro h
      exact ⟨h.1.1, ih.2 ⟨h.1.2, h.2⟩⟩
def Cyc (P : Nat → Nat → Bool) : List Nat → Prop
  | [] => False
  | a :: s => Chn P (a :: (s ++ [a]))
theorem cyc_turn {P : Nat → Nat → Bool} {x y : List Nat} {b : Nat} (h : Cyc P (x ++ b :: y)) : Cyc P (b :: (y ++ x)) := by
  cases x with
  | nil => simpa using h
  | cons a x =>
    have h1 : Chn P ((a :: x) ++ b :: (y ++ [a])) := by simpa [Cyc] using h
    obtain ⟨h2, h3⟩ := chn_join.1 h1
    show Chn P (b :: ((y ++ a :: x) ++ [b]))
    have : Chn P ((b :: y) ++ a :: (x ++ [b])) := chn_join.2 ⟨h3, h2⟩
    simpa using this
theorem cyc_short {P : Nat → Nat → Bool} {x y z : List Nat} {b : Nat} (h : Cyc P (x ++ b :: (y ++ b :: z))) : Cyc P (b :: y) := by
  have h1 := cyc_turn h
  have h2 : Chn P ((b :: y) ++ b :: (z ++ x ++ [b])) := by simpa [Cyc] using h1
  exact (chn_join.1 h2).1
theorem two_places {r : List Nat} (h : ¬ r.Nodup) : ∃ x b y z, r = x ++ b :: (y ++ b :: z) := by
  induction r with
  | nil => exact absurd List.nodup_nil h
  | cons a r ih =>
    rw [List.nodup_cons] at h
    by_cases ha : a ∈ r
    · obtain ⟨y, z, rfl⟩ := List.append_of_mem ha
      exact ⟨[], a, y, z, rfl⟩
    · obtain ⟨x, b, y, z, rfl⟩ := ih (fun h9 => h ⟨ha, h9⟩)
      exact ⟨a :: x, b, y, z, rfl⟩
def Five (P : Nat → Nat → Bool) : Prop := ∀ a b, P a b = true → a < 5 ∧ b < 5
theorem chn_five {P : Nat → Nat → Bool} (h5 : Five P) : ∀ {r : List Nat} {a : Nat}, Chn P (r ++ [a]) → ∀ k ∈ r, k < 5
  | [], _, _, _, hk => by cases hk
  | [b], a, h, k, hk => by
    obtain rfl := List.mem_singleton.1 hk
    exact (h5 _ _ h.1).1
  | b :: c :: r, a, h, k, hk => by
    rcases List.mem_cons.1 hk with rfl | hk
    · exact (h5 _ _ h.1).1
    · exact chn_five h5 (r := c :: r) (a := a) h.2 k hk
theorem cyc_five {P : Nat → Nat → Bool} (h5 : Five P) {r : List Nat} (h : Cyc P r) : ∀ k ∈ r, k < 5 := by
  cases r with
  | nil => intro k hk; cases hk
  | cons a s => exact chn_five h5 (r := a :: s) (a := a) h
theorem cyc_pos {P : Nat → Nat → Bool} {r : List Nat} (h : Cyc P r) : 0 < r.length := by
  cases r with
  | nil => exact h.elim
  | cons a s => simp
theorem nodup_five {r : List Nat} (h : r.Nodup) (h5 : ∀ k ∈ r, k < 5) : r.length ≤ 5 := by
  have := List.Nodup.length_le_of_subset h (l₂ := List.range 5) (fun k hk => List.mem_range.2 (h5 k hk))
  simpa using this
theorem least_nodup {P : Nat → Nat → Bool} {r : List Nat} (h : Cyc P r) (hl : ∀ s, Cyc P s → r.length ≤ s.length) : r.Nodup := by
  apply Classical.byContradiction
  intro hn
  obtain ⟨x, b, y, z, rfl⟩ := two_places hn
  have := hl _ (cyc_short h)
  simp at this
  omega
theorem cyc_least {P : Nat → Nat → Bool} : ∀ {n : Nat} {r : List Nat}, r.length ≤ n → Cyc P r → ∃ s, Cyc P s ∧ s.length ≤ r.length ∧ s.Nodup
  | 0, r, hn, h => absurd (cyc_pos h) (by omega)
  | n + 1, r, hn, h => by
    by_cases hd : r.Nodup
    · exact ⟨r, h, Nat.le_refl _, hd⟩
    · obtain ⟨x, b, y, z, rfl⟩ := two_places hd
      have hs := cyc_short h
      obtain ⟨s, h1, h2, h3⟩ := cyc_least (n := n) (by simp at hn ⊢; omega) hs
      exact ⟨s, h1, by simp at h2 ⊢; omega, h3⟩
def lx : List Nat → List Nat → Prop
  | a :: r, b :: s => a < b ∨ (a = b ∧ lx r s)
  | _, _ => False
theorem lx_tri : ∀ {r s : List Nat}, r.length = s.length → ¬ lx r s → ¬ lx s r → r = s
  | [], [], _, _, _ => rfl
  | [], _ :: _, h, _, _ => by simp at h
  | _ :: _, [], h, _, _ => by simp at h
  | a :: r, b :: s, h, h1, h2 => by
    unfold lx at h1 h2
    have hab : a = b := by
      rcases Nat.lt_trichotomy a b with h9 | h9 | h9
      · exact absurd (.inl h9) h1
      · exact h9
      · exact absurd (.inl h9) h2
    subst hab
    rw [lx_tri (r := r) (s := s) (by simpa using h) (fun h9 => h1 (.inr ⟨rfl, h9⟩)) (fun h9 => h2 (.inr ⟨rfl, h9⟩))]
theorem rlx_irr : ∀ {r : List Nat}, ¬ lx r r
  | [], h => h
  | a :: r, h => by
    rcases h with h | h
    · omega
    · exact rlx_irr h.2
def RingOk (P : Nat → Nat → Bool) (r : List Nat) : Prop :=
  (r = [] ∧ ∀ s, ¬ Cyc P s) ∨ (Cyc P r ∧ (∀ s, Cyc P s → r.length ≤ s.length) ∧ ∀ s, Cyc P s → s.length = r.length → ¬ lx s r)
theorem ring_uniq {P : Nat → Nat → Bool} {r s : List Nat} (hr : RingOk P r) (hs : RingOk P s) : r = s := by
  rcases hr with ⟨rfl, h1⟩ | ⟨h1, h2, h3⟩
  · rcases hs with ⟨rfl, _⟩ | ⟨h4, _⟩
    · rfl
    · exact absurd h4 (h1 _)
  · rcases hs with ⟨rfl, h4⟩ | ⟨h4, h5, h6⟩
    · exact absurd h1 (h4 _)
    · have hl : r.length = s.length := Nat.le_antisymm (h2 _ h4) (h5 _ h1)
      exact lx_tri hl (h6 _ h1 hl) (h3 _ h4 hl.symm)
end Go.Proofs.YtnklpifnknmdgaaGreatDoor
set_option linter.all false
set_option maxRecDepth 100000
namespace Go.Proofs.YtnklpifnknmdgaaGreatDoor
open Go Go.RowKit

end Go.Proofs.YtnklpifnknmdgaaGreatDoor
namespace Go.Proofs.YtnklpifnknmdgaaGreatDoor
open Go Go.RowKit

def SI (w : World) (A : Option Addr) (n : Nat) (l : List Int) : Prop :=
  l.length = n ∧ (0 < n → ∃ b o, A = some ⟨b, o, none⟩ ∧ ∀ i, i < n → w.cell? ⟨b, o + i, none⟩ = some (.int .i64 (l[i]?.getD 0)))
theorem SI.keep {w w' : World} {A : Option Addr} {n : Nat} {l : List Int} (h : SI w A n l) (hb : Bel w w') : SI w' A n l :=
  ⟨h.1, fun h0 => by
    obtain ⟨b, o, hA, hc⟩ := h.2 h0
    exact ⟨b, o, hA, fun i hi => hb.cell (hc i hi)⟩⟩
end Go.Proofs.YtnklpifnknmdgaaGreatDoor
set_option linter.all false
set_option maxRecDepth 100000
namespace Go.Proofs.YtnklpifnknmdgaaGreatDoor
open Go Go.RowKit

def intq (l : List Int) : List Value := l.map (Value.int .i64)
def toI (r : List Nat) : List Int := r.map fun k => ((k : Nat) : Int)
theorem qint_info : (Tryz.prog.info? 3).map (fun i => (i.zero, i.size, i.bytes)) = some (some (.int .i64 0), 1, 8) := by kernel_rfl
theorem wpList_append_src {P : Program} {ops : Array Oper} {rest : List Oper} {o : Oper} {a : Act} {w : World} {Q : Exit → Act → World → Prop} (hgd : o.guard = none) (s x : Operand) (t : TypeId)
    (ho : o.op = .call { callee := .builtin .append, args := #[s, x], argTypes := #[t, t] })
    (base : Nat) (e : TypeId) (i : TypeInfo) (z : Value) (size bytes : Nat) (ht : P.underlying t = some (.slice e)) (hi : P.info? e = some i) (hz : i.zero = some z)
    (hsize : i.size = size) (hby : i.bytes = bytes) (hzs : z.cells.size = size) (hsz : 0 < size)
    (v : Value) (n : Nat) (xs : List Value) (hv : a.eval s = v) (hown : w.ownsRow base e size v n xs)
    (A : Option Addr) (m c : Nat) (news : List Value) (hx : a.eval x = .slice A m c) (hl : news.length = m * size) (hs : Src w A m news) (h1 : ∀ u ∈ news, u.oneCell' = true)
    (h63 : n + m ≤ maxLen) (hbytes : (n + m) * bytes ≤ 140737488355328) (hbase : base ≤ w.heap.size)
    (h : ∀ v' w', w'.ownsRow base e size v' (n + m) (xs ++ news) → w.grownBy w' v.ownBlock → (v'.ownBlock = v.ownBlock ∨ v'.ownBlock = some w.heap.size) → wpList P ops Q rest (a.put o.dst v') w') : wpList P ops Q (o :: rest) a w :=
  wpList_plain hgd fun _ hK => wp_append_src s x t ho base e i z size bytes ht hi hz hsize hby hzs hsz v n xs hv hown A m c news hx hl hs h1 h63 hbytes hbase (fun v' w' a b c => hK _ _ (h v' w' a b c))
theorem fill1 {n : Nat} (hn : n = 1) (f : Fin n → Value) (a : Value) : (Array.ofFn f).setIfInBounds 0 a = #[a] := by
  subst hn
  apply Array.ext
  · simp
  · intro i h1 h2
    have hi : i < 1 := by simpa using h2
    match i, hi with
    | 0, _ => simp [Array.getElem_setIfInBounds]
theorem run_build_int {P : Program} (t e : TypeId) (i : TypeInfo) (ht : P.underlying t = some (.slice e)) (hi : P.info? e = some i) (hz : i.zero = some (.int .i64 0)) (hs : i.size = 1) (x : Int) (w : World) :
    (Instr.buildSlice t 1 #[(0, .int .i64 x)]).run P w = .ok (.slice (some ⟨w.heap.size, 0, none⟩) 1 1) (w.alloc (.cells #[.int .i64 x] e)) := by
  simp [Instr.buildSlice, Sem.run_bind, run_underlying ht, sizeOf, typeInfo, hi, hs, zeroValue, hz, Instr.fill, Value.cells, newRow, newObj, List.zipIdx, Array.range, Result.andThen, go_sem]
  rw [fill1 (by rw [hs])]
  rfl
section
variable {ops : Array Oper} {o : Oper} {a : Act} {w : World} {K : Act → World → Prop} {Q : Exit → Act → World → Prop}
theorem wp_build_int (t : TypeId) (x : Operand) (ho : o.op = .buildSlice t 1 #[(0, x)]) (e : TypeId) (i : TypeInfo) {P : Program} (ht : P.underlying t = some (.slice e)) (hi : P.info? e = some i) (hz : i.zero = some (.int .i64 0)) (hs : i.size = 1) (n : Int) (hx : a.eval x = .int .i64 n)
    (h : K (a.put o.dst (.slice (some ⟨w.heap.size, 0, none⟩) 1 1)) (w.alloc (.cells #[.int .i64 n] e))) : o.wp P a w K Q := by
  unfold Oper.wp execOp
  simp only [ho, Sem.run_bind, Sem.run_pure, Result.andThen_ok, List.map_toArray, List.map_cons, List.map_nil, hx, run_build_int t e i ht hi hz hs n w]
  exact h
end
end Go.Proofs.YtnklpifnknmdgaaGreatDoor
set_option linter.all false
set_option maxRecDepth 100000
namespace Go.Proofs.YtnklpifnknmdgaaGreatDoor
open Go Go.RowKit

theorem own_formI {w : World} {base : Nat} {t : TypeId} {v : Value} {xs : List Value} {n size : Nat} (h : w.ownsRow base t size v n xs) : ∃ A c, v = .slice A n c := by
  rcases h.2 with ⟨rfl, rfl⟩ | ⟨g, cap, cur, rfl, _⟩
  · exact ⟨_, _, rfl⟩
  · exact ⟨_, _, rfl⟩
theorem fill1r {n : Nat} (hn : n = 1) (f : Fin n → Value) (a : Value) : (Array.ofFn f).setIfInBounds 0 a = #[a] := by
  subst hn
  apply Array.ext
  · simp
  · intro i h1 h2
    have hi : i < 1 := by simpa using h2
    match i, hi with
    | 0, _ => simp [Array.getElem_setIfInBounds]
theorem run_buildI {P : Program} (t e : TypeId) (i : TypeInfo) (ht : P.underlying t = some (.slice e)) (hi : P.info? e = some i) (hz : i.zero = some (.int .i64 0)) (hs : i.size = 1) (x : Int) (w : World) :
    (Instr.buildSlice t 1 #[(0, .int .i64 x)]).run P w = .ok (.slice (some ⟨w.heap.size, 0, none⟩) 1 1) (w.alloc (.cells #[.int .i64 x] e)) := by
  simp [Instr.buildSlice, Sem.run_bind, run_underlying ht, sizeOf, typeInfo, hi, hs, zeroValue, hz, Instr.fill, Value.cells, newRow, newObj, List.zipIdx, Array.range, Result.andThen, go_sem]
  rw [fill1r (by rw [hs])]
  rfl
theorem buildI {P : Program} {ops : Array Oper} {rest : List Oper} {o : Oper} {a : Act} {w : World} {Q : Exit → Act → World → Prop} (t : TypeId) (x : Operand) (ho : o.op = .buildSlice t 1 #[(0, x)]) (hgd : o.guard = none) (e : TypeId) (i : TypeInfo) (ht : P.underlying t = some (.slice e)) (hi : P.info? e = some i)
    (hz : i.zero = some (.int .i64 0)) (hs : i.size = 1) (n : Int) (hx : a.eval x = .int .i64 n)
    (h : wpList P ops Q rest (a.put o.dst (.slice (some ⟨w.heap.size, 0, none⟩) 1 1)) (w.alloc (.cells #[.int .i64 n] e))) : wpList P ops Q (o :: rest) a w :=
  wpList_plain hgd fun _ hK' => by
    have h9 := hK' _ _ h
    unfold Oper.wp execOp
    simp only [ho, Sem.run_bind, Sem.run_pure, Result.andThen_ok, List.map_toArray, List.map_cons, List.map_nil, hx, run_buildI t e i ht hi hz hs n w]
    exact h9
theorem toI_app (r : List Nat) (k : Nat) : intq (toI (r ++ [k])) = intq (toI r) ++ [.int .i64 k] := by simp [intq, toI]
end Go.Proofs.YtnklpifnknmdgaaGreatDoor
set_option linter.all false
set_option maxRecDepth 100000
namespace Go.Proofs.YtnklpifnknmdgaaGreatDoor
open Go Go.RowKit

def qrl (p : Int × Int) : List Value := [.int .i64 p.1, .int .i64 p.2]
def qrv (p : Int × Int) : Array Value := #[.int .i64 p.1, .int .i64 p.2]
theorem qrv_all (p : Int × Int) : (qrv p).all (·.oneCell') = true := by simp [qrv, Value.oneCell']
def qrc : List (Int × Int) → List Value
  | [] => []
  | p :: l => .int .i64 p.1 :: .int .i64 p.2 :: qrc l
theorem qrc_length (l : List (Int × Int)) : (qrc l).length = l.length * 2 := by
  induction l with
  | nil => rfl
  | cons e l ih => simp only [qrc, List.length_cons, ih]; omega
theorem qrc_get (l : List (Int × Int)) (i : Nat) (p : Int × Int) (h : l[i]? = some p) : (qrc l)[i * 2]? = some (.int .i64 p.1) ∧ (qrc l)[i * 2 + 1]? = some (.int .i64 p.2) := by
  induction l generalizing i with
  | nil => simp at h
  | cons x l ih =>
    cases i with
    | zero => simp at h; subst h; exact ⟨rfl, rfl⟩
    | succ i =>
      have := ih i (by simpa using h)
      simp only [qrc]
      rw [show (i + 1) * 2 = i * 2 + 1 + 1 by omega]
      simpa using this
theorem qrc_at {l : List (Int × Int)} {i : Nat} {p : Int × Int} (h : l[i]? = some p) (j : Nat) (v : Value) (hv : (qrl p)[j]? = some v) : (qrc l)[i * 2 + j]? = some v := by
  obtain ⟨h0, h1⟩ := qrc_get l i p h
  match j, hv with
  | 0, hv => simp [qrl] at hv; subst hv; simpa using h0
  | 1, hv => simp [qrl] at hv; subst hv; exact h1
  | j + 2, hv => simp [qrl] at hv
def SlQ (w : World) (A : Option Addr) (n : Nat) (l : List (Int × Int)) : Prop :=
  l.length = n ∧ (0 < n → ∃ b off, A = some ⟨b, off, none⟩ ∧ b < w.heap.size ∧ w.rangeAt b off (qrc l))
theorem SlQ.bel {w w' : World} {A : Option Addr} {n : Nat} {l : List (Int × Int)} (h : SlQ w A n l) (hb : Bel w w') : SlQ w' A n l :=
  ⟨h.1, fun hn => by
    obtain ⟨b, off, hA, hlt, hr⟩ := h.2 hn
    exact ⟨b, off, hA, Nat.lt_of_lt_of_le hlt hb.size, rangeAt_below hb.out hlt hr⟩⟩
theorem SlQ.at_ {w : World} {A : Option Addr} {n : Nat} {l : List (Int × Int)} (h : SlQ w A n l) {i : Nat} (hi : i < n) :
    ∃ b off p, A = some ⟨b, off, none⟩ ∧ b < w.heap.size ∧ l[i]? = some p ∧ w.rangeAt b (off + i * 2) (qrl p) := by
  obtain ⟨b, off, hA, hlt, hr⟩ := h.2 (by omega)
  have hl : i < l.length := by rw [h.1]; exact hi
  exact ⟨b, off, l[i], hA, hlt, List.getElem?_eq_getElem hl, range_part hr fun j v hv => qrc_at (List.getElem?_eq_getElem hl) j v hv⟩
theorem SlQ.own {w : World} {base : Nat} {t : TypeId} {v : Value} {n : Nat} {l : List (Int × Int)} (h : w.ownsRow base t 2 v n (qrc l)) : ∃ A c, v = .slice A n c ∧ SlQ w A n l ∧ n ≤ c ∧ c ≤ maxLen := by
  have hl : l.length = n := by have := h.1; rw [qrc_length] at this; omega
  rcases h.2 with ⟨rfl, rfl⟩ | ⟨g, cap, cur, rfl, hg, hh, hn, hc, hs, ht⟩
  · exact ⟨none, 0, rfl, ⟨hl, fun h => absurd h (by omega)⟩, by omega, by omega⟩
  · have hb : Box w g cur t := hh
    refine ⟨_, cap, rfl, ⟨hl, fun _ => ⟨g, 0, rfl, hb.lt, fun j v hv => ?_⟩⟩, hn, hc⟩
    rw [Nat.zero_add]
    refine hb.cell j ?_
    rw [← ht, List.getElem?_take] at hv
    split at hv
    · simpa using hv
    · cases hv
def qwld (w : World) (p : Int × Int) (t : TypeId) : World := (w.alloc (.cells #[.int .i64 0, .int .i64 0] t)).setRow w.heap.size (qrv p)
theorem qwld_box (w : World) (p : Int × Int) (t : TypeId) : Box (qwld w p t) w.heap.size (qrv p) t := (Box.new w _ t).setRow _
theorem qwld_below (w : World) (p : Int × Int) (t : TypeId) : Bel w (qwld w p t) := below_setRow' ((Below.refl _ _).alloc (Nat.le_refl _) _) _ _ (Nat.le_refl _)
theorem qwld_store {P : Program} {ops : Array Oper} {rest : List Oper} {o : Oper} {a : Act} {w' w : World} {Q : Exit → Act → World → Prop} {ty : TypeId} (hT : RowTy P ty 2) (x y : Operand) (ho : o.op = .store ty x y) (hgd : o.guard = none) {p : Int × Int} (t : TypeId)
    (hy : a.eval y = .agg (qrv p)) (hw : w' = w.alloc (.cells #[.int .i64 0, .int .i64 0] t)) (hx : a.eval x = .pointer (some ⟨w.heap.size, 0, none⟩))
    (h : wpList P ops Q rest (a.put o.dst undef) (qwld w p t)) : wpList P ops Q (o :: rest) a w' := by
  subst hw
  exact storeB ty x y ho hgd hx hy (Box.new w _ t) rfl hT (qrv_all p) h
theorem load_qr {P : Program} {ops : Array Oper} {rest : List Oper} {o : Oper} {a : Act} {w : World} {Q : Exit → Act → World → Prop} {ty : TypeId} (hT : RowTy P ty 2) (x : Operand) (ho : o.op = .load ty x) (hgd : o.guard = none) {b off : Nat} {p : Int × Int}
    (hx : a.eval x = .pointer (some ⟨b, off, none⟩)) (hr : w.rangeAt b off (qrl p))
    (h : wpList P ops Q rest (a.put o.dst (.agg (qrv p))) w) : wpList P ops Q (o :: rest) a w := by
  obtain ⟨d, hu, hd, hi⟩ := hT
  exact wpList_load_mid hgd ty x ho b off hx (qrl p) d hr hu hd hi h
def intp (p : Nat × Nat) : Int × Int := (p.1, p.2)
theorem prc_qrc (l : List (Nat × Nat)) : prc l = qrc (l.map intp) := by
  induction l with
  | nil => rfl
  | cons p l ih => simp only [prc, List.map_cons, qrc, ih]; rfl
end Go.Proofs.YtnklpifnknmdgaaGreatDoor
set_option linter.all false
set_option maxRecDepth 100000
namespace Go.Proofs.YtnklpifnknmdgaaGreatDoor
open Go Go.RowKit

def qbad (x : Int × Int) : Bool := outs x.1 0 4 || outs x.2 0 4
def Pq (l : List (Int × Int)) (a b : Nat) : Bool := decide ((((a : Nat) : Int), ((b : Nat) : Int)) ∈ l)
def at0 (r : List Nat) (i : Nat) : Nat := r[i]?.getD 0
end Go.Proofs.YtnklpifnknmdgaaGreatDoor
set_option linter.all false
set_option maxRecDepth 100000
namespace Go.Proofs.YtnklpifnknmdgaaGreatDoor
open Go Go.RowKit

end Go.Proofs.YtnklpifnknmdgaaGreatDoor
set_option linter.all false
set_option maxRecDepth 100000
namespace Go.Proofs.YtnklpifnknmdgaaGreatDoor

theorem at0_end {r : List Nat} {a : Nat} : at0 (r ++ [a]) r.length = a := by
  unfold at0; simp
theorem pq_five {l : List (Int × Int)} (h : l.any qbad = false) : Five (Pq l) := by
  intro a b hab
  have hm : (((a : Nat) : Int), ((b : Nat) : Int)) ∈ l := of_decide_eq_true hab
  have h9 := List.any_eq_false.1 h _ hm
  simp [qbad, outs] at h9
  omega
end Go.Proofs.YtnklpifnknmdgaaGreatDoor
set_option linter.all false
set_option maxRecDepth 100000
namespace Go.Proofs.YtnklpifnknmdgaaGreatDoor
open Go.ChangeShapes Go.WideShapes Go.ChangeAt Go.RowKit

section
variable {H : Type} {enc : TypeId × Value → H} {P : Program} {w : World} {base : Nat} {spare : Nat → Bool} {held : Bool}
end
end Go.Proofs.YtnklpifnknmdgaaGreatDoor
set_option linter.all false
set_option maxRecDepth 100000
namespace Go.Proofs.YtnklpifnknmdgaaGreatDoor
open Go Go.RowKit

def RingB (l : List (Int × Int)) (r : List Nat) (c : Int) : Prop :=
  (l.any qbad = true ∧ r = [] ∧ c = 1) ∨ (l.any qbad = false ∧ c = 0 ∧ RingOk (Pq l) r)
theorem ringB_uniq {l : List (Int × Int)} {r s : List Nat} {c d : Int} (h : RingB l r c) (k : RingB l s d) : r = s ∧ c = d := by
  rcases h with ⟨h1, h2, h3⟩ | ⟨h1, h2, h3⟩
  · rcases k with ⟨k1, k2, k3⟩ | ⟨k1, k2, k3⟩
    · exact ⟨h2.trans k2.symm, h3.trans k3.symm⟩
    · rw [h1] at k1; cases k1
  · rcases k with ⟨k1, k2, k3⟩ | ⟨k1, k2, k3⟩
    · rw [h1] at k1; cases k1
    · exact ⟨ring_uniq h3 k3, h2.trans k2.symm⟩
end Go.Proofs.YtnklpifnknmdgaaGreatDoor
set_option linter.all false
set_option maxRecDepth 100000
namespace Go.Proofs.YtnklpifnknmdgaaGreatDoor
open Go Go.RowKit

def lst (r : List Nat) : Nat := at0 r (r.length - 1)
theorem lst_snoc (r : List Nat) (a : Nat) : lst (r ++ [a]) = a := by
  unfold lst
  rw [List.length_append, List.length_singleton, Nat.add_sub_cancel]
  exact at0_end
def goes (P : Nat → Nat → Bool) (s : List Nat) (k : Nat) : Bool := s.isEmpty || P (lst s) k
def comp (P : Nat → Nat → Bool) : Nat → List Nat → Option (List Nat)
  | 0, s => if P (lst s) (at0 s 0) then some s else none
  | f + 1, s => (List.range 5).findSome? fun k => if goes P s k then comp P f (s ++ [k]) else none
def cand (P : Nat → Nat → Bool) (f : Nat) (s : List Nat) (k : Nat) : Option (List Nat) := if goes P s k then comp P f (s ++ [k]) else none
theorem comp_succ (P : Nat → Nat → Bool) (f : Nat) (s : List Nat) : comp P (f + 1) s = (List.range 5).findSome? (cand P f s) := rfl
theorem first_hit {α : Type} {g : Nat → Option α} {n k : Nat} {r : α} (hk : k < n) (h : ∀ j, j < k → g j = none) (hr : g k = some r) : (List.range n).findSome? g = some r := by
  induction n with
  | zero => omega
  | succ n ih =>
    rw [List.range_succ, List.findSome?_append]
    by_cases h9 : k < n
    · rw [ih h9]; rfl
    · obtain rfl : k = n := by omega
      have : (List.range k).findSome? g = none := by
        rw [List.findSome?_eq_none_iff]
        intro j hj
        exact h j (List.mem_range.1 hj)
      rw [this]
      simp [hr]
theorem first_miss {α : Type} {g : Nat → Option α} {n : Nat} (h : ∀ j, j < n → g j = none) : (List.range n).findSome? g = none := by
  rw [List.findSome?_eq_none_iff]
  intro j hj
  exact h j (List.mem_range.1 hj)
theorem first_some {α : Type} {g : Nat → Option α} {n : Nat} {r : α} (h : (List.range n).findSome? g = some r) : ∃ k, k < n ∧ g k = some r ∧ ∀ j, j < k → g j = none := by
  induction n with
  | zero => simp at h
  | succ n ih =>
    rw [List.range_succ, List.findSome?_append] at h
    cases h9 : (List.range n).findSome? g with
    | some y =>
      rw [h9] at h
      obtain ⟨k, h1, h2, h3⟩ := ih (by rw [h9]; simpa using h)
      exact ⟨k, by omega, h2, h3⟩
    | none =>
      rw [h9] at h
      rw [List.findSome?_eq_none_iff] at h9
      exact ⟨n, by omega, by simpa using h, fun j hj => h9 j (List.mem_range.2 hj)⟩
theorem first_none {α : Type} {g : Nat → Option α} {n : Nat} (h : (List.range n).findSome? g = none) : ∀ j, j < n → g j = none := by
  rw [List.findSome?_eq_none_iff] at h
  intro j hj
  exact h j (List.mem_range.2 hj)
theorem comp_hit {P : Nat → Nat → Bool} {f k : Nat} {s r : List Nat} (hk : k < 5) (h : ∀ j, j < k → cand P f s j = none) (hr : cand P f s k = some r) : comp P (f + 1) s = some r := first_hit hk h hr
theorem comp_miss {P : Nat → Nat → Bool} {f : Nat} {s : List Nat} (h : ∀ j, j < 5 → cand P f s j = none) : comp P (f + 1) s = none := first_miss h

theorem chn_snoc {P : Nat → Nat → Bool} {s : List Nat} {k : Nat} (h : Chn P s) (hg : goes P s k = true) : Chn P (s ++ [k]) := by
  rcases List.eq_nil_or_concat s with rfl | ⟨t, a, rfl⟩
  · trivial
  · rw [List.concat_eq_append] at h hg ⊢
    have : P a k = true := by
      unfold goes at hg
      rw [lst_snoc] at hg
      simpa using hg
    rw [List.append_assoc]
    exact chn_join.2 ⟨h, ⟨this, trivial⟩⟩
theorem goes_chn {P : Nat → Nat → Bool} {s t : List Nat} {k : Nat} (h : Chn P (s ++ k :: t)) : goes P s k = true := by
  rcases List.eq_nil_or_concat s with rfl | ⟨u, a, rfl⟩
  · rfl
  · rw [List.concat_eq_append] at h ⊢
    unfold goes
    rw [lst_snoc]
    rw [List.append_assoc] at h
    have := (chn_join.1 h).2.1
    rw [this]; simp
theorem cyc_close {P : Nat → Nat → Bool} {s : List Nat} (hs : s ≠ []) : Cyc P s ↔ Chn P s ∧ P (lst s) (at0 s 0) = true := by
  cases s with
  | nil => exact absurd rfl hs
  | cons a t =>
    show Chn P (a :: (t ++ [a])) ↔ _
    rcases List.eq_nil_or_concat t with rfl | ⟨u, b, rfl⟩
    · exact ⟨fun h => ⟨trivial, h.1⟩, fun h => ⟨h.2, trivial⟩⟩
    · rw [List.concat_eq_append]
      have e1 : lst (a :: (u ++ [b])) = b := lst_snoc (a :: u) b
      have e2 : a :: (u ++ [b] ++ [a]) = (a :: u) ++ b :: [a] := by simp
      rw [e1, e2]
      constructor
      · intro h
        obtain ⟨h1, h2⟩ := chn_join.1 h
        exact ⟨by simpa using h1, h2.1⟩
      · intro h
        exact chn_join.2 ⟨by simpa using h.1, ⟨h.2, trivial⟩⟩
theorem cyc_chn {P : Nat → Nat → Bool} {s : List Nat} (h : Cyc P s) : Chn P s := ((cyc_close (fun e => by subst e; exact h)).1 h).1
theorem lx_app : ∀ {s a b : List Nat}, lx (s ++ a) (s ++ b) ↔ lx a b
  | [], a, b => Iff.rfl
  | x :: s, a, b => by
    have ih := lx_app (s := s) (a := a) (b := b)
    simp only [List.cons_append, lx, ih]
    constructor
    · rintro (h | h)
      · omega
      · exact h.2
    · intro h; exact .inr ⟨trivial, h⟩
theorem comp_none {P : Nat → Nat → Bool} (h5 : Five P) : ∀ {f : Nat} {s t : List Nat}, comp P f s = none → t.length = f → ¬ Cyc P (s ++ t)
  | 0, s, t, h, ht, hc => by
    obtain rfl := List.eq_nil_of_length_eq_zero ht
    rw [List.append_nil] at hc
    have := ((cyc_close (fun e => by subst e; exact hc)).1 hc).2
    rw [comp, if_pos this] at h
    cases h
  | f + 1, s, [], _, ht, _ => by simp at ht
  | f + 1, s, k :: t, h, ht, hc => by
    have hk : k < 5 := cyc_five h5 hc k (by simp)
    have h1 := first_none (comp_succ P f s ▸ h) k hk
    rw [cand, if_pos (goes_chn (cyc_chn hc))] at h1
    exact comp_none h5 (s := s ++ [k]) (t := t) h1 (by simpa using ht) (by rw [List.append_assoc]; exact hc)
theorem comp_some {P : Nat → Nat → Bool} (h5 : Five P) : ∀ {f : Nat} {s r : List Nat}, Chn P s → 0 < s.length + f → comp P f s = some r →
    Cyc P r ∧ r.length = s.length + f ∧ ∀ t, Cyc P (s ++ t) → t.length = f → ¬ lx (s ++ t) r
  | 0, s, r, hs, hp, h => by
    rw [comp] at h
    split at h
    · rename_i h1
      obtain rfl : s = r := by simpa using h
      refine ⟨(cyc_close (fun e => by subst e; simp at hp)).2 ⟨hs, h1⟩, rfl, fun t _ ht => ?_⟩
      obtain rfl := List.eq_nil_of_length_eq_zero ht
      rw [List.append_nil]
      exact rlx_irr
    · cases h
  | f + 1, s, r, hs, hp, h => by
    obtain ⟨k, hk, h1, h2⟩ := first_some (comp_succ P f s ▸ h)
    rw [cand] at h1
    split at h1
    · rename_i hg
      obtain ⟨a1, a2, a3⟩ := comp_some h5 (s := s ++ [k]) (chn_snoc hs hg) (by simp; omega) h1
      refine ⟨a1, by rw [a2]; simp; omega, fun t ht hl => ?_⟩
      cases t with
      | nil => simp at hl
      | cons j t =>
        have hj : j < 5 := cyc_five h5 ht j (by simp)
        rcases Nat.lt_trichotomy j k with h9 | rfl | h9
        · have h4 := h2 j h9
          rw [cand, if_pos (goes_chn (cyc_chn ht))] at h4
          exact absurd (by rw [List.append_assoc]; exact ht) (comp_none h5 (s := s ++ [j]) (t := t) h4 (by simpa using hl))
        · have := a3 t (by rw [List.append_assoc]; exact ht) (by simpa using hl)
          rwa [List.append_assoc] at this
        · intro hlx
          obtain ⟨u, hu⟩ := comp_pre h1
          rw [hu, List.append_assoc] at hlx
          have := lx_app.1 hlx
          rcases this with h8 | ⟨h8, _⟩ <;> omega
    · cases h1
where
  comp_pre {P : Nat → Nat → Bool} : ∀ {f : Nat} {s r : List Nat}, comp P f s = some r → ∃ t, r = s ++ t
    | 0, s, r, h => by
      rw [comp] at h
      split at h
      · exact ⟨[], by simpa using (by simpa using h : s = r).symm⟩
      · cases h
    | f + 1, s, r, h => by
      obtain ⟨k, _, h1, _⟩ := first_some (comp_succ P f s ▸ h)
      rw [cand] at h1
      split at h1
      · obtain ⟨t, rfl⟩ := comp_pre (s := s ++ [k]) h1
        exact ⟨k :: t, by simp⟩
      · cases h1
theorem ring_none {P : Nat → Nat → Bool} (h5 : Five P) (h : ∀ j, j < 5 → comp P (j + 1) [] = none) : RingOk P [] := by
  refine .inl ⟨rfl, fun s hs => ?_⟩
  obtain ⟨t, h1, _, h3⟩ := cyc_least (Nat.le_refl _) hs
  have hp := cyc_pos h1
  have hl := nodup_five h3 (cyc_five h5 h1)
  exact comp_none h5 (s := []) (t := t) (h (t.length - 1) (by omega)) (by omega) h1
theorem ring_some {P : Nat → Nat → Bool} (h5 : Five P) {n : Nat} {r : List Nat} (h : ∀ j, j < n → comp P (j + 1) [] = none) (hr : comp P (n + 1) [] = some r) : RingOk P r ∧ r.length = n + 1 := by
  obtain ⟨h1, h2, h3⟩ := comp_some h5 (s := []) trivial (by simp) hr
  simp at h2
  refine ⟨.inr ⟨h1, fun s hs => ?_, fun s hs hl => h3 s hs (by omega)⟩, h2⟩
  have hp := cyc_pos hs
  rw [h2]
  by_cases h9 : s.length < n + 1
  · exact absurd hs (comp_none h5 (s := []) (t := s) (h (s.length - 1) (by omega)) (by omega))
  · omega

end Go.Proofs.YtnklpifnknmdgaaGreatDoor

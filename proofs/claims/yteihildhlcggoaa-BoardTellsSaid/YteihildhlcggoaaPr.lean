/- Pairs of numbers: rows of pairs, '==' on them, the reference's Eq over them. | Contracts of the package order: pairs, of whatever relation. -/
import Derived.Test.YteihildhlcggoaaRows
import Derived.Test.YteihildhlcggoaaMid
import Derived.Test.YteihildhlcggoaaAppend
import Derived.Test.YteihildhlcggoaaOr
import Derived.Test.YteihildhlcggoaaKeepTw
import Derived.Maps.AppendAt
import Derived.IntWalk
set_option linter.all false
set_option maxRecDepth 100000
namespace Go.Proofs.Yteihildhlcggoaa
open Go Go.RowKit

def prl (p : Nat × Nat) : List Value := [.int .i64 p.1, .int .i64 p.2]
def prv (p : Nat × Nat) : Array Value := #[.int .i64 p.1, .int .i64 p.2]
theorem prv_all (p : Nat × Nat) : (prv p).all (·.oneCell') = true := by simp [prv, Value.oneCell']
def prc : List (Nat × Nat) → List Value
  | [] => []
  | p :: l => .int .i64 p.1 :: .int .i64 p.2 :: prc l
theorem prc_length (l : List (Nat × Nat)) : (prc l).length = l.length * 2 := by
  induction l with
  | nil => rfl
  | cons e l ih => simp only [prc, List.length_cons, ih]; omega
theorem prc_append (l m : List (Nat × Nat)) : prc (l ++ m) = prc l ++ prc m := by
  induction l with
  | nil => rfl
  | cons e l ih => simp only [List.cons_append, prc, ih]
theorem prc_get (l : List (Nat × Nat)) (i : Nat) (p : Nat × Nat) (h : l[i]? = some p) : (prc l)[i * 2]? = some (.int .i64 p.1) ∧ (prc l)[i * 2 + 1]? = some (.int .i64 p.2) := by
  induction l generalizing i with
  | nil => simp at h
  | cons x l ih =>
    cases i with
    | zero => simp at h; subst h; exact ⟨rfl, rfl⟩
    | succ i =>
      have := ih i (by simpa using h)
      simp only [prc]
      rw [show (i + 1) * 2 = i * 2 + 1 + 1 by omega]
      simpa using this
theorem prc_at {l : List (Nat × Nat)} {i : Nat} {p : Nat × Nat} (h : l[i]? = some p) (j : Nat) (v : Value) (hv : (prl p)[j]? = some v) : (prc l)[i * 2 + j]? = some v := by
  obtain ⟨h0, h1⟩ := prc_get l i p h
  match j, hv with
  | 0, hv => simp [prl] at hv; subst hv; simpa using h0
  | 1, hv => simp [prl] at hv; subst hv; exact h1
  | j + 2, hv => simp [prl] at hv
/-- A slice of pairs, nil let in. -/
def SlP (w : World) (A : Option Addr) (n : Nat) (l : List (Nat × Nat)) : Prop :=
  l.length = n ∧ (0 < n → ∃ b off, A = some ⟨b, off, none⟩ ∧ b < w.heap.size ∧ w.rangeAt b off (prc l))
theorem SlP.bel {w w' : World} {A : Option Addr} {n : Nat} {l : List (Nat × Nat)} (h : SlP w A n l) (hb : Bel w w') : SlP w' A n l :=
  ⟨h.1, fun hn => by
    obtain ⟨b, off, hA, hlt, hr⟩ := h.2 hn
    exact ⟨b, off, hA, Nat.lt_of_lt_of_le hlt hb.size, rangeAt_below hb.out hlt hr⟩⟩
theorem SlP.at_ {w : World} {A : Option Addr} {n : Nat} {l : List (Nat × Nat)} (h : SlP w A n l) {i : Nat} (hi : i < n) :
    ∃ b off p, A = some ⟨b, off, none⟩ ∧ b < w.heap.size ∧ l[i]? = some p ∧ w.rangeAt b (off + i * 2) (prl p) := by
  obtain ⟨b, off, hA, hlt, hr⟩ := h.2 (by omega)
  have hl : i < l.length := by rw [h.1]; exact hi
  exact ⟨b, off, l[i], hA, hlt, List.getElem?_eq_getElem hl, range_part hr fun j v hv => prc_at (List.getElem?_eq_getElem hl) j v hv⟩
theorem SlP.own {w : World} {base : Nat} {t : TypeId} {v : Value} {n : Nat} {l : List (Nat × Nat)} (h : w.ownsRow base t 2 v n (prc l)) : ∃ A c, v = .slice A n c ∧ SlP w A n l ∧ n ≤ c ∧ c ≤ maxLen := by
  have hl : l.length = n := by have := h.1; rw [prc_length] at this; omega
  rcases h.2 with ⟨rfl, rfl⟩ | ⟨g, cap, cur, rfl, hg, hh, hn, hc, hs, ht⟩
  · exact ⟨none, 0, rfl, ⟨hl, fun h => absurd h (by omega)⟩, by omega, by omega⟩
  · have hb : Box w g cur t := hh
    refine ⟨_, cap, rfl, ⟨hl, fun _ => ⟨g, 0, rfl, hb.lt, fun j v hv => ?_⟩⟩, hn, hc⟩
    rw [Nat.zero_add]
    refine hb.cell j ?_
    rw [← ht, List.getElem?_take] at hv
    split at hv
    · simpa using hv
    · cases hv
theorem SlP.box {w : World} {B : Nat} {l : List (Nat × Nat)} {t : TypeId} (h : Box w B (prc l).toArray t) (n : Nat) (hn : l.length = n) : SlP w (some ⟨B, 0, none⟩) n l := ⟨hn, fun _ => ⟨B, 0, rfl, h.lt, h.range⟩⟩
theorem SlP.nil (w : World) : SlP w none 0 [] := ⟨rfl, fun h => absurd h (by omega)⟩
theorem TPr : RowTy Try.prog 122 2 := ⟨_, Try.underlying122, rfl, by kernel_rfl⟩
theorem pr_info : (Try.prog.info? 122).map (fun i => (i.zero, i.size, i.bytes)) = some (some (.agg #[.int .i64 0, .int .i64 0]), 2, 16) := by kernel_rfl
theorem pr_dec (a b : Nat × Nat) : decide (a = b) = ((a.1 : Int) == b.1 && (a.2 : Int) == b.2) := by
  obtain ⟨a1, a2⟩ := a; obtain ⟨b1, b2⟩ := b
  rw [Bool.eq_iff_iff]; simp; omega
theorem run_equal_pr (a b : Nat × Nat) (w : World) : (Op.equal 122 (.agg (prv a)) (.agg (prv b))).run Try.prog w = .ok (decide (a = b)) w := by
  rw [pr_dec]
  show (Op.equalIn 10000 _ _ _).run _ _ = _
  unfold prv
  generalize (a.1 : Int) = a1; generalize (a.2 : Int) = a2; generalize (b.1 : Int) = b1; generalize (b.2 : Int) = b2
  by_cases h1 : a1 = b1 <;> by_cases h2 : a2 = b2 <;> simp [go_sem, h1, h2]
theorem eql_pr (a b : Nat × Nat) (w : World) : (binOp .eql 122 (.agg (prv a)) (.agg (prv b))).run Try.prog w = .ok (.bool (decide (a = b))) w := by
  rw [pr_dec]
  unfold prv
  generalize (a.1 : Int) = a1; generalize (a.2 : Int) = a2; generalize (b.1 : Int) = b1; generalize (b.2 : Int) = b2
  by_cases h1 : a1 = b1 <;> by_cases h2 : a2 = b2 <;> simp [go_sem, h1, h2]
theorem neq_pr (a b : Nat × Nat) (w : World) : (binOp .neq 122 (.agg (prv a)) (.agg (prv b))).run Try.prog w = .ok (.bool (!decide (a = b))) w := by
  rw [pr_dec]
  unfold prv
  generalize (a.1 : Int) = a1; generalize (a.2 : Int) = a2; generalize (b.1 : Int) = b1; generalize (b.2 : Int) = b2
  by_cases h1 : a1 = b1 <;> by_cases h2 : a2 = b2 <;> simp [go_sem, h1, h2]
theorem grd_pr : Try.prog.eqGuardType Try.prog.depth 122 = false := by kernel_rfl
/-- The world behind 'for .. := range l' over pairs, that has taken its next pair. -/
def pwld (w : World) (p : Nat × Nat) (t : TypeId) : World := (w.alloc (.cells #[.int .i64 0, .int .i64 0] t)).setRow w.heap.size (prv p)
theorem pwld_box (w : World) (p : Nat × Nat) (t : TypeId) : Box (pwld w p t) w.heap.size (prv p) t := (Box.new w _ t).setRow _
theorem pwld_below (w : World) (p : Nat × Nat) (t : TypeId) : Bel w (pwld w p t) := below_setRow' ((Below.refl _ _).alloc (Nat.le_refl _) _) _ _ (Nat.le_refl _)
theorem pwld_store {P : Program} {ops : Array Oper} {rest : List Oper} {o : Oper} {a : Act} {w' w : World} {Q : Exit → Act → World → Prop} {ty : TypeId} (hT : RowTy P ty 2) (x y : Operand) (ho : o.op = .store ty x y) (hgd : o.guard = none) {p : Nat × Nat} (t : TypeId)
    (hy : a.eval y = .agg (prv p)) (hw : w' = w.alloc (.cells #[.int .i64 0, .int .i64 0] t)) (hx : a.eval x = .pointer (some ⟨w.heap.size, 0, none⟩))
    (h : wpList P ops Q rest (a.put o.dst undef) (pwld w p t)) : wpList P ops Q (o :: rest) a w' := by
  subst hw
  exact storeB ty x y ho hgd hx hy (Box.new w _ t) rfl hT (prv_all p) h
theorem load_pr {P : Program} {ops : Array Oper} {rest : List Oper} {o : Oper} {a : Act} {w : World} {Q : Exit → Act → World → Prop} {ty : TypeId} (hT : RowTy P ty 2) (x : Operand) (ho : o.op = .load ty x) (hgd : o.guard = none) {b off : Nat} {p : Nat × Nat}
    (hx : a.eval x = .pointer (some ⟨b, off, none⟩)) (hr : w.rangeAt b off (prl p))
    (h : wpList P ops Q rest (a.put o.dst (.agg (prv p))) w) : wpList P ops Q (o :: rest) a w := by
  obtain ⟨d, hu, hd, hi⟩ := hT
  exact wpList_load_mid hgd ty x ho b off hx (prl p) d hr hu hd hi h
theorem fill2 {n : Nat} (hn : n = 2) (f : Fin n → Value) (a b : Value) : ((Array.ofFn f).setIfInBounds 0 a).setIfInBounds 1 b = #[a, b] := by
  subst hn
  apply Array.ext
  · simp
  · intro i h1 h2
    have hi : i < 2 := by simpa using h2
    match i, hi with
    | 0, _ => simp [Array.getElem_setIfInBounds]
    | 1, _ => simp [Array.getElem_setIfInBounds]
theorem run_buildp (t e : TypeId) {P : Program} (i : TypeInfo) (ht : P.underlying t = some (.slice e)) (hi : P.info? e = some i) (hz : i.zero = some (.agg #[.int .i64 0, .int .i64 0])) (hs : i.size = 2) (p : Nat × Nat) (w : World) :
    (Instr.buildSlice t 1 #[(0, .agg (prv p))]).run P w = .ok (.slice (some ⟨w.heap.size, 0, none⟩) 1 1) (w.alloc (.cells (prv p) e)) := by
  simp [Instr.buildSlice, Sem.run_bind, run_underlying ht, sizeOf, typeInfo, hi, hs, zeroValue, hz, Instr.fill, Value.cells, prv, newRow, newObj, List.zipIdx, Array.range, Result.andThen, go_sem]
  rw [fill2 (by rw [hs])]
  rfl
/-- A slice of one pair that is no literal. -/
theorem buildp {P : Program} {ops : Array Oper} {rest : List Oper} {o : Oper} {a : Act} {w : World} {Q : Exit → Act → World → Prop} (t : TypeId) (x : Operand) (ho : o.op = .buildSlice t 1 #[(0, x)]) (hgd : o.guard = none) (e : TypeId) (i : TypeInfo) (ht : P.underlying t = some (.slice e)) (hi : P.info? e = some i)
    (hz : i.zero = some (.agg #[.int .i64 0, .int .i64 0])) (hs : i.size = 2) (p : Nat × Nat) (hx : a.eval x = .agg (prv p))
    (h : wpList P ops Q rest (a.put o.dst (.slice (some ⟨w.heap.size, 0, none⟩) 1 1)) (w.alloc (.cells (prv p) e))) : wpList P ops Q (o :: rest) a w := by
  refine wpList_plain hgd fun _ hK' => ?_
  unfold Oper.wp execOp
  simp only [ho, Sem.run_bind, Sem.run_pure, Result.andThen_ok, List.map_toArray, List.map_cons, List.map_nil, hx, run_buildp t e i ht hi hz hs p w]
  exact hK' _ _ h
theorem ptake_snoc {l : List (Nat × Nat)} {i : Nat} {e : Nat × Nat} (h : l[i]? = some e) : l.take (i + 1) = l.take i ++ [e] := by
  have hi' := List.getElem?_eq_some_iff.1 h
  rw [List.take_succ_eq_append_getElem hi'.1, hi'.2]
theorem ptake_all {l : List (Nat × Nat)} {A : Option Addr} {w : World} {n : Nat} (h : SlP w A n l) : l.take n = l := by rw [← h.1, List.take_length]
end Go.Proofs.Yteihildhlcggoaa
namespace Go.Proofs.Yteihildhlcggoaa
open Go Go.RowKit

/-- A function value that tells R below n, whatever new memory there is. -/
def Tells (w : World) (k : FuncId) (p : Value) (n : Nat) (C : Nat → Nat → Prop) (R : Nat → Nat → Bool) : Prop :=
  ∀ (a b : Nat) (w1 : World), a < n → b < n → C a b → Bel w w1 → Calls Try.prog k #[.int .i64 a, .int .i64 b, p] w1 fun e w2 => e = .returned (.bool (R a b)) ∧ Below w1.heap.size w1 w2
structure PrsR (w : World) (R : Nat → Nat → Bool) (n i j : Nat) (v : Value) (wr : World) : Prop where
  own : wr.ownsRow w.heap.size 122 2 v (prs R n i j).length (prc (prs R n i j))
  below : Bel w wr
theorem PrsR.to {w : World} {R : Nat → Nat → Bool} {n i j i' j' : Nat} {v : Value} {wr : World} (h : PrsR w R n i j v wr) (e : prs R n i' j' = prs R n i j) : PrsR w R n i' j' v wr := by
  obtain ⟨h1, h2⟩ := h; rw [← e] at h1; exact ⟨h1, h2⟩
def PrsPost (w : World) (R : Nat → Nat → Bool) (n : Nat) (e : Ending) (w' : World) : Prop :=
  ∃ v, e = .returned v ∧ w'.ownsRow w.heap.size 122 2 v (prsA R n).length (prc (prsA R n)) ∧ Below w.heap.size w w'
theorem prs_small {R : Nat → Nat → Bool} {n i j : Nat} (hn : n ≤ 80) (hi : i ≤ n) (hj : j ≤ n) : (prs R n i j).length ≤ 6480 := by
  have h1 := prs_len R n i j
  have h2 := Nat.mul_le_mul (Nat.le_trans hi hn) hn
  omega
set_option maxHeartbeats 8000000 in
theorem pairs_any (k : FuncId) (B : Nat) (n : Nat) (R : Nat → Nat → Bool) (w : World) (hn : n ≤ 80) (hE : ∀ args w, (callFunc k args).run Try.prog w = .ok (.enter k args) w) (hT : Tells w k (.pointer (some ⟨B, 0, none⟩)) n (fun a b => a < b) R) (hR : ∀ a b, b ≤ a → R a b = false) :
    Calls Try.prog 58 #[.int .i64 n, .func (.func k) #[] #[.pointer (some ⟨B, 0, none⟩)]] w (PrsPost w R n) := by
  have HT := Lib.hid hT
  have HR := Lib.hid hR
  have H0 := Lib.hid (PrsR.mk (World.ownsRow_nil _ _ _ _) (Bel.refl w) : PrsR w R n 0 0 (.slice none 0 0) w)
  obtain ⟨i0, hi0, hz0, hz1, hz2⟩ := info_parts pr_info
  have J := Lib.hid (And.intro hi0 (And.intro hz0 (And.intro hz1 hz2)))
  clear hi0 hz0 hz1 hz2 hT hR
  go_enter Try.func58, Try.ntmps58
  go_wp2
  go_loopw [5, 9] (fun v t9 wr => ∃ i : Nat, i ≤ n ∧ t9 = .int .i64 i ∧ PrsR w R n i 0 v wr) (fun _ t9 _ => n - (intOf t9).toNat)
  case atStart => exact ⟨0, by omega, rfl, H0.out⟩
  case round =>
    obtain ⟨i, hi, rfl, hr⟩ := hrel
    have HP := Lib.hid hr
    clear hr H0
    by_cases hlt : i < n
    · have hlt' : (i : Int) < n := by omega
      have H1 := Lib.hid (HP.out.to (prs_low (j := i + 1) (fun k hk => HR.out i k (by omega))))
      go_wp2
      go_loopw [5, 7] (fun v t7 wr => ∃ j : Nat, i < j ∧ j ≤ n ∧ t7 = .int .i64 j ∧ PrsR w R n i j v wr) (fun _ t7 _ => n - (intOf t7).toNat)
      case atStart => exact ⟨i + 1, by omega, by omega, by go_num, H1.out⟩
      case round =>
        obtain ⟨j, hij, hj, rfl, hr⟩ := hrel
        have HQ := Lib.hid hr
        clear hr H1 HP
        by_cases hlj : j < n
        · have hlj' : (j : Int) < n := by omega
          go_wp2_with fail
          refine (HT.out i j _ hlt hlj hij HQ.out.below).mono ?_
          rintro e w1 ⟨rfl, hb1⟩
          have HW := Lib.hid (HQ.out.below.call hb1)
          have HO := Lib.hid (own_bel HQ.out.own hb1)
          clear hb1
          cases hq : R i j
          · have HS := Lib.hid (PrsR.to ⟨HO.out, HW.out⟩ (prs_no hq))
            go_wp2
            go_roundw
            case rel => exact ⟨j + 1, by omega, by omega, by go_num, HS.out⟩
            case measure => simp [intOf]; omega
          · have HA := Lib.hid (own_alloc HO.out (.cells (prv (i, j)) 122))
            have HNW := Lib.hid (Box.news (l := prl (i, j)) (Box.new w1 (prv (i, j)) 122))
            have HSZ := Lib.hid (HW.out.alloc (.cells (prv (i, j)) 122)).size
            have hlen := prs_small (R := R) hn hi hj
            have HLN := Lib.hid hlen
            clear hlen
            go_wp2_with (first | (refine buildp 73 _ rfl rfl 122 i0 Try.underlying73 J.out.1 J.out.2.1 J.out.2.2.1 (i, j) rfl ?_) | (at_builtin; refine wpList_append_own_at _ rfl (.tmp 23) (.tmp 27) _ rfl w.heap.size 122 i0 _ 2 16 Try.underlying73 J.out.1 J.out.2.1 J.out.2.2.1 J.out.2.2.2 rfl (by omega) _ (prs R n i j).length _ rfl HA.out ⟨w1.heap.size, 0, none⟩ 1 1 (prl (i, j)) rfl rfl HNW.out (by simp [prl, Value.oneCell']) (by have := HLN.out; unfold maxLen; omega) (by have := HLN.out; omega) HSZ.out ?_; intro v2 w2 hown2 hg2 hn2 hat2))
            refine ⟨⟨j + 1, by omega, by omega, by go_num, ⟨?_, (HW.out.alloc _).out.grown hg2 HSZ.out (own_block_ge HA.out)⟩⟩, by simp [intOf]; omega⟩
            rw [prs_yes hq, List.length_append, prc_append]
            exact hown2
        · obtain rfl : j = n := by omega
          have HS := Lib.hid (HQ.out.to (prs_next R j i))
          go_wp2
          go_roundw
          case rel => exact ⟨i + 1, by omega, by go_num, HS.out⟩
          case measure => simp [intOf]; omega
    · obtain rfl : i = n := by omega
      go_wp2
      go_ret
      exact ⟨_, rfl, HP.out.own, HP.out.below⟩
end Go.Proofs.Yteihildhlcggoaa

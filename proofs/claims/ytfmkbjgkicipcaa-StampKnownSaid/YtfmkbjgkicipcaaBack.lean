/- slices.Backward over events: the iterator's contract; rows loaded and stored inside a fence. -/
import Derived.RangeFuncNested
import Derived.RangeFuncBound
import Derived.RangeFuncCalls
import Derived.RangeFuncLeaves
import Derived.Shelf.Abstract
import Derived.Shelf.RegionOpen
import Derived.WalkKit
import Derived.OwnWalkIn
import Derived.TacticsInMore
import Derived.LoopNIn
import Derived.LoopIn
import Derived.Test.YtfmkbjgkicipcaaCk
set_option linter.all false
set_option maxRecDepth 100000
namespace Go.Proofs.Ytfmkbjgkicipcaa
open Go Go.RowKit Go.Shelf
attribute [local go_sem] Oper.semAt_some

section
variable {F : Fence} {d : Nat} {P : Program} {ops : Array Oper} {rest : List Oper} {o : Oper} {a : Act} {w : World} {Q : Exit → Act → World → Prop}
theorem load_rowIn (ty : TypeId) (x : Operand) (ho : o.op = .load ty x) (hgd : o.guard = none) {b off : Nat} {cs : List Value} (hx : a.eval x = .pointer (some ⟨b, off, none⟩)) (hr : w.rangeAt b off cs) (hT : RowTy P ty cs.length) (c : Array Value) (hc : cs.toArray = c)
    (h : wpListIn F d P ops Q rest (a.put o.dst (.agg c)) w) : wpListIn F d P ops Q (o :: rest) a w := by
  subst hc
  obtain ⟨e, hu, hd, hi⟩ := hT
  refine wpListIn_plain hgd fun _ hK => ?_
  unfold Oper.wpIn
  refine ⟨by simp [Oper.about, ho], ?_⟩
  rw [Oper.semAt_plain F _ _ (by rw [ho]; intro c hc; cases hc)]
  unfold execOp
  simp only [ho, hx, Instr.loadAt, Instr.sureAddr, Sem.run_bind, Sem.run_pure, Result.andThen_ok, run_loadVar_mid w b off ty cs e hr hu hd hi]
  exact hK _ _ h
theorem store_rowIn (ty : TypeId) (x y : Operand) (ho : o.op = .store ty x y) (hgd : o.guard = none) {B : Nat} {c c' : Array Value} {t : TypeId} (hx : a.eval x = .pointer (some ⟨B, 0, none⟩)) (hy : a.eval y = .agg c') (hb : Box w B c t)
    (hs : c.size = c'.size) (hT : RowTy P ty c'.size) (h1 : c'.all (·.oneCell') = true) (h : wpListIn F d P ops Q rest (a.put o.dst undef) (w.setRow B c')) : wpListIn F d P ops Q (o :: rest) a w := by
  obtain ⟨e, hu, hd, hi⟩ := hT
  refine wpListIn_plain hgd fun _ hK => ?_
  unfold Oper.wpIn
  refine ⟨by simp [Oper.about, ho], ?_⟩
  rw [Oper.semAt_plain F _ _ (by rw [ho]; intro c hc; cases hc)]
  unfold execOp
  simp only [ho, hx, hy, Instr.storeAt, Instr.sureAddr, Sem.run_bind, Sem.run_pure, Result.andThen_ok, run_storeVar_row w B t ty c c' hb hi hs h1]
  exact hK _ _ h
end
/-- The event at a place, or one of no thread. -/
def evD (l : List Ev) (x : Nat) : Ev := l[x]?.getD ⟨0, -1, 0⟩
theorem evD_at {l : List Ev} {x : Nat} {e : Ev} (h : l[x]? = some e) : evD l x = e := by unfold evD; rw [h]; rfl
theorem evD_lt {l : List Ev} {x : Nat} (h : 0 ≤ (evD l x).t) : x < l.length := by
  rcases Nat.lt_or_ge x l.length with h1 | h1
  · exact h1
  · exfalso
    unfold evD at h
    rw [List.getElem?_eq_none h1] at h
    simp at h
/-- What has come when k rounds are over, from the end on. -/
def dn (n k : Nat) : List Nat := (List.range k).map fun j => n - 1 - j
theorem dn_succ (n k : Nat) : dn n (k + 1) = dn n k ++ [n - 1 - k] := by simp [dn, List.range_succ]
theorem dn_len (n k : Nat) : (dn n k).length = k := by simp [dn]
set_option maxHeartbeats 2000000 in
theorem back1_in (F : Fence) (d : Nat) (hF : F.fn 35) (hro : F.round = none) (hd : 1 ≤ d) (lp Bs n₀ : Nat) (A : Option Addr) (n c : Nat) (l : List Ev) (hn : n ≤ 80) (J Jx : List Nat → World → Prop)
    (hY : ∀ pre x W, J pre W → pre.length < n → YieldAt F (d - 1) Try.prog lp #[.int .i64 (x : Nat), .agg (evv (evD l x))] W fun e W' =>
      (e = .returned (.bool true) ∧ J (pre ++ [x]) W' ∧ Below n₀ W W') ∨ (e = .returned (.bool false) ∧ Jx (pre ++ [x]) W'))
    (W : World) (hBs : W.cell? ⟨Bs, 0, none⟩ = some (.slice A n c)) (hB : Bs < n₀) (hl : Sl W A n l) (hA : 0 < n → ∀ b off, A = some ⟨b, off, none⟩ → b < n₀) (h0 : J [] W) :
    CallsIn F d Try.prog 35 #[.func (.yield lp) #[] #[], .pointer (some ⟨Bs, 0, none⟩)] W fun e W' => (∃ v, e = .returned v) ∧
      ((∃ ys, ys = dn n n ∧ J ys W') ∨ (∃ pre, (∃ k, k ≤ n ∧ pre = dn n k) ∧ Jx pre W')) := by
  have f0 : IntKind.i64.wrap ((n : Int) - 1) = n - 1 := IntWalk.i64_in _ (by omega)
  refine callsIn_of_wp Try.func35 rfl hF ?_ hro
  simp only [Try.ntmps35, List.size_toArray, List.length_cons, List.length_nil, Nat.reduceAdd, Nat.reduceSub, Array.replicate_succ, Array.replicate_zero, List.push_toArray, List.append_toArray, List.nil_append, List.cons_append]
  gi_wp2
  gi_loopw [3] (fun i wr => ∃ (k : Nat) (z : Int), k ≤ n ∧ z = (n : Int) - 1 - k ∧ i = .int .i64 z ∧ J (dn n k) wr ∧ Below n₀ W wr)
    (fun i _ => (intOf i + 1).toNat)
  case atStart => exact ⟨0, _, Nat.zero_le _, by simp, rfl, h0, Below.refl _ _⟩
  case round =>
    obtain ⟨k, z, hk, hz, rfl, hJs, hnx⟩ := hrel
    by_cases hlt : k < n
    · obtain ⟨x, hx⟩ : ∃ x, x = n - 1 - k := ⟨_, rfl⟩
      obtain rfl : z = (x : Int) := by omega
      have hxn : x < n := by omega
      have hx' : (x : Int) < n := by omega
      have hx0 : (0 : Int) ≤ (x : Int) := by omega
      obtain ⟨bb, off, e, rfl, hbb, he, hrg⟩ := hl.at_ hxn
      rw [← evD_at he] at hrg
      have HR := Lib.hid (rangeAt_below hnx (hA (by omega) _ _ rfl) hrg)
      obtain ⟨fn, tmps, assign, body, hy, hRd⟩ := hY _ x wr hJs (by rw [dn_len]; exact hlt)
      try dsimp only at hy
      have hcs := (hnx.cell (p := ⟨Bs, 0, none⟩) hB).trans hBs
      have f1 : IntKind.i64.wrap ((x : Int) - 1) = x - 1 := IntWalk.i64_in _ (by omega)
      have HZ := Lib.hid hz
      have HX := Lib.hid hx
      have HNX := Lib.hid hnx
      clear hz hx he hrg hnx f0
      gi_wp2_with (refine load_rowIn _ _ rfl rfl rfl HR.out T36 (evv (evD l x)) rfl ?_)
      refine hRd.mono ?_
      rintro e W3 (⟨rfl, hJ3, hk3⟩ | ⟨rfl, hJx3⟩)
      · gi_wp2
        go_roundw
        case rel => exact ⟨k + 1, _, by omega, by have := HZ.out; omega, rfl, by rw [dn_succ, ← HX.out]; exact hJ3, HNX.out.trans hk3⟩
        case measure => simp [intOf]
      · gi_wp2
        refine bodyPost_ret (results_none rfl _ _ _) rfl ?_
        exact ⟨⟨_, rfl⟩, .inr ⟨_, ⟨k + 1, by omega, by rw [dn_succ, ← HX.out]⟩, hJx3⟩⟩
    · obtain rfl : k = n := by omega
      obtain rfl : z = -1 := by omega
      clear f0 hz
      gi_wp2
      go_end0
      exact ⟨⟨_, rfl⟩, .inl ⟨_, rfl, hJs⟩⟩
set_option maxHeartbeats 1000000 in
theorem back_in (F : Fence) (d : Nat) (hF : F.fn 26) (hro : F.round = none) (A : Option Addr) (n c : Nat) (w : World) :
    CallsIn F d Try.prog 26 #[.slice A n c] w fun e w' => e = .returned (.func (.func 35) #[] #[.pointer (some ⟨w.heap.size, 0, none⟩)]) ∧ w' = w.alloc (.cells #[.slice A n c] 22) := by
  refine callsIn_of_wp Try.func26 rfl hF ?_ hro
  simp only [Try.ntmps26, List.size_toArray, List.length_cons, List.length_nil, Nat.reduceAdd, Nat.reduceSub, Array.replicate_succ, Array.replicate_zero, List.push_toArray, List.append_toArray, List.nil_append, List.cons_append]
  gi_wp2
  go_ret
  exact ⟨rfl, rfl⟩
theorem back_stops (F : Fence) (d : Nat) (hF : F.fn 35) (hro : F.round = none) (hd : 1 ≤ d) (Bs n₀ : Nat) (A : Option Addr) (n c : Nat) (l : List Ev) (hn : n ≤ 80) (w : World)
    (hBs : w.cell? ⟨Bs, 0, none⟩ = some (.slice A n c)) (hB : Bs < n₀) (hl : Sl w A n l) (hA : 0 < n → ∀ b off, A = some ⟨b, off, none⟩ → b < n₀) (hn₀ : n₀ ≤ w.heap.size) :
    SeqStopsK F d Try.prog 35 #[.pointer (some ⟨Bs, 0, none⟩)] (fun x : Nat => #[Value.int .i64 (x : Nat), .agg (evv (evD l x))]) (Below n₀) (fun ys => ys = dn n n)
      (fun pre => ∃ k, k ≤ n ∧ pre = dn n k) n w := fun lp J Jx W hW _ _ hY h0 =>
  back1_in F d hF hro hd lp Bs n₀ A n c l hn J Jx hY W ((hW.cell (p := ⟨Bs, 0, none⟩) (Nat.lt_of_lt_of_le hB hn₀)).trans hBs) hB (hl.bel hW) hA h0
end Go.Proofs.Ytfmkbjgkicipcaa

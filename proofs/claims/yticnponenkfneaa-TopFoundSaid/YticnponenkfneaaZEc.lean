import Derived.Test.YticnponenkfneaaZPg
import Derived.Test.YticnponenkfneaaZSl
import Derived.Test.YticnponenkfneaaZOpen
import Derived.Test.YticnponenkfneaaZMapInt
import Derived.Test.YticnponenkfneaaZEqInt
import Derived.Test.YticnponenkfneaaZAppend
set_option linter.all false
set_option maxRecDepth 100000
namespace Go.Proofs.Yticnponenkfneaa
open Go Go.RowKit

def FrP (P : List (List Ev)) : Prop := ∀ t, ∀ o ∈ opsP P t, o.k = 1 ∨ o.k = 2 ∨ o.k = 3 ∨ o.k = 6 ∨ o.k = 7
section
variable {P : List (List Ev)} (hf : FrP P)
include hf
end
def goS (P : List (List Ev)) (s : Ps) (w : List Nat) : Ps := w.foldl (stepP P) s
def VlP (P : List (List Ev)) : Ps → List Nat → Prop
  | _, [] => True
  | s, t :: w => canP P s t = true ∧ VlP P (stepP P s t) w
theorem step_pick {P : List (List Ev)} {s : Ps} {t : Nat} (h : canP P s t = true) : pickP P s (t : Int) = stepP P s t := by
  unfold pickP
  rw [if_pos ⟨by omega, by rw [Int.toNat_natCast]; exact h⟩, Int.toNat_natCast]
theorem go_run {P : List (List Ev)} : ∀ (w : List Nat) (s : Ps), VlP P s w → (w.map fun (t : Nat) => (t : Int)).foldl (pickP P) s = goS P s w
  | [], _, _ => rfl
  | t :: w, s, h => by
    rw [List.map_cons, List.foldl_cons, step_pick h.1]
    exact go_run w _ h.2
def lftP (P : List (List Ev)) (s : Ps) : Nat := ((opsP P 0).length - s.a 0) + ((opsP P 1).length - s.a 1) + ((opsP P 2).length - s.a 2) + ((opsP P 3).length - s.a 3) + ((opsP P 4).length - s.a 4) + ((opsP P 5).length - s.a 5)
theorem lft_step {P : List (List Ev)} (hP : OkP P) {s : Ps} {t : Nat} (hc : canP P s t = true) : lftP P (stepP P s t) + 1 = lftP P s := by
  obtain ⟨ht, _, o, ho, _⟩ := can_op hc
  have hlt : s.a t < (opsP P t).length := (List.getElem?_eq_some_iff.1 ho).1
  have h6 := hP.six
  rw [step_op ho]
  unfold lftP stepO
  simp only [upF]
  have : t = 0 ∨ t = 1 ∨ t = 2 ∨ t = 3 ∨ t = 4 ∨ t = 5 := by omega
  rcases this with rfl | rfl | rfl | rfl | rfl | rfl <;> simp <;> omega
def effP (P : List (List Ev)) : Ps → List Int → List Nat
  | _, [] => []
  | s, t :: ts => if 0 ≤ t ∧ canP P s t.toNat = true then t.toNat :: effP P (stepP P s t.toNat) ts else effP P s ts
theorem eff_vl {P : List (List Ev)} : ∀ (ts : List Int) (s : Ps), VlP P s (effP P s ts) ∧ goS P s (effP P s ts) = ts.foldl (pickP P) s
  | [], _ => ⟨trivial, rfl⟩
  | t :: ts, s => by
    unfold effP
    rw [List.foldl_cons]
    by_cases h : 0 ≤ t ∧ canP P s t.toNat = true
    · rw [if_pos h, show pickP P s t = stepP P s t.toNat by unfold pickP; rw [if_pos h]]
      exact ⟨⟨h.2, (eff_vl ts _).1⟩, (eff_vl ts _).2⟩
    · rw [if_neg h, show pickP P s t = s by unfold pickP; rw [if_neg h]]
      exact eff_vl ts s
end Go.Proofs.Yticnponenkfneaa
set_option linter.all false
set_option maxRecDepth 100000
namespace Go.Proofs.Yticnponenkfneaa
open Go Go.RowKit

theorem vl_len {P : List (List Ev)} (hP : OkP P) : ∀ {w : List Nat} {s : Ps}, VlP P s w → w.length + lftP P (goS P s w) = lftP P s
  | [], _, _ => Nat.zero_add _
  | t :: w, s, h => by
    have h1 := lft_step hP h.1
    have h2 := vl_len hP h.2
    rw [List.length_cons]
    show w.length + 1 + lftP P (goS P (stepP P s t) w) = _
    omega
def pks (w : List Nat) : List Int := w.map fun (t : Nat) => (t : Int)
theorem run_pks {P : List (List Ev)} {w : List Nat} (h : VlP P ps0 w) : runP P (pks w) = goS P ps0 w := go_run w ps0 h
theorem vl_app {P : List (List Ev)} : ∀ {w v : List Nat} {s : Ps}, VlP P s (w ++ v) ↔ VlP P s w ∧ VlP P (goS P s w) v
  | [], v, s => ⟨fun h => ⟨trivial, h⟩, fun h => h.2⟩
  | t :: w, v, s => by
    show (canP P s t = true ∧ VlP P (stepP P s t) (w ++ v)) ↔ (canP P s t = true ∧ VlP P (stepP P s t) w) ∧ VlP P (goS P (stepP P s t) w) v
    rw [vl_app, and_assoc]
def lxL : List Nat → List Nat → Prop
  | [], [] => False
  | [], _ :: _ => True
  | _ :: _, [] => False
  | a :: x, b :: y => a < b ∨ (a = b ∧ lxL x y)
theorem lx_tot : ∀ (x y : List Nat), lxL x y ∨ x = y ∨ lxL y x
  | [], [] => .inr (.inl rfl)
  | [], _ :: _ => .inl trivial
  | _ :: _, [] => .inr (.inr trivial)
  | a :: x, b :: y => by
    rcases Nat.lt_trichotomy a b with h | rfl | h
    · exact .inl (.inl h)
    · rcases lx_tot x y with g | rfl | g
      · exact .inl (.inr ⟨rfl, g⟩)
      · exact .inr (.inl rfl)
      · exact .inr (.inr (.inr ⟨rfl, g⟩))
    · exact .inr (.inr (.inl h))
def btL (w v : List Nat) : Prop := w.length < v.length ∨ (w.length = v.length ∧ lxL w v)
end Go.Proofs.Yticnponenkfneaa
set_option linter.all false
set_option maxRecDepth 100000
namespace Go.Proofs.Yticnponenkfneaa
open Go Go.RowKit

end Go.Proofs.Yticnponenkfneaa
set_option linter.all false
set_option maxRecDepth 100000
namespace Go.Proofs.Yticnponenkfneaa
open Go Go.RowKit

end Go.Proofs.Yticnponenkfneaa
set_option linter.all false
set_option maxRecDepth 100000
namespace Go.Proofs.Yticnponenkfneaa
open Go Go.RowKit

def intq (l : List Int) : List Value := l.map (Value.int .i64)
theorem qint_info : (Try.prog.info? 3).map (fun i => (i.zero, i.size, i.bytes)) = some (some (.int .i64 0), 1, 8) := by kernel_rfl
theorem fill1 {n : Nat} (hn : n = 1) (f : Fin n → Value) (a : Value) : (Array.ofFn f).setIfInBounds 0 a = #[a] := by
  subst hn
  apply Array.ext
  · simp
  · intro i h1 h2
    have hi : i < 1 := by simpa using h2
    match i, hi with
    | 0, _ => simp [Array.getElem_setIfInBounds]
theorem run_build_int {P : Program} (t e : TypeId) (i : TypeInfo) (ht : P.underlying t = some (.slice e)) (hi : P.info? e = some i) (hz : i.zero = some (.int .i64 0)) (hs : i.size = 1) (x : Int) (w : World) :
    (Instr.buildSlice t 1 #[(0, .int .i64 x)]).run P w = .ok (.slice (some ⟨w.heap.size, 0, none⟩) 1 1) (w.alloc (.cells #[.int .i64 x] e)) := by
  simp [Instr.buildSlice, Sem.run_bind, run_underlying ht, sizeOf, typeInfo, hi, hs, zeroValue, hz, Instr.fill, Value.cells, newRow, newObj, List.zipIdx, Array.range, Result.andThen, go_sem]
  rw [fill1 (by rw [hs])]
  rfl
section
variable {ops : Array Oper} {o : Oper} {a : Act} {w : World} {K : Act → World → Prop} {Q : Exit → Act → World → Prop}
theorem wp_build_int (t : TypeId) (x : Operand) (ho : o.op = .buildSlice t 1 #[(0, x)]) (e : TypeId) (i : TypeInfo) {P : Program} (ht : P.underlying t = some (.slice e)) (hi : P.info? e = some i) (hz : i.zero = some (.int .i64 0)) (hs : i.size = 1) (n : Int) (hx : a.eval x = .int .i64 n)
    (h : K (a.put o.dst (.slice (some ⟨w.heap.size, 0, none⟩) 1 1)) (w.alloc (.cells #[.int .i64 n] e))) : o.wp P a w K Q := by
  unfold Oper.wp execOp
  simp only [ho, Sem.run_bind, Sem.run_pure, Result.andThen_ok, List.map_toArray, List.map_cons, List.map_nil, hx, run_build_int t e i ht hi hz hs n w]
  exact h
end
end Go.Proofs.Yticnponenkfneaa
set_option linter.all false
set_option maxRecDepth 100000
namespace Go.Proofs.Yticnponenkfneaa
open Go Go.RowKit

structure IsBest (P : List (List Ev)) (w : List Nat) : Prop where
  vl : VlP P ps0 w
  race : rcs (goS P ps0 w).L ≠ []
  least : ∀ v, VlP P ps0 v → rcs (goS P ps0 v).L ≠ [] → v = w ∨ btL w v
theorem no_best {P : List (List Ev)} (h : ∀ v, VlP P ps0 v → rcs (goS P ps0 v).L = []) (ts : List Int) : rcs (runP P ts).L = [] := by
  obtain ⟨hv, e⟩ := eff_vl (P := P) ts ps0
  rw [show runP P ts = goS P ps0 (effP P ps0 ts) from e.symm]
  exact h _ hv
def evC (P : List (List Ev)) : Int := if chkP P ≠ 0 then chkP P else if 10 < (P.map (·.length)).sum then 2 else 0
theorem evC_ok {P : List (List Ev)} (h : evC P = 0) : OkP P := by
  unfold evC at h
  split at h
  · contradiction
  · rename_i h0
    exact chk_ok.1 (by omega)
def RacesB (P : List (List Ev)) (b : Bool) (ws : List Nat) : Prop :=
  (evC P ≠ 0 ∧ b = false ∧ ws = []) ∨ (evC P = 0 ∧ b = false ∧ ws = [] ∧ ∀ ts, rcs (runP P ts).L = []) ∨ (evC P = 0 ∧ b = true ∧ IsBest P ws)
def ERacesPost (w : World) (P : List (List Ev)) (e : Ending) (w' : World) : Prop :=
  ∃ b v ws, e = .returned (.tuple #[.bool b, v, .int .i64 (evC P)]) ∧ RacesB P b ws ∧ w'.ownsRow w.heap.size 3 1 v ws.length (intq (pks ws)) ∧ Below w.heap.size w w'
def ERacesC : Prop := ∀ (A : Option Addr) (n c : Nat) (P : List (List Ev)) (w : World), Prg w A n P → n ≤ c → c ≤ maxLen → Calls Try.prog 10 #[.slice A n c] w (ERacesPost w P)
end Go.Proofs.Yticnponenkfneaa

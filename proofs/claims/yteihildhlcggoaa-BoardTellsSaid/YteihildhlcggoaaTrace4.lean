/- Contracts of the package trace: Held, Threads. -/
import Derived.Test.YteihildhlcggoaaTrace
import Derived.Test.YteihildhlcggoaaRefTr
import Derived.Test.YteihildhlcggoaaTr
import Derived.Maps.AppendAt
set_option linter.all false
set_option maxRecDepth 100000
namespace Go.Proofs.Yteihildhlcggoaa
open Go.RowKit

def pheld (l : List Ev) (t : Int) : Int × Int := if may l = 0 then (if inB t 6 = true then (held l t, 0) else (0, 1)) else (0, may l)

/-- The flags of the threads that have begun, as cells. -/
def bcells (l : List Ev) : List Value := [.bool (begun l 0), .bool (begun l 1), .bool (begun l 2), .bool (begun l 3), .bool (begun l 4), .bool (begun l 5)]
theorem bcells_get (l : List Ev) (k : Nat) (hk : k < 6) : (bcells l)[k]? = some (.bool (begun l k)) := by
  match k, hk with
  | 0, _ => rfl
  | 1, _ => rfl
  | 2, _ => rfl
  | 3, _ => rfl
  | 4, _ => rfl
  | 5, _ => rfl
theorem run_part_bool {P : Program} {e : TypeId} (he : P.underlying e = some .bool) (cs : Array Value) (off : Nat) (v : Value) (h : cs[off]? = some v) (w : World) : (part e cs off).run P w = .ok v w := by
  unfold part isAgg
  simp [Sem.run_bind, run_underlying he, h]
theorem index_bools (l : List Ev) (k : Nat) (hk : k < 6) (w : World) : (Instr.index 89 (.agg (bcells l).toArray) (.int .i64 k)).run Try.prog w = .ok (.bool (begun l k)) w := by
  have hi : (Try.prog.info? 4).map (·.size) = some 1 := by kernel_rfl
  cases hq : Try.prog.info? 4 with
  | none => simp [hq] at hi
  | some i =>
    have hs : i.size = 1 := by simpa [hq] using hi
    have := run_part_bool (P := Try.prog) Try.underlying4 (bcells l).toArray k (.bool (begun l k)) (by simpa using bcells_get l k hk)
    simp [Instr.index, asIntOf, Sem.run_bind, run_underlying Try.underlying89, sizeOf, typeInfo, hk, hq, hs, this]
theorem T50 : RowTy Try.prog 89 6 := ⟨_, Try.underlying89, rfl, by kernel_rfl⟩
theorem int_info : (Try.prog.info? 3).map (fun i => (i.zero, i.size, i.bytes)) = some (some (.int .i64 0), 1, 8) := by kernel_rfl
theorem bcells_stv {l : List Ev} {j : Nat} {v : Value} (h : (bcells l)[j]? = some v) : (stv l)[j]? = some v := by
  match j, h with
  | 0, h => exact h
  | 1, h => exact h
  | 2, h => exact h
  | 3, h => exact h
  | 4, h => exact h
  | 5, h => exact h
  | j + 6, h => simp [bcells] at h
def intv (l : List Int) : List Value := l.map (Value.int .i64)
def threads (l : List Ev) : List Int := if may l = 0 then begunTo l 6 else []
/-- What Threads hands back. -/
def ThreadsPost (l : List Ev) (w : World) (e : Ending) (w' : World) : Prop :=
  ∃ v, e = .returned (.tuple #[v, .int .i64 (may l)]) ∧ w'.ownsRow w.heap.size 3 1 v (threads l).length (intv (threads l)) ∧ Below w.heap.size w w'
end Go.Proofs.Yteihildhlcggoaa

/- Contracts of package full: pass, of whatever event. | Contracts of package full: detect. -/
import Derived.Test.YtnjaeampnakbbaaFull5
import Derived.Test.YtnjaeampnakbbaaFull6
import Derived.Test.YtnjaeampnakbbaaFull7
import Derived.Test.YtnjaeampnakbbaaTrace3
import Derived.Test.YtnjaeampnakbbaaGrow
import Derived.Test.YtnjaeampnakbbaaOrder2
import Derived.Test.YtnjaeampnakbbaaKeepTw
set_option linter.all false
set_option maxRecDepth 100000
namespace Go.Proofs.Ytnjaeampnakbbaa
open Go Go.RowKit

theorem pass_any (X : Nat) (s : Dj) (k : Int) (t o : Nat) (w : World) (ht : t < 6) (hk : 3 ≤ k ∧ k ≤ 8) (ho : (o : Int) < nobj k) (hc : s.C t t ≤ 1000) (hne : k = 5 → o ≠ t) (hb : Box w X (ns 90 (gD s)) 117) :
    Calls Try.prog 65 #[.pointer (some ⟨X, 0, none⟩), .agg (evv ⟨k, t, o⟩)] w (PassPost X (djStep s k t o) w) := by
  obtain h | h | h | h | h | h : k = 3 ∨ k = 4 ∨ k = 5 ∨ k = 6 ∨ k = 7 ∨ k = 8 := by omega
  · subst h; exact pass3 X s t o w ht (by have : (o : Int) < 5 := ho; omega) hb
  · subst h; exact pass4 X s t o w ht (by have : (o : Int) < 5 := ho; omega) hc hb
  · subst h; exact pass5 X s t o w ht (by have : (o : Int) < 6 := ho; omega) hc (hne rfl) hb
  · subst h; exact pass6 X s t o w ht (by have : (o : Int) < 6 := ho; omega) hb
  · subst h; exact pass7 X s t o w ht (by have : (o : Int) < 4 := ho; omega) hb
  · subst h; exact pass8 X s t o w ht (by have : (o : Int) < 4 := ho; omega) hc hb
end Go.Proofs.Ytnjaeampnakbbaa
namespace Go.Proofs.Ytnjaeampnakbbaa
open Go Go.RowKit

theorem TVz (g : Nat → Nat) : RowTy Try.prog 61 (ns 96 g).size := by rw [ns_size]; exact TVs
theorem TCz (g : Nat → Nat) : RowTy Try.prog 117 (ns 90 g).size := by rw [ns_size]; exact TCs
theorem res_tct {P : Program} {w : World} {fn : Func} {p u v : Tmp} {ty : TypeId} (h : fn.results = #[.tmp u, .cell p ty, .tmp v]) {tmps : Array Value} {B : Nat} {c : Array Value} {t : TypeId} (hp : tmps.getD p undef = .pointer (some ⟨B, 0, none⟩)) (hb : Box w B c t) (hT : RowTy P ty c.size) :
    (results fn tmps).run P w = .ok (.tuple #[tmps.getD u undef, .agg c, tmps.getD v undef]) w := by
  obtain ⟨d, hu, hd, hi⟩ := hT
  have hp' : tmps[p]?.getD undef = .pointer (some ⟨B, 0, none⟩) := by rw [← Array.getD_eq_getD_getElem?]; exact hp
  simp [results, h, hp', asAddr, Sem.run_pure, Result.andThen_ok, run_loadVar_row w B t ty c (0, 0) d hb hu (by cases d <;> simp_all [TypeDesc.isRow]) hi, Sem.run_bind]
theorem kp_setRow {N B : Nat} (hne : N ≠ B) (w : World) (c : Array Value) : Kp N w (w.setRow B c) := ⟨by simp, fun _ => setRow_other w B N c hne⟩
def vF (l : List Ev) : Nat → Nat := if may l = 0 then gV (rwF l 1 l.length) (rwF l 2 l.length) else fun _ => 0
def DetPost (w : World) (l : List Ev) (e : Ending) (w' : World) : Prop :=
  ∃ v, e = .returned (.tuple #[v, .agg (ns 96 (vF l)), .int .i64 (may l)]) ∧ w'.ownsRow w.heap.size 35 3 v (flags l).length (evc (flags l)) ∧ Below w.heap.size w w'
end Go.Proofs.Ytnjaeampnakbbaa

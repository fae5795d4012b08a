/- Contracts of the package trace: Held, Threads. -/
import Derived.Test.YtjddahidkodieaaTrace
import Derived.Test.YtjddahidkodieaaRefTr
import Derived.Test.YtjddahidkodieaaTr
import Derived.Maps.AppendAt
set_option linter.all false
set_option maxRecDepth 100000
namespace Go.Proofs.Ytjddahidkodieaa
open Go.RowKit

def pheld (l : List Ev) (t : Int) : Int × Int := if may l = 0 then (if inB t 6 = true then (held l t, 0) else (0, 1)) else (0, may l)
set_option maxHeartbeats 1000000 in
theorem held_any (A : Option Addr) (n c : Nat) (l : List Ev) (t : Int) (w : World) (hl : Sl w A n l) :
    Calls Try.prog 96 #[.slice A n c, .int .i64 t] w fun e w' => e = .returned (.tuple #[.int .i64 (pheld l t).1, .int .i64 (pheld l t).2]) ∧ Below w.heap.size w w' := by
  have HL := Lib.hid hl
  clear hl
  cases h1 : (may l != 0)
  · have h0 : may l = 0 := by simpa using h1
    have hfo : fol l = stv l := by unfold fol; rw [show (check l).2 = 0 from h0]; rfl
    have HF := Lib.hid hfo
    cases h2 : inB t 6
    · have HV := Lib.hid (show pheld l t = (0, 1) by unfold pheld; rw [if_pos h0, h2]; rfl)
      clear hfo h0
      go_enter Try.func96, Try.ntmps96
      go_wp2_with fail
      refine (follow_any A n c l _ HL.out).mono ?_
      rintro e w1 ⟨rfl, hb⟩
      have HB := Lib.hid hb
      clear hb
      have bx := Lib.hid (Box.new w1 #[.bool false, .bool false, .bool false, .bool false, .bool false, .bool false, .bool false, .bool false, .bool false, .bool false, .bool false, .bool false, .int .i64 0, .int .i64 0, .int .i64 0, .int .i64 0, .int .i64 0, .int .i64 0] 76)
      have HZ := Lib.hid (fol_size l)
      have h1' : ((check l).2 != 0) = false := h1
      go_wp2_with (first | (refine storeT T52 _ _ rfl rfl rfl HZ.out rfl bx.out rfl (fol_all l) ?_) | (first | (go_at_call 85; (with_reducible refine (isBelow_any _ _ _).mono ?_); rintro e w' ⟨rfl, rfl⟩)))
      go_ret2
      exact ⟨by rw [HV.out]; rfl, below_setRow' (HB.out.alloc HB.out.size _) _ _ HB.out.size⟩
    · obtain ⟨k0, k6⟩ := inB_iff.1 h2
      obtain ⟨k, rfl⟩ := Int.eq_ofNat_of_zero_le k0
      have hk : k < 6 := by omega
      have HV := Lib.hid (show pheld l k = (held l k, 0) by unfold pheld; rw [if_pos h0, h2]; rfl)
      clear hfo h0
      go_enter Try.func96, Try.ntmps96
      go_wp2_with fail
      refine (follow_any A n c l _ HL.out).mono ?_
      rintro e w1 ⟨rfl, hb⟩
      have HB := Lib.hid hb
      clear hb
      have bx := Lib.hid (Box.new w1 #[.bool false, .bool false, .bool false, .bool false, .bool false, .bool false, .bool false, .bool false, .bool false, .bool false, .bool false, .bool false, .int .i64 0, .int .i64 0, .int .i64 0, .int .i64 0, .int .i64 0, .int .i64 0] 76)
      have HZ := Lib.hid (fol_size l)
      have hcell := (bx.out.setRow (fol l)).cell (12 + k) (v := .int .i64 (held l k)) (by rw [HF.out]; exact st18_h _ _ _ k hk)
      have h1' : ((check l).2 != 0) = false := h1
      go_wp2_with (first | (refine storeT T52 _ _ rfl rfl rfl HZ.out rfl bx.out rfl (fol_all l) ?_) | (first | (go_at_call 85; (with_reducible refine (isBelow_any _ _ _).mono ?_); rintro e w' ⟨rfl, rfl⟩)))
      go_ret2
      exact ⟨by rw [HV.out]; rfl, below_setRow' (HB.out.alloc HB.out.size _) _ _ HB.out.size⟩
  · have HV := Lib.hid (show pheld l t = (0, may l) by unfold pheld; rw [if_neg (by simpa using h1)])
    go_enter Try.func96, Try.ntmps96
    go_wp2_with fail
    refine (follow_any A n c l _ HL.out).mono ?_
    rintro e w1 ⟨rfl, hb⟩
    have HB := Lib.hid hb
    clear hb
    have bx := Lib.hid (Box.new w1 #[.bool false, .bool false, .bool false, .bool false, .bool false, .bool false, .bool false, .bool false, .bool false, .bool false, .bool false, .bool false, .int .i64 0, .int .i64 0, .int .i64 0, .int .i64 0, .int .i64 0, .int .i64 0] 76)
    have HZ := Lib.hid (fol_size l)
    have h1' : ((check l).2 != 0) = true := h1
    go_wp2_with (first | (refine storeT T52 _ _ rfl rfl rfl HZ.out rfl bx.out rfl (fol_all l) ?_))
    go_ret2
    exact ⟨by rw [HV.out]; rfl, below_setRow' (HB.out.alloc HB.out.size _) _ _ HB.out.size⟩

/-- The flags of the threads that have begun, as cells. -/
def bcells (l : List Ev) : List Value := [.bool (begun l 0), .bool (begun l 1), .bool (begun l 2), .bool (begun l 3), .bool (begun l 4), .bool (begun l 5)]
theorem bcells_get (l : List Ev) (k : Nat) (hk : k < 6) : (bcells l)[k]? = some (.bool (begun l k)) := by
  match k, hk with
  | 0, _ => rfl
  | 1, _ => rfl
  | 2, _ => rfl
  | 3, _ => rfl
  | 4, _ => rfl
  | 5, _ => rfl
theorem run_part_bool {P : Program} {e : TypeId} (he : P.underlying e = some .bool) (cs : Array Value) (off : Nat) (v : Value) (h : cs[off]? = some v) (w : World) : (part e cs off).run P w = .ok v w := by
  unfold part isAgg
  simp [Sem.run_bind, run_underlying he, h]
theorem index_bools (l : List Ev) (k : Nat) (hk : k < 6) (w : World) : (Instr.index 74 (.agg (bcells l).toArray) (.int .i64 k)).run Try.prog w = .ok (.bool (begun l k)) w := by
  have hi : (Try.prog.info? 4).map (·.size) = some 1 := by kernel_rfl
  cases hq : Try.prog.info? 4 with
  | none => simp [hq] at hi
  | some i =>
    have hs : i.size = 1 := by simpa [hq] using hi
    have := run_part_bool (P := Try.prog) Try.underlying4 (bcells l).toArray k (.bool (begun l k)) (by simpa using bcells_get l k hk)
    simp [Instr.index, asIntOf, Sem.run_bind, run_underlying Try.underlying74, sizeOf, typeInfo, hk, hq, hs, this]
theorem T50 : RowTy Try.prog 74 6 := ⟨_, Try.underlying74, rfl, by kernel_rfl⟩
theorem int_info : (Try.prog.info? 3).map (fun i => (i.zero, i.size, i.bytes)) = some (some (.int .i64 0), 1, 8) := by kernel_rfl
theorem bcells_stv {l : List Ev} {j : Nat} {v : Value} (h : (bcells l)[j]? = some v) : (stv l)[j]? = some v := by
  match j, h with
  | 0, h => exact h
  | 1, h => exact h
  | 2, h => exact h
  | 3, h => exact h
  | 4, h => exact h
  | 5, h => exact h
  | j + 6, h => simp [bcells] at h
def intv (l : List Int) : List Value := l.map (Value.int .i64)
def threads (l : List Ev) : List Int := if may l = 0 then begunTo l 6 else []
/-- What Threads hands back. -/
def ThreadsPost (l : List Ev) (w : World) (e : Ending) (w' : World) : Prop :=
  ∃ v, e = .returned (.tuple #[v, .int .i64 (may l)]) ∧ w'.ownsRow w.heap.size 3 1 v (threads l).length (intv (threads l)) ∧ Below w.heap.size w w'
end Go.Proofs.Ytjddahidkodieaa

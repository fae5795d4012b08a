/- Contracts of the package trace: Check, Held, Threads. -/
import Derived.Test.YtioejkjbokcppaaRefTr2
import Derived.Test.YtioejkjbokcppaaTr2
import Derived.Maps.AppendAt
set_option linter.all false
namespace Go.Proofs.Ytioejkjbokcppaa
open Go.RowKit

section
variable {P : Program} {ops : Array Oper} {rest : List Oper} {o : Oper} {a : Act} {w : World} {Q : Exit → Act → World → Prop}
theorem storeT {ty : TypeId} {n : Nat} (hT : RowTy P ty n) (x y : Operand) (ho : o.op = .store ty x y) (hgd : o.guard = none) {c' : Array Value} (hy : a.eval y = .agg c') (hn : c'.size = n) {B : Nat} (hx : a.eval x = .pointer (some ⟨B, 0, none⟩))
    {c : Array Value} {t : TypeId} (hb : Box w B c t) (hs : c.size = n) (h1 : c'.all (·.oneCell') = true) (h : wpList P ops Q rest (a.put o.dst undef) (w.setRow B c')) : wpList P ops Q (o :: rest) a w :=
  storeB ty x y ho hgd hx hy hb (by rw [hs, hn]) (by rw [hn]; exact hT) h1 h
theorem loadT {ty : TypeId} {n : Nat} (hT : RowTy P ty n) (x : Operand) (ho : o.op = .load ty x) (hgd : o.guard = none) {B : Nat} (hx : a.eval x = .pointer (some ⟨B, 0, none⟩)) {c : Array Value} {t : TypeId} (hb : Box w B c t) (hs : c.size = n)
    (h : wpList P ops Q rest (a.put o.dst (.agg c)) w) : wpList P ops Q (o :: rest) a w :=
  loadB ty x ho hgd hx hb (by rw [hs]; exact hT) h
end
theorem fol_size (l : List Ev) : (fol l).size = 18 := by unfold fol; split <;> rfl
theorem fol_all (l : List Ev) : (fol l).all (·.oneCell') = true := by
  unfold fol; split
  · exact st18_all _ _ _
  · exact st18_all _ _ _

set_option maxHeartbeats 1000000 in
theorem check_any (A : Option Addr) (n c : Nat) (l : List Ev) (w : World) (hl : Sl w A n l) :
    Calls Try.prog 13 #[.slice A n c] w fun e w' => e = .returned (.tuple #[.int .i64 (check l).1, .int .i64 (check l).2]) ∧ Below w.heap.size w w' := by
  have HL := Lib.hid hl
  clear hl
  go_enter Try.func13, Try.ntmps13
  go_wp2_with fail
  refine (follow_any A n c l _ HL.out).mono ?_
  rintro e w1 ⟨rfl, hb⟩
  have HB := Lib.hid hb
  clear hb
  have bx := Lib.hid (Box.new w1 #[.bool false, .bool false, .bool false, .bool false, .bool false, .bool false, .bool false, .bool false, .bool false, .bool false, .bool false, .bool false, .int .i64 0, .int .i64 0, .int .i64 0, .int .i64 0, .int .i64 0, .int .i64 0] 52)
  have hz := fol_size l
  have HZ := Lib.hid hz
  clear hz
  go_wp2_with (refine storeT T52 _ _ rfl rfl rfl HZ.out rfl bx.out rfl (fol_all l) ?_)
  go_ret2
  exact ⟨rfl, below_setRow' (HB.out.alloc HB.out.size _) _ _ HB.out.size⟩

def pheld (l : List Ev) (t : Int) : Int × Int := if may l = 0 then (if inB t 6 = true then (held l t, 0) else (0, 1)) else (0, may l)
set_option maxHeartbeats 1000000 in
theorem held_any (A : Option Addr) (n c : Nat) (l : List Ev) (t : Int) (w : World) (hl : Sl w A n l) :
    Calls Try.prog 16 #[.slice A n c, .int .i64 t] w fun e w' => e = .returned (.tuple #[.int .i64 (pheld l t).1, .int .i64 (pheld l t).2]) ∧ Below w.heap.size w w' := by
  have HL := Lib.hid hl
  clear hl
  cases h1 : (may l != 0)
  · have h0 : may l = 0 := by simpa using h1
    have hfo : fol l = stv l := by unfold fol; rw [show (check l).2 = 0 from h0]; rfl
    have HF := Lib.hid hfo
    cases h2 : inB t 6
    · have HV := Lib.hid (show pheld l t = (0, 1) by unfold pheld; rw [if_pos h0, h2]; rfl)
      clear hfo h0
      go_enter Try.func16, Try.ntmps16
      go_wp2_with fail
      refine (follow_any A n c l _ HL.out).mono ?_
      rintro e w1 ⟨rfl, hb⟩
      have HB := Lib.hid hb
      clear hb
      have bx := Lib.hid (Box.new w1 #[.bool false, .bool false, .bool false, .bool false, .bool false, .bool false, .bool false, .bool false, .bool false, .bool false, .bool false, .bool false, .int .i64 0, .int .i64 0, .int .i64 0, .int .i64 0, .int .i64 0, .int .i64 0] 52)
      have HZ := Lib.hid (fol_size l)
      have h1' : ((check l).2 != 0) = false := h1
      go_wp2_with (first | (refine storeT T52 _ _ rfl rfl rfl HZ.out rfl bx.out rfl (fol_all l) ?_) | (first | (go_at_call 32; (with_reducible refine (isBelow_any _ _ _).mono ?_); rintro e w' ⟨rfl, rfl⟩)))
      go_ret2
      exact ⟨by rw [HV.out]; rfl, below_setRow' (HB.out.alloc HB.out.size _) _ _ HB.out.size⟩
    · obtain ⟨k0, k6⟩ := inB_iff.1 h2
      obtain ⟨k, rfl⟩ := Int.eq_ofNat_of_zero_le k0
      have hk : k < 6 := by omega
      have HV := Lib.hid (show pheld l k = (held l k, 0) by unfold pheld; rw [if_pos h0, h2]; rfl)
      clear hfo h0
      go_enter Try.func16, Try.ntmps16
      go_wp2_with fail
      refine (follow_any A n c l _ HL.out).mono ?_
      rintro e w1 ⟨rfl, hb⟩
      have HB := Lib.hid hb
      clear hb
      have bx := Lib.hid (Box.new w1 #[.bool false, .bool false, .bool false, .bool false, .bool false, .bool false, .bool false, .bool false, .bool false, .bool false, .bool false, .bool false, .int .i64 0, .int .i64 0, .int .i64 0, .int .i64 0, .int .i64 0, .int .i64 0] 52)
      have HZ := Lib.hid (fol_size l)
      have hcell := (bx.out.setRow (fol l)).cell (12 + k) (v := .int .i64 (held l k)) (by rw [HF.out]; exact st18_h _ _ _ k hk)
      have h1' : ((check l).2 != 0) = false := h1
      go_wp2_with (first | (refine storeT T52 _ _ rfl rfl rfl HZ.out rfl bx.out rfl (fol_all l) ?_) | (first | (go_at_call 32; (with_reducible refine (isBelow_any _ _ _).mono ?_); rintro e w' ⟨rfl, rfl⟩)))
      go_ret2
      exact ⟨by rw [HV.out]; rfl, below_setRow' (HB.out.alloc HB.out.size _) _ _ HB.out.size⟩
  · have HV := Lib.hid (show pheld l t = (0, may l) by unfold pheld; rw [if_neg (by simpa using h1)])
    go_enter Try.func16, Try.ntmps16
    go_wp2_with fail
    refine (follow_any A n c l _ HL.out).mono ?_
    rintro e w1 ⟨rfl, hb⟩
    have HB := Lib.hid hb
    clear hb
    have bx := Lib.hid (Box.new w1 #[.bool false, .bool false, .bool false, .bool false, .bool false, .bool false, .bool false, .bool false, .bool false, .bool false, .bool false, .bool false, .int .i64 0, .int .i64 0, .int .i64 0, .int .i64 0, .int .i64 0, .int .i64 0] 52)
    have HZ := Lib.hid (fol_size l)
    have h1' : ((check l).2 != 0) = true := h1
    go_wp2_with (first | (refine storeT T52 _ _ rfl rfl rfl HZ.out rfl bx.out rfl (fol_all l) ?_))
    go_ret2
    exact ⟨by rw [HV.out]; rfl, below_setRow' (HB.out.alloc HB.out.size _) _ _ HB.out.size⟩

/-- The flags of the threads that have begun, as cells. -/
def bcells (l : List Ev) : List Value := [.bool (begun l 0), .bool (begun l 1), .bool (begun l 2), .bool (begun l 3), .bool (begun l 4), .bool (begun l 5)]
theorem bcells_get (l : List Ev) (k : Nat) (hk : k < 6) : (bcells l)[k]? = some (.bool (begun l k)) := by
  match k, hk with
  | 0, _ => rfl
  | 1, _ => rfl
  | 2, _ => rfl
  | 3, _ => rfl
  | 4, _ => rfl
  | 5, _ => rfl
theorem run_part_bool {P : Program} {e : TypeId} (he : P.underlying e = some .bool) (cs : Array Value) (off : Nat) (v : Value) (h : cs[off]? = some v) (w : World) : (part e cs off).run P w = .ok v w := by
  unfold part isAgg
  simp [Sem.run_bind, run_underlying he, h]
theorem index_bools (l : List Ev) (k : Nat) (hk : k < 6) (w : World) : (Instr.index 50 (.agg (bcells l).toArray) (.int .i64 k)).run Try.prog w = .ok (.bool (begun l k)) w := by
  have hi : (Try.prog.info? 4).map (·.size) = some 1 := by kernel_rfl
  cases hq : Try.prog.info? 4 with
  | none => simp [hq] at hi
  | some i =>
    have hs : i.size = 1 := by simpa [hq] using hi
    have := run_part_bool (P := Try.prog) Try.underlying4 (bcells l).toArray k (.bool (begun l k)) (by simpa using bcells_get l k hk)
    simp [Instr.index, asIntOf, Sem.run_bind, run_underlying Try.underlying50, sizeOf, typeInfo, hk, hq, hs, this]
theorem T50 : RowTy Try.prog 50 6 := ⟨_, Try.underlying50, rfl, by kernel_rfl⟩
theorem int_info : (Try.prog.info? 3).map (fun i => (i.zero, i.size, i.bytes)) = some (some (.int .i64 0), 1, 8) := by kernel_rfl
theorem bcells_stv {l : List Ev} {j : Nat} {v : Value} (h : (bcells l)[j]? = some v) : (stv l)[j]? = some v := by
  match j, h with
  | 0, h => exact h
  | 1, h => exact h
  | 2, h => exact h
  | 3, h => exact h
  | 4, h => exact h
  | 5, h => exact h
  | j + 6, h => simp [bcells] at h
def intv (l : List Int) : List Value := l.map (Value.int .i64)
def threads (l : List Ev) : List Int := if may l = 0 then begunTo l 6 else []
/-- What Threads hands back. -/
def ThreadsPost (l : List Ev) (w : World) (e : Ending) (w' : World) : Prop :=
  ∃ v, e = .returned (.tuple #[v, .int .i64 (may l)]) ∧ w'.ownsRow w.heap.size 3 1 v (threads l).length (intv (threads l)) ∧ Below w.heap.size w w'
theorem own_block_ge {w : World} {base : Nat} {e : TypeId} {size n : Nat} {v : Value} {xs : List Value} (h : w.ownsRow base e size v n xs) : ∀ k, v.ownBlock = some k → base ≤ k := by
  intro k hk
  rcases h.2 with ⟨rfl, _⟩ | ⟨g, cap, cur, rfl, hg, _⟩
  · cases hk
  · simp [Value.ownBlock] at hk; omega
theorem own_alloc {w : World} {base : Nat} {e : TypeId} {size n : Nat} {v : Value} {xs : List Value} (h : w.ownsRow base e size v n xs) (o : Obj) : (w.alloc o).ownsRow base e size v n xs :=
  h.kept (World.grownBy_alloc w o none) (by
    cases hv : v.ownBlock
    · exact .inl rfl
    · exact .inr (by simp))
set_option maxHeartbeats 2000000 in
theorem threads_any (A : Option Addr) (n c : Nat) (l : List Ev) (w : World) (hl : Sl w A n l) :
    Calls Try.prog 19 #[.slice A n c] w (ThreadsPost l w) := by
  have HL := Lib.hid hl
  clear hl
  cases h1 : (may l != 0)
  · have h0 : may l = 0 := by simpa using h1
    have HF := Lib.hid (show fol l = stv l by unfold fol; rw [show (check l).2 = 0 from h0]; rfl)
    have HT := Lib.hid (show threads l = begunTo l 6 by unfold threads; rw [if_pos h0])
    have H0 := Lib.hid h0
    clear h0
    obtain ⟨i0, hi0, hz0, hz1, hz2⟩ := info_parts int_info
    have J := Lib.hid (And.intro hi0 (And.intro hz0 (And.intro hz1 hz2)))
    clear hi0 hz0 hz1 hz2
    go_enter Try.func19, Try.ntmps19
    go_wp2_with fail
    refine (follow_any A n c l _ HL.out).mono ?_
    rintro e w1 ⟨rfl, hb⟩
    have bx := Lib.hid (Box.new w1 #[.bool false, .bool false, .bool false, .bool false, .bool false, .bool false, .bool false, .bool false, .bool false, .bool false, .bool false, .bool false, .int .i64 0, .int .i64 0, .int .i64 0, .int .i64 0, .int .i64 0, .int .i64 0] 52)
    have HZ := Lib.hid (fol_size l)
    have hr := Lib.hid (show ((w1.alloc (.cells #[.bool false, .bool false, .bool false, .bool false, .bool false, .bool false, .bool false, .bool false, .bool false, .bool false, .bool false, .bool false, .int .i64 0, .int .i64 0, .int .i64 0, .int .i64 0, .int .i64 0, .int .i64 0] 52)).setRow w1.heap.size (fol l)).rangeAt w1.heap.size 0 (bcells l) from fun j v hv => by
      rw [Nat.zero_add]
      exact (bx.out.setRow (fol l)).cell j (by rw [HF.out]; exact bcells_stv hv))
    have HB := Lib.hid (below_setRow' (hb.alloc hb.size (.cells #[.bool false, .bool false, .bool false, .bool false, .bool false, .bool false, .bool false, .bool false, .bool false, .bool false, .bool false, .bool false, .int .i64 0, .int .i64 0, .int .i64 0, .int .i64 0, .int .i64 0, .int .i64 0] 52)) w1.heap.size (fol l) hb.size)
    clear hb
    have h1' : ((check l).2 != 0) = false := h1
    go_wp2_with (first | (refine storeT T52 _ _ rfl rfl rfl HZ.out rfl bx.out rfl (fol_all l) ?_) | (refine wpList_load_mid rfl 50 _ rfl _ _ rfl (bcells l) _ hr.out Try.underlying50 rfl (by kernel_rfl) ?_))
    generalize ((w1.alloc (.cells #[.bool false, .bool false, .bool false, .bool false, .bool false, .bool false, .bool false, .bool false, .bool false, .bool false, .bool false, .bool false, .int .i64 0, .int .i64 0, .int .i64 0, .int .i64 0, .int .i64 0, .int .i64 0] 52)).setRow w1.heap.size (fol l)) = W at *
    go_loopw [7, 21] (fun v i wr => ∃ k : Nat, k ≤ 6 ∧ i = .int .i64 k ∧ wr.ownsRow w.heap.size 3 1 v (begunTo l k).length (intv (begunTo l k)) ∧ Below w.heap.size w wr) (fun _ i _ => 6 - (intOf i).toNat)
    case atStart => exact ⟨0, by omega, rfl, World.ownsRow_nil .., HB.out⟩
    case round =>
      obtain ⟨k, hk, rfl, hown, hbel⟩ := hrel
      have HO := Lib.hid hown
      have HW := Lib.hid hbel
      clear hown hbel
      by_cases hlt : k < 6
      · have HI := index_bools l k hlt
        cases hbg : begun l k
        · have HN := Lib.hid (begunTo_no l k hbg)
          go_wp2
          go_roundw
          case rel => exact ⟨k + 1, by omega, by go_num, by rw [HN.out]; exact HO.out, HW.out⟩
          case measure => simp [intOf]; omega
        · have HN := Lib.hid (begunTo_yes l k hbg)
          have hlen := begunTo_len l k
          obtain ⟨hi0, hz0, hz1, hz2⟩ := J.out
          have HOA := Lib.hid (own_alloc HO.out (.cells #[.int .i64 k] 3))
          go_wp2_with (at_builtin; refine wpList_append_own_at _ rfl (.tmp 26) (.tmp 28) _ rfl w.heap.size 3 i0 _ 1 8 Try.underlying32 hi0 hz0 hz1 hz2 rfl (by omega) u7 (begunTo l k).length (intv (begunTo l k)) rfl HOA.out ⟨wr.heap.size, 0, none⟩ 1 1 [.int .i64 k] rfl rfl (cell_one_new _ _ _) (by simp [Value.oneCell']) (by simp only [maxLen]; omega) (by omega) (by simp; have := HW.out.size; omega) ?_; intro v2 w2 hown2 hg2 hn2 hat2)
          go_roundw
          case rel =>
            refine ⟨k + 1, by omega, by go_num, ?_, (HW.out.alloc HW.out.size _).grown hg2 (by simp; have := HW.out.size; omega) (own_block_ge HO.out)⟩
            rw [HN.out]
            simpa [intv] using hown2
          case measure => simp [intOf]; omega
      · obtain rfl : k = 6 := by omega
        go_wp2
        go_ret2
        exact ⟨_, by rw [H0.out]; rfl, by rw [HT.out]; exact HO.out, HW.out⟩
  · have HT := Lib.hid (show threads l = [] by unfold threads; rw [if_neg (by simpa using h1)])
    go_enter Try.func19, Try.ntmps19
    go_wp2_with fail
    refine (follow_any A n c l _ HL.out).mono ?_
    rintro e w1 ⟨rfl, hb⟩
    have HB := Lib.hid hb
    clear hb
    have bx := Lib.hid (Box.new w1 #[.bool false, .bool false, .bool false, .bool false, .bool false, .bool false, .bool false, .bool false, .bool false, .bool false, .bool false, .bool false, .int .i64 0, .int .i64 0, .int .i64 0, .int .i64 0, .int .i64 0, .int .i64 0] 52)
    have HZ := Lib.hid (fol_size l)
    have h1' : ((check l).2 != 0) = true := h1
    go_wp2_with (first | (refine storeT T52 _ _ rfl rfl rfl HZ.out rfl bx.out rfl (fol_all l) ?_))
    go_ret2
    exact ⟨_, rfl, by rw [HT.out]; exact World.ownsRow_nil .., below_setRow' (HB.out.alloc HB.out.size _) _ _ HB.out.size⟩
end Go.Proofs.Ytioejkjbokcppaa

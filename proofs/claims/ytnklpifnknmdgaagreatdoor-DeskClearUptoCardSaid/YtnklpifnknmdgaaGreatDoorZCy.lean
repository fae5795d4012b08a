import Derived.Deep.Strs
import Derived.Test.YtnklpifnknmdgaaGreatDoorZOr
import Derived.Test.YtnklpifnknmdgaaGreatDoorZDkB
import Derived.Test.YtnklpifnknmdgaaGreatDoorCards
import Derived.Test.YtnklpifnknmdgaaGreatDoorTie
import Derived.ProofKit
import Derived.OpenShut
import Derived.Deep.DeepHandedRow
import Derived.LaidMore
import Derived.SevenTiedAt
import Derived.MakeChecks
import Derived.Stop.LaidErr
import Derived.Lib.LaidTab
import Derived.Lib.AppendZeros
import Derived.Test.YtnklpifnknmdgaaGreatDoorZCp
import Derived.Test.YtnklpifnknmdgaaGreatDoorZTrace4
import Derived.Test.YtnklpifnknmdgaaGreatDoorZCut
set_option linter.all false
set_option maxRecDepth 100000
namespace Go.Proofs.YtnklpifnknmdgaaGreatDoor
open Go Go.ChangeShapes Go.WideShapes Go.ChangeAt Go.RowKit

theorem bulk_pos {H : Type} (d : DataW H) : 1 ≤ Rows.uptoBulk d := by
  cases d with
  | lit l => cases l <;> simp [Rows.uptoBulk]
  | _ => simp [Rows.uptoBulk]
theorem bulk_len {H : Type} : ∀ es : List (DataW H), es.length ≤ Rows.uptoBulkAll es
  | [] => Nat.zero_le _
  | d :: es => by
    have h1 := bulk_pos d
    have h2 := bulk_len es
    simp only [Rows.uptoBulkAll, List.length_cons]
    omega
theorem bulk_sl {H : Type} {d : DataW H} {n : Nat} (h : (d = .nil ∧ n = 0) ∨ ∃ es sp, d = .slice es sp ∧ es.length = n) : n ≤ Rows.uptoBulk d := by
  rcases h with ⟨_, rfl⟩ | ⟨es, sp, rfl, rfl⟩
  · exact Nat.zero_le _
  · have := bulk_len es
    simp only [Rows.uptoBulk]
    omega
section
variable {H : Type} {enc : TypeId × Value → H} {P : Program} {w : World} {base : Nat} {spare : Nat → Bool} {held : Bool}
theorem open_strs_arg {r : Reach} {b0 : Nat} {t e : TypeId} {v : Value} {d : DataW H} {ps : List MemPlace} (ht : P.underlying t = some (.slice e)) (he : P.underlying e = some .string) (hC : P.cellsOf e = 1)
    (hval : Value.okWide P w r b0 t v) (hd : DataW.Trod enc P w base spare held t v d ps) :
    ∃ A n c l, v = .slice A n c ∧ WS w A n l ∧ n ≤ c ∧ c ≤ maxLen ∧ (∀ x ∈ l, x.length ≤ maxLen) ∧ ((d = .nil ∧ n = 0) ∨ ∃ es sp, d = .slice es sp ∧ es.length = n) := by
  obtain ⟨a, len, cap, rfl⟩ := okWide_slice ht hval
  obtain ⟨fuel, hf⟩ := hd
  rcases Go.Deep.open_strs ht he hC hf with ⟨hcs, hx⟩ | ⟨a', len', cap', m, Sx, hcs, _, hl, hm, hmm, hx, hw⟩
  · simp [Value.cells] at hcs
    obtain ⟨rfl, rfl, rfl⟩ := hcs
    exact ⟨none, 0, 0, [], rfl, ⟨rfl, fun h => absurd h (by omega)⟩, by omega, by omega, fun _ h => (by cases h), .inl ⟨(Prod.mk.inj hx).1, rfl⟩⟩
  · simp [Value.cells] at hcs
    obtain ⟨rfl, rfl, rfl⟩ := hcs
    have hlm : len ≤ m := by rw [hmm]; split <;> omega
    refine ⟨some a', len, cap, (List.range len).map fun i => (Sx i).data.toList, rfl, ⟨by simp, fun h0 => ?_⟩, hl, hm, fun x hx => ?_, .inr ⟨_, _, (Prod.mk.inj hx).1, by simp⟩⟩
    · obtain ⟨b, off, spot⟩ := a'
      have hs : spot = none := by
        have := World.cell?_spot (hw 0 (by omega)).1
        simpa [Addr.add] using this
      subst hs
      have hadd : ∀ i, (⟨b, off, none⟩ : Addr).add i = ⟨b, off + i, none⟩ := fun i => by unfold Addr.add; split <;> simp_all
      have hlt : b < w.heap.size := by
        have := (hw 0 (by omega)).1
        rw [hadd] at this
        rcases Nat.lt_or_ge b w.heap.size with h' | h'
        · exact h'
        · unfold World.cell? at this; rw [Array.getElem?_eq_none h'] at this; simp at this
      refine ⟨b, off, rfl, hlt, fun i x hx => ?_⟩
      obtain ⟨hi, rfl⟩ : i < len ∧ x = (Sx i).data.toList := by
        rw [List.getElem?_map] at hx
        rcases Nat.lt_or_ge i len with hi | hi
        · rw [List.getElem?_range hi] at hx
          simp only [Option.map_some, Option.some.injEq] at hx
          exact ⟨hi, hx.symm⟩
        · rw [List.getElem?_eq_none (by simpa using hi)] at hx; cases hx
      have h1 := (hw i (by omega)).1
      rw [hadd] at h1
      rw [h1]
      rfl
    · obtain ⟨i, hi, rfl⟩ := List.mem_map.1 hx
      have := (hw i (by have := List.mem_range.1 hi; omega)).2
      exact this
end
end Go.Proofs.YtnklpifnknmdgaaGreatDoor
set_option linter.all false
set_option maxRecDepth 100000
namespace Go.Proofs.YtnklpifnknmdgaaGreatDoor
open Go Go.ChangeShapes Go.WideShapes Go.ChangeAt Go.RowKit

def litV : DataW Unit → Value
  | .lit (.int k n) => .int k n
  | _ => undef
def cells1 : DataW Unit → Array Value
  | .agg l => (l.map litV).toArray
  | _ => #[]
def part1 : DataW Unit → List Value
  | .agg l => l.map litV
  | _ => []
def cells2 : DataW Unit → Array Value
  | .agg l => (l.flatMap part1).toArray
  | _ => #[]
def setC (c : Array Value) : Obj → Obj
  | .cells _ t fr => .cells c t fr
  | o => o
abbrev synS : ByteArray := { data := #[105, 110, 118, 97, 108, 105, 100, 32, 115, 121, 110, 116, 97, 120] }
abbrev rngS : ByteArray := { data := #[118, 97, 108, 117, 101, 32, 111, 117, 116, 32, 111, 102, 32, 114, 97, 110, 103, 101] }
noncomputable def low : Nat := (World.holding Tryz.prog default ⟨#[], #[], []⟩).heap.size
noncomputable def heap0 (os : Os) : Array Obj := (World.holding Tryz.prog os ⟨#[.cells #[.string synS] 301, .cells #[.string rngS] 301], #[], []⟩).heap
noncomputable def heap1 (os : Os) : Array Obj := (((heap0 os).modify 4 (setC (cells1 Rows.laid_math_bits_deBruijn32tab))).modify 5 (setC (cells1 Rows.laid_math_bits_deBruijn64tab))).modify 1 (setC (cells1 Rows.laid_internal_strconv_uint64pow10))
noncomputable def heap2 (os : Os) : Array Obj := ((heap1 os).modify 3 (setC (cells2 Rows.laid_unicode_utf8_acceptRanges))).modify 2 (setC (cells1 Rows.laid_unicode_utf8_first))
noncomputable def heap3 (os : Os) : Array Obj := ((heap2 os).modify 6 (setC #[.iface 299 (.pointer (some ⟨low, 0, none⟩))])).modify 7 (setC #[.iface 299 (.pointer (some ⟨low + 1, 0, none⟩))])
noncomputable def doorW (os : Os) : World := { World.holding Tryz.prog os ⟨#[.cells #[.string synS] 301, .cells #[.string rngS] 301], #[], []⟩ with heap := heap3 os }

theorem star_errs : "*" ++ "errors.errorString" = "*errors.errorString" := by decide
theorem row_errs (u : TypeId) (h : Tryz.prog.typeName? 3 u = some "*errors.errorString") : u = 299 :=
  typeName_ptr_named (nm := "errors.errorString") (by rw [star_errs]; kernel_rfl) (by kernel_rfl) (by decide) u (by rw [star_errs]; exact h)
theorem pow_tab : Rows.laid_internal_strconv_uint64pow10 = Lib.tabData (H := Unit) .u64 Lib.pow10Tab := rfl
theorem gPow : Tryz.prog.globalNamed "internal/strconv.uint64pow10" = some 1 := by kernel_rfl
theorem gSyn : Tryz.prog.globalNamed "strconv.ErrSyntax" = some 6 := by kernel_rfl
theorem gRng : Tryz.prog.globalNamed "strconv.ErrRange" = some 7 := by kernel_rfl
theorem tabs_of {W : World} {r1 r2 : List (String × DataW Unit)} (h1 : laidMet Tryz.prog (("internal/strconv.uint64pow10", Rows.laid_internal_strconv_uint64pow10) :: r1) W)
    (h2 : laidMet Tryz.prog (("strconv.ErrRange", Rows.laid_strconv_ErrRange) :: ("strconv.ErrSyntax", Rows.laid_strconv_ErrSyntax) :: r2) W) : Tabs W := by
  refine ⟨?_, ?_, ?_⟩
  · rw [pow_tab] at h1
    exact Lib.tabIs_of_head (t := 173) (e := 133) (n := 20) gPow (by kernel_rfl) Tryz.underlying173 Tryz.underlying133 (by kernel_rfl) (by kernel_rfl) h1
  · obtain ⟨a, s, hv, -, -, -⟩ := laid_sentinel (ti := 100) (tp := 299) (te := 301) (ts := 9) h2.tail gSyn (by kernel_rfl) Tryz.underlying100 row_errs Tryz.underlying299 Tryz.underlying301 rfl rfl Tryz.underlying9 (by kernel_rfl) (by kernel_rfl)
    exact ⟨_, _, hv⟩
  · obtain ⟨a, s, hv, -, -, -⟩ := laid_sentinel (ti := 100) (tp := 299) (te := 301) (ts := 9) h2 gRng (by kernel_rfl) Tryz.underlying100 row_errs Tryz.underlying299 Tryz.underlying301 rfl rfl Tryz.underlying9 (by kernel_rfl) (by kernel_rfl)
    exact ⟨_, _, hv⟩
theorem tabs5 {W : World} (h : laidMetH Tryz.prog Rows.deskFrontRow.laid W) : Tabs W := by
  rw [MakeChecks.laidMetH_plain _ _ _ (by kernel_rfl)] at h
  exact tabs_of h.tail.tail h.tail.tail.tail
end Go.Proofs.YtnklpifnknmdgaaGreatDoor
set_option linter.all false
set_option maxRecDepth 100000
namespace Go.Proofs.YtnklpifnknmdgaaGreatDoor
open Go Go.RowKit

set_option maxHeartbeats 4000000 in
theorem grow_any (n : Nat) (w : World) (hn : n ≤ 1000) : Calls Tryz.prog 180 #[.slice none 0 0, .int .i64 n] w (CpPost w 0 []) := by
  obtain ⟨i0, hi0, hz0, hz1, hz2⟩ := info_parts ev_info
  have HO := Lib.hid (World.ownsRow_nil w w.heap.size 45 3)
  have hn0 : ¬ ((n : Int) < 0) := by omega
  have hw : IntKind.i64.wrap (n : Int) = n := IntWalk.i64_in _ (by omega)
  have HN := Lib.hid hn
  clear hn
  rcases Nat.eq_zero_or_pos n with h0 | h0
  · subst h0
    clear hw hn0
    go_enter Tryz.func180, Tryz.ntmps180
    go_wp2
    go_ret
    exact ⟨_, rfl, HO.out, Below.refl _ _⟩
  · have hp : (0 : Int) < (n : Int) := by omega
    have hsz : 0 < i0.size := by omega
    have HR := Lib.hid (Lib.run_append_nil_zeros (P := Tryz.prog) w 30 3 30 45 i0 _ .i64 .i64 Tryz.underlying30 Tryz.underlying3 hi0 hz0 n h0 hsz (by have := HN.out; omega) (by have := HN.out; rw [hz2]; omega))
    have HGE := Lib.hid (grownCap_ge w n 0 45)
    have HLE := Lib.hid (grownCap_le_maxLen w n 0 45 (by have := HN.out; unfold maxLen; omega))
    generalize grownCap w n 0 45 = cp at *
    have hge : (n : Int) ≤ cp := by have := HGE.out; omega
    clear h0 hsz
    go_enter Tryz.func180, Tryz.ntmps180
    go_wp2_with (at_builtin; refine Lib.wpList_append_run _ rfl _ _ _ _ rfl _ _ rfl rfl _ _ HR.out ?_)
    go_ret
    refine ⟨_, rfl, ⟨rfl, .inr ⟨w.heap.size, cp, _, rfl, Nat.le_refl _, Box.new w.drew _ _, Nat.zero_le _, HLE.out, ?_, ?_⟩⟩, (⟨rfl, rfl, rfl, Nat.le_refl _, fun _ _ => rfl⟩ : Below w.heap.size w w.drew).alloc (Nat.le_refl _) _⟩
    · have := HGE.out
      simp [Builtin.zeroCells, Value.cells]
      omega
    · simp [evc]
theorem fillTwo {n : Nat} (hn : n = 2) (f : Fin n → Value) (a b : Value) : ((Array.ofFn f).setIfInBounds 0 a).setIfInBounds 1 b = #[a, b] := by
  subst hn
  apply Array.ext
  · simp
  · intro i h1 h2
    have hi : i < 2 := by simpa using h2
    match i, hi with
    | 0, _ => simp [Array.getElem_setIfInBounds]
    | 1, _ => simp [Array.getElem_setIfInBounds]
theorem run_build2 {P : Program} (t e : TypeId) (i : TypeInfo) (ht : P.underlying t = some (.slice e)) (hi : P.info? e = some i) (hz : i.zero = some (.slice none 0 0)) (hs : i.size = 1) (A B : Option Addr) (n c m d : Nat) (w : World) :
    (Instr.buildSlice t 2 #[(0, .slice A n c), (1, .slice B m d)]).run P w = .ok (.slice (some ⟨w.heap.size, 0, none⟩) 2 2) (w.alloc (.cells #[.slice A n c, .slice B m d] e)) := by
  simp [Instr.buildSlice, Sem.run_bind, run_underlying ht, sizeOf, typeInfo, hi, hs, zeroValue, hz, Instr.fill, Value.cells, newRow, newObj, List.zipIdx, Array.range, Result.andThen, go_sem]
  rw [fillTwo (by first | rfl | rw [hs] | simp [hs])]
  rfl
theorem wp_build2 {P : Program} {o : Oper} {a : Act} {w : World} {K : Act → World → Prop} {Q : Exit → Act → World → Prop} (t : TypeId) (x y : Operand) (ho : o.op = .buildSlice t 2 #[(0, x), (1, y)]) (e : TypeId) (i : TypeInfo) (ht : P.underlying t = some (.slice e)) (hi : P.info? e = some i)
    (hz : i.zero = some (.slice none 0 0)) (hs : i.size = 1) (A B : Option Addr) (n c m d : Nat) (hx : a.eval x = .slice A n c) (hy : a.eval y = .slice B m d)
    (h : K (a.put o.dst (.slice (some ⟨w.heap.size, 0, none⟩) 2 2)) (w.alloc (.cells #[.slice A n c, .slice B m d] e))) : o.wp P a w K Q := by
  unfold Oper.wp execOp
  simp only [ho, Sem.run_bind, Sem.run_pure, Result.andThen_ok, List.map_toArray, List.map_cons, List.map_nil, hx, hy, run_build2 t e i ht hi hz hs A B n c m d w]
  exact h
theorem info_evs : ∃ i, Tryz.prog.info? 30 = some i ∧ i.zero = some (.slice none 0 0) ∧ i.size = 1 := by
  have h : (Tryz.prog.info? 30).map (fun i => (i.zero, i.size)) = some (some (.slice none 0 0), 1) := by kernel_rfl
  cases hi : Tryz.prog.info? 30 with
  | none => rw [hi] at h; cases h
  | some i =>
    rw [hi] at h
    simp only [Option.map_some, Option.some.injEq, Prod.mk.injEq] at h
    exact ⟨i, rfl, h.1, h.2⟩
set_option maxHeartbeats 4000000 in
theorem concat_any (B n1 c1 n2 c2 : Nat) (A1 A2 : Option Addr) (l1 l2 : List Ev) (t : TypeId) (w : World) (hB : Box w B #[.slice A1 n1 c1, .slice A2 n2 c2] t) (h1 : Sl w A1 n1 l1) (h2 : Sl w A2 n2 l2) (hn : n1 + n2 ≤ 1000) :
    Calls Tryz.prog 149 #[.slice (some ⟨B, 0, none⟩) 2 2] w (CpPost w (n1 + n2) (l1 ++ l2)) := by
  obtain ⟨i0, hi0, hz0, hz1, hz2⟩ := info_parts ev_info
  have HB := Lib.hid hB
  have H1 := Lib.hid h1
  have H2 := Lib.hid h2
  have HN := Lib.hid hn
  clear hB h1 h2
  have hc0 : w.cell? ⟨B, 0, none⟩ = some (.slice A1 n1 c1) := HB.out.cell 0 rfl
  have hc1 : w.cell? ⟨B, 1, none⟩ = some (.slice A2 n2 c2) := HB.out.cell 1 rfl
  have hlt := HB.out.lt
  go_enter Tryz.func149, Tryz.ntmps149
  go_wp2
  go_loopw [3, 11] (fun q u wr => ∃ i : Nat, i ≤ 2 ∧ u = .int .i64 i ∧ q = .int .i64 (if i = 0 then 0 else if i = 1 then (n1 : Int) else ((n1 + n2 : Nat) : Int)) ∧ w = wr) (fun _ u _ => 2 - (intOf u).toNat)
  case atStart => exact ⟨0, by omega, rfl, rfl, rfl⟩
  case round =>
    obtain ⟨i, hi, rfl, rfl, rfl⟩ := hrel
    rcases (show i = 0 ∨ i = 1 ∨ i = 2 by omega) with rfl | rfl | rfl
    · simp only [if_true]
      go_wp2
      go_roundw
      case rel => exact ⟨1, by omega, rfl, by simp, trivial⟩
      case measure => simp [intOf]
    · simp only [if_true]
      go_wp2
      go_roundw
      case rel => exact ⟨2, by omega, rfl, by simp, trivial⟩
      case measure => simp [intOf]
    · rw [show (if (2 : Nat) = 0 then (0 : Int) else if (2 : Nat) = 1 then (n1 : Int) else ((n1 + n2 : Nat) : Int)) = ((n1 + n2 : Nat) : Int) from rfl]
      go_wp2_with fail
      refine (grow_any (n1 + n2) w hn).mono ?_
      rintro e1 w1 ⟨v1, rfl, ho1, hb1⟩
      have HW1 := Lib.hid (Bel.of hb1)
      have HO1 := Lib.hid ho1
      clear ho1 hb1 hc0 hc1 hlt
      go_wp2
      go_loopw [6, 27] (fun v u wz => ∃ i : Nat, i ≤ 2 ∧ u = .int .i64 i ∧ wz.ownsRow w.heap.size 45 3 v (if i = 0 then 0 else if i = 1 then n1 else n1 + n2) (if i = 0 then [] else if i = 1 then evc l1 else evc (l1 ++ l2)) ∧ Bel w wz) (fun _ u _ => 2 - (intOf u).toNat)
      case atStart => exact ⟨0, by omega, rfl, HO1.out, HW1.out⟩
      case round =>
        obtain ⟨i, hi, rfl, ho2, hb2⟩ := hrel
        have HB3 := Lib.hid (hb2.box HB.out)
        rcases (show i = 0 ∨ i = 1 ∨ i = 2 by omega) with rfl | rfl | rfl
        · have HO2 := Lib.hid (show wr.ownsRow w.heap.size 45 3 u6 0 [] from ho2)
          have hd : wr.cell? ⟨B, 0, none⟩ = some (.slice A1 n1 c1) := HB3.out.cell 0 rfl
          have hlt := HB3.out.lt
          have HS := Lib.hid (show Sl wr A1 n1 l1 from H1.out.bel hb2.out).src
          have HLN := Lib.hid (show (evc l1).length = n1 * 3 by rw [evc_length, H1.out.1])
          have HB2 := Lib.hid hb2
          clear ho2 hb2
          go_wp2_with (at_builtin; refine wpList_append_srcE rfl (.tmp 31) (.tmp 32) _ rfl w.heap.size 45 i0 _ 3 24 Tryz.underlying30 hi0 hz0 hz1 hz2 rfl (by omega) _ 0 [] rfl HO2.out A1 n1 c1 (evc l1) rfl HLN.out HS.out (evc_one l1) (by have := HN.out; unfold maxLen; omega) (by have := HN.out; omega) HB2.out.size ?_; intro v5 w5 hown5 hg5 hat5)
          have hb5 := HB2.out.out.trans (grown_below hg5 HO2.out (Nat.le_refl _) HB2.out.size)
          go_roundw
          case rel => exact ⟨1, by omega, rfl, by simpa using hown5, Bel.of hb5⟩
          case measure => simp [intOf]
        · have HO2 := Lib.hid (show wr.ownsRow w.heap.size 45 3 u6 n1 (evc l1) from ho2)
          have hd : wr.cell? ⟨B, 1, none⟩ = some (.slice A2 n2 c2) := HB3.out.cell 1 rfl
          have hlt := HB3.out.lt
          have HS := Lib.hid (show Sl wr A2 n2 l2 from H2.out.bel hb2.out).src
          have HLN := Lib.hid (show (evc l2).length = n2 * 3 by rw [evc_length, H2.out.1])
          have HB2 := Lib.hid hb2
          clear ho2 hb2
          go_wp2_with (at_builtin; refine wpList_append_srcE rfl (.tmp 31) (.tmp 32) _ rfl w.heap.size 45 i0 _ 3 24 Tryz.underlying30 hi0 hz0 hz1 hz2 rfl (by omega) _ n1 (evc l1) rfl HO2.out A2 n2 c2 (evc l2) rfl HLN.out HS.out (evc_one l2) (by have := HN.out; unfold maxLen; omega) (by have := HN.out; omega) HB2.out.size ?_; intro v5 w5 hown5 hg5 hat5)
          have hb5 := HB2.out.out.trans (grown_below hg5 HO2.out (Nat.le_refl _) HB2.out.size)
          go_roundw
          case rel => exact ⟨2, by omega, rfl, by rw [← evc_append] at hown5; exact hown5, Bel.of hb5⟩
          case measure => simp [intOf]
        · have HO2 := Lib.hid (show wr.ownsRow w.heap.size 45 3 u6 (n1 + n2) (evc (l1 ++ l2)) from ho2)
          clear ho2
          go_wp2
          go_ret
          exact ⟨_, rfl, HO2.out, hb2.out⟩
end Go.Proofs.YtnklpifnknmdgaaGreatDoor
set_option linter.all false
set_option maxRecDepth 100000
namespace Go.Proofs.YtnklpifnknmdgaaGreatDoor
open Go Go.RowKit

set_option maxHeartbeats 8000000 in
theorem without_any : WithoutC := by
  intro A n c l i w hl hnc hcm hi64
  have HL := Lib.hid hl
  have HC := Lib.hid (And.intro hnc hcm)
  have HML := Lib.hid (show (check l).2 = may l from rfl)
  clear hl hnc hcm
  go_enter Tryz.func116, Tryz.ntmps116
  go_wp2_with fail
  refine (check_any A n c l _ HL.out).mono ?_
  rintro e1 w1 ⟨rfl, hb1⟩
  rw [HML.out]
  have HW1 := Lib.hid (Bel.of hb1)
  clear hb1
  cases h1 : (may l != 0)
  · have hm : may l = 0 := by simpa using h1
    have HM := Lib.hid hm
    have hn80 : n ≤ 80 := by rw [← HL.out.1]; exact ((may_iff l).1 hm).1
    clear hm
    by_cases h0 : i < 0
    · have HI := Lib.hid h0
      go_wp2
      go_ret2
      exact ⟨[], 1, .inr (.inl ⟨HM.out, .inl HI.out, rfl, rfl⟩), own_nil _ _ _ HW1.out.out⟩
    · by_cases h2 : (n : Int) ≤ i
      · have HI := Lib.hid h2
        have h2d : decide ((n : Int) ≤ i) = true := decide_eq_true h2
        go_wp2
        go_ret2
        exact ⟨[], 1, .inr (.inl ⟨HM.out, .inr (by rw [HL.out.1]; exact HI.out), rfl, rfl⟩), own_nil _ _ _ HW1.out.out⟩
      · obtain ⟨k, rfl⟩ : ∃ k : Nat, i = k := ⟨i.toNat, by omega⟩
        have hkn : k < n := by omega
        have h5 : ¬ (k : Int) < 0 := by omega
        have h6 : ¬ (n : Int) ≤ (k : Int) := by omega
        have h6' : ¬ n ≤ k := by omega
        have hw8 : IntKind.i64.wrap ((k : Int) + 1) = (k : Int) + 1 := IntWalk.i64_in _ (by omega)
        have HMK := Lib.hid (show (check (l.eraseIdx k)).2 = may (l.eraseIdx k) from rfl)
        have HLE := Lib.hid (show (l.eraseIdx k).length = n - 1 by rw [List.length_eraseIdx_of_lt (by rw [HL.out.1]; exact hkn), HL.out.1])
        clear h0 h2 hi64
        obtain ⟨b, o, e0, rfl, _, _, _⟩ := HL.out.at_ (show k < n from hkn)
        have HSA := Lib.hid ((HL.out.bel HW1.out.out).take (Nat.le_of_lt hkn))
        have HSD0 := Sl.drop (c := c) (j := k + 1) (HL.out.bel HW1.out.out) (by omega) HC.out.1
        simp only [Option.map_some, Addr.add_lit] at HSD0
        have hkc : (k : Int) ≤ c := by have := HC.out.1; omega
        have hj1 : (k : Int) + 1 ≤ n := by omega
        have hjc : (n : Int) ≤ c := by have := HC.out.1; omega
        obtain ⟨i1, hi1, hz1, hs1⟩ := info_evs
        go_wp2_with fail
        refine region_grow (by kernel_rfl) ?_
        (repeat (first | ((first | refine wpG_go 0 (by simp only [List.getElem?_toArray, List.getElem?_cons_zero, List.getElem?_cons_succ] <;> rfl) (by decide +kernel) (by decide +kernel) (by kernel_rfl) (by rfl) (by exact fun _ _ _ _ h => h) (Nat.le_refl _) ?_ | refine wpG_go 1 (by simp only [List.getElem?_toArray, List.getElem?_cons_zero, List.getElem?_cons_succ] <;> rfl) (by decide +kernel) (by decide +kernel) (by kernel_rfl) (by rfl) (by exact fun _ _ _ _ h => h) (Nat.le_refl _) ?_ | refine wpG_go 2 (by simp only [List.getElem?_toArray, List.getElem?_cons_zero, List.getElem?_cons_succ] <;> rfl) (by decide +kernel) (by decide +kernel) (by kernel_rfl) (by rfl) (by exact fun _ _ _ _ h => h) (Nat.le_refl _) ?_ | refine wpG_go 3 (by simp only [List.getElem?_toArray, List.getElem?_cons_zero, List.getElem?_cons_succ] <;> rfl) (by decide +kernel) (by decide +kernel) (by kernel_rfl) (by rfl) (by exact fun _ _ _ _ h => h) (Nat.le_refl _) ?_ | refine wpG_go 4 (by simp only [List.getElem?_toArray, List.getElem?_cons_zero, List.getElem?_cons_succ] <;> rfl) (by decide +kernel) (by decide +kernel) (by kernel_rfl) (by rfl) (by exact fun _ _ _ _ h => h) (Nat.le_refl _) ?_ | refine wpG_go 5 (by simp only [List.getElem?_toArray, List.getElem?_cons_zero, List.getElem?_cons_succ] <;> rfl) (by decide +kernel) (by decide +kernel) (by kernel_rfl) (by rfl) (by exact fun _ _ _ _ h => h) (Nat.le_refl _) ?_ | refine wpG_go 6 (by simp only [List.getElem?_toArray, List.getElem?_cons_zero, List.getElem?_cons_succ] <;> rfl) (by decide +kernel) (by decide +kernel) (by kernel_rfl) (by rfl) (by exact fun _ _ _ _ h => h) (Nat.le_refl _) ?_); apply Exists.intro; refine ⟨fun w1 h1 => ?_, ?_⟩; (first | exact g_move _ rfl | exact g_assign _ rfl | (go_simp; first | exact ⟨rfl, rfl⟩ | rfl)); simp only [Act.put, Act.eval, List.setIfInBounds_toArray, List.set_cons_zero, List.set_cons_succ, Array.getD_eq_getD_getElem?, List.getElem?_toArray, List.getElem?_cons_zero, List.getElem?_cons_succ, Option.getD_some]) | ((first | refine wpG_skip 0 (by simp only [List.getElem?_toArray, List.getElem?_cons_zero, List.getElem?_cons_succ] <;> rfl) (by decide +kernel) (by decide +kernel) (by kernel_rfl) (by rfl) (by exact fun _ _ _ _ h => h) (Nat.le_refl _) ?_ | refine wpG_skip 1 (by simp only [List.getElem?_toArray, List.getElem?_cons_zero, List.getElem?_cons_succ] <;> rfl) (by decide +kernel) (by decide +kernel) (by kernel_rfl) (by rfl) (by exact fun _ _ _ _ h => h) (Nat.le_refl _) ?_ | refine wpG_skip 2 (by simp only [List.getElem?_toArray, List.getElem?_cons_zero, List.getElem?_cons_succ] <;> rfl) (by decide +kernel) (by decide +kernel) (by kernel_rfl) (by rfl) (by exact fun _ _ _ _ h => h) (Nat.le_refl _) ?_ | refine wpG_skip 3 (by simp only [List.getElem?_toArray, List.getElem?_cons_zero, List.getElem?_cons_succ] <;> rfl) (by decide +kernel) (by decide +kernel) (by kernel_rfl) (by rfl) (by exact fun _ _ _ _ h => h) (Nat.le_refl _) ?_ | refine wpG_skip 4 (by simp only [List.getElem?_toArray, List.getElem?_cons_zero, List.getElem?_cons_succ] <;> rfl) (by decide +kernel) (by decide +kernel) (by kernel_rfl) (by rfl) (by exact fun _ _ _ _ h => h) (Nat.le_refl _) ?_ | refine wpG_skip 5 (by simp only [List.getElem?_toArray, List.getElem?_cons_zero, List.getElem?_cons_succ] <;> rfl) (by decide +kernel) (by decide +kernel) (by kernel_rfl) (by rfl) (by exact fun _ _ _ _ h => h) (Nat.le_refl _) ?_ | refine wpG_skip 6 (by simp only [List.getElem?_toArray, List.getElem?_cons_zero, List.getElem?_cons_succ] <;> rfl) (by decide +kernel) (by decide +kernel) (by kernel_rfl) (by rfl) (by exact fun _ _ _ _ h => h) (Nat.le_refl _) ?_); simp only [Act.put, Act.eval, List.setIfInBounds_toArray, List.set_cons_zero, List.set_cons_succ, Array.getD_eq_getD_getElem?, List.getElem?_toArray, List.getElem?_cons_zero, List.getElem?_cons_succ, Option.getD_some])))
        generalize (if c = k + 1 then some (⟨b, o, none⟩ : Addr) else some ⟨b, o + (k + 1) * 3, none⟩) = AD at *
        have HSD := Lib.hid HSD0
        clear HSD0
        (refine wpG_one 7 (by decide +kernel) ?_; intro y1 hy1; refine op_wanted (by simp only [List.getElem?_toArray, List.getElem?_cons_zero, List.getElem?_cons_succ] <;> rfl) rfl ?_)
        have hE1 : Bel w1 y1 := (Bel.refl w1).trans hy1
        refine wp_build2 244 _ _ rfl 30 i1 Tryz.underlying244 hi1 hz1 hs1 _ _ _ _ _ _ rfl rfl ?_
        refine ⟨(Below.refl _ _).alloc hE1.size _, ?_⟩
        simp only [Act.put, Act.eval, List.setIfInBounds_toArray, List.set_cons_zero, List.set_cons_succ, Array.getD_eq_getD_getElem?, List.getElem?_toArray, List.getElem?_cons_zero, List.getElem?_cons_succ, Option.getD_some]
        have hC1 : Bel w1 (y1.alloc _) := hE1.alloc (.cells #[.slice (some ⟨b, o, none⟩) k c, .slice AD (n - (k + 1)) (c - (k + 1))] 30)
        have hBX := Box.new y1 #[.slice (some ⟨b, o, none⟩) k c, .slice AD (n - (k + 1)) (c - (k + 1))] 30
        (refine wpG_one 8 (by decide +kernel) ?_; intro y2 hy2; refine op_wanted (by simp only [List.getElem?_toArray, List.getElem?_cons_zero, List.getElem?_cons_succ] <;> rfl) rfl ?_)
        have hE2 := hC1.trans hy2
        go_simp
        refine (concat_any y1.heap.size k c (n - (k + 1)) (c - (k + 1)) _ AD (l.take k) (l.drop (k + 1)) _ y2 (hy2.box hBX) (HSA.out.bel hE2.out) (HSD.out.bel hE2.out) (by omega)).mono ?_
        rintro e3 w3 ⟨v3, rfl, ho3, hb3⟩
        refine ⟨hb3.mono hE2.size, ?_⟩
        rw [show k + (n - (k + 1)) = n - 1 by omega, ← List.eraseIdx_eq_take_drop_succ] at ho3
        have ho3 := own_drop_alloc ho3 hE2.size
        have hC3 := hE2.trans (Bel.of hb3)
        (repeat (first | ((first | refine wpG_go 9 (by simp only [List.getElem?_toArray, List.getElem?_cons_zero, List.getElem?_cons_succ] <;> rfl) (by decide +kernel) (by decide +kernel) (by kernel_rfl) (by rfl) (by exact fun _ _ _ _ h => h) hC3.size ?_); apply Exists.intro; refine ⟨fun w1 h1 => ?_, ?_⟩; (first | exact g_move _ rfl | exact g_assign _ rfl | (go_simp; first | exact ⟨rfl, rfl⟩ | rfl)); simp only [Act.put, Act.eval, List.setIfInBounds_toArray, List.set_cons_zero, List.set_cons_succ, Array.getD_eq_getD_getElem?, List.getElem?_toArray, List.getElem?_cons_zero, List.getElem?_cons_succ, Option.getD_some]) | ((first | refine wpG_skip 9 (by simp only [List.getElem?_toArray, List.getElem?_cons_zero, List.getElem?_cons_succ] <;> rfl) (by decide +kernel) (by decide +kernel) (by kernel_rfl) (by rfl) (by exact fun _ _ _ _ h => h) hC3.size ?_); simp only [Act.put, Act.eval, List.setIfInBounds_toArray, List.set_cons_zero, List.set_cons_succ, Array.getD_eq_getD_getElem?, List.getElem?_toArray, List.getElem?_cons_zero, List.getElem?_cons_succ, Option.getD_some])))
        (refine wpG_done (by decide +kernel) ?_ _; intro w4 hw4; try simp only [Act.put, Act.eval, List.setIfInBounds_toArray, List.set_cons_zero, List.set_cons_succ, Array.getD_eq_getD_getElem?, List.getElem?_toArray, List.getElem?_cons_zero, List.getElem?_cons_succ, Option.getD_some])
        have HW3 := Lib.hid (HW1.out.trans (hC3.trans hw4))
        have ho4 := own_bel ho3 hw4
        obtain ⟨A3, d3, rfl, hs3, hn3, hm3⟩ := Sl.own ho4
        have HO3 := Lib.hid (show w4.ownsRow w.heap.size 45 3 _ (l.eraseIdx k).length (evc (l.eraseIdx k)) from by rw [HLE.out]; exact own_drop_alloc ho4 HW1.out.size)
        have HS3 := Lib.hid hs3
        clear ho3 ho4 hs3 hn3 hm3 hC3 hw4 hb3 hE2 hy2 hC1 hBX hE1 hy1
        go_wp2_with fail
        refine (check_any A3 _ d3 _ _ HS3.out).mono ?_
        rintro e5 w5 ⟨rfl, hb5⟩
        rw [HMK.out]
        have HW5 := Lib.hid (HW3.out.call hb5)
        have HO5 := Lib.hid (own_bel HO3.out (Bel.of hb5))
        clear hb5
        cases h9 : (may (l.eraseIdx k) != 0)
        · have HZ := Lib.hid (show may (l.eraseIdx k) = 0 by simpa using h9)
          go_wp2
          go_ret2
          exact ⟨_, 0, .inr (.inr (.inr ⟨HM.out, ⟨k, rfl, by rw [HL.out.1]; exact hkn, HZ.out, rfl⟩, rfl⟩)), _, rfl, HO5.out, HW5.out.out⟩
        · have HZ := Lib.hid (show may (l.eraseIdx k) ≠ 0 by simpa using h9)
          go_wp2
          go_ret2
          exact ⟨[], 5, .inr (.inr (.inl ⟨HM.out, ⟨k, rfl, by rw [HL.out.1]; exact hkn, HZ.out⟩, rfl, rfl⟩)), own_nil _ _ _ HW5.out.out⟩
  · have HM := Lib.hid (show may l ≠ 0 by simpa using h1)
    go_wp2
    go_ret2
    exact ⟨[], may l, .inl ⟨HM.out, rfl, rfl⟩, own_nil _ _ _ HW1.out.out⟩
end Go.Proofs.YtnklpifnknmdgaaGreatDoor
set_option linter.all false
set_option maxRecDepth 100000
namespace Go.Proofs.YtnklpifnknmdgaaGreatDoor
open Go Go.RowKit

def CycI (m : List Ev) (i q : Nat) : Prop := ∀ j, j < m.length → (j < i ∧ i ≤ j + q) ∨ m.length + i ≤ j + q → ¬ Ok (m.eraseIdx j)
theorem CycI.start (m : List Ev) (i : Nat) : CycI m i 0 := fun j hj h => by omega
theorem CycI.fail {m : List Ev} {i q : Nat} (h : CycI m i q) (hi : i < m.length) (hn : ¬ Ok (m.eraseIdx i)) : CycI m (i + 1) (q + 1) := fun j hj hc => by
  by_cases he : j = i
  · subst he; exact hn
  · exact h j hj (by omega)
theorem CycI.wrap {m : List Ev} {q : Nat} (h : CycI m m.length q) : CycI m 0 q := fun j hj hc => h j hj (by omega)
theorem CycI.bare {m : List Ev} {i q : Nat} (h : CycI m i q) (hi : i ≤ m.length) (hq : m.length ≤ q) : Bare m := fun j hj => h j hj (by omega)
theorem Ok.pos {m : List Ev} (h : Ok m) : 0 < m.length := by
  obtain ⟨_, a, b, h1, _, _⟩ := ok_iff.1 h
  omega
theorem Ok.len {m : List Ev} (h : Ok m) : m.length ≤ 80 := ((may_iff m).1 h.1).1
end Go.Proofs.YtnklpifnknmdgaaGreatDoor

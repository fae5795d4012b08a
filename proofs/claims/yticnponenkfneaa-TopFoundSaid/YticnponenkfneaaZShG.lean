import Derived.Test.YticnponenkfneaaZEb
import Derived.Test.YticnponenkfneaaZFs
import Derived.Test.YticnponenkfneaaZSwT
import Derived.Test.YticnponenkfneaaZEqInt
import Derived.Test.YticnponenkfneaaZAppend
import Derived.Test.YticnponenkfneaaZCp
import Derived.Lib.AppendZeros
set_option linter.all false
set_option maxRecDepth 100000
namespace Go.Proofs.Yticnponenkfneaa
open Go Go.RowKit

theorem dj_nil {l : List Ev} (hm : may l = 0) : rcs l = [] ↔ ∀ j, j < l.length → djK l j = 0 := by
  rw [rcs_ok hm]
  constructor
  · intro h j hj
    rw [djK_min hm hj, h]
    simp [minK, hasK]
  · intro h
    cases hr : rcsA l with
    | nil => rfl
    | cons r rs =>
      have hmem : r ∈ rcsA l := by rw [hr]; simp
      obtain ⟨a, b, _, hb, _⟩ := mem_rcsA hmem
      have hj : r.b < l.length := (List.getElem?_eq_some_iff.1 hb).1
      have hk := rcsA_k hmem
      exact absurd (h r.b hj) (hasK_djK hm hj (q := r.k) hk (by
        unfold hasK
        simp only [List.any_eq_true, Bool.and_eq_true, beq_iff_eq]
        exact ⟨r, hmem, rfl, rfl⟩))
theorem flags_nil {l : List Ev} (hm : may l = 0) : fflags l = [] ↔ rcs l = [] := by
  rw [dj_nil hm, fflags_ok hm, gl_nil_iff]
  exact fk_none hm (Nat.le_refl _)
theorem bare_last {m : List Ev} {a b : Nat} (h : BareF m a b) (hm : may m = 0) (hB : Bare m) : b + 1 = m.length := by
  have hle := h.le
  have hlt := h.lt
  rcases Nat.lt_or_ge (b + 1) m.length with hq | hq
  · exfalso
    have hi : m.length - 1 < m.length := by omega
    refine hB (m.length - 1) hi (er_ok hi (by omega) (by omega) hle h.rac ?_)
    obtain ⟨_, e2⟩ := split_er (List.getElem?_eq_getElem hi)
    rw [e2, show m.drop (m.length - 1 + 1) = [] from List.drop_eq_nil_of_le (by omega), List.append_nil]
    exact may_take hm _
  · omega
theorem bare_flags {m : List Ev} {a b : Nat} (h : BareF m a b) (hm : may m = 0) (hB : Bare m) : ∃ e : Ev, fflags m = [e] ∧ e.k = ((m.length - 1 : Nat) : Int) := by
  have hl := bare_last h hm hB
  have h0 : ∀ j, j < b → fkK m j = 0 := fun j hj => by
    rcases Classical.em (fkK m j = 0) with q | q
    · exact q
    · exfalso
      have hk := fk_true hm (by omega) q
      unfold hasK at hk
      obtain ⟨r, hr, hrj⟩ := List.any_eq_true.1 hk
      simp only [Bool.and_eq_true, beq_iff_eq] at hrj
      obtain ⟨x, y, hx, hy, hxy, _, _, hc, _⟩ := mem_rcsA hr
      have hxk : x.k ≤ 2 := by unfold conf at hc; repeat' split at hc; all_goals first | exact absurd rfl hc | omega
      have hyk : y.k ≤ 2 := by unfold conf at hc; repeat' split at hc; all_goals first | exact absurd rfl hc | omega
      by_cases hya : r.b = a
      · have := h.frk r.a x hx (by omega) (by have := h.lt; omega)
        omega
      · have := h.frk r.b y hy hya (by omega)
        omega
  have hb : fkK m b ≠ 0 := fun q => by
    have hz : rcs m = [] := (dj_nil hm).2 ((fk_none hm (Nat.le_refl _)).1 fun j hj => by
      rcases Nat.lt_or_ge j b with g | g
      · exact h0 j g
      · rw [show j = b by omega]; exact q)
    rw [rcs_ok hm] at hz
    exact rc_ex.2 ⟨a, b, by have := h.lt; omega, h.le, h.rac⟩ hz
  refine ⟨⟨(b : Nat), (eZ m b).o, fkK m b⟩, ?_, ?_⟩
  · rw [fflags_ok hm, ← hl, gl_yes hb, gl_nil_iff.2 h0, List.nil_append]
  · show ((b : Nat) : Int) = _
    rw [← hl, Nat.add_sub_cancel]
theorem min_flags {l m : List Ev} (ho : Ok l) (hr : Red l 0 m) : Ok m ∧ ∃ e : Ev, fflags m = [e] ∧ e.k = ((m.length - 1 : Nat) : Int) := by
  have hm := hr.ok ho
  obtain ⟨a, b, hf⟩ := bare_form hm hr.bare
  exact ⟨hm, bare_flags hf hm.1 hr.bare⟩
end Go.Proofs.Yticnponenkfneaa
set_option linter.all false
set_option maxRecDepth 100000
namespace Go.Proofs.Yticnponenkfneaa
open Go Go.RowKit

def EvsOwn (w : World) (r : List Ev) (c : Int) (e : Ending) (w' : World) : Prop :=
  ∃ v, e = .returned (.tuple #[v, .int .i64 c]) ∧ w'.ownsRow w.heap.size 67 3 v r.length (evc r) ∧ Below w.heap.size w w'
theorem own_nil (w w' : World) (c : Int) (h : Below w.heap.size w w') : EvsOwn w [] c (.returned (.tuple #[.slice none 0 0, .int .i64 c])) w' := ⟨_, rfl, World.ownsRow_nil _ _ _ _, h⟩
def WoB (l : List Ev) (i : Int) (r : List Ev) (c : Int) : Prop :=
  (may l ≠ 0 ∧ r = [] ∧ c = may l) ∨ (may l = 0 ∧ (i < 0 ∨ (l.length : Int) ≤ i) ∧ r = [] ∧ c = 1) ∨
    (may l = 0 ∧ (∃ k : Nat, i = k ∧ k < l.length ∧ may (l.eraseIdx k) ≠ 0) ∧ r = [] ∧ c = 5) ∨ (may l = 0 ∧ (∃ k : Nat, i = k ∧ k < l.length ∧ may (l.eraseIdx k) = 0 ∧ r = l.eraseIdx k) ∧ c = 0)
def WoPost (w : World) (l : List Ev) (i : Int) (e : Ending) (w' : World) : Prop := ∃ r c, WoB l i r c ∧ EvsOwn w r c e w'
def WithoutC : Prop := ∀ (A : Option Addr) (n c : Nat) (l : List Ev) (i : Int) (w : World), Sl w A n l → n ≤ c → c ≤ maxLen → In64 i → Calls Try.prog 60 #[.slice A n c, .int .i64 i] w (WoPost w l i)
def MinB (l r : List Ev) (c : Int) : Prop := (may l ≠ 0 ∧ r = [] ∧ c = may l) ∨ (may l = 0 ∧ rcs l = [] ∧ r = [] ∧ c = 7) ∨ (Ok l ∧ Red l 0 r ∧ c = 0)
def MinPost (w : World) (l : List Ev) (e : Ending) (w' : World) : Prop := ∃ r c, MinB l r c ∧ EvsOwn w r c e w'
def MinC : Prop := ∀ (A : Option Addr) (n c : Nat) (l : List Ev) (w : World), Sl w A n l → n ≤ c → c ≤ maxLen → Calls Try.prog 13 #[.slice A n c] w (MinPost w l)
end Go.Proofs.Yticnponenkfneaa
set_option linter.all false
set_option maxRecDepth 100000
namespace Go.Proofs.Yticnponenkfneaa
open Go Go.RowKit

set_option maxHeartbeats 4000000 in
theorem grow_any (n : Nat) (w : World) (hn : n ≤ 1000) : Calls Try.prog 109 #[.slice none 0 0, .int .i64 n] w (CpPost w 0 []) := by
  obtain ⟨i0, hi0, hz0, hz1, hz2⟩ := info_parts ev_info
  have HO := Lib.hid (World.ownsRow_nil w w.heap.size 67 3)
  have hn0 : ¬ ((n : Int) < 0) := by omega
  have hw : IntKind.i64.wrap (n : Int) = n := IntWalk.i64_in _ (by omega)
  have HN := Lib.hid hn
  clear hn
  rcases Nat.eq_zero_or_pos n with h0 | h0
  · subst h0
    clear hw hn0
    go_enter Try.func109, Try.ntmps109
    go_wp2
    go_ret
    exact ⟨_, rfl, HO.out, Below.refl _ _⟩
  · have hp : (0 : Int) < (n : Int) := by omega
    have hsz : 0 < i0.size := by omega
    have HR := Lib.hid (Lib.run_append_nil_zeros (P := Try.prog) w 40 3 40 67 i0 _ .i64 .i64 Try.underlying40 Try.underlying3 hi0 hz0 n h0 hsz (by have := HN.out; omega) (by have := HN.out; rw [hz2]; omega))
    have HGE := Lib.hid (grownCap_ge w n 0 67)
    have HLE := Lib.hid (grownCap_le_maxLen w n 0 67 (by have := HN.out; unfold maxLen; omega))
    generalize grownCap w n 0 67 = cp at *
    have hge : (n : Int) ≤ cp := by have := HGE.out; omega
    clear h0 hsz
    go_enter Try.func109, Try.ntmps109
    go_wp2_with (at_builtin; refine Lib.wpList_append_run _ rfl _ _ _ _ rfl _ _ rfl rfl _ _ HR.out ?_)
    go_ret
    refine ⟨_, rfl, ⟨rfl, .inr ⟨w.heap.size, cp, _, rfl, Nat.le_refl _, Box.new w.drew _ _, Nat.zero_le _, HLE.out, ?_, ?_⟩⟩, (⟨rfl, rfl, rfl, Nat.le_refl _, fun _ _ => rfl⟩ : Below w.heap.size w w.drew).alloc (Nat.le_refl _) _⟩
    · have := HGE.out
      simp [Builtin.zeroCells, Value.cells]
      omega
    · simp [evc]
theorem fillTwo {n : Nat} (hn : n = 2) (f : Fin n → Value) (a b : Value) : ((Array.ofFn f).setIfInBounds 0 a).setIfInBounds 1 b = #[a, b] := by
  subst hn
  apply Array.ext
  · simp
  · intro i h1 h2
    have hi : i < 2 := by simpa using h2
    match i, hi with
    | 0, _ => simp [Array.getElem_setIfInBounds]
    | 1, _ => simp [Array.getElem_setIfInBounds]
theorem run_build2 {P : Program} (t e : TypeId) (i : TypeInfo) (ht : P.underlying t = some (.slice e)) (hi : P.info? e = some i) (hz : i.zero = some (.slice none 0 0)) (hs : i.size = 1) (A B : Option Addr) (n c m d : Nat) (w : World) :
    (Instr.buildSlice t 2 #[(0, .slice A n c), (1, .slice B m d)]).run P w = .ok (.slice (some ⟨w.heap.size, 0, none⟩) 2 2) (w.alloc (.cells #[.slice A n c, .slice B m d] e)) := by
  simp [Instr.buildSlice, Sem.run_bind, run_underlying ht, sizeOf, typeInfo, hi, hs, zeroValue, hz, Instr.fill, Value.cells, newRow, newObj, List.zipIdx, Array.range, Result.andThen, go_sem]
  rw [fillTwo (by first | rfl | rw [hs] | simp [hs])]
  rfl
theorem wp_build2 {P : Program} {o : Oper} {a : Act} {w : World} {K : Act → World → Prop} {Q : Exit → Act → World → Prop} (t : TypeId) (x y : Operand) (ho : o.op = .buildSlice t 2 #[(0, x), (1, y)]) (e : TypeId) (i : TypeInfo) (ht : P.underlying t = some (.slice e)) (hi : P.info? e = some i)
    (hz : i.zero = some (.slice none 0 0)) (hs : i.size = 1) (A B : Option Addr) (n c m d : Nat) (hx : a.eval x = .slice A n c) (hy : a.eval y = .slice B m d)
    (h : K (a.put o.dst (.slice (some ⟨w.heap.size, 0, none⟩) 2 2)) (w.alloc (.cells #[.slice A n c, .slice B m d] e))) : o.wp P a w K Q := by
  unfold Oper.wp execOp
  simp only [ho, Sem.run_bind, Sem.run_pure, Result.andThen_ok, List.map_toArray, List.map_cons, List.map_nil, hx, hy, run_build2 t e i ht hi hz hs A B n c m d w]
  exact h
theorem info_evs : ∃ i, Try.prog.info? 40 = some i ∧ i.zero = some (.slice none 0 0) ∧ i.size = 1 := by
  have h : (Try.prog.info? 40).map (fun i => (i.zero, i.size)) = some (some (.slice none 0 0), 1) := by kernel_rfl
  cases hi : Try.prog.info? 40 with
  | none => rw [hi] at h; cases h
  | some i =>
    rw [hi] at h
    simp only [Option.map_some, Option.some.injEq, Prod.mk.injEq] at h
    exact ⟨i, rfl, h.1, h.2⟩
set_option maxHeartbeats 4000000 in
theorem concat_any (B n1 c1 n2 c2 : Nat) (A1 A2 : Option Addr) (l1 l2 : List Ev) (t : TypeId) (w : World) (hB : Box w B #[.slice A1 n1 c1, .slice A2 n2 c2] t) (h1 : Sl w A1 n1 l1) (h2 : Sl w A2 n2 l2) (hn : n1 + n2 ≤ 1000) :
    Calls Try.prog 92 #[.slice (some ⟨B, 0, none⟩) 2 2] w (CpPost w (n1 + n2) (l1 ++ l2)) := by
  obtain ⟨i0, hi0, hz0, hz1, hz2⟩ := info_parts ev_info
  have HB := Lib.hid hB
  have H1 := Lib.hid h1
  have H2 := Lib.hid h2
  have HN := Lib.hid hn
  clear hB h1 h2
  have hc0 : w.cell? ⟨B, 0, none⟩ = some (.slice A1 n1 c1) := HB.out.cell 0 rfl
  have hc1 : w.cell? ⟨B, 1, none⟩ = some (.slice A2 n2 c2) := HB.out.cell 1 rfl
  have hlt := HB.out.lt
  go_enter Try.func92, Try.ntmps92
  go_wp2
  go_loopw [3, 11] (fun q u wr => ∃ i : Nat, i ≤ 2 ∧ u = .int .i64 i ∧ q = .int .i64 (if i = 0 then 0 else if i = 1 then (n1 : Int) else ((n1 + n2 : Nat) : Int)) ∧ w = wr) (fun _ u _ => 2 - (intOf u).toNat)
  case atStart => exact ⟨0, by omega, rfl, rfl, rfl⟩
  case round =>
    obtain ⟨i, hi, rfl, rfl, rfl⟩ := hrel
    rcases (show i = 0 ∨ i = 1 ∨ i = 2 by omega) with rfl | rfl | rfl
    · simp only [if_true]
      go_wp2
      go_roundw
      case rel => exact ⟨1, by omega, rfl, by simp, trivial⟩
      case measure => simp [intOf]
    · simp only [if_true]
      go_wp2
      go_roundw
      case rel => exact ⟨2, by omega, rfl, by simp, trivial⟩
      case measure => simp [intOf]
    · rw [show (if (2 : Nat) = 0 then (0 : Int) else if (2 : Nat) = 1 then (n1 : Int) else ((n1 + n2 : Nat) : Int)) = ((n1 + n2 : Nat) : Int) from rfl]
      go_wp2_with fail
      refine (grow_any (n1 + n2) w hn).mono ?_
      rintro e1 w1 ⟨v1, rfl, ho1, hb1⟩
      have HW1 := Lib.hid (Bel.of hb1)
      have HO1 := Lib.hid ho1
      clear ho1 hb1 hc0 hc1 hlt
      go_wp2
      go_loopw [6, 27] (fun v u wz => ∃ i : Nat, i ≤ 2 ∧ u = .int .i64 i ∧ wz.ownsRow w.heap.size 67 3 v (if i = 0 then 0 else if i = 1 then n1 else n1 + n2) (if i = 0 then [] else if i = 1 then evc l1 else evc (l1 ++ l2)) ∧ Bel w wz) (fun _ u _ => 2 - (intOf u).toNat)
      case atStart => exact ⟨0, by omega, rfl, HO1.out, HW1.out⟩
      case round =>
        obtain ⟨i, hi, rfl, ho2, hb2⟩ := hrel
        have HB3 := Lib.hid (hb2.box HB.out)
        rcases (show i = 0 ∨ i = 1 ∨ i = 2 by omega) with rfl | rfl | rfl
        · have HO2 := Lib.hid (show wr.ownsRow w.heap.size 67 3 u6 0 [] from ho2)
          have hd : wr.cell? ⟨B, 0, none⟩ = some (.slice A1 n1 c1) := HB3.out.cell 0 rfl
          have hlt := HB3.out.lt
          have HS := Lib.hid (show Sl wr A1 n1 l1 from H1.out.bel hb2.out).src
          have HLN := Lib.hid (show (evc l1).length = n1 * 3 by rw [evc_length, H1.out.1])
          have HB2 := Lib.hid hb2
          clear ho2 hb2
          go_wp2_with (at_builtin; refine wpList_append_srcE rfl (.tmp 31) (.tmp 32) _ rfl w.heap.size 67 i0 _ 3 24 Try.underlying40 hi0 hz0 hz1 hz2 rfl (by omega) _ 0 [] rfl HO2.out A1 n1 c1 (evc l1) rfl HLN.out HS.out (evc_one l1) (by have := HN.out; unfold maxLen; omega) (by have := HN.out; omega) HB2.out.size ?_; intro v5 w5 hown5 hg5 hat5)
          have hb5 := HB2.out.out.trans (grown_below hg5 HO2.out (Nat.le_refl _) HB2.out.size)
          go_roundw
          case rel => exact ⟨1, by omega, rfl, by simpa using hown5, Bel.of hb5⟩
          case measure => simp [intOf]
        · have HO2 := Lib.hid (show wr.ownsRow w.heap.size 67 3 u6 n1 (evc l1) from ho2)
          have hd : wr.cell? ⟨B, 1, none⟩ = some (.slice A2 n2 c2) := HB3.out.cell 1 rfl
          have hlt := HB3.out.lt
          have HS := Lib.hid (show Sl wr A2 n2 l2 from H2.out.bel hb2.out).src
          have HLN := Lib.hid (show (evc l2).length = n2 * 3 by rw [evc_length, H2.out.1])
          have HB2 := Lib.hid hb2
          clear ho2 hb2
          go_wp2_with (at_builtin; refine wpList_append_srcE rfl (.tmp 31) (.tmp 32) _ rfl w.heap.size 67 i0 _ 3 24 Try.underlying40 hi0 hz0 hz1 hz2 rfl (by omega) _ n1 (evc l1) rfl HO2.out A2 n2 c2 (evc l2) rfl HLN.out HS.out (evc_one l2) (by have := HN.out; unfold maxLen; omega) (by have := HN.out; omega) HB2.out.size ?_; intro v5 w5 hown5 hg5 hat5)
          have hb5 := HB2.out.out.trans (grown_below hg5 HO2.out (Nat.le_refl _) HB2.out.size)
          go_roundw
          case rel => exact ⟨2, by omega, rfl, by rw [← evc_append] at hown5; exact hown5, Bel.of hb5⟩
          case measure => simp [intOf]
        · have HO2 := Lib.hid (show wr.ownsRow w.heap.size 67 3 u6 (n1 + n2) (evc (l1 ++ l2)) from ho2)
          clear ho2
          go_wp2
          go_ret
          exact ⟨_, rfl, HO2.out, hb2.out⟩
end Go.Proofs.Yticnponenkfneaa

/- Contracts of the reference: owner, did, begun, IsEvent, Wrong, Check, May, Held. | Contracts of the reference: Wrong, Check, May, Held. -/
import Derived.Test.YtjddahidkodieaaTrace
import Derived.RegionTactic
import Derived.Test.YtjddahidkodieaaGrow
set_option linter.all false
set_option maxRecDepth 100000
namespace Go.Proofs.Ytjddahidkodieaa
open Go.RowKit

theorem take_snoc {l : List Ev} {i : Nat} {e : Ev} (h : l[i]? = some e) : l.take (i + 1) = l.take i ++ [e] := by
  have hi' := List.getElem?_eq_some_iff.1 h
  rw [List.take_succ_eq_append_getElem hi'.1, hi'.2]
theorem take_all {l : List Ev} {A : Option Addr} {w : World} {n : Nat} (h : Sl w A n l) : l.take n = l := by rw [← h.1, List.take_length]
theorem Sl.bel {w w' : World} {A : Option Addr} {n : Nat} {l : List Ev} (h : Sl w A n l) (hb : Below w.heap.size w w') : Sl w' A n l := h.below hb (Nat.le_refl _)

theorem outside_any (t a b : Int) (w : World) : Calls Try.prog 66 #[.int .i64 t, .int .i64 a, .int .i64 b] w fun e w' => e = .returned (.bool (outs t a b)) ∧ w = w' := by
  by_cases h1 : t < a
  · have hF := Lib.hid (outs_lo (b := b) h1)
    go_enter Try.func66, Try.ntmps66
    go_wp2
    go_ret
    exact ⟨by rw [hF.out]; rfl, rfl⟩
  · by_cases h2 : b < t
    · have hF := Lib.hid (outs_hi (a := a) h2)
      go_enter Try.func66, Try.ntmps66
      go_wp2
      go_ret
      exact ⟨by rw [hF.out]; rfl, rfl⟩
    · have hF := Lib.hid (outs_in h1 h2)
      go_enter Try.func66, Try.ntmps66
      go_wp2
      go_ret
      exact ⟨by rw [hF.out]; rfl, rfl⟩

theorem did_snoc' (l : List Ev) (e : Ev) (a b : Int) : did (l ++ [e]) a b = (did l a b || (e.k == a && e.o == b)) := by
  rw [did_snoc, Bool.decide_and]; rfl
theorem did_yes {l : List Ev} {i : Nat} {e : Ev} {a b : Int} (h : l[i]? = some e) (h1 : (e.k == a) = true) (h2 : (e.o == b) = true) : did l a b = true := by
  simp only [did, List.any_eq_true]
  exact ⟨e, List.mem_of_getElem? h, decide_eq_true ⟨eq_of_beq h1, eq_of_beq h2⟩⟩
/-- The world behind 'for _, e := range l' has taken its next event. -/
def ewld (w : World) (e : Ev) (t : TypeId) : World := (w.alloc (.cells #[.int .i64 0, .int .i64 0, .int .i64 0] t)).setRow w.heap.size (evv e)
theorem ewld_box (w : World) (e : Ev) (t : TypeId) : Box (ewld w e t) w.heap.size (evv e) t := (Box.new w _ t).setRow _
theorem ewld_below (w : World) (e : Ev) (t : TypeId) : Below w.heap.size w (ewld w e t) := below_setRow' ((Below.refl _ _).alloc (Nat.le_refl _) _) _ _ (Nat.le_refl _)
theorem ewld_cells (w : World) (e : Ev) (t : TypeId) : (ewld w e t).cell? ⟨w.heap.size, 0, none⟩ = some (.int .i64 e.k) ∧ (ewld w e t).cell? ⟨w.heap.size, 1, none⟩ = some (.int .i64 e.t) ∧ (ewld w e t).cell? ⟨w.heap.size, 2, none⟩ = some (.int .i64 e.o) :=
  ⟨(ewld_box w e t).cell 0 rfl, (ewld_box w e t).cell 1 rfl, (ewld_box w e t).cell 2 rfl⟩
/-- The region of such a loop's head, in one step: behind it the world is 'ewld'. -/
theorem ewld_store {P : Program} {ops : Array Oper} {rest : List Oper} {o : Oper} {a : Act} {w' w : World} {Q : Exit → Act → World → Prop} {ty : TypeId} (hT : RowTy P ty 3) (x y : Operand) (ho : o.op = .store ty x y) (hgd : o.guard = none) {e : Ev} (t : TypeId)
    (hy : a.eval y = .agg (evv e)) (hw : w' = w.alloc (.cells #[.int .i64 0, .int .i64 0, .int .i64 0] t)) (hx : a.eval x = .pointer (some ⟨w.heap.size, 0, none⟩))
    (h : wpList P ops Q rest (a.put o.dst undef) (ewld w e t)) : wpList P ops Q (o :: rest) a w' := by
  subst hw
  exact storeB ty x y ho hgd hx hy (Box.new w _ t) rfl hT (evv_all e) h
theorem load_ev {P : Program} {ops : Array Oper} {rest : List Oper} {o : Oper} {a : Act} {w : World} {Q : Exit → Act → World → Prop} {ty : TypeId} (hT : RowTy P ty 3) (x : Operand) (ho : o.op = .load ty x) (hgd : o.guard = none) {b off : Nat} {e : Ev}
    (hx : a.eval x = .pointer (some ⟨b, off, none⟩)) (hr : w.rangeAt b off (evl e))
    (h : wpList P ops Q rest (a.put o.dst (.agg (evv e))) w) : wpList P ops Q (o :: rest) a w := by
  obtain ⟨d, hu, hd, hi⟩ := hT
  exact wpList_load_mid hgd ty x ho b off hx (evl e) d hr hu hd hi h

set_option maxHeartbeats 1000000 in
theorem did_any (A : Option Addr) (n c : Nat) (l : List Ev) (kind obj : Int) (w : World) (hl : Sl w A n l) (hn : n ≤ 9223372036854775807) :
    Calls Try.prog 94 #[.slice A n c, .int .i64 kind, .int .i64 obj] w fun e w' => e = .returned (.bool (did l kind obj)) ∧ Below w.heap.size w w' := by
  go_enter Try.func94, Try.ntmps94
  go_wp2
  go_loopw [11] (fun t wr => ∃ i : Nat, i ≤ n ∧ t = .int .i64 i ∧ did (l.take i) kind obj = false ∧ Below w.heap.size w wr) (fun t _ => n - (intOf t).toNat)
  case atStart => exact ⟨0, by omega, rfl, by simp [did_nil], Below.refl _ _⟩
  case round =>
    obtain ⟨i, hi, rfl, hd, hb⟩ := hrel
    have HD := Lib.hid hd
    have HB := Lib.hid hb
    have HL := Lib.hid hl
    clear hd hb
    by_cases hlt : i < n
    · obtain ⟨bb, off, e, rfl, hbb, he, hrg⟩ := hl.at_ hlt
      have hlt' : (i : Int) < n := by omega
      have hR := Lib.hid (rangeAt_below HB.out hbb hrg)
      have HE := Lib.hid he
      clear he hrg hl
      obtain ⟨c0, c1, c2⟩ := ewld_cells wr e 54
      cases h1 : (e.k == kind)
      all_goals cases h2 : (e.o == obj)
      case true.true =>
        have HF := Lib.hid (did_yes HE.out h1 h2)
        go_wp2_with (first | (refine load_ev T36 _ rfl rfl rfl hR.out ?_) | (refine ewld_store T36 _ _ rfl rfl _ rfl rfl rfl ?_))
        go_ret
        exact ⟨by rw [HF.out]; rfl, HB.out.trans ((ewld_below _ _ _).mono HB.out.size)⟩
      all_goals
        go_wp2_with (first | (refine load_ev T36 _ rfl rfl rfl hR.out ?_) | (refine ewld_store T36 _ _ rfl rfl _ rfl rfl rfl ?_))
        go_roundw
        case rel => exact ⟨i + 1, by omega, by go_num, by rw [take_snoc HE.out, did_snoc', HD.out, h1, h2]; rfl, HB.out.trans ((ewld_below _ _ _).mono HB.out.size)⟩
        case measure => simp [intOf]; omega
    · obtain rfl : i = n := by omega
      go_wp2
      go_ret
      exact ⟨by rw [take_all HL.out] at HD; rw [HD.out]; rfl, HB.out⟩

theorem ownB_of (who : Int) (e : Ev) (k : Int) (h1 : (e.o == k) = true) (h2 : (e.k == 4) = false) (h3 : (e.k == 3) = true) : ownB who e k = e.t := by
  unfold ownB
  simp only [beq_iff_eq, beq_eq_false_iff_ne] at h1 h2 h3
  rw [if_neg (by omega), if_pos ⟨h1, h3⟩]
theorem ownB_rel (who : Int) (e : Ev) (k : Int) (h1 : (e.o == k) = true) (h2 : (e.k == 4) = true) : ownB who e k = -1 := by
  unfold ownB
  simp only [beq_iff_eq] at h1 h2
  rw [if_pos ⟨h1, h2⟩]
theorem ownB_kind (who : Int) (e : Ev) (k : Int) (h2 : (e.k == 4) = false) (h3 : (e.k == 3) = false) : ownB who e k = who := by
  unfold ownB
  simp only [beq_eq_false_iff_ne] at h2 h3
  rw [if_neg (by omega), if_neg (by omega)]
theorem ownB_obj (who : Int) (e : Ev) (k : Int) (h1 : (e.o == k) = false) : ownB who e k = who := by
  unfold ownB
  simp only [beq_eq_false_iff_ne] at h1
  rw [if_neg (by omega), if_neg (by omega)]

set_option maxHeartbeats 1000000 in
theorem owner_any (A : Option Addr) (n c : Nat) (l : List Ev) (k : Int) (w : World) (hl : Sl w A n l) (hn : n ≤ 9223372036854775807) :
    Calls Try.prog 69 #[.slice A n c, .int .i64 k] w fun e w' => e = .returned (.int .i64 (owner l k)) ∧ Below w.heap.size w w' := by
  go_enter Try.func69, Try.ntmps69
  go_wp2
  go_loopw [5, 10] (fun u t wr => ∃ i : Nat, i ≤ n ∧ t = .int .i64 i ∧ u = .int .i64 (owner (l.take i) k) ∧ Below w.heap.size w wr) (fun _ t _ => n - (intOf t).toNat)
  case atStart => exact ⟨0, by omega, rfl, by simp [owner_nil], Below.refl _ _⟩
  case round =>
    obtain ⟨i, hi, rfl, rfl, hb⟩ := hrel
    have HB := Lib.hid hb
    have HL := Lib.hid hl
    clear hb
    by_cases hlt : i < n
    · obtain ⟨bb, off, e, rfl, hbb, he, hrg⟩ := hl.at_ hlt
      have hlt' : (i : Int) < n := by omega
      have hR := Lib.hid (rangeAt_below HB.out hbb hrg)
      have HE := Lib.hid he
      clear he hrg hl
      obtain ⟨c0, c1, c2⟩ := ewld_cells wr e 54
      cases h1 : (e.o == k)
      · go_wp2_with (first | (refine load_ev T36 _ rfl rfl rfl hR.out ?_) | (refine ewld_store T36 _ _ rfl rfl _ rfl rfl rfl ?_))
        go_roundw
        case rel => exact ⟨i + 1, by omega, by go_num, by rw [take_snoc HE.out, owner_snoc, ownB_obj _ _ _ h1], HB.out.trans ((ewld_below _ _ _).mono HB.out.size)⟩
        case measure => simp [intOf]; omega
      · cases h2 : (e.k == 4)
        · cases h3 : (e.k == 3)
          · go_wp2_with (first | (refine load_ev T36 _ rfl rfl rfl hR.out ?_) | (refine ewld_store T36 _ _ rfl rfl _ rfl rfl rfl ?_))
            go_roundw
            case rel => exact ⟨i + 1, by omega, by go_num, by rw [take_snoc HE.out, owner_snoc, ownB_kind _ _ _ h2 h3], HB.out.trans ((ewld_below _ _ _).mono HB.out.size)⟩
            case measure => simp [intOf]; omega
          · go_wp2_with (first | (refine load_ev T36 _ rfl rfl rfl hR.out ?_) | (refine ewld_store T36 _ _ rfl rfl _ rfl rfl rfl ?_))
            go_roundw
            case rel => exact ⟨i + 1, by omega, by go_num, by rw [take_snoc HE.out, owner_snoc, ownB_of _ _ _ h1 h2 h3], HB.out.trans ((ewld_below _ _ _).mono HB.out.size)⟩
            case measure => simp [intOf]; omega
        · have h3 : (e.k == 3) = false := by simp only [beq_iff_eq, beq_eq_false_iff_ne] at h2 ⊢; omega
          go_wp2_with (first | (refine load_ev T36 _ rfl rfl rfl hR.out ?_) | (refine ewld_store T36 _ _ rfl rfl _ rfl rfl rfl ?_))
          go_roundw
          case rel => exact ⟨i + 1, by omega, by go_num, by rw [take_snoc HE.out, owner_snoc, ownB_rel _ _ _ h1 h2], HB.out.trans ((ewld_below _ _ _).mono HB.out.size)⟩
          case measure => simp [intOf]; omega
    · obtain rfl : i = n := by omega
      have HT := Lib.hid (take_all HL.out)
      go_wp2
      go_ret
      exact ⟨by rw [HT.out]; rfl, HB.out⟩

set_option maxHeartbeats 400000 in
theorem begun_any (A : Option Addr) (n c : Nat) (l : List Ev) (t : Int) (w : World) (hl : Sl w A n l) (hn : n ≤ 9223372036854775807) :
    Calls Try.prog 67 #[.slice A n c, .int .i64 t] w fun e w' => e = .returned (.bool (begun l t)) ∧ Below w.heap.size w w' := by
  have HL := Lib.hid hl
  clear hl
  cases h : (t == 0)
  · have hb : begun l t = did l 5 t := by unfold begun; rw [show decide (t = 0) = false from h]; rfl
    have HB := Lib.hid hb
    clear hb
    go_enter Try.func67, Try.ntmps67
    go_wp2_with fail
    refine (did_any A n c l 5 t _ HL.out hn).mono ?_
    rintro e w' ⟨rfl, hb⟩
    go_wp2
    go_ret
    exact ⟨by rw [HB.out]; rfl, hb⟩
  · have hb : begun l t = true := by unfold begun; rw [show decide (t = 0) = true from h]; rfl
    have HB := Lib.hid hb
    clear hb
    go_enter Try.func67, Try.ntmps67
    go_wp2
    go_ret
    exact ⟨by rw [HB.out]; rfl, Below.refl _ _⟩

theorem outs_inB (n m : Int) : outs n 0 (m - 1) = !inB n m := by
  rw [Bool.eq_iff_iff]; simp only [outs, inB, decide_eq_true_eq, Bool.not_eq_true', decide_eq_false_iff_not]; omega
theorem outs_k (k : Int) : outs k 1 8 = decide (nobj k = 0) := by
  rw [Bool.eq_iff_iff]; simp only [outs, decide_eq_true_eq]; unfold nobj; repeat' split
  all_goals omega
end Go.Proofs.Ytjddahidkodieaa
namespace Go.Proofs.Ytjddahidkodieaa
open Go.RowKit

theorem Box.cells3 {w : World} {B : Nat} {e : Ev} {t : TypeId} (h : Box w B (evv e) t) : w.cell? ⟨B, 0, none⟩ = some (.int .i64 e.k) ∧ w.cell? ⟨B, 1, none⟩ = some (.int .i64 e.t) ∧ w.cell? ⟨B, 2, none⟩ = some (.int .i64 e.o) :=
  ⟨h.cell 0 rfl, h.cell 1 rfl, h.cell 2 rfl⟩

theorem Sl.take {w : World} {A : Option Addr} {n : Nat} {l : List Ev} (h : Sl w A n l) {i : Nat} (hi : i ≤ n) : Sl w A i (l.take i) := by
  refine ⟨by rw [List.length_take, h.1]; omega, fun h0 => ?_⟩
  obtain ⟨b, off, hA, hlt, hr⟩ := h.2 (by omega)
  refine ⟨b, off, hA, hlt, fun j v hv => hr j v ?_⟩
  rw [← evc_take, List.getElem?_take] at hv
  split at hv
  · exact hv
  · cases hv
structure CRel (w : World) (l : List Ev) (i : Nat) (wr : World) : Prop where
  below : Below w.heap.size w wr
  chk : chk [] l = chk (l.take i) (l.drop i)
end Go.Proofs.Ytjddahidkodieaa

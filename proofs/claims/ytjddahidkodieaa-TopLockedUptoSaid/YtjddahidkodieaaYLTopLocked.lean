import Derived.Deep.DeepCutAuto
import Derived.Deep.CondSized
import Derived.Test.YtjddahidkodieaaYPrW
import Derived.Test.YtjddahidkodieaaYOpenInts
import Derived.Test.YtjddahidkodieaaYMapInt
import Derived.Test.YtjddahidkodieaaYKeepTw
import Derived.Test.YtjddahidkodieaaYAll
import Derived.Test.YtjddahidkodieaaYIn
import Derived.Test.YtjddahidkodieaaYRpG
import Derived.Test.YtjddahidkodieaaYFo
import Derived.Test.YtjddahidkodieaaYKeepTp
set_option linter.all false
set_option maxRecDepth 100000
namespace Go.Proofs.Ytjddahidkodieaa.LTopLocked
open Go Go.ChangeShapes Go.WideShapes Go.ChangeAt Go.RowKit Go.Deep

section
variable {H : Type} {enc : TypeId × Value → H} {P : Program} {w : World} {base : Nat} {spare : Nat → Bool} {held : Bool}
theorem bulk_pos {H : Type} (d : DataW H) : 1 ≤ Rows.uptoBulk d := by
  cases d with
  | lit l => cases l <;> simp [Rows.uptoBulk]
  | _ => simp [Rows.uptoBulk]
theorem bulk_len {H : Type} : ∀ es : List (DataW H), es.length ≤ Rows.uptoBulkAll es
  | [] => Nat.zero_le _
  | d :: es => by
    have h1 := bulk_pos d
    have h2 := bulk_len es
    simp only [Rows.uptoBulkAll, List.length_cons]
    omega
theorem bulk_mem {H : Type} : ∀ {es : List (DataW H)} {d : DataW H}, d ∈ es → Rows.uptoBulk d ≤ Rows.uptoBulkAll es
  | x :: es, d, h => by
    simp only [Rows.uptoBulkAll]
    rcases List.mem_cons.1 h with rfl | h
    · omega
    · have := bulk_mem h; omega
theorem ops_bulk {t e : TypeId} {fuel : Nat} {x : DataW H × List MemPlace} {fs : Array Field} {A : Option Addr} {n c : Nat} (ht : P.underlying t = some (.slice e)) (he : P.underlying e = some (.struct fs))
    (hone : oneCellFields P fs = true) (hC : P.cellsOf e = fs.size) (hfu : DataW.trod enc P w base spare held fuel t [.slice A n c] = some x) : n ≤ Rows.uptoBulk x.1 := by
  rcases open_sl_fields ht he hone hC hfu with ⟨hcs, _⟩ | ⟨a', len, cap, hcs, hl, hm, ⟨es, sp, hx, hlen⟩, _⟩
  · simp only [List.cons.injEq, Value.slice.injEq, and_true] at hcs
    omega
  · simp only [List.cons.injEq, Value.slice.injEq, and_true] at hcs
    have := bulk_len es
    rw [hx]
    simp only [Rows.uptoBulk]
    omega
theorem open_opsu {t e g : TypeId} {d : DataW H} {ps : List MemPlace} {fs : Array Field} {A : Option Addr} {n c : Nat} {l : List (List Ev)} (ht : P.underlying t = some (.slice e)) (hce : P.cellsOf e = 1) (hte : P.underlying e = some (.slice g)) (he : P.underlying g = some (.struct fs))
    (hone : oneCellFields P fs = true) (hC : P.cellsOf g = fs.size) (hp : Prg w A n l) (hd : DataW.Trod enc P w base spare held t (.slice A n c) d ps) : n ≤ Rows.uptoBulk d ∧ ∀ ops ∈ l, ops.length ≤ Rows.uptoBulk d := by
  obtain ⟨fuel, hfu⟩ := hd
  rcases open_slice1 ht hce hfu with ⟨hcs, hx0⟩ | ⟨a', len', cap', m, k, V, D, Pl, hcs, _, hl, hm, hmm, hx, hi⟩
  · simp [Value.cells] at hcs
    obtain ⟨rfl, rfl, rfl⟩ := hcs
    refine ⟨Nat.zero_le _, fun ops ho => ?_⟩
    rw [List.eq_nil_of_length_eq_zero hp.1] at ho
    cases ho
  · simp [Value.cells] at hcs
    obtain ⟨rfl, rfl, rfl⟩ := hcs
    have hlm : n ≤ m := by rw [hmm]; split <;> omega
    have hd : d = .slice ((List.range n).map D) ((List.range (m - n)).map fun j => D (n + j)) := congrArg Prod.fst hx
    refine ⟨?_, fun ops ho => ?_⟩
    · have := bulk_len ((List.range n).map D)
      rw [List.length_map, List.length_range] at this
      rw [hd]
      simp only [Rows.uptoBulk]
      omega
    · obtain ⟨i, hio⟩ := List.getElem?_of_mem ho
      have hin : i < n := by have := (List.getElem?_eq_some_iff.1 hio).1; rw [hp.1] at this; exact this
      obtain ⟨b, off, hA, hlt, hr⟩ := hp.2 (by omega)
      obtain ⟨B, m', c', h1, h2, h3, h4⟩ := hr i ops hio
      obtain ⟨h5, h6⟩ := hi i (by omega)
      have ha : a' = ⟨b, off, none⟩ := Option.some.inj hA
      rw [ha, show (⟨b, off, none⟩ : Addr).add i = ⟨b, off + i, none⟩ by unfold Addr.add; split <;> simp_all, h1] at h5
      rw [← Option.some.inj h5] at h6
      have h7 : m' ≤ Rows.uptoBulk (D i) := ops_bulk hte he hone hC h6
      have h8 := bulk_mem (es := (List.range n).map D) (d := D i) (List.mem_map.2 ⟨i, List.mem_range.2 hin, rfl⟩)
      rw [hd, h2.1]
      simp only [Rows.uptoBulk]
      omega
end

def lkO (ops : List Ev) (k : Nat) : List Ev := (ops.take k).flatMap lkE
def lkL (P : List (List Ev)) (j : Nat) : List Ev := ((opsP P j).flatMap lkE).take 12
theorem lkL_all {P : List (List Ev)} {n : Nat} (h : P.length = n) : (List.range n).map (lkL P) = lkP P := by
  apply List.ext_getElem?
  intro j
  unfold lkP
  by_cases hj : j < n
  · rw [List.getElem?_map, List.getElem?_range hj, List.getElem?_map, List.getElem?_eq_getElem (by omega)]
    simp [lkL, opsP, List.getD_eq_getElem?_getD, List.getElem?_eq_getElem (show j < P.length by omega)]
  · rw [List.getElem?_eq_none (by simp; omega), List.getElem?_eq_none (by simp; omega)]
theorem lkE_len (o : Ev) : (lkE o).length ≤ 3 := by
  unfold lkE
  split
  · simp
  · split <;> simp
theorem lkO_len (ops : List Ev) (k : Nat) : (lkO ops k).length ≤ 3 * k := by
  unfold lkO
  induction k with
  | zero => simp
  | succ k ih =>
    rw [List.take_succ]
    cases h : ops[k]? with
    | none => simp only [Option.toList_none, List.append_nil]; omega
    | some o =>
      rw [List.flatMap_append, List.length_append]
      have := lkE_len o
      simp only [Option.toList_some, List.flatMap_cons, List.flatMap_nil, List.append_nil]
      omega
theorem lkO_step {ops : List Ev} {k : Nat} {o : Ev} (h : ops[k]? = some o) : lkO ops (k + 1) = lkO ops k ++ lkE o := by
  unfold lkO
  rw [take_snoc h, List.flatMap_append, List.flatMap_cons, List.flatMap_nil, List.append_nil]
structure OuW (w : World) (ops : List Ev) (k : Nat) (v : Value) (wz : World) : Prop where
  own : wz.ownsRow w.heap.size 63 3 v (lkO ops k).length (evc (lkO ops k))
  bel : Bel w wz
set_option maxHeartbeats 16000000 in
theorem walkH (HR : RunC) (HW : ∀ w, Calls Try.prog 10 #[] w fun e w' => e = .returned (.bool true) ∧ Below w.heap.size w w') (W : World) (A : Option Addr) (n c : Nat) (l : List (List Ev)) (s : Prg W A n l) (m : n ≤ c) (x : c ≤ maxLen) (_g : ∀ ops ∈ l, ∀ e ∈ ops, EvOk e) (M : Nat) (bu : n ≤ M ∧ ∀ ops ∈ l, ops.length ≤ M)
    (B1 : Option Addr) (k1 d1 : Nat) (q1 : List Int) (s1 : SI W B1 k1 q1) (m1 : k1 ≤ d1) (x1 : d1 ≤ maxLen) (_g1 : ∀ x ∈ q1, In64 x) (hM : M ≤ 1048576) :
    Calls Try.prog 6 #[.slice A n c, .slice B1 k1 d1] W fun e w' => e = .returned (.bool true) ∧ Below W.heap.size W w' := by
  obtain ⟨i0, hi0, hz0, hz1, hz2⟩ := info_parts opx_info
  obtain ⟨j0, hj0, gz0, gz1, gz2⟩ := info_parts opr_info
  have HL := Lib.hid s
  have HLN := Lib.hid s.1
  have HMC := Lib.hid (And.intro m x)
  have HS1 := Lib.hid (And.intro s1 (And.intro m1 x1))
  have HRN := Lib.hid HW
  have HBU := Lib.hid (show ∀ t, t < n → (opsP l t).length ≤ 1048576 from fun t ht => Nat.le_trans (bu.2 _ (opsP_mem (by rw [s.1]; exact ht))) hM)
  have hn6 : n ≤ 1048576 := by omega
  clear HW bu hM
  unfold RunC at HR
  have H1 := Lib.hid HR
  clear s m x HR s1 m1 x1
  go_enter Try.func6, Try.ntmps6
  go_wp2_with fail
  refine (HRN.out W).mono ?_
  rintro e0 w0 ⟨rfl, hb0⟩
  have HW0 := Lib.hid (Bel.of hb0)
  clear hb0
  go_wp2
  go_loopw [5, 26] (fun v t wr => ∃ (i : Nat) (r : Nat → Value), i ≤ n ∧ t = .int .i64 i ∧ PrW w0.heap.size i (lkL l) r v wr ∧ Bel w0 wr) (fun _ t _ => n - (intOf t).toNat)
  case atStart => exact ⟨0, fun _ => .slice none 0 0, by omega, rfl, (PrW.nil w0 _).congr fun j hj => absurd hj (by omega), Bel.refl _⟩
  case round =>
    obtain ⟨i, r, hi, rfl, hp, hbr⟩ := hrel
    have HP := Lib.hid hp
    have HB := Lib.hid hbr
    clear hp hbr
    by_cases hlt : i < n
    · obtain ⟨b, off, B, mm, d, rfl, hb, hc, hsl, hmd, hdm⟩ := HL.out.at_ hlt
      have hlt' : (i : Int) < n := by omega
      have hic : (i : Int) ≤ c := by have := HMC.out.1; omega
      have ci : wr.cell? ⟨b, off + i, none⟩ = some (.slice B mm d) := (HW0.out.trans HB.out).cell hc
      have HOS := Lib.hid (hsl.bel (HW0.out.trans HB.out).out)
      have hm6 : mm ≤ 1048576 := by rw [← hsl.1]; exact HBU.out i hlt
      have HMD := Lib.hid (And.intro hmd hdm)
      have HI := Lib.hid (And.intro hi hlt)
      have HQI := Lib.hid (show lkL l i = (lkO (opsP l i) mm).take 12 by unfold lkL lkO; rw [← hsl.1, List.take_length])
      clear hb hc hsl hmd hdm
      generalize opsP l i = ops at *
      generalize hws : wr = wQ at *
      clear hws
      have H0 := Lib.hid (show OuW wQ ops 0 (.slice none 0 0) wQ from ⟨by unfold lkO; exact World.ownsRow_nil _ _ _ _, Bel.refl _⟩)
      go_wp2
      go_loopw [8, 32] (fun v t wZ => ∃ k : Nat, k ≤ mm ∧ t = .int .i64 k ∧ OuW wQ ops k v wZ) (fun _ t _ => mm - (intOf t).toNat)
      case atStart => exact ⟨0, by omega, rfl, H0.out⟩
      case round =>
        obtain ⟨k, hk, rfl, hou⟩ := hrel
        have HOU := Lib.hid hou
        clear hou
        by_cases hkm : k < mm
        · obtain ⟨bb, oo, e, rfl, hbb, he, hrg⟩ := (HOS.out.bel HOU.out.bel.out).at_ hkm
          have hkm' : (k : Int) < mm := by omega
          have hkd : (k : Int) ≤ d := by have := HMD.out.1; omega
          have hR := Lib.hid hrg
          have HK := Lib.hid (And.intro (And.intro hk hkm) hm6)
          have HST := Lib.hid (lkO_step he)
          have HLE := Lib.hid (lkO_len ops k)
          have HOW := Lib.hid (own_bel HOU.out.own (Bel.of (ewld_below wr e 63)))
          have HBW := Lib.hid (HOU.out.bel.trans (Bel.of (ewld_below wr e 63)))
          have HXE := Lib.hid (ewld_box wr e 63)
          have HRG := Lib.hid (show (ewld wr e 63).rangeAt wr.heap.size 0 (evl e) from Box.range (l := evl e) (ewld_box wr e 63))
          clear hrg he hbb ci
          go_upto_region 12 with (first | (refine load_ev TOp _ rfl rfl rfl hR.out ?_) | (refine ewld_store TOp _ _ rfl rfl _ rfl rfl rfl ?_))
          generalize ewld wr e 63 = w4 at *
          generalize wr.heap.size = X at *
          have c0 := HXE.out.cell 0 (v := .int .i64 e.k) rfl
          by_cases k4 : e.k = 4
          · have HKE := Lib.hid (show lkE e = [] by unfold lkE; rw [if_pos (.inl k4)])
            have k4' : (e.k == 4) = true := by simpa using k4
            clear k4
            have HFN := Lib.hid (show OuW wQ ops (k + 1) u8 w4 from ⟨by rw [HST.out, HKE.out, List.append_nil]; exact HOW.out, HBW.out⟩)
            go_wp2_with (first | ((with_reducible refine Go.wpList_skip ?_ ?_); exact rfl; simp only [Act.put, Act.eval, List.setIfInBounds_toArray, List.set_cons_zero, List.set_cons_succ, Array.getD_eq_getD_getElem?, List.getElem?_toArray, List.getElem?_cons_zero, List.getElem?_cons_succ, Option.getD_some]))
            go_roundw
            case rel => exact ⟨k + 1, by have := HK.out; omega, by go_num, HFN.out⟩
            case measure => have := HK.out; simp [intOf]; omega
          · have k4' : (e.k == 4) = false := by simpa using k4
            by_cases k5 : e.k = 5
            · have HKE := Lib.hid (show lkE e = [] by unfold lkE; rw [if_pos (.inr k5)])
              have k5' : (e.k == 5) = true := by simpa using k5
              clear k4 k5
              have HFN := Lib.hid (show OuW wQ ops (k + 1) u8 w4 from ⟨by rw [HST.out, HKE.out, List.append_nil]; exact HOW.out, HBW.out⟩)
              go_wp2_with (first | ((with_reducible refine Go.wpList_skip ?_ ?_); exact rfl; simp only [Act.put, Act.eval, List.setIfInBounds_toArray, List.set_cons_zero, List.set_cons_succ, Array.getD_eq_getD_getElem?, List.getElem?_toArray, List.getElem?_cons_zero, List.getElem?_cons_succ, Option.getD_some]))
              go_roundw
              case rel => exact ⟨k + 1, by have := HK.out; omega, by go_num, HFN.out⟩
              case measure => have := HK.out; simp [intOf]; omega
            · have k5' : (e.k == 5) = false := by simpa using k5
              by_cases k1 : e.k = 1
              · have HKE := Lib.hid (show lkE e = [⟨4, 0, 0⟩, e, ⟨5, 0, 0⟩] by unfold lkE; rw [if_neg (by omega), if_pos (.inl k1)])
                have k1' : (e.k == 1) = true := by simpa using k1
                clear k4 k5 k1
                have HBL := Lib.hid (show Box (w4.alloc (.cells (evc [⟨4, 0, 0⟩, e, ⟨5, 0, 0⟩]).toArray 63)) w4.heap.size (evc [⟨4, 0, 0⟩, e, ⟨5, 0, 0⟩]).toArray 63 from Box.new w4 _ _)
                go_wp2_with (first | (refine load_ev TOp _ rfl rfl rfl HRG.out ?_) | (refine bld3 61 _ _ _ rfl rfl 63 i0 Try.underlying61 hi0 hz0 hz1 ⟨4, 0, 0⟩ e ⟨5, 0, 0⟩ rfl rfl rfl ?_) | (at_builtin; refine wpList_append_src rfl (.tmp 58) (.tmp 62) _ rfl wQ.heap.size 63 i0 _ 3 24 Try.underlying61 hi0 hz0 hz1 hz2 rfl (by omega) u8 (lkO ops k).length (evc (lkO ops k)) rfl (HOW.out.alloc _) (some ⟨w4.heap.size, 0, none⟩) 3 3 (evc [⟨4, 0, 0⟩, e, ⟨5, 0, 0⟩]) rfl rfl (Src.box HBL.out 3) (evc_one _) (by have := HLE.out; have := HK.out; unfold maxLen; omega) (by have := HLE.out; have := HK.out; omega) (by have := HBW.out.size; rw [World.size_alloc]; omega) ?_; intro v6 u6 ho6 hg6 hat6) | ((with_reducible refine Go.wpList_skip ?_ ?_); exact rfl; simp only [Act.put, Act.eval, List.setIfInBounds_toArray, List.set_cons_zero, List.set_cons_succ, Array.getD_eq_getD_getElem?, List.getElem?_toArray, List.getElem?_cons_zero, List.getElem?_cons_succ, Option.getD_some]))
                have HFN := Lib.hid (show OuW wQ ops (k + 1) v6 u6 from ⟨by rw [HST.out, HKE.out, List.length_append, evc_append]; exact ho6, Below.trans (HBW.out.alloc _) (grown_below hg6 (HOW.out.alloc _) (Nat.le_refl _) (by have := HBW.out.size; rw [World.size_alloc]; omega))⟩)
                clear ho6 hg6 hat6
                go_roundw
                case rel => exact ⟨k + 1, by have := HK.out; omega, by go_num, HFN.out⟩
                case measure => have := HK.out; simp [intOf]; omega
              · have k1' : (e.k == 1) = false := by simpa using k1
                by_cases k2 : e.k = 2
                · have HKE := Lib.hid (show lkE e = [⟨4, 0, 0⟩, e, ⟨5, 0, 0⟩] by unfold lkE; rw [if_neg (by omega), if_pos (.inr k2)])
                  have k2' : (e.k == 2) = true := by simpa using k2
                  clear k4 k5 k1 k2
                  have HBL := Lib.hid (show Box (w4.alloc (.cells (evc [⟨4, 0, 0⟩, e, ⟨5, 0, 0⟩]).toArray 63)) w4.heap.size (evc [⟨4, 0, 0⟩, e, ⟨5, 0, 0⟩]).toArray 63 from Box.new w4 _ _)
                  go_wp2_with (first | (refine load_ev TOp _ rfl rfl rfl HRG.out ?_) | (refine bld3 61 _ _ _ rfl rfl 63 i0 Try.underlying61 hi0 hz0 hz1 ⟨4, 0, 0⟩ e ⟨5, 0, 0⟩ rfl rfl rfl ?_) | (at_builtin; refine wpList_append_src rfl (.tmp 58) (.tmp 62) _ rfl wQ.heap.size 63 i0 _ 3 24 Try.underlying61 hi0 hz0 hz1 hz2 rfl (by omega) u8 (lkO ops k).length (evc (lkO ops k)) rfl (HOW.out.alloc _) (some ⟨w4.heap.size, 0, none⟩) 3 3 (evc [⟨4, 0, 0⟩, e, ⟨5, 0, 0⟩]) rfl rfl (Src.box HBL.out 3) (evc_one _) (by have := HLE.out; have := HK.out; unfold maxLen; omega) (by have := HLE.out; have := HK.out; omega) (by have := HBW.out.size; rw [World.size_alloc]; omega) ?_; intro v6 u6 ho6 hg6 hat6) | ((with_reducible refine Go.wpList_skip ?_ ?_); exact rfl; simp only [Act.put, Act.eval, List.setIfInBounds_toArray, List.set_cons_zero, List.set_cons_succ, Array.getD_eq_getD_getElem?, List.getElem?_toArray, List.getElem?_cons_zero, List.getElem?_cons_succ, Option.getD_some]))
                  have HFN := Lib.hid (show OuW wQ ops (k + 1) v6 u6 from ⟨by rw [HST.out, HKE.out, List.length_append, evc_append]; exact ho6, Below.trans (HBW.out.alloc _) (grown_below hg6 (HOW.out.alloc _) (Nat.le_refl _) (by have := HBW.out.size; rw [World.size_alloc]; omega))⟩)
                  clear ho6 hg6 hat6
                  go_roundw
                  case rel => exact ⟨k + 1, by have := HK.out; omega, by go_num, HFN.out⟩
                  case measure => have := HK.out; simp [intOf]; omega
                · have HKE := Lib.hid (show lkE e = [e] by unfold lkE; rw [if_neg (by omega), if_neg (by omega)])
                  have k2' : (e.k == 2) = false := by simpa using k2
                  clear k4 k5 k1 k2
                  have HBL := Lib.hid (show Box (w4.alloc (.cells (evv e) 63)) w4.heap.size (evc [e]).toArray 63 from Box.new w4 _ _)
                  go_wp2_with (first | (refine load_ev TOp _ rfl rfl rfl HRG.out ?_) | (refine build1 61 _ rfl rfl 63 i0 Try.underlying61 hi0 hz0 hz1 e rfl ?_) | (at_builtin; refine wpList_append_src rfl (.tmp 36) (.tmp 38) _ rfl wQ.heap.size 63 i0 _ 3 24 Try.underlying61 hi0 hz0 hz1 hz2 rfl (by omega) u8 (lkO ops k).length (evc (lkO ops k)) rfl (HOW.out.alloc _) (some ⟨w4.heap.size, 0, none⟩) 1 1 (evc [e]) rfl rfl (Src.box HBL.out 1) (evc_one _) (by have := HLE.out; have := HK.out; unfold maxLen; omega) (by have := HLE.out; have := HK.out; omega) (by have := HBW.out.size; rw [World.size_alloc]; omega) ?_; intro v6 u6 ho6 hg6 hat6) | ((with_reducible refine Go.wpList_skip ?_ ?_); exact rfl; simp only [Act.put, Act.eval, List.setIfInBounds_toArray, List.set_cons_zero, List.set_cons_succ, Array.getD_eq_getD_getElem?, List.getElem?_toArray, List.getElem?_cons_zero, List.getElem?_cons_succ, Option.getD_some]))
                  have HFN := Lib.hid (show OuW wQ ops (k + 1) v6 u6 from ⟨by rw [HST.out, HKE.out, List.length_append, evc_append]; exact ho6, Below.trans (HBW.out.alloc _) (grown_below hg6 (HOW.out.alloc _) (Nat.le_refl _) (by have := HBW.out.size; rw [World.size_alloc]; omega))⟩)
                  clear ho6 hg6 hat6
                  go_roundw
                  case rel => exact ⟨k + 1, by have := HK.out; omega, by go_num, HFN.out⟩
                  case measure => have := HK.out; simp [intOf]; omega
        · obtain rfl : mm = k := by omega
          have HO8 := Lib.hid HOU.out.own
          have hl8 := lkO_len ops mm
          obtain ⟨A8, c8, rfl, _, hn8, hm8⟩ := Sl.own HOU.out.own
          have HBR := Lib.hid (HB.out.trans HOU.out.bel)
          have HBQ := Lib.hid HOU.out.bel
          have HQO := Lib.hid (HP.out.bel HOU.out.bel).own
          generalize hnn : (lkO ops mm).length = nn at *
          clear hnn HOU
          have hc8 : (nn : Int) ≤ c8 := by omega
          have hnn8 : nn ≤ 3145728 := by omega
          have HHH := Lib.hid hn6
          clear ci hl8 hk hkm hm8 hn8
          go_upto_region 17 with (at_builtin; refine wpList_append_src rfl (.tmp 65) (.tmp 71) _ rfl w0.heap.size 61 j0 _ 1 24 Try.underlying44 hj0 gz0 gz1 gz2 rfl (by omega) u5 i ((List.range i).map r) rfl (HQO.out.alloc _) (some ⟨wr.heap.size, 0, none⟩) 1 1 [.slice A8 (min (nn : Int) 12).toNat c8] rfl rfl (Src.box (Box.new wr #[.slice A8 (min (nn : Int) 12).toNat c8] _) 1) (by simp [Value.oneCell']) (by have := HI.out; unfold maxLen; omega) (by have := HI.out; omega) (by have := HBR.out.size; rw [World.size_alloc]; omega) ?_; intro v6 u6 ho6 hg6 hat6)
          have HFN := Lib.hid (show PrW w0.heap.size (i + 1) (lkL l) (updC r i (.slice A8 (min (nn : Int) 12).toNat c8)) v6 u6 from
            (PrW.push_cut HP.out HB.out.size (HBQ.out.alloc _) (HO8.out.alloc _) (by omega) ho6 hg6 hat6).congr fun j hj => by
              unfold updL
              split
              · rename_i e; subst e; exact HQI.out.symm
              · rfl)
          have HFB := Lib.hid (show Bel w0 u6 from Below.trans (HBR.out.alloc _) (grown_below hg6 (HQO.out.alloc _) (Nat.le_refl _) (by have := HBR.out.size; rw [World.size_alloc]; omega)))
          clear ho6 hg6 hat6
          go_wp2
          go_roundw
          case rel => exact ⟨i + 1, _, by have := HI.out; omega, by go_num, HFN.out, HFB.out⟩
          case measure => have := HI.out; simp [intOf]; omega
    · obtain rfl : n = i := by omega
      obtain ⟨A5, c5, rfl, hpr, hn5, hm5⟩ := HP.out.prg'
      rw [lkL_all HLN.out] at hpr
      have HP5 := Lib.hid hpr
      have HN5 := Lib.hid (And.intro hn5 hm5)
      clear hpr hn5 hm5 hi hlt HP
      go_wp2_with fail
      refine (H1.out A5 n c5 (lkP l) B1 k1 d1 q1 _ HP5.out HN5.out.1 HN5.out.2 (HS1.out.1.keep (HW0.out.trans HB.out)) HS1.out.2.1 HS1.out.2.2).mono ?_
      rintro e1 w1 ⟨v1, y1, l1, c1, rfl, hB1, ho1, hb1⟩
      have HV1 := Lib.hid (EnV.run hB1)
      have HB1 := Lib.hid hB1
      obtain ⟨A1, e1', rfl, hs1, hn1, hm1⟩ := Sl.own ho1
      have HE1 := Lib.hid (((HW0.out.trans HB.out).call hb1).trans (enw_bel w1 y1))
      have HT1 := Lib.hid (And.intro (hs1.bel (enw_bel w1 y1).out) (And.intro hn1 hm1))
      clear hb1 ho1 hs1 hn1 hm1 hB1
      rcases runB_cases HB1.out with ⟨hc1, rfl, rfl⟩ | ⟨rfl, hok, h100, rfl, rfl⟩
      · have h9 : (c1 != 0) = true := by simpa using hc1
        clear hc1
        go_wp2_with (refine enw_store HV1.out.ty _ _ rfl rfl HV1.out.size HV1.out.one rfl rfl rfl ?_)
        go_ret
        exact ⟨rfl, HE1.out.out⟩
      · obtain ⟨t1, t2, t3, t4, t5⟩ := lk_top hok q1
        have HMY := Lib.hid t1
        have HRC := Lib.hid (show rcs (runP (lkP l) q1).L = [] by rw [rcs_ok t1]; exact t2)
        have HFF := Lib.hid t3
        have HWN := Lib.hid (show warns (runP (lkP l) q1).L = [] by unfold warns; rw [if_pos t1]; exact t4)
        have HSL := Lib.hid (show fslow (runP (lkP l) q1).L = 0 by unfold fslow; rw [if_pos t1]; exact t5)
        clear t1 t2 t3 t4 t5 hok h100
        go_wp2_with (refine enw_store HV1.out.ty _ _ rfl rfl HV1.out.size HV1.out.one rfl rfl rfl ?_)
        refine (alle_any A1 _ e1' _ _ HT1.out.1).mono ?_
        rintro e6 w6 ⟨v6, rfl, ho6, hb6⟩
        rw [HMY.out]
        rw [HRC.out] at ho6
        obtain ⟨A6, c6, rfl, _, hn6', hm6'⟩ := SlR.own ho6
        have HE6 := Lib.hid (HE1.out.call hb6)
        have HT6 := Lib.hid (HT1.out.1.bel hb6)
        clear hb6 ho6 hn6' hm6'
        go_wp2_with fail
        refine (warns_any A1 _ e1' _ _ HT6.out HT1.out.2.1).mono ?_
        rintro e7 w7 ⟨v7, rfl, ho7, hb7⟩
        rw [HMY.out]
        rw [HWN.out] at ho7
        obtain ⟨A7, c7, rfl, _, hn7, hm7⟩ := Sl.own ho7
        have HE7 := Lib.hid (HE6.out.call hb7)
        have HT7 := Lib.hid (HT6.out.bel hb7)
        clear hb7 ho7 hn7 hm7
        go_wp2_with fail
        refine (fslow_any A1 _ e1' _ _ HT7.out).mono ?_
        rintro e8 w8 ⟨rfl, hb8⟩
        rw [HMY.out, HSL.out]
        have HE8 := Lib.hid (HE7.out.call hb8)
        have HT8 := Lib.hid (HT7.out.bel hb8)
        clear hb8
        go_wp2_with fail
        refine (frun_any A1 _ e1' _ _ HT8.out).mono ?_
        rintro e9 w9 ⟨v9, rfl, ho9, hb9⟩
        rw [HMY.out]
        rw [HFF.out] at ho9
        obtain ⟨A9, c9, rfl, _, hn9, hm9⟩ := Sl.own ho9
        have HE9 := Lib.hid (HE8.out.call hb9)
        clear hb9 ho9 hn9 hm9
        go_wp2
        go_ret
        exact ⟨rfl, HE9.out.out⟩
set_option maxRecDepth 100000 in
theorem lifted (os : Os) (started : os.Started) (H : Type) (enc : TypeId × Value → H) (F : Stop.Interp) :
    ReturnsInHanded {} Try.checked os 6 .any ((Rows.OpenSpec.upto Rows.topLockedSpec).pre6 enc Try.prog Try.f6 Rows.topLockedUptoRow.domain false) (((Rows.OpenSpec.upto Rows.topLockedSpec).at F).post enc Try.prog Try.f6 false true false false) := by
  refine returnsInHanded_of_cond_sized (C := Try.checked) (s := Rows.OpenSpec.upto Rows.topLockedSpec) (k := Rows.uptoSmall) rfl own started (by kernel_rfl) Try.func6
    (OpenSpec.witness (enc := enc) (C := Try.checked) (s := Rows.OpenSpec.upto Rows.topLockedSpec) (k := Rows.uptoSmall) rfl false ⟨#[], #[.slice none 0 0, .slice none 0 0], []⟩ 8 (by kernel_rfl) (by kernel_rfl) (by kernel_rfl)
      (x := ([.nil, .nil], [], [])) (by kernel_rfl) rfl (by kernel_rfl)) ?_
  intro W base args ds gs before hval0 hW hcnd hk hsz0 _
  have hsz : (DataW.weightsEach Try.prog (Try.f6.params.toList ++ Rows.topLockedSpec.plain.varTypes Try.prog) (ds ++ gs)).all (· ≤ reachBytes) = true := hsz0
  clear hsz0
  have hval : ∀ (j : Nat) t v, Try.f6.params[j]? = some t → args[j]? = some v → Value.okWide Try.prog W .any base t v := hval0
  have hW' := hW
  obtain ⟨p, q, hA0, hV, rfl, hfz, hnd⟩ := hW
  have hA : DataW.TrodAll enc Try.prog W 0 (fun _ => true) true Try.f6.params.toList args.toList ds p := hA0
  rw [Try.params6] at hA hval hsz
  obtain ⟨v0, vs0, d0, ds0, p0, q0, hargs, rfl, rfl, h0, r0⟩ := trodAll_cons hA
  obtain ⟨v1, vs1, d1, ds1, p1, q1, rfl, rfl, rfl, h1, r1⟩ := trodAll_cons r0
  obtain ⟨rfl, rfl, rfl⟩ := trodAll_nil r1
  obtain rfl : args = #[v0, v1] := by cases args; simp_all
  obtain ⟨rfl, rfl⟩ := trodVars_none hV
  have t0 := h0
  have lt0 : ∀ x ∈ p0, x.block < W.heap.size := by obtain ⟨m, hm⟩ := t0; exact DataW.trod_lt m _ _ _ hm
  have t1 := h1
  have lt1 : ∀ x ∈ p1, x.block < W.heap.size := by obtain ⟨m, hm⟩ := t1; exact DataW.trod_lt m _ _ _ hm
  obtain ⟨A0, n0, c0, l0, rfl, s0, m0, x0, g0⟩ := open_ops Try.underlying44 (by kernel_rfl) Try.underlying61 Try.underlying63 ⟨rfl, rfl, rfl⟩ (by kernel_rfl) (by kernel_rfl) Try.underlying3 (hval 0 44 v0 rfl rfl) h0
  have b0 := open_opsu Try.underlying44 (by kernel_rfl) Try.underlying61 Try.underlying63 (by kernel_rfl) (by kernel_rfl) s0 h0
  obtain ⟨A1, n1, c1, l1, rfl, s1, m1, x1, g1⟩ := open_ints_arg Try.underlying23 Try.underlying3 (by kernel_rfl) (hval 1 23 v1 rfl rfl) h1
  clear hA0 hval0
  have hk := of_decide_eq_true hk
  simp only [Rows.uptoBulkAll, Rows.uptoBulk, List.cons_append, List.nil_append, List.append_nil] at hk
  refine (walkH pgrun_c works_any W A0 n0 c0 l0 s0 m0 x0 g0 _ b0 A1 n1 c1 l1 s1 m1 x1 g1 (by omega)).mono fun e W' ⟨he, bel⟩ => ?_
  subst he
  exact ⟨_, rfl, _, _, _, [], _, [], hW', trodAll_mk1 (shut_bool Try.underlying4 _), (trodAll_cons_mk (Below.trod laidOut (by kernel_rfl) (of_decide_eq_true (by kernel_rfl)) t0 bel lt0) (trodAll_cons_mk (Below.trod laidOut (by kernel_rfl) (of_decide_eq_true (by kernel_rfl)) t1 bel lt1) trodAll_mk0)), rfl, bel.frame _, fun h => by cases h⟩

theorem over : Rows.topLockedUptoRow.holds Try.pinned (Rows.OpenSpec.upto Rows.topLockedSpec) :=
  OpenClaim.holds_of_cond 6 Try.f6 rfl rfl rfl rfl rfl rfl rfl ⟨rfl, rfl, rfl, rfl, rfl⟩ rfl rfl rfl rfl rfl (by kernel_rfl) Try.func6 (by kernel_rfl)
    (of_decide_eq_true (by kernel_rfl)) (by unfold Func.isWrapper; first | (rw [if_pos (by decide +kernel)]; kernel_rfl) | (rw [if_neg (by decide +kernel)]; exact ⟨rfl, rfl⟩))
    (fun os started H enc _ F => lifted os started H enc F)

theorem proved : Rows.TopLockedUptoSaid := over
#print axioms proved
end Go.Proofs.Ytjddahidkodieaa.LTopLocked

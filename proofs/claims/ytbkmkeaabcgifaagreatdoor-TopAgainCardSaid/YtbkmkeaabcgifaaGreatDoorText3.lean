/- Contracts of the package text: Text. -/
import Derived.Test.YtbkmkeaabcgifaaGreatDoorText
import Derived.Test.YtbkmkeaabcgifaaGreatDoorRefText
import Derived.Laws.MakeOwn
set_option linter.all false
set_option maxRecDepth 100000
namespace Go.Proofs.YtbkmkeaabcgifaaGreatDoor
open Go Go.RowKit

theorem text_join : ∀ l : List Ev, textL l = Lib.join (l.map lineL) [10]
  | [] => rfl
  | [e] => by rw [List.map_cons, List.map_nil, Lib.join_one]; rfl
  | e :: f :: l => by
    rw [textL, text_join (f :: l), List.map_cons, List.map_cons, List.map_cons, Lib.join_cons, Lib.join_cons]
    simp [Lib.joinTail]
/-- The cells of the slice of lines, i of them filled. -/
def linesC (l : List Ev) (n i : Nat) : Array Value := (((l.take i).map fun e => Value.string (str (lineL e))) ++ List.replicate (n - i) (Value.string ⟨#[]⟩)).toArray
theorem linesC_zero (l : List Ev) (n : Nat) : linesC l n 0 = Array.replicate n (Value.string ⟨#[]⟩) := by simp [linesC]
theorem linesC_get {l : List Ev} {n i : Nat} (hl : l.length = n) (hi : i < n) : (linesC l n i)[i]? = some (Value.string ⟨#[]⟩) := by
  simp only [linesC, List.getElem?_toArray]
  rw [List.getElem?_append_right (by simp; omega)]
  simp only [List.length_map, List.length_take, List.getElem?_replicate]
  rw [if_pos (by omega)]
theorem linesC_set {l : List Ev} {n i : Nat} (hl : l.length = n) {e : Ev} (he : l[i]? = some e) : (linesC l n i).setIfInBounds i (.string (str (lineL e))) = linesC l n (i + 1) := by
  have hi : i < n := by have := (List.getElem?_eq_some_iff.1 he).1; omega
  simp only [linesC, List.setIfInBounds_toArray]
  congr 1
  rw [take_snoc he, List.map_append, List.append_assoc]
  rw [List.set_append_right _ _ (by simp; omega)]
  congr 1
  have h1 : n - i = (n - (i + 1)) + 1 := by omega
  have h2 : i - ((l.take i).map fun e => Value.string (str (lineL e))).length = 0 := by simp; have := (List.getElem?_eq_some_iff.1 he).1; omega
  rw [h2, h1, List.replicate_succ]
  rfl
theorem linesC_all {l : List Ev} {n : Nat} (hl : l.length = n) : linesC l n n = (l.map fun e => Value.string (str (lineL e))).toArray := by
  simp only [linesC, Nat.sub_self, List.replicate_zero, List.append_nil]
  rw [List.take_of_length_le (by omega)]
theorem str_info : (Tryz.prog.info? 9).map (fun i => (i.zero, i.size, i.bytes)) = some (some (.string ⟨#[]⟩), 1, 16) := by kernel_rfl
theorem made_one (z : Value) (n : Nat) (hz : z.cells = #[z]) : madeCells z.cells n = Array.replicate n z := by
  rw [hz]
  apply Array.ext
  · simp [madeCells]
  · intro i h1 h2
    simp [madeCells, Nat.mod_one]
/-- 'make([]string, n)'. -/
theorem makeStr {ops : Array Oper} {rest : List Oper} {o : Oper} {a : Act} {w : World} {Q : Exit → Act → World → Prop} (l c : Operand) (ho : o.op = .makeSlice 49 l c) (hg : o.guard = none) (n : Nat) (hn : n ≤ 1000000) (hl : a.eval l = .int .i64 n) (hc : a.eval c = .int .i64 n)
    (h : wpList Tryz.prog ops Q rest (a.put o.dst (.slice (some ⟨w.heap.size, 0, none⟩) n n)) (w.alloc (.cells (Array.replicate n (.string ⟨#[]⟩)) 9))) : wpList Tryz.prog ops Q (o :: rest) a w := by
  obtain ⟨i, hi, hz, hs, hb⟩ := info_parts str_info
  have hr := run_make (P := Tryz.prog) w 49 9 i _ Tryz.underlying49 hi hz .i64 .i64 n n (by omega) (by omega) (by rw [hb]; omega) (by omega)
  rw [made_one _ _ rfl, hs, Nat.mul_one, Int.toNat_natCast] at hr
  refine wpList_plain hg fun _ hK => ?_
  unfold Oper.wp execOp
  simp only [ho, hl, hc, Sem.run_bind, hr, Result.andThen_ok, Sem.run_pure]
  exact hK _ _ h
theorem sjoin_any (l : List Ev) (n B : Nat) (w : World) (hl : l.length = n) (hn : n ≤ 80) (hb : Box w B (linesC l n n) 9) :
    Calls Tryz.prog 17 #[.slice (some ⟨B, 0, none⟩) n n, .string ⟨#[10]⟩] w fun e w' => e = .returned (.string (str (textL l))) ∧ Below w.heap.size w w' := by
  have hm : (l.map fun e => str (lineL e)).map (·.data.toList) = l.map lineL := by
    rw [List.map_map]; exact List.map_congr_left fun e _ => str_all _
  have hj : Lib.join ((l.map fun e => str (lineL e)).map (·.data.toList)) (⟨#[10]⟩ : ByteArray).data.toList = textL l := by rw [hm, text_join]
  have hlen := text_len l
  have h := Tryz.strings_Join B 0 n (l.map fun e => str (lineL e)) ⟨#[10]⟩ w (fun j x hx => by
      rw [Nat.zero_add]
      refine hb.cell j ?_
      rw [linesC_all hl, List.getElem?_toArray, List.getElem?_map]
      rw [List.getElem?_map] at hx
      cases hq : l[j]? with
      | none => rw [hq] at hx; cases hx
      | some e => rw [hq] at hx; simp only [Option.map_some, Option.some.injEq] at hx ⊢; rw [hx]) hb.lt (by rw [List.length_map]; omega) (by rw [List.length_map]; omega) (by rw [hj]; omega)
  rw [hj, List.length_map, hl] at h
  exact h
structure TRel (w : World) (l : List Ev) (n B i : Nat) (wr : World) : Prop where
  box : Box wr B (linesC l n i) 9
  below : Below w.heap.size w wr
  ge : w.heap.size ≤ B
set_option maxHeartbeats 4000000 in
theorem ptext_any (A : Option Addr) (n c : Nat) (l : List Ev) (w : World) (hl : Sl w A n l) (hnc : n ≤ c) (hcm : c ≤ 9223372036854775807) :
    Calls Tryz.prog 5 #[.slice A n c] w fun e w' => e = .returned (.tuple #[.string (str (textOf l)), .int .i64 (may l)]) ∧ Below w.heap.size w w' := by
  have HL := Lib.hid hl
  have hw0 : Bel w w := Bel.refl w
  cases h1 : (may l != 0)
  · have HM := Lib.hid (show may l = 0 by simpa using h1)
    have HV := Lib.hid (show textOf l = textL l by unfold textOf; rw [if_pos HM.out])
    have hn80 : n ≤ 80 := by rw [← hl.1]; exact ((may_iff l).1 HM.out).1
    have HN := Lib.hid hl.1
    clear hl
    have h1' : ((check l).2 != 0) = false := h1
    go_enter Tryz.func5, Tryz.ntmps5
    go_wp2_with fail
    refine (check_any A n c l _ HL.out).mono ?_
    rintro e1 w1 ⟨rfl, hb1⟩
    have hw1 := hw0.call hb1
    clear hb1
    have hbx := Box.new w1 (linesC l n 0) 9
    rw [linesC_zero] at hbx
    have H0 := Lib.hid (TRel.mk (by rw [linesC_zero]; exact hbx) (hw1.alloc (.cells (Array.replicate n (.string ⟨#[]⟩)) 9)) hw1.size : TRel w l n w1.heap.size 0 _)
    clear hbx hw1 hw0
    go_wp2_with (refine makeStr _ _ rfl rfl n (by omega) rfl rfl ?_)
    generalize w1.alloc (.cells (Array.replicate n (.string ⟨#[]⟩)) 9) = w2 at *
    generalize w1.heap.size = B at *
    go_loopw [22] (fun t wr => ∃ i : Nat, i ≤ n ∧ t = .int .i64 i ∧ TRel w l n B i wr) (fun t _ => n - (intOf t).toNat)
    case atStart => exact ⟨0, by omega, rfl, H0.out⟩
    case round =>
      obtain ⟨i, hi, rfl, hr⟩ := hrel
      have HR := Lib.hid hr
      clear hr H0
      by_cases hlt : i < n
      · have hs2 := HL.out
        obtain ⟨bb, off, e, rfl, hbb, he, hrg⟩ := hs2.at_ hlt
        have hlt' : (i : Int) < n := by omega
        have hR := Lib.hid (rangeAt_below HR.out.below hbb hrg)
        have HE := Lib.hid he
        have HV2 := Lib.hid (wrong_isEv (((may_iff l).1 HM.out).2 i e he))
        have HEB := Lib.hid (show Bel wr _ from ewld_below wr e 33)
        have HEX := Lib.hid (ewld_box wr e 33)
        clear he hrg hs2 hbb
        go_wp2_with (first | (refine load_ev T36 _ rfl rfl rfl hR.out ?_) | (refine ewld_store T36 _ _ rfl rfl _ rfl rfl rfl ?_) | (refine loadB _ _ rfl rfl rfl HEX.out T36 ?_))
        refine (written_any e HV2.out _).mono ?_
        rintro e5 w5 ⟨rfl, hb5⟩
        have hwb := HEB.out.call hb5
        have hbx := hwb.box HR.out.box
        have c1 := hbx.cell i (linesC_get HN.out hlt)
        have g1 := hbx.frozen i
        have HB5 := Lib.hid ((Bel.of (w := w) HR.out.below).trans hwb)
        have HX5 := Lib.hid hbx
        clear hb5 hwb hbx
        go_wp2
        go_roundw
        case rel => exact ⟨i + 1, by omega, by go_num, ⟨by rw [← linesC_set HN.out HE.out]; exact HX5.out.set i _, HB5.out.out.setCell HR.out.ge _, HR.out.ge⟩⟩
        case measure => simp [intOf]; omega
      · obtain rfl : i = n := by omega
        have HB2 := Lib.hid HR.out.below
        go_wp2_with fail
        refine (sjoin_any l i B _ HN.out hn80 HR.out.box).mono ?_
        rintro e5 w5 ⟨rfl, hb5⟩
        go_wp2
        go_ret2
        exact ⟨by rw [HV.out, HM.out]; rfl, (Bel.of (w := w) HB2.out).call hb5⟩
  · have HV := Lib.hid (show textOf l = [] by unfold textOf; rw [if_neg (by simpa using h1)])
    clear hl
    have h1' : ((check l).2 != 0) = true := h1
    go_enter Tryz.func5, Tryz.ntmps5
    go_wp2_with fail
    refine (check_any A n c l _ HL.out).mono ?_
    rintro e1 w1 ⟨rfl, hb1⟩
    have hw1 := hw0.call hb1
    clear hb1
    go_wp2
    go_ret2
    exact ⟨by rw [HV.out]; rfl, hw1⟩
end Go.Proofs.YtbkmkeaabcgifaaGreatDoor

/- Contracts of the reference: EventOf. -/
import Derived.Test.YticejlepalhmhaaDoorRefLine
set_option linter.all false
set_option maxRecDepth 100000
namespace Go.Proofs.YticejlepalhmhaaDoor
open Go.RowKit

theorem str_inj {a b : List UInt8} (h : str a = str b) : a = b := by
  have := congrArg (fun s : ByteArray => s.data.toList) h
  simpa [str] using this
theorem str_beq (a b : List UInt8) : ((str a).toList == (str b).toList) = decide (a = b) := by
  rw [ByteArray.toList_eq, ByteArray.toList_eq, Bool.eq_iff_iff, beq_iff_eq, decide_eq_true_eq]
  exact Iff.rfl
/-- No event ahead of this place has this line. -/
def NoLine (s : List UInt8) (k t o : Int) : Prop := ∀ e, isEv e = true → lineL e = s → k < e.k ∨ (e.k = k ∧ (t < e.t ∨ (e.t = t ∧ o ≤ e.o)))
theorem NoLine.start (s : List UInt8) : NoLine s 1 0 0 := fun e he _ => by
  have := isEv_k he; have := isEv_t he; have := isEv_o he; omega
theorem NoLine.obj {s : List UInt8} {k t o : Int} (h : NoLine s k t o) (hn : isEv ⟨k, t, o⟩ = true → lineL ⟨k, t, o⟩ ≠ s) : NoLine s k t (o + 1) := fun e he hl => by
  rcases h e he hl with h1 | ⟨h1, h2 | ⟨h2, h3⟩⟩
  · exact .inl h1
  · exact .inr ⟨h1, .inl h2⟩
  · by_cases h4 : e.o = o
    · have : e = ⟨k, t, o⟩ := Ev.ext' h1 h2 h4
      subst this
      exact absurd hl (hn he)
    · exact .inr ⟨h1, .inr ⟨h2, by omega⟩⟩
theorem NoLine.thread {s : List UInt8} {k t : Int} (h : NoLine s k t 8) : NoLine s k (t + 1) 0 := fun e he hl => by
  have h1 := isEv_o he; have h2 := nobj_le e.k
  rcases h e he hl with h3 | ⟨h3, h4 | ⟨h4, h5⟩⟩ <;> omega
theorem NoLine.kind {s : List UInt8} {k : Int} (h : NoLine s k 6 0) : NoLine s (k + 1) 0 0 := fun e he hl => by
  have h1 := isEv_o he; have h2 := isEv_t he
  rcases h e he hl with h3 | ⟨h3, h4 | ⟨h4, h5⟩⟩ <;> omega
theorem NoLine.none {s : List UInt8} (h : NoLine s 9 0 0) : evOf s = (⟨0, 0, 0⟩, 3) := by
  rcases evOf_code s with h1 | h1
  · exfalso
    obtain ⟨h2, h3⟩ := evOf_some h1
    have := isEv_k h2
    rcases h _ h2 h3 with h4 | ⟨h4, _⟩ <;> omega
  · exact h1

set_option maxHeartbeats 8000000 in
theorem reventOf_any (s : List UInt8) (w : World) : Calls Tryd.prog 13 #[.string (str s)] w fun e' w' => e' = .returned (.tuple #[.agg (evv (evOf s).1), .int .i64 (evOf s).2]) ∧ Below w.heap.size w w' := by
  obtain ⟨b1, hB, hs⟩ := boxes1 w #[.int .i64 0, .int .i64 0, .int .i64 0] 23
  generalize hW : w.alloc (.cells #[.int .i64 0, .int .i64 0, .int .i64 0] 23) = W at *
  have L1 : w.heap.size < W.heap.size := by omega
  have HX := Lib.hid b1
  have HT := Lib.hid (fun (w1 : World) (h : Bel W w1) => hB.trans (h.out.mono (Nat.le_of_lt L1)))
  have hw0 := Lib.hid (Bel.refl W)
  clear hB hs b1
  go_enter Tryd.func13, Tryd.ntmps13
  go_wp2
  go_loopw [4] (fun a wr => ∃ k : Nat, 1 ≤ k ∧ k ≤ 9 ∧ a = .int .i64 k ∧ NoLine s k 0 0 ∧ Bel W wr) (fun a _ => 9 - (intOf a).toNat)
  case atStart => exact ⟨1, by omega, by omega, rfl, NoLine.start s, hw0.out⟩
  case round =>
    obtain ⟨k, hk1, hk9, rfl, hnl, hbr⟩ := hrel
    have HN := Lib.hid hnl
    have HB := Lib.hid hbr
    clear hnl hbr
    by_cases hk : k < 9
    · have hkI : (k : Int) ≤ 8 := by omega
      go_wp2
      go_loopw [14] (fun a wr => ∃ t : Nat, t ≤ 6 ∧ a = .int .i64 t ∧ NoLine s k t 0 ∧ Bel W wr) (fun a _ => 6 - (intOf a).toNat)
      case atStart => exact ⟨0, by omega, rfl, HN.out, HB.out⟩
      case round =>
        obtain ⟨t, ht6, rfl, hnl, hbr⟩ := hrel
        have HN2 := Lib.hid hnl
        have HB2 := Lib.hid hbr
        clear hnl hbr
        by_cases ht : t < 6
        · have htI : (t : Int) < 6 := by omega
          go_wp2
          go_loopw [17] (fun a wr => ∃ o : Nat, o ≤ 8 ∧ a = .int .i64 o ∧ NoLine s k t o ∧ Bel W wr) (fun a _ => 8 - (intOf a).toNat)
          case atStart => exact ⟨0, by omega, rfl, HN2.out, HB2.out⟩
          case round =>
            obtain ⟨o, ho8, rfl, hnl, hbr⟩ := hrel
            have HN3 := Lib.hid hnl
            have HB3 := Lib.hid hbr
            clear hnl hbr
            by_cases ho : o < 8
            · have hoI : (o : Int) < 8 := by omega
              have HEB := Lib.hid (show Bel wr _ from ewld_below wr ⟨k, t, o⟩ 23)
              have HEX := Lib.hid (ewld_box wr ⟨k, t, o⟩ 23)
              cases hev : isEv ⟨k, t, o⟩
              · have he0 : (lineErr ⟨k, t, o⟩ == 0) = false := by simp [lineErr, hev]
                have HN4 := Lib.hid (HN3.out.obj fun h => by rw [hev] at h; cases h)
                go_wp2_with (first | (refine ewld_store T36 _ _ rfl rfl (e := ⟨k, t, o⟩) _ rfl rfl rfl ?_) | (refine loadB _ _ rfl rfl rfl HEX.out T36 ?_))
                refine (rline_any ⟨k, t, o⟩ _).mono ?_
                rintro e5 w5 ⟨rfl, hb5⟩
                have HB5 := Lib.hid ((HB3.out.trans HEB.out).call hb5)
                clear hb5
                go_wp2
                go_roundw
                case rel => exact ⟨o + 1, by omega, by go_num, by have := HN4.out; simpa using this, HB5.out⟩
                case measure => simp [intOf]; omega
              · have he0 : (lineErr ⟨k, t, o⟩ == 0) = true := by simp [lineErr, hev]
                have hlo : lineOf ⟨k, t, o⟩ = lineL ⟨k, t, o⟩ := by simp [lineOf, hev]
                have hbq := str_beq (lineOf ⟨k, t, o⟩) s
                rw [hlo] at hbq
                have HLO := Lib.hid hlo
                clear hlo
                cases hd : decide (lineL ⟨k, t, o⟩ = s)
                · rw [hd] at hbq
                  have HN4 := Lib.hid (HN3.out.obj fun _ => of_decide_eq_false hd)
                  have HBQ := Lib.hid hbq
                  clear hbq hd
                  go_wp2_with (first | (refine ewld_store T36 _ _ rfl rfl (e := ⟨k, t, o⟩) _ rfl rfl rfl ?_) | (refine loadB _ _ rfl rfl rfl HEX.out T36 ?_))
                  refine (rline_any ⟨k, t, o⟩ _).mono ?_
                  rintro e5 w5 ⟨rfl, hb5⟩
                  rw [HLO.out]
                  have hbq := HBQ.out
                  have HB5 := Lib.hid ((HB3.out.trans HEB.out).call hb5)
                  clear hb5
                  go_wp2
                  go_roundw
                  case rel => exact ⟨o + 1, by omega, by go_num, by have := HN4.out; simpa using this, HB5.out⟩
                  case measure => simp [intOf]; omega
                · rw [hd] at hbq
                  have HF := Lib.hid (show evOf s = (⟨k, t, o⟩, 0) by rw [← of_decide_eq_true hd]; exact evOf_line hev)
                  have HBQ := Lib.hid hbq
                  clear hbq hd
                  go_wp2_with (first | (refine ewld_store T36 _ _ rfl rfl (e := ⟨k, t, o⟩) _ rfl rfl rfl ?_) | (refine loadB _ _ rfl rfl rfl HEX.out T36 ?_))
                  refine (rline_any ⟨k, t, o⟩ _).mono ?_
                  rintro e5 w5 ⟨rfl, hb5⟩
                  rw [HLO.out]
                  have hbq := HBQ.out
                  have hx5 := hb5.block _ HEX.out.lt |>.trans HEX.out
                  have HX5 := Lib.hid (show Box w5 wr.heap.size (evv ⟨k, t, o⟩) 23 from hx5)
                  have HB5 := Lib.hid ((HB3.out.trans HEB.out).call hb5)
                  have HXR := Lib.hid (HB5.out.box HX.out)
                  clear hb5 hx5
                  go_wp2_with (first | (refine loadB _ _ rfl rfl rfl HX5.out T36 ?_) | (refine storeB _ _ _ rfl rfl rfl rfl HXR.out rfl T36 (evv_all _) ?_))
                  refine bodyPost_ret (res_ct Tryd.results13 rfl (HXR.out.setRow (evv ⟨k, t, o⟩)) T36) rfl ⟨?_, ?_⟩
                  · rw [HF.out]; rfl
                  · have h1 := HT.out _ HB5.out
                    exact below_setRow' h1 _ _ (Nat.le_refl _)
            · obtain rfl : o = 8 := by omega
              go_wp2
              go_roundw
              case rel => exact ⟨t + 1, by omega, by go_num, by have := HN3.out.thread; simpa using this, HB3.out⟩
              case measure => simp [intOf]; omega
        · obtain rfl : t = 6 := by omega
          go_wp2
          go_roundw
          case rel => exact ⟨k + 1, by omega, by omega, by go_num, by have := HN2.out.kind; simpa using this, HB2.out⟩
          case measure => simp [intOf]; omega
    · obtain rfl : k = 9 := by omega
      have HF := Lib.hid (NoLine.none HN.out)
      have HXR := Lib.hid (HB.out.box HX.out)
      go_wp2_with (refine storeB _ _ _ rfl rfl rfl rfl HXR.out rfl T36 (evv_all ⟨0, 0, 0⟩) ?_)
      refine bodyPost_ret (res_ct Tryd.results13 rfl (HXR.out.setRow (evv ⟨0, 0, 0⟩)) T36) rfl ⟨?_, ?_⟩
      · rw [HF.out]; rfl
      · exact below_setRow' (HT.out _ HB.out) _ _ (Nat.le_refl _)
end Go.Proofs.YticejlepalhmhaaDoor

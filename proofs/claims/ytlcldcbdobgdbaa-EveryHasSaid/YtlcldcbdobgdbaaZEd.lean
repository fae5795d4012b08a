import Derived.Test.YtlcldcbdobgdbaaZBl
set_option linter.all false
set_option maxRecDepth 100000
namespace Go.Proofs.Ytlcldcbdobgdbaa
open Go Go.RowKit

def p1 : List (List Ev) := [[⟨3, 0, 1⟩]]
theorem p1_ok : OkP p1 := chk_ok.1 (by decide +kernel)
theorem p1_ev : evC p1 = 0 := by decide +kernel
theorem p1_end {xs : List (Array Value)} (h : EndsOk p1 xs) : ∃ x : Array Value, xs = [x] ∧ x[12]? = some (.int .i64 1) ∧ x[18]? = some (.bool true) := by
  refine ⟨_, h.one (one_ends (ops := [⟨3, 0, 1⟩]) p1_ok), ?_, ?_⟩ <;> kernel_rfl
theorem row_cells {w : World} {base : Nat} {e : TypeId} {v : Value} {n : Nat} {xs : List Value} {size : Nat} (h : w.ownsRow base e size v n xs) (h0 : 0 < n) : ∃ g cap, v = .slice (some ⟨g, 0, none⟩) n cap ∧ base ≤ g ∧ n ≤ cap ∧ cap ≤ maxLen ∧ ∀ t u, xs[t]? = some u → w.cell? ⟨g, t, none⟩ = some u := by
  rcases h.2 with ⟨_, h1⟩ | ⟨g, cap, cur, rfl, h2, h3, h4, h5, h6, h7⟩
  · omega
  · refine ⟨g, cap, rfl, h2, h4, h5, fun t u hu => ?_⟩
    have hbx : Box w g cur e := h3
    refine hbx.cell t ?_
    have ht : t < n * size := by have := (List.getElem?_eq_some_iff.1 hu).1; rw [h.1] at this; exact this
    rw [← h7, List.getElem?_take_of_lt ht] at hu
    rw [← Array.getElem?_toList]; exact hu
set_option maxHeartbeats 4000000 in
theorem everied_any (w : World) : Calls Try.prog 24 #[] w fun e w' => e = .returned (.bool true) ∧ Below w.heap.size w w' := by
  obtain ⟨i0, hi0, hz0, hz1, hz2⟩ := info_parts op_info
  obtain ⟨hb1, hb2, hb3, hsz⟩ := boxes2 w (evv ⟨3, 0, 1⟩) #[.slice (some ⟨w.heap.size, 0, none⟩) 1 1] 59 57
  have hsl : Sl ((w.alloc (.cells (evv ⟨3, 0, 1⟩) 59)).alloc (.cells #[.slice (some ⟨w.heap.size, 0, none⟩) 1 1] 57)) (some ⟨w.heap.size, 0, none⟩) 1 [⟨3, 0, 1⟩] :=
    ⟨rfl, fun _ => ⟨_, 0, rfl, hb1.lt, fun j v hv => by rw [Nat.zero_add]; exact hb1.cell j (by simpa [evc, evl, evv] using hv)⟩⟩
  have HP := Lib.hid (Prg.one hb2 hsl (Nat.le_refl _) (by unfold maxLen; omega))
  have HB := Lib.hid (Bel.of hb3)
  clear hb1 hb2 hb3 hsz hsl
  go_enter Try.func24, Try.ntmps24
  go_wp2_with (first | (refine build1 57 _ rfl rfl 59 i0 Try.underlying57 hi0 hz0 hz1 ⟨3, 0, 1⟩ rfl ?_))
  refine (eends_any _ 1 1 [[⟨3, 0, 1⟩]] _ HP.out (Nat.le_refl _) (by unfold maxLen; omega)).mono ?_
  rintro e1 w1 ⟨v, xs, rfl, _, hok, hown, hb1⟩
  have hev : evC [[⟨3, 0, 1⟩]] = 0 := p1_ev
  obtain ⟨x, rfl, hx1, hx2⟩ := p1_end (hok p1_ev)
  obtain ⟨g, cap, rfl, _, hnc, _, hc⟩ := row_cells hown (by simp)
  have c1 := hc 12 (.int .i64 1) (by unfold ens; simpa using hx1)
  have c2 := hc 18 (.bool true) (by unfold ens; simpa using hx2)
  have HB1 := Lib.hid (HB.out.trans (Bel.of hb1))
  have hl : ([x] : List (Array Value)).length = 1 := rfl
  rw [hl, hev] at *
  have hnc1 : 1 ≤ cap := hnc
  clear hok hown hb1 hx1 hx2 hc hl hev HP
  go_wp2
  go_ret
  exact ⟨rfl, HB1.out.out⟩
def HasEPost (w : World) (ds : List En) (x : En) (e : Ending) (w' : World) : Prop := ∃ b : Bool, e = .returned (.bool b) ∧ (b = true ↔ enA x ∈ ds.map enA) ∧ Below w.heap.size w w'
set_option maxHeartbeats 8000000 in
theorem hasend_any {w : World} {base n : Nat} {v : Value} {ds : List En} (x : En) (h : w.ownsRow base 33 20 v n (enRow ds)) :
    Calls Try.prog 26 #[v, .agg (enA x)] w (HasEPost w ds x) := by
  have hln : ds.length = n := by have := h.1; rw [row_len] at this; omega
  have hv : ∃ A c, v = .slice A n c ∧ n ≤ c ∧ c ≤ maxLen := by
    rcases h.2 with ⟨rfl, rfl⟩ | ⟨g, cap, cur, rfl, _, _, hc, hm, _⟩
    · exact ⟨none, 0, rfl, Nat.le_refl _, Nat.zero_le _⟩
    · exact ⟨_, cap, rfl, hc, hm⟩
  obtain ⟨A, c, rfl, hnc, hcm⟩ := hv
  have HB := Lib.hid (show Bel w (w.alloc (.cells (enA x) 33)) from (Bel.refl w).alloc _)
  have HX := Lib.hid (Box.new w (enA x) 33)
  have HL := Lib.hid (own_bel h HB.out)
  have HLN := Lib.hid hln
  have hncI : (n : Int) ≤ c := by omega
  have hnI : (n : Int) ≤ 9223372036854775807 := by unfold maxLen at hcm; omega
  clear h hln
  go_enter Try.func26, Try.ntmps26
  go_wp2
  generalize w.alloc (.cells (enA x) 33) = W at *
  go_loopw [9] (fun t wr => ∃ k : Nat, k ≤ n ∧ t = .int .i64 k ∧ Hid (enA x ∉ (ds.take k).map enA) ∧ Bel W wr) (fun t _ => n - (intOf t).toNat)
  case atStart => exact ⟨0, by omega, rfl, (show enA x ∉ (ds.take 0).map enA by simp), Bel.refl _⟩
  case round =>
    obtain ⟨k, hk, rfl, HD, hr⟩ := hrel
    have HR := Lib.hid hr
    clear hr
    by_cases hlt : k < n
    · have hlt' : (k : Int) < n := by omega
      have hA : ∃ g, A = some ⟨g, 0, none⟩ := by
        rcases HL.out.2 with ⟨_, h0⟩ | ⟨g, _, _, hv, _⟩
        · omega
        · cases hv; exact ⟨g, rfl⟩
      obtain ⟨g, rfl⟩ := hA
      have hlk : k < ds.length := by rw [HLN.out]; exact hlt
      have HRG := Lib.hid (own_range (own_bel HL.out HR.out) hlk)
      obtain ⟨b, hq, _, hb⟩ := eq_en x ds[k]
      have HTK := Lib.hid (show ds.take (k + 1) = ds.take k ++ [ds[k]] from List.take_succ_eq_append_getElem hlk)
      have HME := Lib.hid (show enA ds[k] ∈ ds.map enA from List.mem_map_of_mem (List.getElem_mem hlk))
      generalize ds[k] = y at *
      have HBB := Lib.hid hb
      have HXr := Lib.hid (HR.out.box HX.out)
      have HY0 := Lib.hid (Box.new wr z20 33)
      have HY1 := Lib.hid (HY0.out.setRow (enA y))
      have hbw : Bel wr ((wr.alloc (.cells z20 33)).setRow wr.heap.size (enA y)) := ((Bel.refl wr).alloc _).setRow wr.heap.size (Nat.le_refl _) _
      have HXy := Lib.hid (hbw.box HXr.out)
      have HBW := Lib.hid hbw
      clear hb hlk hbw
      cases b
      · have HD2 : Hid (enA x ∉ (ds.take (k + 1)).map enA) := Lib.hid (by
          rw [HTK.out, List.map_append, List.mem_append]
          rintro (h | h)
          · exact HD.out h
          · have := HBB.out.2 (by simpa using h); cases this)
        go_wp2_with (first | (refine load_row (l := enE y) (TEndx y) _ rfl rfl rfl HRG.out ?_) | (refine storeB 33 _ _ rfl rfl rfl rfl HY0.out rfl (by exact TEnd) (enA_one y) ?_) | (refine loadB 33 _ rfl rfl rfl HXy.out (by exact TEnd) ?_) | (refine loadB 33 _ rfl rfl rfl HY1.out (by exact TEnd) ?_))
        go_roundw
        case rel => exact ⟨k + 1, by omega, by go_num, HD2, HR.out.trans HBW.out⟩
        case measure => simp [intOf]; omega
      · have HV := Lib.hid (show ((true : Bool) = true ↔ enA x ∈ ds.map enA) by
          refine ⟨fun _ => ?_, fun _ => rfl⟩
          rw [HBB.out.1 rfl]; exact HME.out)
        go_wp2_with (first | (refine load_row (l := enE y) (TEndx y) _ rfl rfl rfl HRG.out ?_) | (refine storeB 33 _ _ rfl rfl rfl rfl HY0.out rfl (by exact TEnd) (enA_one y) ?_) | (refine loadB 33 _ rfl rfl rfl HXy.out (by exact TEnd) ?_) | (refine loadB 33 _ rfl rfl rfl HY1.out (by exact TEnd) ?_))
        go_ret
        exact ⟨true, rfl, by first | exact HV.out | exact ⟨fun _ => HV.out.1 trivial, fun _ => rfl⟩, (HB.out.trans (HR.out.trans HBW.out)).out⟩
    · obtain rfl : k = n := by omega
      have HV := Lib.hid (show ((false : Bool) = true ↔ enA x ∈ ds.map enA) by
        have := HD.out
        rw [← HLN.out, List.take_length] at this
        simp [this])
      go_wp2
      go_ret
      exact ⟨false, rfl, HV.out, (HB.out.trans HR.out).out⟩
end Go.Proofs.Ytlcldcbdobgdbaa

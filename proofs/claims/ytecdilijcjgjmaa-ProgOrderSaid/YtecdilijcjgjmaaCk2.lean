/- Contract of the program's Check: slices.Grow and Concat over ops, objects, isValid. -/
import Derived.Test.YtecdilijcjgjmaaRpC
import Derived.Test.YtecdilijcjgjmaaRpG
import Derived.Test.YtecdilijcjgjmaaCp
import Derived.Lib.AppendZeros
set_option linter.all false
set_option maxRecDepth 100000
namespace Go.Proofs.Ytecdilijcjgjmaa
open Go Go.RowKit

def OpPost (w : World) (n : Nat) (l : List Ev) (e : Ending) (w' : World) : Prop := ∃ v, e = .returned v ∧ w'.ownsRow w.heap.size 55 3 v n (evc l) ∧ Below w.heap.size w w'
theorem op_info : (Try.prog.info? 55).map (fun i => (i.zero, i.size, i.bytes)) = some (some (.agg #[.int .i64 0, .int .i64 0, .int .i64 0]), 3, 24) := by kernel_rfl
set_option maxHeartbeats 4000000 in
theorem growop_any (n : Nat) (w : World) (hn : n ≤ 1000) : Calls Try.prog 70 #[.slice none 0 0, .int .i64 n] w (OpPost w 0 []) := by
  obtain ⟨i0, hi0, hz0, hz1, hz2⟩ := info_parts op_info
  have HO := Lib.hid (World.ownsRow_nil w w.heap.size 55 3)
  have hn0 : ¬ ((n : Int) < 0) := by omega
  have hw : IntKind.i64.wrap (n : Int) = n := IntWalk.i64_in _ (by omega)
  have HN := Lib.hid hn
  clear hn
  rcases Nat.eq_zero_or_pos n with h0 | h0
  · subst h0
    clear hw hn0
    go_enter Try.func70, Try.ntmps70
    go_wp2
    go_ret
    exact ⟨_, rfl, HO.out, Below.refl _ _⟩
  · have hp : (0 : Int) < (n : Int) := by omega
    have hsz : 0 < i0.size := by omega
    have HR := Lib.hid (Lib.run_append_nil_zeros (P := Try.prog) w 46 3 46 55 i0 _ .i64 .i64 Try.underlying46 Try.underlying3 hi0 hz0 n h0 hsz (by have := HN.out; omega) (by have := HN.out; rw [hz2]; omega))
    have HGE := Lib.hid (grownCap_ge w n 0 55)
    have HLE := Lib.hid (grownCap_le_maxLen w n 0 55 (by have := HN.out; unfold maxLen; omega))
    generalize grownCap w n 0 55 = cp at *
    have hge : (n : Int) ≤ cp := by have := HGE.out; omega
    clear h0 hsz
    go_enter Try.func70, Try.ntmps70
    go_wp2_with (at_builtin; refine Lib.wpList_append_run _ rfl _ _ _ _ rfl _ _ rfl rfl _ _ HR.out ?_)
    go_ret
    refine ⟨_, rfl, ⟨rfl, .inr ⟨w.heap.size, cp, _, rfl, Nat.le_refl _, Box.new w.drew _ _, Nat.zero_le _, HLE.out, ?_, ?_⟩⟩, (⟨rfl, rfl, rfl, Nat.le_refl _, fun _ _ => rfl⟩ : Below w.heap.size w w.drew).alloc (Nat.le_refl _) _⟩
    · have := HGE.out
      simp [Builtin.zeroCells, Value.cells]
      omega
    · simp [evc]
/-- The ops of the first i threads. -/
def catL (P : List (List Ev)) (i : Nat) : List Ev := (P.take i).flatten
theorem catL_succ {P : List (List Ev)} {i : Nat} (h : i < P.length) : catL P (i + 1) = catL P i ++ opsP P i := by
  unfold catL opsP
  rw [List.take_succ_eq_append_getElem h, List.flatten_append, List.getD_eq_getElem?_getD, List.getElem?_eq_getElem h]
  simp
theorem catL_len {P : List (List Ev)} (h : ∀ t, t < P.length → (opsP P t).length ≤ 12) : ∀ i, i ≤ P.length → (catL P i).length ≤ 12 * i
  | 0, _ => by simp [catL]
  | i + 1, hi => by
    rw [catL_succ (by omega), List.length_append]
    have := catL_len h i (by omega)
    have := h i (by omega)
    omega
theorem catL_all (P : List (List Ev)) : catL P P.length = P.flatten := by unfold catL; rw [List.take_length]
set_option maxHeartbeats 8000000 in
theorem concatop_any (A : Option Addr) (n c : Nat) (P : List (List Ev)) (w : World) (h : Prg w A n P) (hnc : n ≤ c) (hcm : c ≤ maxLen) (h6 : n ≤ 6) (hl : ∀ t, t < n → (opsP P t).length ≤ 12) :
    Calls Try.prog 42 #[.slice A n c] w (OpPost w (catL P n).length (catL P n)) := by
  obtain ⟨i0, hi0, hz0, hz1, hz2⟩ := info_parts op_info
  have HP := Lib.hid h
  have HLN := Lib.hid h.1
  have HL := Lib.hid hl
  have HCL := Lib.hid (catL_len (P := P) (by rw [h.1]; exact hl))
  have HCS := Lib.hid (fun (i : Nat) (hi : i < n) => catL_succ (P := P) (i := i) (by rw [HLN.out]; exact hi))
  have HM := Lib.hid (And.intro hnc hcm)
  have hn63 : n ≤ 9223372036854775807 := by omega
  clear h hl hnc hcm
  go_enter Try.func42, Try.ntmps42
  go_wp2
  go_loopw [3, 11] (fun q u wr => ∃ i : Nat, i ≤ n ∧ u = .int .i64 i ∧ q = .int .i64 ((catL P i).length : Nat) ∧ w = wr) (fun _ u _ => n - (intOf u).toNat)
  case atStart => exact ⟨0, by omega, rfl, by simp [catL], rfl⟩
  case round =>
    obtain ⟨i, hi, rfl, rfl, rfl⟩ := hrel
    by_cases hlt : i < n
    · obtain ⟨b, off, B, m, d, rfl, hb, hc, hsl, hm, hd⟩ := HP.out.at_ hlt
      have hlt' : (i : Int) < n := by omega
      have hic : (i : Int) ≤ c := by have := HM.out.1; omega
      have HSZ := Lib.hid (show (catL P (i + 1)).length = (catL P i).length + m by rw [HCS.out i hlt, List.length_append, hsl.1])
      have HB1 := Lib.hid (HCL.out (i + 1) (by rw [HLN.out]; omega))
      generalize hq : (catL P i).length = q at *
      have hw : IntKind.i64.wrap ((q : Int) + m) = ((q + m : Nat) : Int) := by rw [IntWalk.i64_in _ (by have := HSZ.out; have := HB1.out; omega)]; omega
      have hn0 : ¬ ((q + m : Nat) : Int) < 0 := by omega
      clear hsl
      go_wp2
      go_roundw
      case rel => exact ⟨i + 1, by omega, by go_num, congrArg (Value.int .i64) (by rw [HSZ.out]; omega), trivial⟩
      case measure => simp [intOf]; omega
    · obtain rfl : n = i := by omega
      go_wp2_with fail
      refine (growop_any (catL P n).length w (by have := HCL.out n (by rw [HLN.out]; omega); omega)).mono ?_
      rintro e1 w1 ⟨v1, rfl, ho1, hb1⟩
      have HW1 := Lib.hid (Bel.of hb1)
      have HO1 := Lib.hid ho1
      clear ho1 hb1
      go_wp2
      go_loopw [6, 27] (fun v u wz => ∃ i : Nat, i ≤ n ∧ u = .int .i64 i ∧ wz.ownsRow w.heap.size 55 3 v (catL P i).length (evc (catL P i)) ∧ Bel w wz) (fun _ u _ => n - (intOf u).toNat)
      case atStart => exact ⟨0, by omega, rfl, HO1.out, HW1.out⟩
      case round =>
        obtain ⟨i, hi, rfl, ho2, hb2⟩ := hrel
        have HB2 := Lib.hid hb2
        have HO2 := Lib.hid ho2
        by_cases hlt : i < n
        · obtain ⟨b, off, B, m, d, rfl, hb, hc, hsl, hm, hd⟩ := (HP.out.bel hb2).at_ hlt
          have hlt' : (i : Int) < n := by omega
          have hic : (i : Int) ≤ c := by have := HM.out.1; omega
          have HS := Lib.hid hsl.src
          have HLE := Lib.hid (show (evc (opsP P i)).length = m * 3 by rw [evc_length, hsl.1])
          have HML := Lib.hid hsl.1
          have HB1 := Lib.hid (HCL.out i (by rw [HLN.out]; omega))
          have HM12 := Lib.hid (HL.out i hlt)
          clear ho2 hb2 hsl
          go_wp2_with (at_builtin; refine wpList_append_srcE rfl (.tmp 31) (.tmp 32) _ rfl w.heap.size 55 i0 _ 3 24 Try.underlying46 hi0 hz0 hz1 hz2 rfl (by omega) _ (catL P i).length (evc (catL P i)) rfl HO2.out B m d (evc (opsP P i)) rfl HLE.out HS.out (evc_one (opsP P i)) (by have := HB1.out; have := HM12.out; have := HML.out; unfold maxLen; omega) (by have := HB1.out; have := HM12.out; have := HML.out; omega) HB2.out.size ?_; intro v5 w5 hown5 hg5 hat5)
          have hb5 := HB2.out.out.trans (grown_below hg5 HO2.out (Nat.le_refl _) HB2.out.size)
          go_roundw
          case rel => exact ⟨i + 1, by omega, by go_num, by rw [HCS.out i hlt, List.length_append, HML.out, evc_append]; exact hown5, Bel.of hb5⟩
          case measure => simp [intOf]; omega
        · obtain rfl : n = i := by omega
          clear ho2
          go_wp2
          go_ret
          exact ⟨_, rfl, HO2.out, hb2.out⟩
end Go.Proofs.Ytecdilijcjgjmaa

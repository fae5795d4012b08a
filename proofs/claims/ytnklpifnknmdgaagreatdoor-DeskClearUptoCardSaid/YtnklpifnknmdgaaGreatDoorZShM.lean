import Derived.Test.YtnklpifnknmdgaaGreatDoorZCy
import Derived.Test.YtnklpifnknmdgaaGreatDoorZCut
import Derived.Test.YtnklpifnknmdgaaGreatDoorZAll
set_option linter.all false
set_option maxRecDepth 100000
namespace Go.Proofs.YtnklpifnknmdgaaGreatDoor
open Go Go.RowKit

def RwPost (w : World) (m : List Ev) (i : Nat) (e : Ending) (w' : World) : Prop :=
  ∃ v b, e = .returned (.tuple #[v, .bool b]) ∧ Below w.heap.size w w' ∧ ((b = true ∧ Ok (m.eraseIdx i) ∧ w'.ownsRow w.heap.size 45 3 v (m.eraseIdx i).length (evc (m.eraseIdx i))) ∨ (b = false ∧ ¬ Ok (m.eraseIdx i)))
set_option maxHeartbeats 8000000 in
theorem racw_any (A : Option Addr) (n c i : Nat) (m : List Ev) (w : World) (hl : Sl w A n m) (hnc : n ≤ c) (hcm : c ≤ maxLen) (hm : may m = 0) (hi : i < n) : Calls Tryz.prog 151 #[.slice A n c, .int .i64 i] w (RwPost w m i) := by
  have hn80 : n ≤ 80 := by rw [← hl.1]; exact ((may_iff m).1 hm).1
  have HWO := without_any
  unfold WithoutC at HWO
  have HWC := Lib.hid (HWO A n c m i w hl hnc hcm (by unfold In64; omega))
  have HL := Lib.hid (show i < m.length by rw [hl.1]; exact hi)
  have HM := Lib.hid hm
  clear HWO hl hnc hcm hm hi hn80
  go_enter Tryz.func151, Tryz.ntmps151
  go_wp2_with fail
  refine HWC.out.mono ?_
  rintro e1 w1 ⟨r1, c1, hB1, v1, rfl, ho1, hb1⟩
  have HW1 := Lib.hid (Bel.of hb1)
  rcases hB1 with ⟨g, _⟩ | ⟨_, g, _⟩ | ⟨_, ⟨k, hk, hkl, hmk⟩, rfl, rfl⟩ | ⟨_, ⟨k, hk, hkl, hmk, rfl⟩, rfl⟩
  · exact absurd HM.out g
  · have := HL.out; omega
  · obtain rfl : i = k := by omega
    have HN := Lib.hid hmk
    clear hk hkl hmk ho1 hb1
    go_wp2
    go_ret2
    exact ⟨_, false, rfl, HW1.out.out, .inr ⟨rfl, fun h => HN.out h.1⟩⟩
  · obtain rfl : i = k := by omega
    have HN := Lib.hid hmk
    obtain ⟨A1, d1, rfl, hs1, _, _⟩ := Sl.own ho1
    have HO1 := Lib.hid ho1
    have HS1 := Lib.hid hs1
    clear hk hkl hmk ho1 hb1 hs1
    go_wp2_with fail
    refine (alle_any A1 _ d1 _ w1 HS1.out).mono ?_
    rintro e2 w2 ⟨v2, rfl, ho2, hb2⟩
    obtain ⟨A2, d2, rfl, _, _, _⟩ := SlR.own ho2
    have HW2 := Lib.hid (HW1.out.call hb2)
    have HO2 := Lib.hid (own_bel HO1.out (Bel.of hb2))
    clear ho2 hb2
    by_cases hr : rcs (m.eraseIdx i) = []
    · have HR := Lib.hid hr
      rw [hr]
      clear hr
      go_wp2
      go_ret2
      exact ⟨_, false, rfl, HW2.out.out, .inr ⟨rfl, fun h => h.2 HR.out⟩⟩
    · have HR := Lib.hid hr
      have hpos : decide (0 < (rcs (m.eraseIdx i)).length) = true := decide_eq_true (List.length_pos_iff.2 hr)
      generalize (rcs (m.eraseIdx i)).length = z at *
      clear hr
      go_wp2
      go_ret2
      exact ⟨_, true, rfl, HW2.out.out, .inl ⟨rfl, ⟨HN.out, HR.out⟩, HO2.out⟩⟩
def lenW : Value → Nat
  | .slice _ n _ => n
  | _ => 0
def MinR (w : World) (l : List Ev) (v t q : Value) (wr : World) : Prop :=
  ∃ (m : List Ev) (i k : Nat), t = .int .i64 i ∧ q = .int .i64 k ∧ Ok m ∧ i < m.length ∧ k ≤ m.length ∧ CycI m i k ∧ (∀ r, Red m i r → Red l 0 r) ∧ wr.ownsRow w.heap.size 45 3 v m.length (evc m) ∧ Bel w wr
set_option maxHeartbeats 16000000 in
theorem min_any : MinC := by
  intro A n c l w hl hnc hcm
  have HL := Lib.hid hl
  clear hl hnc hcm
  go_enter Tryz.func117, Tryz.ntmps117
  go_wp2_with fail
  refine (alle_any A n c l _ HL.out).mono ?_
  rintro e1 w1 ⟨v1, rfl, ho1, hb1⟩
  obtain ⟨A1, d1, rfl, _, _, _⟩ := SlR.own ho1
  have HW1 := Lib.hid (Bel.of hb1)
  clear hb1 ho1
  cases h1 : (may l != 0)
  · have hm : may l = 0 := by simpa using h1
    have HM := Lib.hid hm
    have hn80 : n ≤ 80 := by rw [← HL.out.1]; exact ((may_iff l).1 hm).1
    rw [hm]
    clear hm h1
    by_cases hrc : rcs l = []
    · have HR := Lib.hid hrc
      rw [hrc]
      clear hrc
      go_wp2
      go_ret2
      exact ⟨[], 7, .inr (.inl ⟨HM.out, HR.out, rfl, rfl⟩), own_nil _ _ _ HW1.out.out⟩
    · have HOK := Lib.hid (show Ok l from ⟨HM.out, hrc⟩)
      have hpos : 0 < (rcs l).length := List.length_pos_iff.2 hrc
      have hpz : (((rcs l).length : Int) == 0) = false := by simp; omega
      generalize (rcs l).length = z at *
      clear hrc hpos
      go_wp2_with fail
      refine (clone_any A n c l _ (HL.out.bel HW1.out.out) (by omega)).mono ?_
      rintro e2 w2 ⟨v2, rfl, ho2, hb2⟩
      have H0 := Lib.hid (show MinR w l v2 (.int .i64 (0 : Nat)) (.int .i64 (0 : Nat)) w2 from ⟨l, 0, 0, rfl, rfl, HOK.out, HOK.out.pos, Nat.zero_le _, CycI.start l 0, fun _ h => h, by rw [HL.out.1]; exact own_drop_alloc ho2 HW1.out.size, HW1.out.call hb2⟩)
      clear ho2 hb2 hpz
      go_wp2
      go_loopw [6, 7, 8] (fun v t q wr => MinR w l v t q wr) (fun v _ q _ => lenW v * 82 + (lenW v - (intOf q).toNat))
      case atStart => exact H0.out
      case round =>
        obtain ⟨m, i, k, rfl, rfl, hok, hi, hk, hcy, hred, hown, hbr⟩ := hrel
        have h80 := hok.len
        have HI := Lib.hid (And.intro hok (And.intro hcy hred))
        have HO := Lib.hid hown
        have HB := Lib.hid hbr
        obtain ⟨B, d, rfl, hs, hn2, hm2⟩ := Sl.own hown
        have HS := Lib.hid (And.intro hs (And.intro hn2 hm2))
        clear hok hcy hred hown hbr hs hn2 hm2 H0
        generalize hq : m.length = q at *
        have HQ := Lib.hid hq
        clear hq
        by_cases hkq : k < q
        · have hkq' : (k : Int) < q := by omega
          have hiq' : (i : Int) < q := by omega
          have hwk : IntKind.i64.wrap ((k : Int) + 1) = (k : Int) + 1 := IntWalk.i64_in _ (by omega)
          have hwi : IntKind.i64.wrap ((i : Int) + 1) = (i : Int) + 1 := IntWalk.i64_in _ (by omega)
          go_wp2_with fail
          refine (racw_any B q d i m wr HS.out.1 HS.out.2.1 HS.out.2.2 HI.out.1.1 hi).mono ?_
          rintro e3 w3 ⟨v3, b3, rfl, hb3, hor⟩
          have HW3 := Lib.hid (HB.out.call hb3)
          have HB3 := Lib.hid (Bel.of hb3)
          clear hb3
          rcases hor with ⟨rfl, hok3, ho3⟩ | ⟨rfl, hno3⟩
          · have HLE := Lib.hid (show (m.eraseIdx i).length = q - 1 by rw [List.length_eraseIdx_of_lt (by rw [HQ.out]; exact hi), HQ.out])
            have HOE := Lib.hid hok3
            have ho4 := own_drop_alloc ho3 HB.out.size
            rw [HLE.out] at ho4
            have HR4 := Lib.hid ho4
            obtain ⟨A3, d3, rfl, hs3, hn3, hm3⟩ := Sl.own ho4
            have hq1 : 0 < q - 1 := by have := HOE.out.pos; rw [HLE.out] at this; exact this
            clear hok3 ho3 ho4 hs3 hn3 hm3
            have hz : (((q - 1 : Nat) : Int) == 0) = false := beq_eq_false_iff_ne.2 (by omega)
            have hz2 : ¬ ((q - 1 : Nat) : Int) = 0 := by omega
            by_cases hw : i = q - 1
            · have HF := Lib.hid (show MinR w l (.slice A3 (q - 1) d3) (.int .i64 (0 : Nat)) (.int .i64 (0 : Nat)) w3 from ⟨m.eraseIdx i, 0, 0, rfl, rfl, HOE.out, by rw [HLE.out]; exact hq1, Nat.zero_le _, CycI.start _ _, fun r h => HI.out.2.2 r (.rem (by rw [HQ.out]; exact hi) HOE.out (.wrap (by rw [HLE.out]; omega) h)), by rw [HLE.out]; exact HR4.out, HW3.out⟩)
              go_wp2
              go_roundw
              case rel => exact HF.out
              case measure => simp [intOf, lenW]; omega
            · have hlt : i < q - 1 := by omega
              have HF := Lib.hid (show MinR w l (.slice A3 (q - 1) d3) (.int .i64 i) (.int .i64 (0 : Nat)) w3 from ⟨m.eraseIdx i, i, 0, rfl, rfl, HOE.out, by rw [HLE.out]; omega, Nat.zero_le _, CycI.start _ _, fun r h => HI.out.2.2 r (.rem (by rw [HQ.out]; exact hi) HOE.out h), by rw [HLE.out]; exact HR4.out, HW3.out⟩)
              go_wp2
              go_roundw
              case rel => rw [show (i : Int) % ((q - 1 : Nat) : Int) = i from Int.emod_eq_of_lt (by omega) (by omega)]; exact HF.out
              case measure => simp [intOf, lenW]; omega
          · have hc := HI.out.2.1.fail (by rw [HQ.out]; exact hi) hno3
            have hrr : ∀ r, Red m (i + 1) r → Red l 0 r := fun r h => HI.out.2.2 r (.skip (by rw [HQ.out]; exact hi) hno3 h)
            have HX := Lib.hid (And.intro hc hrr)
            have HO3 := Lib.hid (own_bel HO.out HB3.out)
            clear hc hrr hno3
            have hz : ((q : Int) == 0) = false := beq_eq_false_iff_ne.2 (by omega)
            have hz2 : ¬ (q : Int) = 0 := by omega
            by_cases hw : i + 1 = q
            · have HF := Lib.hid (show MinR w l (.slice B q d) (.int .i64 (0 : Nat)) (.int .i64 (k + 1 : Nat)) w3 from ⟨m, 0, k + 1, rfl, rfl, HI.out.1, HI.out.1.pos, by rw [HQ.out]; omega, CycI.wrap (by rw [HQ.out, ← hw]; exact HX.out.1), fun r h => HX.out.2 r (.wrap (by rw [HQ.out]; omega) h), by rw [HQ.out]; exact HO3.out, HW3.out⟩)
              go_wp2
              go_roundw
              case rel => rw [show (i : Int) + 1 = (q : Int) by omega, Int.emod_self]; exact HF.out
              case measure => simp [intOf, lenW]; omega
            · have hlt : i + 1 < q := by omega
              have HF := Lib.hid (show MinR w l (.slice B q d) (.int .i64 (i + 1 : Nat)) (.int .i64 (k + 1 : Nat)) w3 from ⟨m, i + 1, k + 1, rfl, rfl, HI.out.1, by rw [HQ.out]; omega, by rw [HQ.out]; omega, HX.out.1, HX.out.2, by rw [HQ.out]; exact HO3.out, HW3.out⟩)
              go_wp2
              go_roundw
              case rel => rw [show ((i : Int) + 1) % (q : Int) = (i : Int) + 1 from Int.emod_eq_of_lt (by omega) (by omega)]; exact HF.out
              case measure => simp [intOf, lenW]; omega
        · obtain rfl : k = q := by omega
          have HRD := Lib.hid (HI.out.2.2 m (.done (HI.out.2.1.bare (by rw [HQ.out]; omega) (by rw [HQ.out]; exact Nat.le_refl _))))
          go_wp2
          go_ret2
          exact ⟨m, 0, .inr (.inr ⟨HOK.out, HRD.out, rfl⟩), _, rfl, by rw [HQ.out]; exact HO.out, HB.out.out⟩
  · have HM := Lib.hid (show may l ≠ 0 by simpa using h1)
    go_wp2
    go_ret2
    exact ⟨[], may l, .inl ⟨HM.out, rfl, rfl⟩, own_nil _ _ _ HW1.out.out⟩
end Go.Proofs.YtnklpifnknmdgaaGreatDoor

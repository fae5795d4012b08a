/- Contracts of package guard: Guards, Warns, Common. -/
import Derived.Test.YtlifmedkadjdcaaGuD
set_option linter.all false
set_option maxRecDepth 100000
namespace Go.Proofs.Ytlifmedkadjdcaa
open Go Go.RowKit

def gfin (l : List Ev) : Nat → Nat := if may l = 0 then gG (gdT l l.length) else fun _ => 0
def warns (l : List Ev) : List Ev := if may l = 0 then wl l l.length else []
def GDet (w : World) (l : List Ev) (e : Ending) (w' : World) : Prop :=
  ∃ v, e = .returned (.tuple #[v, .agg (ns 24 (gfin l)), .int .i64 (may l)]) ∧ w'.ownsRow w.heap.size 40 3 v (warns l).length (evc (warns l)) ∧ Below w.heap.size w w'
set_option maxHeartbeats 4000000 in
theorem gdetect_bad (A : Option Addr) (n c : Nat) (l : List Ev) (w : World) (hl : Sl w A n l) (hm : may l ≠ 0) : Calls Try.prog 24 #[.slice A n c] w (GDet w l) := by
  obtain ⟨b1, b2, hB, hs⟩ := boxes2 w #[.slice A n c] (ns 24 fun _ => 0) 22 25
  have HL := Lib.hid (hl.bel hB)
  have h1 : ((check l).2 != 0) = true := by simpa [may] using hm
  have HM := Lib.hid hm
  have HB := Lib.hid hB
  have HB1 := Lib.hid b1
  have HB2 := Lib.hid b2
  clear hl hm hB b1 b2 hs
  go_enter Try.func24, Try.ntmps24
  go_wp2_with fail
  change Calls _ _ _ ((w.alloc (.cells #[.slice A n c] 22)).alloc (.cells (ns 24 fun _ => 0) 25)) _
  generalize ((w.alloc (.cells #[.slice A n c] 22)).alloc (.cells (ns 24 fun _ => 0) 25)) = W at *
  refine (check_any A n c l _ HL.out).mono ?_
  rintro e1 w1 ⟨rfl, hb1⟩
  have HX1 := Lib.hid (Bel.of hb1)
  have hr := HX1.out.box HB2.out
  have HR := Lib.hid hr
  clear hb1
  have HS := Lib.hid (hr.setRow (ns 24 fun _ => 0))
  have HBB := Lib.hid (below_setRow' (HB.out.trans (HX1.out.out.mono HB.out.size)) (w.heap.size + 1) (ns 24 fun _ => 0) (by omega))
  have HV := Lib.hid (show gfin l = (fun _ => 0) ∧ warns l = [] by unfold gfin warns; rw [if_neg HM.out, if_neg HM.out]; exact ⟨rfl, rfl⟩)
  go_wp2_with (first | (refine storeB _ _ _ rfl rfl rfl rfl hr (ns_size _ _) TGs (gns_all 24 fun _ => 0) ?_))
  refine bodyPost_ret (gres_tct Try.results24 rfl HS.out (TGz _)) rfl ⟨.slice none 0 0, ?_, ?_, HBB.out⟩
  · rw [HV.out.1]; rfl
  · rw [HV.out.2]; exact World.ownsRow_nil _ _ _ _
theorem gdetect_any (A : Option Addr) (n c : Nat) (l : List Ev) (w : World) (hl : Sl w A n l) (hnc : n ≤ c) : Calls Try.prog 24 #[.slice A n c] w (GDet w l) := by
  by_cases hm : may l = 0
  · refine (gdetect_ok A n c l w hl hnc hm).mono ?_
    rintro e w' ⟨v, rfl, h2, h3⟩
    refine ⟨v, ?_, ?_, h3⟩
    · unfold gfin; rw [if_pos hm, hm]
    · unfold warns; rw [if_pos hm]; exact h2
  · exact gdetect_bad A n c l w hl hm
set_option maxHeartbeats 4000000 in
theorem guards_any (A : Option Addr) (n c : Nat) (l : List Ev) (w : World) (hl : Sl w A n l) (hnc : n ≤ c) :
    Calls Try.prog 11 #[.slice A n c] w fun e w' => e = .returned (.tuple #[.agg (ns 24 (gfin l)), .int .i64 (may l)]) ∧ Below w.heap.size w w' := by
  obtain ⟨b1, hB, hs⟩ := boxes1 w (ns 24 fun _ => 0) 25
  have HL := Lib.hid (hl.bel hB)
  have HB := Lib.hid hB
  have HB1 := Lib.hid b1
  clear hl hB b1 hs
  go_enter Try.func11, Try.ntmps11
  go_wp2_with fail
  change Calls _ _ _ (w.alloc (.cells (ns 24 fun _ => 0) 25)) _
  generalize (w.alloc (.cells (ns 24 fun _ => 0) 25)) = W at *
  refine (gdetect_any A n c l _ HL.out hnc).mono ?_
  rintro e1 w1 ⟨v, rfl, _, hb1⟩
  have HX1 := Lib.hid (Bel.of hb1)
  clear hb1
  have hbn := Box.new w1 (ns 24 fun _ => 0) 25
  have hb2 := hbn.setRow (ns 24 (gfin l))
  have hr := ((HX1.out.box HB1.out).old (.cells (ns 24 fun _ => 0) 25)).setRow_ne w1.heap.size (ns 24 (gfin l)) (by have := (HX1.out.box HB1.out).lt; omega)
  have HR := Lib.hid (hr.setRow (ns 24 (gfin l)))
  have HSZ := Lib.hid (show w.heap.size ≤ w1.heap.size from by have := (HX1.out.box HB1.out).lt; omega)
  have HBB := Lib.hid (below_setRow' (below_setRow' ((HB.out.trans (HX1.out.out.mono HB.out.size)).alloc HSZ.out (.cells (ns 24 fun _ => 0) 25)) w1.heap.size (ns 24 (gfin l)) HSZ.out) w.heap.size (ns 24 (gfin l)) (Nat.le_refl _))
  go_wp2_with (first | (refine storeB _ _ _ rfl rfl rfl rfl hbn (by rw [ns_size, ns_size]) (TGz _) (gns_all _ _) ?_) | (refine loadB _ _ rfl rfl rfl hb2 (TGz _) ?_) | (refine storeB _ _ _ rfl rfl rfl rfl hr (by rw [ns_size, ns_size]) (TGz _) (gns_all _ _) ?_))
  refine bodyPost_ret (res_ct Try.results11 rfl HR.out (TGz _)) rfl ⟨rfl, HBB.out⟩
def WarnsPost (w : World) (l : List Ev) (e : Ending) (w' : World) : Prop :=
  ∃ v, e = .returned (.tuple #[v, .int .i64 (may l)]) ∧ w'.ownsRow w.heap.size 40 3 v (warns l).length (evc (warns l)) ∧ Below w.heap.size w w'
set_option maxHeartbeats 4000000 in
theorem warns_any (A : Option Addr) (n c : Nat) (l : List Ev) (w : World) (hl : Sl w A n l) (hnc : n ≤ c) : Calls Try.prog 15 #[.slice A n c] w (WarnsPost w l) := by
  have HL := Lib.hid hl
  clear hl
  go_enter Try.func15, Try.ntmps15
  go_wp2_with fail
  refine (gdetect_any A n c l _ HL.out hnc).mono ?_
  rintro e1 w1 ⟨v, rfl, hown, hb1⟩
  have HO := Lib.hid hown
  have HB := Lib.hid hb1
  clear hown hb1
  have hbn := Box.new w1 (ns 24 fun _ => 0) 25
  go_wp2_with (refine storeB _ _ _ rfl rfl rfl rfl hbn (by rw [ns_size, ns_size]) (TGz _) (gns_all _ _) ?_)
  go_ret2
  exact ⟨_, rfl, (own_alloc HO.out (.cells (ns 24 fun _ => 0) 25)).kept (chg_setRow _ _ _) (.inr fun e => by have := (own_lt HO.out e).2; omega), below_setRow' (HB.out.alloc HB.out.size _) _ _ HB.out.size⟩
set_option maxHeartbeats 4000000 in
theorem common_any (A : Option Addr) (n c : Nat) (l : List Ev) (x : Int) (w : World) (hl : Sl w A n l) (hnc : n ≤ c) : Calls Try.prog 17 #[.slice A n c, .int .i64 x] w (ComPost w l x) := by
  by_cases hm : may l = 0
  · by_cases hx : 0 ≤ x ∧ x < 8
    · obtain ⟨x, rfl⟩ := Int.eq_ofNat_of_zero_le hx.1
      refine (common_ok A n c l x w hl hnc hm (by omega)).mono ?_
      rintro e w' ⟨rfl, h2⟩
      refine ⟨?_, h2⟩
      unfold comR comE
      rw [if_pos ⟨hm, hx⟩, if_pos hm, if_pos hx, hl.1]
      rfl
    · obtain ⟨b1, b2, hB, hs⟩ := boxes2 w #[.slice A n c] #[.int .i64 x] 22 3
      have HL := Lib.hid (hl.bel hB)
      have h0 : (check l).2 = 0 := hm
      have HB := Lib.hid hB
      have HB2 := Lib.hid b2
      have HV := Lib.hid (show comR l x = 0 ∧ comE l x = 1 by unfold comR comE; rw [if_neg (fun h => hx h.2), if_pos hm, if_neg hx]; exact ⟨rfl, rfl⟩)
      clear hl hB b1 b2 hs hm
      by_cases hx0 : x < 0
      · clear hx
        go_enter Try.func17, Try.ntmps17
        go_wp2_with fail
        change Calls _ _ _ ((w.alloc (.cells #[.slice A n c] 22)).alloc (.cells #[.int .i64 x] 3)) _
        generalize ((w.alloc (.cells #[.slice A n c] 22)).alloc (.cells #[.int .i64 x] 3)) = W at *
        refine (check_any A n c l _ HL.out).mono ?_
        rintro e1 w1 ⟨rfl, hb1⟩
        have HX1 := Lib.hid (Bel.of hb1)
        have cx := (HX1.out.box HB2.out).cell 0 (v := .int .i64 x) rfl
        clear hb1
        go_wp2
        go_ret2
        exact ⟨by rw [HV.out.1, HV.out.2]; rfl, HB.out.trans (HX1.out.out.mono HB.out.size)⟩
      · have hx8 : (8 : Int) ≤ x := by omega
        have hx1 : (0 : Int) ≤ x := by omega
        clear hx
        go_enter Try.func17, Try.ntmps17
        go_wp2_with fail
        change Calls _ _ _ ((w.alloc (.cells #[.slice A n c] 22)).alloc (.cells #[.int .i64 x] 3)) _
        generalize ((w.alloc (.cells #[.slice A n c] 22)).alloc (.cells #[.int .i64 x] 3)) = W at *
        refine (check_any A n c l _ HL.out).mono ?_
        rintro e1 w1 ⟨rfl, hb1⟩
        have HX1 := Lib.hid (Bel.of hb1)
        have cx := (HX1.out.box HB2.out).cell 0 (v := .int .i64 x) rfl
        clear hb1
        go_wp2
        go_ret2
        exact ⟨by rw [HV.out.1, HV.out.2]; rfl, HB.out.trans (HX1.out.out.mono HB.out.size)⟩
  · obtain ⟨b1, b2, hB, hs⟩ := boxes2 w #[.slice A n c] #[.int .i64 x] 22 3
    have HL := Lib.hid (hl.bel hB)
    have h1 : ((check l).2 != 0) = true := by simpa [may] using hm
    have HB := Lib.hid hB
    have HV := Lib.hid (show comR l x = 0 ∧ comE l x = may l by unfold comR comE; rw [if_neg (fun h => hm h.1), if_neg hm]; exact ⟨rfl, rfl⟩)
    clear hl hB b1 b2 hs hm
    go_enter Try.func17, Try.ntmps17
    go_wp2_with fail
    change Calls _ _ _ ((w.alloc (.cells #[.slice A n c] 22)).alloc (.cells #[.int .i64 x] 3)) _
    generalize ((w.alloc (.cells #[.slice A n c] 22)).alloc (.cells #[.int .i64 x] 3)) = W at *
    refine (check_any A n c l _ HL.out).mono ?_
    rintro e1 w1 ⟨rfl, hb1⟩
    have HX1 := Lib.hid (Bel.of hb1)
    clear hb1
    go_wp2
    go_ret2
    exact ⟨by rw [HV.out.1, HV.out.2]; rfl, HB.out.trans (HX1.out.out.mono HB.out.size)⟩
end Go.Proofs.Ytlifmedkadjdcaa

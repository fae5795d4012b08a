import Derived.Test.YtbcohpkeljjhbaaZGuD
set_option linter.all false
set_option maxRecDepth 100000
namespace Go.Proofs.Ytbcohpkeljjhbaa
open Go Go.RowKit

def gfin (l : List Ev) : Nat → Nat := if may l = 0 then gG (gdT l l.length) else fun _ => 0
def warns (l : List Ev) : List Ev := if may l = 0 then wl l l.length else []
def GDet (w : World) (l : List Ev) (e : Ending) (w' : World) : Prop :=
  ∃ v, e = .returned (.tuple #[v, .agg (ns 24 (gfin l)), .int .i64 (may l)]) ∧ w'.ownsRow w.heap.size 94 3 v (warns l).length (evc (warns l)) ∧ Below w.heap.size w w'
set_option maxHeartbeats 4000000 in
theorem gdetect_bad (A : Option Addr) (n c : Nat) (l : List Ev) (w : World) (hl : Sl w A n l) (hm : may l ≠ 0) : Calls Try.prog 49 #[.slice A n c] w (GDet w l) := by
  obtain ⟨b1, b2, hB, hs⟩ := boxes2 w #[.slice A n c] (ns 24 fun _ => 0) 29 97
  have HL := Lib.hid (hl.bel hB)
  have h1 : ((check l).2 != 0) = true := by simpa [may] using hm
  have HM := Lib.hid hm
  have HB := Lib.hid hB
  have HB1 := Lib.hid b1
  have HB2 := Lib.hid b2
  clear hl hm hB b1 b2 hs
  go_enter Try.func49, Try.ntmps49
  go_wp2_with fail
  change Calls _ _ _ ((w.alloc (.cells #[.slice A n c] 29)).alloc (.cells (ns 24 fun _ => 0) 97)) _
  generalize ((w.alloc (.cells #[.slice A n c] 29)).alloc (.cells (ns 24 fun _ => 0) 97)) = W at *
  refine (check_any A n c l _ HL.out).mono ?_
  rintro e1 w1 ⟨rfl, hb1⟩
  have HX1 := Lib.hid (Bel.of hb1)
  have hr := HX1.out.box HB2.out
  have HR := Lib.hid hr
  clear hb1
  have HS := Lib.hid (hr.setRow (ns 24 fun _ => 0))
  have HBB := Lib.hid (below_setRow' (HB.out.trans (HX1.out.out.mono HB.out.size)) (w.heap.size + 1) (ns 24 fun _ => 0) (by omega))
  have HV := Lib.hid (show gfin l = (fun _ => 0) ∧ warns l = [] by unfold gfin warns; rw [if_neg HM.out, if_neg HM.out]; exact ⟨rfl, rfl⟩)
  go_wp2_with (first | (refine storeB _ _ _ rfl rfl rfl rfl hr (ns_size _ _) TGs (gns_all 24 fun _ => 0) ?_))
  refine bodyPost_ret (gres_tct Try.results49 rfl HS.out (TGz _)) rfl ⟨.slice none 0 0, ?_, ?_, HBB.out⟩
  · rw [HV.out.1]; rfl
  · rw [HV.out.2]; exact World.ownsRow_nil _ _ _ _
theorem gdetect_any (A : Option Addr) (n c : Nat) (l : List Ev) (w : World) (hl : Sl w A n l) (hnc : n ≤ c) : Calls Try.prog 49 #[.slice A n c] w (GDet w l) := by
  by_cases hm : may l = 0
  · refine (gdetect_ok A n c l w hl hnc hm).mono ?_
    rintro e w' ⟨v, rfl, h2, h3⟩
    refine ⟨v, ?_, ?_, h3⟩
    · unfold gfin; rw [if_pos hm, hm]
    · unfold warns; rw [if_pos hm]; exact h2
  · exact gdetect_bad A n c l w hl hm
def WarnsPost (w : World) (l : List Ev) (e : Ending) (w' : World) : Prop :=
  ∃ v, e = .returned (.tuple #[v, .int .i64 (may l)]) ∧ w'.ownsRow w.heap.size 94 3 v (warns l).length (evc (warns l)) ∧ Below w.heap.size w w'
set_option maxHeartbeats 4000000 in
theorem warns_any (A : Option Addr) (n c : Nat) (l : List Ev) (w : World) (hl : Sl w A n l) (hnc : n ≤ c) : Calls Try.prog 29 #[.slice A n c] w (WarnsPost w l) := by
  have HL := Lib.hid hl
  clear hl
  go_enter Try.func29, Try.ntmps29
  go_wp2_with fail
  refine (gdetect_any A n c l _ HL.out hnc).mono ?_
  rintro e1 w1 ⟨v, rfl, hown, hb1⟩
  have HO := Lib.hid hown
  have HB := Lib.hid hb1
  clear hown hb1
  have hbn := Box.new w1 (ns 24 fun _ => 0) 97
  go_wp2_with (refine storeB _ _ _ rfl rfl rfl rfl hbn (by rw [ns_size, ns_size]) (TGz _) (gns_all _ _) ?_)
  go_ret2
  exact ⟨_, rfl, (own_alloc HO.out (.cells (ns 24 fun _ => 0) 97)).kept (chg_setRow _ _ _) (.inr fun e => by have := (own_lt HO.out e).2; omega), below_setRow' (HB.out.alloc HB.out.size _) _ _ HB.out.size⟩
end Go.Proofs.Ytbcohpkeljjhbaa

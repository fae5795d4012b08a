/- Contracts of the package ring: cycle, Ring. -/
import Derived.Test.YtoaehoildnanpaaRgM
import Derived.Test.YtoaehoildnanpaaRgI
set_option linter.all false
set_option maxRecDepth 100000
namespace Go.Proofs.Ytoaehoildnanpaa
open Go Go.RowKit

theorem complete_any (base G : Nat) (hG : G < base) (P : Nat → Nat → Bool) : ∀ f, CompC base G P f
  | 0 => comp_zero base G P
  | f + 1 => comp_next base G hG P f (complete_any base G hG P f)
def CyPost (P : Nat → Nat → Bool) (w : World) (e : Ending) (w' : World) : Prop :=
  ∃ r A c, e = .returned (.slice A r.length c) ∧ RingOk P r ∧ w'.ownsRow w.heap.size 3 1 (.slice A r.length c) r.length (intq (toI r)) ∧ Below w.heap.size w w'
theorem grown_bel {w w' : World} (h : w.grownBy w' none) : Bel w w' := Bel.of ((Below.refl _ w).grown h (Nat.le_refl _) fun k hk => by cases hk)
set_option maxHeartbeats 8000000 in
theorem cycle_any (G : Nat) (P : Nat → Nat → Bool) (w : World) (hg : GBox w G P) (h5 : Five P) : Calls Try.prog 36 #[.pointer (some ⟨G, 0, none⟩)] w (CyPost P w) := by
  have HG := Lib.hid hg
  have HLT := Lib.hid (show G < w.heap.size from Box.lt hg)
  have H5 := Lib.hid h5
  clear hg h5
  go_enter Try.func36, Try.ntmps36
  go_wp2
  go_loopw [3] (fun t wr => ∃ n : Nat, n ≤ 5 ∧ t = .int .i64 ((n : Int) + 1) ∧ (∀ j, j < n → comp P (j + 1) [] = none) ∧ w.grownBy wr none) (fun t _ => 6 - (intOf t).toNat)
  case atStart => exact ⟨0, by omega, rfl, fun j h => by omega, World.grownBy.refl _ _⟩
  case round =>
    obtain ⟨n, hn, rfl, hd, hgr⟩ := hrel
    have HD := Lib.hid hd
    have HGR := Lib.hid hgr
    clear hd hgr
    by_cases hlt : n < 5
    · have hlt' : (n : Int) + 1 ≤ 5 := by omega
      have HC := Lib.hid (complete_any w.heap.size G HLT.out P (n + 1) [] (.slice none 0 0) wr ((n : Int) + 1) (by simp) (by simp; omega) (by simp) HGR.out.size (fun k hk => by cases hk) (HG.out.bel (grown_bel HGR.out)) (World.ownsRow_nil _ _ _ _))
      cases hcp : comp P (n + 1) [] with
      | none =>
        have HCP := Lib.hid hcp
        clear hcp
        go_wp2_with (go_at_call 44; (with_reducible refine HC.out.mono ?_); rintro e4 w4 hpost; obtain ⟨p1, p2, rfl⟩ := hpost.no HCP.out; have HF := Lib.hid p1; clear hpost p1 p2)
        go_roundw
        case rel => exact ⟨n + 1, by omega, by go_num, all_succ HD.out HCP.out, HGR.out.trans HF.out⟩
        case measure => simp [intOf]; omega
      | some r =>
        have HCP := Lib.hid hcp
        have HR := Lib.hid (ring_some H5.out HD.out hcp).1
        clear hcp
        go_wp2_with (go_at_call 44; (with_reducible refine HC.out.mono ?_); rintro e4 w4 hpost; obtain ⟨p1, p2, g4, c4, rfl, p3⟩ := hpost.yes HCP.out; have HF := Lib.hid p1; have HX := Lib.hid p3; clear hpost p1 p2 p3)
        go_ret
        exact ⟨r, some ⟨g4, 0, none⟩, c4, rfl, HR.out, HX.out, (grown_bel (HGR.out.trans HF.out)).out⟩
    · obtain rfl : n = 5 := by omega
      have HR := Lib.hid (ring_none H5.out HD.out)
      go_wp2
      go_ret
      exact ⟨[], none, 0, rfl, HR.out, World.ownsRow_nil _ _ _ _, (grown_bel HGR.out).out⟩
/-- What Ring answers, as a row of its own. -/
def RingOwn (w : World) (l : List (Int × Int)) (e : Ending) (w' : World) : Prop :=
  ∃ r A d c, e = .returned (.tuple #[.slice A r.length d, .int .i64 c]) ∧ RingB l r c ∧ w'.ownsRow w.heap.size 3 1 (.slice A r.length d) r.length (intq (toI r)) ∧ Below w.heap.size w w'
set_option maxHeartbeats 8000000 in
theorem ring_own (A : Option Addr) (n c : Nat) (l : List (Int × Int)) (w : World) (h : SlQ w A n l) (hnc : n ≤ c) (hc : c ≤ maxLen) : Calls Try.prog 17 #[.slice A n c] w (RingOwn w l) := by
  have HC := Lib.hid (graphOf_any A n c l w h hnc hc)
  clear h
  go_enter Try.func17, Try.ntmps17
  go_wp2_with fail
  refine HC.out.mono ?_
  rintro e w1 ⟨hgo, hb1⟩
  have HB1 := Lib.hid (Bel.of hb1)
  clear hb1
  rcases hgo with ⟨hbad, rfl⟩ | ⟨hok, rfl⟩
  · have HN := Lib.hid hbad
    clear hbad
    go_wp2_with (refine storeB (c' := bs 25 fun _ => false) _ _ _ rfl rfl rfl rfl (Box.new w1 (bs 25 fun _ => false) 53) rfl (by rw [bs_size]; exact TGr) (bs_all _ _) ?_)
    go_ret2
    exact ⟨[], none, 0, 1, rfl, .inl ⟨HN.out, rfl, rfl⟩, World.ownsRow_nil _ _ _ _, below_setRow' (HB1.out.alloc _).out _ _ HB1.out.size⟩
  · have HN := Lib.hid hok
    clear hok
    have HX := Lib.hid ((Box.new w1 (bs 25 fun _ => false) 53).setRow (bs 25 (gcl (Pq l))))
    have HW := Lib.hid (Bel.of (below_setRow' (HB1.out.alloc (.cells (bs 25 fun _ => false) 53)).out w1.heap.size (bs 25 (gcl (Pq l))) HB1.out.size))
    have HCY := Lib.hid (cycle_any w1.heap.size (Pq l) _ HX.out (pq_five HN.out))
    go_wp2_with (first | (refine storeB (c' := bs 25 (gcl (Pq l))) _ _ _ rfl rfl rfl rfl (Box.new w1 (bs 25 fun _ => false) 53) (by rw [bs_size, bs_size]) (by rw [bs_size]; exact TGr) (bs_all _ _) ?_) | (go_at_call 36; refine HCY.out.mono ?_; rintro e w2 ⟨r, A2, c2, rfl, p1, p2, p3⟩; have HP := Lib.hid (And.intro p1 (And.intro p2 p3)); clear p1 p2 p3))
    go_ret2
    exact ⟨r, A2, c2, 0, rfl, .inr ⟨HN.out, rfl, HP.out.1⟩, own_drop_alloc HP.out.2.1 HW.out.size, (HW.out.call HP.out.2.2).out⟩
theorem ring_any : RingC := fun A n c l w h hnc hc => (ring_own A n c l w h hnc hc).mono fun _ _ ⟨r, _, _, c', h1, h2, h3, h4⟩ => ⟨_, r, c', h1, h2, own_int h3, h4⟩
end Go.Proofs.Ytoaehoildnanpaa

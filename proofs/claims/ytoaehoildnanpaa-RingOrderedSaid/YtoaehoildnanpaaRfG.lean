/- Contract of the reference's LockGraph. -/
import Derived.Test.YtoaehoildnanpaaRefTr
import Derived.Test.YtoaehoildnanpaaRefPs
import Derived.Shelf.Abstract
set_option linter.all false
set_option maxRecDepth 100000
namespace Go.Proofs.Ytoaehoildnanpaa
open Go Go.RowKit

def evA (l : List Ev) (i : Nat) : Ev := (l[i]?).getD ⟨0, 0, 0⟩
theorem evA_at {l : List Ev} {i : Nat} {e : Ev} (h : l[i]? = some e) : evA l i = e := by simp [evA, h]
/-- Event i acquires b, by the owner of a. -/
def edgeAt (l : List Ev) (a b : Int) (i : Nat) : Bool := (evA l i).k == 3 && (evA l i).o == b && owner (l.take i) a == (evA l i).t
def edge (l : List Ev) (a b : Int) : Bool := (List.range l.length).any (edgeAt l a b)
set_option maxHeartbeats 8000000 in
theorem edge_any (Bl n c : Nat) (A : Option Addr) (l : List Ev) (w : World) (a b : Int) (hl : Sl w A n l) (hnc : n ≤ c) (hc : c ≤ 9223372036854775807) (hb : Box w Bl #[.slice A n c] 22) :
    Calls Try.prog 33 #[.int .i64 a, .int .i64 b, .pointer (some ⟨Bl, 0, none⟩)] w fun e w' => e = .returned (.bool (edge l a b)) ∧ Below w.heap.size w w' := by
  have HL := Lib.hid hl
  have FB := fun (w' : World) (h : Bel w w') => (h.box hb).cell 0 (v := .slice A n c) rfl
  have f0 := FB w (Bel.refl w)
  have HFB := Lib.hid FB
  clear hl hb FB
  go_enter Try.func33, Try.ntmps33
  go_wp2
  go_loopw [10] (fun t wr => ∃ i : Nat, i ≤ n ∧ t = .int .i64 i ∧ (∀ j, j < i → edgeAt l a b j = false) ∧ Bel w wr) (fun t _ => n - (intOf t).toNat)
  case atStart => exact ⟨0, by omega, rfl, fun j h => by omega, Bel.refl _⟩
  case round =>
    obtain ⟨i, hi, rfl, hd, hbr⟩ := hrel
    have HD := Lib.hid hd
    have HB := Lib.hid hbr
    clear hd hbr f0
    by_cases hlt : i < n
    · obtain ⟨bb, off, e, rfl, hbb, he, hrg⟩ := (HL.out.bel HB.out).at_ hlt
      have hlt' : (i : Int) < n := by omega
      have hic : (i : Int) ≤ c := by omega
      have hR := Lib.hid hrg
      have HE := Lib.hid he
      have HEA := Lib.hid (evA_at he)
      have HB1 := Lib.hid (HB.out.trans (ewld_below wr e 47))
      obtain ⟨c0, c1, c2⟩ := ewld_cells wr e 47
      have G0 := fun (w' : World) (h : Bel (ewld wr e 47) w') => h.cell c0
      have G1 := fun (w' : World) (h : Bel (ewld wr e 47) w') => h.cell c1
      have G2 := fun (w' : World) (h : Bel (ewld wr e 47) w') => h.cell c2
      have GB := fun (w' : World) (h : Bel (ewld wr e 47) w') => HFB.out w' (HB1.out.trans h)
      have HG := Lib.hid (And.intro G0 (And.intro G1 (And.intro G2 GB)))
      have HST := Lib.hid (show edgeAt l a b i = false → ∀ j, j < i + 1 → edgeAt l a b j = false from fun h j hj => by
        rcases Nat.lt_succ_iff_lt_or_eq.1 hj with hj | rfl
        · exact HD.out j hj
        · exact h)
      clear hrg he hbb c0 c1 c2 G0 G1 G2 GB
      cases h1 : (e.k == 3)
      · have HN := Lib.hid (HST.out (by unfold edgeAt; rw [HEA.out, h1]; rfl))
        go_wp2_with (first | (refine load_ev T36 _ rfl rfl rfl hR.out ?_) | (refine ewld_store T36 _ _ rfl rfl _ rfl rfl rfl ?_))
        (refine region_bel (by kernel_rfl) (by kernel_rfl) ?_; (repeat (first | ((with_reducible refine BigFrame.wpQuiet_skip ?_ ?_); exact rfl; simp only [Act.put, Act.eval, List.setIfInBounds_toArray, List.set_cons_zero, List.set_cons_succ, Array.getD_eq_getD_getElem?, List.getElem?_toArray, List.getElem?_cons_zero, List.getElem?_cons_succ, Option.getD_some]) | (refine q_move _ rfl rfl ?_; simp only [Act.put, Act.eval, List.setIfInBounds_toArray, List.set_cons_zero, List.set_cons_succ, Array.getD_eq_getD_getElem?, List.getElem?_toArray, List.getElem?_cons_zero, List.getElem?_cons_succ, Option.getD_some]) | (refine q_assign _ rfl rfl ?_; simp only [Act.put, Act.eval, List.setIfInBounds_toArray, List.set_cons_zero, List.set_cons_succ, Array.getD_eq_getD_getElem?, List.getElem?_toArray, List.getElem?_cons_zero, List.getElem?_cons_succ, Option.getD_some]) | (refine q_any rfl ?_; apply Exists.intro; refine ⟨fun w hw => ?_, ?_⟩; (have fct0 := HG.out.1 w hw; have fct1 := HG.out.2.1 w hw; have fct2 := HG.out.2.2.1 w hw; have fct3 := HG.out.2.2.2 w hw; go_simp; first | exact ⟨rfl, rfl⟩ | rfl); simp only [Act.put, Act.eval, List.setIfInBounds_toArray, List.set_cons_zero, List.set_cons_succ, Array.getD_eq_getD_getElem?, List.getElem?_toArray, List.getElem?_cons_zero, List.getElem?_cons_succ, Option.getD_some]))); refine wpQuiet_nil ?_; intro w2 hw2)
        have HW2 := Lib.hid (HB1.out.trans hw2)
        clear hw2
        go_wp2
        go_roundw
        case rel => exact ⟨i + 1, by omega, by go_num, HN.out, HW2.out⟩
        case measure => simp [intOf]; omega
      · cases h2 : (e.o == b)
        · have HN := Lib.hid (HST.out (by unfold edgeAt; rw [HEA.out, h1, h2]; rfl))
          go_wp2_with (first | (refine load_ev T36 _ rfl rfl rfl hR.out ?_) | (refine ewld_store T36 _ _ rfl rfl _ rfl rfl rfl ?_))
          (refine region_bel (by kernel_rfl) (by kernel_rfl) ?_; (repeat (first | ((with_reducible refine BigFrame.wpQuiet_skip ?_ ?_); exact rfl; simp only [Act.put, Act.eval, List.setIfInBounds_toArray, List.set_cons_zero, List.set_cons_succ, Array.getD_eq_getD_getElem?, List.getElem?_toArray, List.getElem?_cons_zero, List.getElem?_cons_succ, Option.getD_some]) | (refine q_move _ rfl rfl ?_; simp only [Act.put, Act.eval, List.setIfInBounds_toArray, List.set_cons_zero, List.set_cons_succ, Array.getD_eq_getD_getElem?, List.getElem?_toArray, List.getElem?_cons_zero, List.getElem?_cons_succ, Option.getD_some]) | (refine q_assign _ rfl rfl ?_; simp only [Act.put, Act.eval, List.setIfInBounds_toArray, List.set_cons_zero, List.set_cons_succ, Array.getD_eq_getD_getElem?, List.getElem?_toArray, List.getElem?_cons_zero, List.getElem?_cons_succ, Option.getD_some]) | (refine q_any rfl ?_; apply Exists.intro; refine ⟨fun w hw => ?_, ?_⟩; (have fct0 := HG.out.1 w hw; have fct1 := HG.out.2.1 w hw; have fct2 := HG.out.2.2.1 w hw; have fct3 := HG.out.2.2.2 w hw; go_simp; first | exact ⟨rfl, rfl⟩ | rfl); simp only [Act.put, Act.eval, List.setIfInBounds_toArray, List.set_cons_zero, List.set_cons_succ, Array.getD_eq_getD_getElem?, List.getElem?_toArray, List.getElem?_cons_zero, List.getElem?_cons_succ, Option.getD_some]))); refine wpQuiet_nil ?_; intro w2 hw2)
          have HW2 := Lib.hid (HB1.out.trans hw2)
          clear hw2
          go_wp2
          go_roundw
          case rel => exact ⟨i + 1, by omega, by go_num, HN.out, HW2.out⟩
          case measure => simp [intOf]; omega
        · have HSL := Lib.hid (show Sl (ewld wr e 47) (some ⟨bb, off, none⟩) i (l.take i) from (HL.out.bel HB1.out).take (by omega))
          cases h3 : (owner (l.take i) a == e.t)
          · have HN := Lib.hid (HST.out (by unfold edgeAt; rw [HEA.out, h1, h2, h3]; rfl))
            go_wp2_with (first | (refine load_ev T36 _ rfl rfl rfl hR.out ?_) | (refine ewld_store T36 _ _ rfl rfl _ rfl rfl rfl ?_))
            (refine region_bel (by kernel_rfl) (by kernel_rfl) ?_; (repeat (first | ((with_reducible refine BigFrame.wpQuiet_skip ?_ ?_); exact rfl; simp only [Act.put, Act.eval, List.setIfInBounds_toArray, List.set_cons_zero, List.set_cons_succ, Array.getD_eq_getD_getElem?, List.getElem?_toArray, List.getElem?_cons_zero, List.getElem?_cons_succ, Option.getD_some]) | (refine q_move _ rfl rfl ?_; simp only [Act.put, Act.eval, List.setIfInBounds_toArray, List.set_cons_zero, List.set_cons_succ, Array.getD_eq_getD_getElem?, List.getElem?_toArray, List.getElem?_cons_zero, List.getElem?_cons_succ, Option.getD_some]) | (refine q_assign _ rfl rfl ?_; simp only [Act.put, Act.eval, List.setIfInBounds_toArray, List.set_cons_zero, List.set_cons_succ, Array.getD_eq_getD_getElem?, List.getElem?_toArray, List.getElem?_cons_zero, List.getElem?_cons_succ, Option.getD_some]) | (refine q_any rfl ?_; apply Exists.intro; refine ⟨fun w hw => ?_, ?_⟩; (have fct0 := HG.out.1 w hw; have fct1 := HG.out.2.1 w hw; have fct2 := HG.out.2.2.1 w hw; have fct3 := HG.out.2.2.2 w hw; go_simp; first | exact ⟨rfl, rfl⟩ | rfl | (go_at_call 34; (with_reducible refine (owner_any (some ⟨bb, off, none⟩) i c (l.take i) a _ (HSL.out.bel hw.out) (by omega)).mono ?_); rintro e w' ⟨rfl, hb⟩; exact ⟨rfl, hw.call hb⟩)); simp only [Act.put, Act.eval, List.setIfInBounds_toArray, List.set_cons_zero, List.set_cons_succ, Array.getD_eq_getD_getElem?, List.getElem?_toArray, List.getElem?_cons_zero, List.getElem?_cons_succ, Option.getD_some]))); refine wpQuiet_nil ?_; intro w2 hw2)
            have HW2 := Lib.hid (HB1.out.trans hw2)
            clear hw2
            go_wp2
            go_roundw
            case rel => exact ⟨i + 1, by omega, by go_num, HN.out, HW2.out⟩
            case measure => simp [intOf]; omega
          · have HY := Lib.hid (show edge l a b = true by
              unfold edge
              rw [List.any_eq_true]
              exact ⟨i, List.mem_range.2 (by have := HL.out.1; omega), by unfold edgeAt; rw [HEA.out, h1, h2, h3]; rfl⟩)
            go_wp2_with (first | (refine load_ev T36 _ rfl rfl rfl hR.out ?_) | (refine ewld_store T36 _ _ rfl rfl _ rfl rfl rfl ?_))
            (refine region_bel (by kernel_rfl) (by kernel_rfl) ?_; (repeat (first | ((with_reducible refine BigFrame.wpQuiet_skip ?_ ?_); exact rfl; simp only [Act.put, Act.eval, List.setIfInBounds_toArray, List.set_cons_zero, List.set_cons_succ, Array.getD_eq_getD_getElem?, List.getElem?_toArray, List.getElem?_cons_zero, List.getElem?_cons_succ, Option.getD_some]) | (refine q_move _ rfl rfl ?_; simp only [Act.put, Act.eval, List.setIfInBounds_toArray, List.set_cons_zero, List.set_cons_succ, Array.getD_eq_getD_getElem?, List.getElem?_toArray, List.getElem?_cons_zero, List.getElem?_cons_succ, Option.getD_some]) | (refine q_assign _ rfl rfl ?_; simp only [Act.put, Act.eval, List.setIfInBounds_toArray, List.set_cons_zero, List.set_cons_succ, Array.getD_eq_getD_getElem?, List.getElem?_toArray, List.getElem?_cons_zero, List.getElem?_cons_succ, Option.getD_some]) | (refine q_any rfl ?_; apply Exists.intro; refine ⟨fun w hw => ?_, ?_⟩; (have fct0 := HG.out.1 w hw; have fct1 := HG.out.2.1 w hw; have fct2 := HG.out.2.2.1 w hw; have fct3 := HG.out.2.2.2 w hw; go_simp; first | exact ⟨rfl, rfl⟩ | rfl | (go_at_call 34; (with_reducible refine (owner_any (some ⟨bb, off, none⟩) i c (l.take i) a _ (HSL.out.bel hw.out) (by omega)).mono ?_); rintro e w' ⟨rfl, hb⟩; exact ⟨rfl, hw.call hb⟩)); simp only [Act.put, Act.eval, List.setIfInBounds_toArray, List.set_cons_zero, List.set_cons_succ, Array.getD_eq_getD_getElem?, List.getElem?_toArray, List.getElem?_cons_zero, List.getElem?_cons_succ, Option.getD_some]))); refine wpQuiet_nil ?_; intro w2 hw2)
            have HW2 := Lib.hid (HB1.out.trans hw2)
            clear hw2
            go_wp2
            go_ret
            exact ⟨by rw [HY.out]; rfl, HW2.out⟩
    · obtain rfl : i = n := by omega
      have HF := Lib.hid (show edge l a b = false by
        unfold edge
        rw [List.any_eq_false]
        intro j hj
        have := HD.out j (by have := List.mem_range.1 hj; rw [HL.out.1] at this; exact this)
        simp [this])
      go_wp2
      go_ret
      exact ⟨by rw [HF.out]; rfl, HB.out⟩
def LgPost (w : World) (l : List Ev) (e : Ending) (w' : World) : Prop :=
  ∃ v, e = .returned v ∧ w'.ownsRow w.heap.size 31 2 v (prsA (fun a b => edge l a b) 5).length (prc (prsA (fun a b => edge l a b) 5)) ∧ Below w.heap.size w w'
theorem lockgraph_any (A : Option Addr) (n c : Nat) (l : List Ev) (w : World) (hl : Sl w A n l) (hnc : n ≤ c) (hc : c ≤ 9223372036854775807) : Calls Try.prog 16 #[.slice A n c] w (LgPost w l) := by
  have HB0 := Lib.hid ((Bel.refl w).alloc (.cells #[.slice A n c] 22))
  have HBX := Lib.hid (Box.new w #[.slice A n c] 22)
  have HL := Lib.hid (hl.bel HB0.out)
  have HT := Lib.hid (show Tells (w.alloc (.cells #[.slice A n c] 22)) 33 (.pointer (some ⟨w.heap.size, 0, none⟩)) 5 (fun _ _ => True) (fun a b => edge l a b) from
    fun a b w1 _ _ _ hb => edge_any w.heap.size n c A l w1 a b (HL.out.bel hb.out) hnc hc (hb.box HBX.out))
  clear hl
  go_enter Try.func16, Try.ntmps16
  go_wp2_with fail
  refine (pairsOf_any 33 w.heap.size 5 (fun a b => edge l a b) _ (by omega) (enters_of Try.func33 (by kernel_rfl) rfl) HT.out).mono ?_
  rintro e w1 ⟨v, rfl, hown, hb⟩
  have HO := Lib.hid hown
  have HW := Lib.hid (HB0.out.call hb)
  clear hown hb
  go_wp2
  go_ret
  exact ⟨_, rfl, own_drop_alloc HO.out HB0.out.size, HW.out⟩
end Go.Proofs.Ytoaehoildnanpaa

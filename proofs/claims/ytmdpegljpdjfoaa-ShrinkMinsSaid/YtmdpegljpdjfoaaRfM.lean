/- Contract of the reference's Min. -/
import Derived.Test.YtmdpegljpdjfoaaEr
import Derived.Test.YtmdpegljpdjfoaaRefRc
import Derived.Test.YtmdpegljpdjfoaaCp
import Derived.Test.YtmdpegljpdjfoaaGrow
import Derived.Test.YtmdpegljpdjfoaaKeepTw
set_option linter.all false
set_option maxRecDepth 100000
namespace Go.Proofs.Ytmdpegljpdjfoaa
open Go Go.RowKit

def lenS : Value → Nat
  | .slice _ n _ => n
  | _ => 0
def agN : Value → Nat
  | .bool true => 1
  | _ => 0
/-- What is left so far, and whether something was left out in this pass. -/
def OutR (w : World) (l : List Ev) (v g : Value) (wr : World) : Prop :=
  ∃ (cur : List Ev) (A : Option Addr) (d : Nat) (ag : Bool), v = .slice A cur.length d ∧ g = .bool ag ∧ Sl wr A cur.length cur ∧ cur.length ≤ d ∧ d ≤ maxLen ∧ cur.length ≤ 80 ∧ (∀ m, Red cur 0 m → Red l 0 m) ∧ (ag = false → Bare cur) ∧ Bel w wr
def InnR (w : World) (l : List Ev) (N : Nat) (v g t : Value) (wr : World) : Prop :=
  ∃ (cur : List Ev) (A : Option Addr) (d : Nat) (ag : Bool) (i : Nat), v = .slice A cur.length d ∧ g = .bool ag ∧ t = .int .i64 i ∧ Sl wr A cur.length cur ∧ cur.length ≤ d ∧ d ≤ maxLen ∧ cur.length ≤ N ∧ i ≤ cur.length ∧ (∀ m, Red cur i m → Red l 0 m) ∧
    (ag = false → cur.length = N ∧ ∀ j, j < i → ¬ Ok (cur.eraseIdx j)) ∧ (ag = true → cur.length < N) ∧ Bel w wr
def RMinPost (w : World) (l : List Ev) (e : Ending) (w' : World) : Prop := ∃ r A d, e = .returned (.slice A r.length d) ∧ Red l 0 r ∧ Sl w' A r.length r ∧ r.length ≤ d ∧ d ≤ maxLen ∧ Below w.heap.size w w'
set_option maxHeartbeats 32000000 in
theorem rmin_any (A : Option Addr) (n c : Nat) (l : List Ev) (w : World) (hl : Sl w A n l) (hnc : n ≤ c) (hcm : c ≤ maxLen) (hn : n ≤ 80) : Calls Try.prog 17 #[.slice A n c] w (RMinPost w l) := by
  have H0 := Lib.hid (show OutR w l (.slice A n c) (.bool true) w from ⟨l, A, c, true, by rw [hl.1], rfl, by rw [hl.1]; exact hl, by rw [hl.1]; exact hnc, hcm, by rw [hl.1]; exact hn, fun _ h => h, fun h => (by cases h), Bel.refl _⟩)
  obtain ⟨i0, hi0, hz0, hz1, hz2⟩ := info_parts ev_info
  have J := Lib.hid (And.intro hi0 (And.intro hz0 (And.intro hz1 hz2)))
  clear hl hnc hcm hn hi0 hz0 hz1 hz2
  go_enter Try.func17, Try.ntmps17
  go_wp2
  go_loopw [0, 3] (fun v g wr => OutR w l v g wr) (fun v g _ => 2 * lenS v + agN g)
  case atStart => exact H0.out
  case round =>
    obtain ⟨cur, B, d, ag, rfl, rfl, hs, hnd, hdm, h80, hred, hbare, hbr⟩ := hrel
    have HI := Lib.hid (And.intro hs (And.intro hnd (And.intro hdm (And.intro hred hbare))))
    have HB := Lib.hid hbr
    clear hs hnd hdm hred hbare hbr H0
    cases ag
    · have HBR := Lib.hid (HI.out.2.2.2.2 rfl)
      generalize hq : cur.length = q at *
      have HQ := Lib.hid hq
      clear hq
      go_wp2
      go_ret
      refine ⟨cur, B, d, by rw [HQ.out]; rfl, HI.out.2.2.2.1 _ (.done HBR.out), by rw [HQ.out]; exact HI.out.1, by rw [HQ.out]; exact HI.out.2.1, HI.out.2.2.1, HB.out.out⟩
    · have H1 := Lib.hid (show InnR w l cur.length (.slice B cur.length d) (.bool false) (.int .i64 (0 : Nat)) wr from ⟨cur, B, d, false, 0, rfl, rfl, rfl, HI.out.1, HI.out.2.1, HI.out.2.2.1, Nat.le_refl _, Nat.zero_le _, HI.out.2.2.2.1, fun _ => ⟨rfl, fun j hj => absurd hj (Nat.not_lt_zero j)⟩, fun h => (by cases h), HB.out⟩)
      generalize cur.length = N at *
      clear HI HB
      go_wp2
      go_loopw [0, 3, 4] (fun v g t wr => InnR w l N v g t wr) (fun v _ t _ => lenS v - (intOf t).toNat)
      case atStart => exact H1.out
      case round =>
        obtain ⟨cu, B2, d2, ag, i, rfl, rfl, rfl, hs, hnd, hdm, hcN, hi, hred, hno, hyes, hbr⟩ := hrel
        have HS := Lib.hid hs
        have HI := Lib.hid (And.intro hnd (And.intro hdm (And.intro hred (And.intro hno hyes))))
        have HB := Lib.hid hbr
        clear hs hnd hdm hred hno hyes hbr H1
        generalize hq : cu.length = q at *
        have HQ := Lib.hid hq
        clear hq
        by_cases hlt : i < q
        · have hiq : (i : Int) < q := by omega
          have hid : (i : Int) ≤ d2 := by have := HI.out.1; omega
          have hw8 : IntKind.i64.wrap ((i : Int) + 1) = (i : Int) + 1 := IntWalk.i64_in _ (by omega)
          have hj1 : (i : Int) + 1 ≤ q := by omega
          have hqd := HI.out.1
          obtain ⟨b, o, e0, rfl, _, _, _⟩ := HS.out.at_ hlt
          have HSA := Lib.hid (HS.out.take (Nat.le_of_lt hlt))
          have HSD0 := Sl.drop (c := d2) (j := i + 1) HS.out (by omega) HI.out.1
          simp only [Option.map_some, Addr.add_lit] at HSD0
          have HLD := Lib.hid (show (evc (cu.drop (i + 1))).length = (q - (i + 1)) * 3 by rw [evc_length, List.length_drop, HQ.out])
          obtain ⟨hi0, hz0, hz1, hz2⟩ := J.out
          go_wp2
          refine region_grow (by kernel_rfl) ?_
          (repeat (first | (refine wpG_go 0 (by simp only [List.getElem?_toArray, List.getElem?_cons_zero, List.getElem?_cons_succ] <;> rfl) (by decide +kernel) (by decide +kernel) (by kernel_rfl) (by rfl) (by exact fun _ _ _ _ h => h) (Nat.le_refl _) ?_; apply Exists.intro; refine ⟨fun w1 h1 => ?_, ?_⟩; (first | exact g_move _ rfl | exact g_assign _ rfl | (go_simp; first | exact ⟨rfl, rfl⟩ | rfl)); simp only [Act.put, Act.eval, List.setIfInBounds_toArray, List.set_cons_zero, List.set_cons_succ, Array.getD_eq_getD_getElem?, List.getElem?_toArray, List.getElem?_cons_zero, List.getElem?_cons_succ, Option.getD_some]) | (refine wpG_go 1 (by simp only [List.getElem?_toArray, List.getElem?_cons_zero, List.getElem?_cons_succ] <;> rfl) (by decide +kernel) (by decide +kernel) (by kernel_rfl) (by rfl) (by exact fun _ _ _ _ h => h) (Nat.le_refl _) ?_; apply Exists.intro; refine ⟨fun w1 h1 => ?_, ?_⟩; (first | exact g_move _ rfl | exact g_assign _ rfl | (go_simp; first | exact ⟨rfl, rfl⟩ | rfl)); simp only [Act.put, Act.eval, List.setIfInBounds_toArray, List.set_cons_zero, List.set_cons_succ, Array.getD_eq_getD_getElem?, List.getElem?_toArray, List.getElem?_cons_zero, List.getElem?_cons_succ, Option.getD_some]) | (refine wpG_go 2 (by simp only [List.getElem?_toArray, List.getElem?_cons_zero, List.getElem?_cons_succ] <;> rfl) (by decide +kernel) (by decide +kernel) (by kernel_rfl) (by rfl) (by exact fun _ _ _ _ h => h) (Nat.le_refl _) ?_; apply Exists.intro; refine ⟨fun w1 h1 => ?_, ?_⟩; (first | exact g_move _ rfl | exact g_assign _ rfl | (go_simp; first | exact ⟨rfl, rfl⟩ | rfl)); simp only [Act.put, Act.eval, List.setIfInBounds_toArray, List.set_cons_zero, List.set_cons_succ, Array.getD_eq_getD_getElem?, List.getElem?_toArray, List.getElem?_cons_zero, List.getElem?_cons_succ, Option.getD_some]) | (refine wpG_go 4 (by simp only [List.getElem?_toArray, List.getElem?_cons_zero, List.getElem?_cons_succ] <;> rfl) (by decide +kernel) (by decide +kernel) (by kernel_rfl) (by rfl) (by exact fun _ _ _ _ h => h) (Nat.le_refl _) ?_; apply Exists.intro; refine ⟨fun w1 h1 => ?_, ?_⟩; (first | exact g_move _ rfl | exact g_assign _ rfl | (go_simp; first | exact ⟨rfl, rfl⟩ | rfl)); simp only [Act.put, Act.eval, List.setIfInBounds_toArray, List.set_cons_zero, List.set_cons_succ, Array.getD_eq_getD_getElem?, List.getElem?_toArray, List.getElem?_cons_zero, List.getElem?_cons_succ, Option.getD_some]) | (refine wpG_go 5 (by simp only [List.getElem?_toArray, List.getElem?_cons_zero, List.getElem?_cons_succ] <;> rfl) (by decide +kernel) (by decide +kernel) (by kernel_rfl) (by rfl) (by exact fun _ _ _ _ h => h) (Nat.le_refl _) ?_; apply Exists.intro; refine ⟨fun w1 h1 => ?_, ?_⟩; (first | exact g_move _ rfl | exact g_assign _ rfl | (go_simp; first | exact ⟨rfl, rfl⟩ | rfl)); simp only [Act.put, Act.eval, List.setIfInBounds_toArray, List.set_cons_zero, List.set_cons_succ, Array.getD_eq_getD_getElem?, List.getElem?_toArray, List.getElem?_cons_zero, List.getElem?_cons_succ, Option.getD_some]) | (refine wpG_go 6 (by simp only [List.getElem?_toArray, List.getElem?_cons_zero, List.getElem?_cons_succ] <;> rfl) (by decide +kernel) (by decide +kernel) (by kernel_rfl) (by rfl) (by exact fun _ _ _ _ h => h) (Nat.le_refl _) ?_; apply Exists.intro; refine ⟨fun w1 h1 => ?_, ?_⟩; (first | exact g_move _ rfl | exact g_assign _ rfl | (go_simp; first | exact ⟨rfl, rfl⟩ | rfl)); simp only [Act.put, Act.eval, List.setIfInBounds_toArray, List.set_cons_zero, List.set_cons_succ, Array.getD_eq_getD_getElem?, List.getElem?_toArray, List.getElem?_cons_zero, List.getElem?_cons_succ, Option.getD_some]) | (refine wpG_go 7 (by simp only [List.getElem?_toArray, List.getElem?_cons_zero, List.getElem?_cons_succ] <;> rfl) (by decide +kernel) (by decide +kernel) (by kernel_rfl) (by rfl) (by exact fun _ _ _ _ h => h) (Nat.le_refl _) ?_; apply Exists.intro; refine ⟨fun w1 h1 => ?_, ?_⟩; (first | exact g_move _ rfl | exact g_assign _ rfl | (go_simp; first | exact ⟨rfl, rfl⟩ | rfl)); simp only [Act.put, Act.eval, List.setIfInBounds_toArray, List.set_cons_zero, List.set_cons_succ, Array.getD_eq_getD_getElem?, List.getElem?_toArray, List.getElem?_cons_zero, List.getElem?_cons_succ, Option.getD_some]) | (refine wpG_skip 0 (by simp only [List.getElem?_toArray, List.getElem?_cons_zero, List.getElem?_cons_succ] <;> rfl) (by decide +kernel) (by decide +kernel) (by kernel_rfl) (by rfl) (by exact fun _ _ _ _ h => h) (Nat.le_refl _) ?_; simp only [Act.put, Act.eval, List.setIfInBounds_toArray, List.set_cons_zero, List.set_cons_succ, Array.getD_eq_getD_getElem?, List.getElem?_toArray, List.getElem?_cons_zero, List.getElem?_cons_succ, Option.getD_some]) | (refine wpG_skip 1 (by simp only [List.getElem?_toArray, List.getElem?_cons_zero, List.getElem?_cons_succ] <;> rfl) (by decide +kernel) (by decide +kernel) (by kernel_rfl) (by rfl) (by exact fun _ _ _ _ h => h) (Nat.le_refl _) ?_; simp only [Act.put, Act.eval, List.setIfInBounds_toArray, List.set_cons_zero, List.set_cons_succ, Array.getD_eq_getD_getElem?, List.getElem?_toArray, List.getElem?_cons_zero, List.getElem?_cons_succ, Option.getD_some]) | (refine wpG_skip 2 (by simp only [List.getElem?_toArray, List.getElem?_cons_zero, List.getElem?_cons_succ] <;> rfl) (by decide +kernel) (by decide +kernel) (by kernel_rfl) (by rfl) (by exact fun _ _ _ _ h => h) (Nat.le_refl _) ?_; simp only [Act.put, Act.eval, List.setIfInBounds_toArray, List.set_cons_zero, List.set_cons_succ, Array.getD_eq_getD_getElem?, List.getElem?_toArray, List.getElem?_cons_zero, List.getElem?_cons_succ, Option.getD_some]) | (refine wpG_skip 4 (by simp only [List.getElem?_toArray, List.getElem?_cons_zero, List.getElem?_cons_succ] <;> rfl) (by decide +kernel) (by decide +kernel) (by kernel_rfl) (by rfl) (by exact fun _ _ _ _ h => h) (Nat.le_refl _) ?_; simp only [Act.put, Act.eval, List.setIfInBounds_toArray, List.set_cons_zero, List.set_cons_succ, Array.getD_eq_getD_getElem?, List.getElem?_toArray, List.getElem?_cons_zero, List.getElem?_cons_succ, Option.getD_some]) | (refine wpG_skip 5 (by simp only [List.getElem?_toArray, List.getElem?_cons_zero, List.getElem?_cons_succ] <;> rfl) (by decide +kernel) (by decide +kernel) (by kernel_rfl) (by rfl) (by exact fun _ _ _ _ h => h) (Nat.le_refl _) ?_; simp only [Act.put, Act.eval, List.setIfInBounds_toArray, List.set_cons_zero, List.set_cons_succ, Array.getD_eq_getD_getElem?, List.getElem?_toArray, List.getElem?_cons_zero, List.getElem?_cons_succ, Option.getD_some]) | (refine wpG_skip 6 (by simp only [List.getElem?_toArray, List.getElem?_cons_zero, List.getElem?_cons_succ] <;> rfl) (by decide +kernel) (by decide +kernel) (by kernel_rfl) (by rfl) (by exact fun _ _ _ _ h => h) (Nat.le_refl _) ?_; simp only [Act.put, Act.eval, List.setIfInBounds_toArray, List.set_cons_zero, List.set_cons_succ, Array.getD_eq_getD_getElem?, List.getElem?_toArray, List.getElem?_cons_zero, List.getElem?_cons_succ, Option.getD_some]) | (refine wpG_skip 7 (by simp only [List.getElem?_toArray, List.getElem?_cons_zero, List.getElem?_cons_succ] <;> rfl) (by decide +kernel) (by decide +kernel) (by kernel_rfl) (by rfl) (by exact fun _ _ _ _ h => h) (Nat.le_refl _) ?_; simp only [Act.put, Act.eval, List.setIfInBounds_toArray, List.set_cons_zero, List.set_cons_succ, Array.getD_eq_getD_getElem?, List.getElem?_toArray, List.getElem?_cons_zero, List.getElem?_cons_succ, Option.getD_some])))
          generalize (if d2 = i + 1 then some (⟨b, o, none⟩ : Addr) else some ⟨b, o + (i + 1) * 3, none⟩) = AD at *
          have HSD := Lib.hid HSD0
          clear HSD0
          (refine wpG_one 3 (by decide +kernel) ?_; intro y1 hy1; refine op_wanted (by simp only [List.getElem?_toArray, List.getElem?_cons_zero, List.getElem?_cons_succ] <;> rfl) rfl ?_)
          have hE1 : Bel wr y1 := (Bel.refl wr).trans hy1
          go_simp
          refine (copyev_any (some ⟨b, o, none⟩) i d2 (cu.take i) _ (HSA.out.bel hE1.out) (by omega)).mono ?_
          rintro e3 u1 ⟨vc, rfl, hoc, hbc⟩
          refine ⟨hbc.mono hE1.size, ?_⟩
          have hoc := own_drop_alloc hoc hE1.size
          have hC1 := hE1.trans (Bel.of hbc)
          clear hbc
          (refine wpG_one 8 (by decide +kernel) ?_; intro y2 hy2; refine op_wanted (by simp only [List.getElem?_toArray, List.getElem?_cons_zero, List.getElem?_cons_succ] <;> rfl) rfl ?_)
          have hE2 := hC1.trans hy2
          have hoc := own_bel hoc hy2
          refine wp_append_src (.tmp 16) (.tmp 20) _ rfl wr.heap.size 29 i0 _ 3 24 Try.underlying22 hi0 hz0 hz1 hz2 rfl (by omega) vc i (evc (cu.take i)) rfl hoc AD (q - (i + 1)) (d2 - (i + 1)) (evc (cu.drop (i + 1))) rfl HLD.out (HSD.out.bel hE2.out).src (evc_one _) (by unfold maxLen; omega) (by omega) hE2.size ?_
          intro v3 u3 ho3 hg3 hat3
          refine ⟨grown_below hg3 hoc (Nat.le_refl _) hE2.size, ?_⟩
          simp only [Act.put, Act.eval, List.setIfInBounds_toArray, List.set_cons_zero, List.set_cons_succ, Array.getD_eq_getD_getElem?, List.getElem?_toArray, List.getElem?_cons_zero, List.getElem?_cons_succ, Option.getD_some]
          have hC3 : Bel wr u3 := Bel.of (hE2.out.trans (grown_below hg3 hoc (Nat.le_refl _) hE2.size))
          rw [← evc_append, show i + (q - (i + 1)) = q - 1 by omega, ← List.eraseIdx_eq_take_drop_succ] at ho3
          (repeat (first | (refine wpG_go 9 (by simp only [List.getElem?_toArray, List.getElem?_cons_zero, List.getElem?_cons_succ] <;> rfl) (by decide +kernel) (by decide +kernel) (by kernel_rfl) (by rfl) (by exact fun _ _ _ _ h => h) hC3.size ?_; apply Exists.intro; refine ⟨fun w1 h1 => ?_, ?_⟩; (first | exact g_move _ rfl | exact g_assign _ rfl | (go_simp; first | exact ⟨rfl, rfl⟩ | rfl)); simp only [Act.put, Act.eval, List.setIfInBounds_toArray, List.set_cons_zero, List.set_cons_succ, Array.getD_eq_getD_getElem?, List.getElem?_toArray, List.getElem?_cons_zero, List.getElem?_cons_succ, Option.getD_some]) | (refine wpG_skip 9 (by simp only [List.getElem?_toArray, List.getElem?_cons_zero, List.getElem?_cons_succ] <;> rfl) (by decide +kernel) (by decide +kernel) (by kernel_rfl) (by rfl) (by exact fun _ _ _ _ h => h) hC3.size ?_; simp only [Act.put, Act.eval, List.setIfInBounds_toArray, List.set_cons_zero, List.set_cons_succ, Array.getD_eq_getD_getElem?, List.getElem?_toArray, List.getElem?_cons_zero, List.getElem?_cons_succ, Option.getD_some])))
          (refine wpG_done (by decide +kernel) ?_ _; intro wz hwz; try simp only [Act.put, Act.eval, List.setIfInBounds_toArray, List.set_cons_zero, List.set_cons_succ, Array.getD_eq_getD_getElem?, List.getElem?_toArray, List.getElem?_cons_zero, List.getElem?_cons_succ, Option.getD_some])
          obtain ⟨Az, cz, rfl, sz, nz, mz⟩ := Sl.own (own_bel ho3 hwz)
          have HSZ := Lib.hid (And.intro sz (And.intro nz mz))
          have HWZ := Lib.hid (HB.out.trans (hC3.trans hwz))
          have HS3 := Lib.hid (HS.out.bel (hC3.trans hwz).out)
          have xz : cz ≤ 9223372036854775807 := by unfold maxLen at mz; omega
          have HLE := Lib.hid (show (cu.eraseIdx i).length = q - 1 by rw [List.length_eraseIdx_of_lt (by rw [HQ.out]; exact hlt), HQ.out])
          clear hy1 hE1 hoc hC1 hy2 hE2 ho3 hg3 hat3 hC3 hwz sz nz mz hi0 hz0 hz1 hz2
          go_wp2_with fail
          refine (rmay_any Az _ cz _ _ HSZ.out.1 HSZ.out.2.1 xz).mono ?_
          rintro e7 w7 ⟨rfl, hb7⟩
          have HW7 := Lib.hid (HWZ.out.call hb7)
          have HS7 := Lib.hid (HS3.out.bel hb7)
          have HZ7 := Lib.hid (HSZ.out.1.bel hb7)
          clear hb7
          by_cases hmk : may (cu.eraseIdx i) = 0
          · have HMK := Lib.hid hmk
            rw [hmk]
            clear hmk
            go_wp2_with fail
            refine (races_any Az _ cz _ _ HZ7.out HMK.out).mono ?_
            rintro e8 w8 ⟨v8, rfl, ho8, hb8⟩
            obtain ⟨A8, d8, rfl, _, _, _⟩ := SlR.own ho8
            have HW8 := Lib.hid (HW7.out.call hb8)
            have HS8 := Lib.hid (HS7.out.bel hb8)
            have HZ8 := Lib.hid (HZ7.out.bel hb8)
            clear ho8 hb8
            by_cases hrc : rcs (cu.eraseIdx i) = []
            · have HNO := Lib.hid (show ¬ Ok (cu.eraseIdx i) from fun h => h.2 hrc)
              have h40 : ((rcs (cu.eraseIdx i)).length : Int) = 0 := by rw [hrc]; rfl
              rw [hrc]
              clear hrc h40
              go_wp2
              go_roundw
              case rel => exact ⟨cu, some ⟨b, o, none⟩, d2, ag, i + 1, by rw [HQ.out], rfl, by go_num, by rw [HQ.out]; exact HS8.out, by rw [HQ.out]; exact HI.out.1, HI.out.2.1, by rw [HQ.out]; exact hcN, by rw [HQ.out]; omega, fun m h => HI.out.2.2.1 m (.skip (by rw [HQ.out]; exact hlt) HNO.out h), fun h => ⟨by rw [HQ.out]; exact (HI.out.2.2.2.1 h).1, fun j hj => by
                rcases Nat.lt_succ_iff_lt_or_eq.1 hj with h1 | rfl
                · exact (HI.out.2.2.2.1 h).2 j h1
                · exact HNO.out⟩, fun h => by rw [HQ.out]; exact HI.out.2.2.2.2 h, HW8.out⟩
              case measure => simp [intOf, lenS]; omega
            · have HOK := Lib.hid (show Ok (cu.eraseIdx i) from ⟨HMK.out, hrc⟩)
              have hpos : 0 < (rcs (cu.eraseIdx i)).length := List.length_pos_iff.2 hrc
              have hwm : IntKind.i64.wrap ((i : Int) - 1) = (i : Int) - 1 := IntWalk.i64_in _ (by omega)
              have hwp : IntKind.i64.wrap ((i : Int) - 1 + 1) = (i : Int) := by rw [IntWalk.i64_in _ (by omega)]; omega
              have hcc : (i : Int) - 1 + 1 = (i : Int) := by omega
              generalize (rcs (cu.eraseIdx i)).length = z at *
              have hp' : (0 : Int) < z := by omega
              clear hrc
              go_wp2
              go_roundw
              case rel => exact ⟨cu.eraseIdx i, Az, cz, true, i, by rw [HLE.out], rfl, by go_num, by rw [HLE.out]; exact HZ8.out, by rw [HLE.out]; exact HSZ.out.2.1, HSZ.out.2.2, by rw [HLE.out]; omega, by rw [HLE.out]; omega, fun m h => HI.out.2.2.1 m (.rem (by rw [HQ.out]; exact hlt) HOK.out h), fun h => (by cases h), fun _ => by rw [HLE.out]; omega, HW8.out⟩
              case measure => simp [intOf, lenS]; omega
          · have HNO := Lib.hid (show ¬ Ok (cu.eraseIdx i) from fun h => hmk h.1)
            have h9 : (may (cu.eraseIdx i) == 0) = false := by simpa using hmk
            clear hmk
            go_wp2
            go_roundw
            case rel => exact ⟨cu, some ⟨b, o, none⟩, d2, ag, i + 1, by rw [HQ.out], rfl, by go_num, by rw [HQ.out]; exact HS7.out, by rw [HQ.out]; exact HI.out.1, HI.out.2.1, by rw [HQ.out]; exact hcN, by rw [HQ.out]; omega, fun m h => HI.out.2.2.1 m (.skip (by rw [HQ.out]; exact hlt) HNO.out h), fun h => ⟨by rw [HQ.out]; exact (HI.out.2.2.2.1 h).1, fun j hj => by
              rcases Nat.lt_succ_iff_lt_or_eq.1 hj with h1 | rfl
              · exact (HI.out.2.2.2.1 h).2 j h1
              · exact HNO.out⟩, fun h => by rw [HQ.out]; exact HI.out.2.2.2.2 h, HW7.out⟩
            case measure => simp [intOf, lenS]; omega
        · obtain rfl : i = q := by omega
          have HDQ := Lib.hid (And.intro HI.out.1 HI.out.2.1)
          have HFI := Lib.hid (show OutR w l (.slice B2 i d2) (.bool ag) wr from ⟨cu, B2, d2, ag, by rw [HQ.out], rfl, by rw [HQ.out]; exact HS.out, by rw [HQ.out]; exact HI.out.1, HI.out.2.1, by rw [HQ.out]; omega, fun m h => HI.out.2.2.1 m (.wrap (by rw [HQ.out]; exact Nat.le_refl _) h), fun h j hj => (HI.out.2.2.2.1 h).2 j (by rw [HQ.out] at hj; exact hj), HB.out⟩)
          have hms : 2 * i + agN (.bool ag) < 2 * N + 1 := by
            cases ag
            · have := (HI.out.2.2.2.1 rfl).1; have := HQ.out; simp [agN]; omega
            · have := HI.out.2.2.2.2 rfl; have := HQ.out; simp [agN]; omega
          have HMS := Lib.hid hms
          clear hms
          go_wp2
          go_roundw
          case rel => exact HFI.out
          case measure => have := HMS.out; simp [lenS, agN] at this ⊢; omega
end Go.Proofs.Ytmdpegljpdjfoaa

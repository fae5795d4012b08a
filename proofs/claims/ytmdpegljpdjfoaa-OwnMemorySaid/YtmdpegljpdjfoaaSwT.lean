/- The package swap: Least, Same. -/
import Derived.Test.YtmdpegljpdjfoaaSwM
import Derived.Test.YtmdpegljpdjfoaaSwD
import Derived.Test.YtmdpegljpdjfoaaTwoR
set_option linter.all false
set_option maxRecDepth 100000
namespace Go.Proofs.Ytmdpegljpdjfoaa
open Go Go.RowKit

def lenV : Value → Nat
  | .slice _ n _ => n
  | _ => 0
theorem leastL_cons {R q : List Ev} {e : Ev} (h : pick R = some (e, q)) : leastL R = e :: leastL q := by
  unfold leastL
  rw [pick_len h]
  exact least_cons h
/-- What Least has taken so far, and what is left. -/
def LsR (w : World) (l : List Ev) (v6 v7 : Value) (wr : World) : Prop := ∃ R L : List Ev, leastL l = L ++ leastL R ∧ Fit R ∧ R.length + L.length = l.length ∧ TwoR w R L v6 v7 wr
theorem TwoR.del {w : World} {R L q : List Ev} {v6 v7 v : Value} {wr w' : World} (h : TwoR w R L v6 v7 wr) (hg : wr.grownBy w' v6.ownBlock) (hat : v.ownBlock = v6.ownBlock) (ho : w'.ownsRow w.heap.size 29 3 v q.length (evc q)) : TwoR w q L v v7 w' := by
  obtain ⟨h2, hap⟩ := own_two h.own1 h.own2 h.apart hg (.inl hat)
  exact ⟨ho, h2, hap, Bel.of (h.below.out.grown hg h.below.size (own_block_ge h.own1))⟩
set_option maxHeartbeats 16000000 in
theorem least_any : LeastC := by
  intro A n c l w hl hnc hcm
  have HL := Lib.hid hl
  have HML := Lib.hid (show (check l).2 = may l from rfl)
  clear hl hnc hcm
  go_enter Try.func23, Try.ntmps23
  go_wp2_with fail
  refine (check_any A n c l _ HL.out).mono ?_
  rintro e1 w1 ⟨rfl, hb1⟩
  rw [HML.out]
  have HW1 := Lib.hid (Bel.of hb1)
  clear hb1
  cases h1 : (may l != 0)
  · have hm : may l = 0 := by simpa using h1
    have HM := Lib.hid hm
    have hn80 : n ≤ 80 := by rw [← HL.out.1]; exact ((may_iff l).1 hm).1
    have HN8 := Lib.hid hn80
    obtain ⟨i0, hi0, hz0, hz1, hz2⟩ := info_parts ev_info
    have J := Lib.hid (And.intro hi0 (And.intro hz0 (And.intro hz1 hz2)))
    clear hm hi0 hz0 hz1 hz2
    go_wp2_with fail
    refine (clone_any A n c l _ (HL.out.bel HW1.out.out) (by omega)).mono ?_
    rintro e2 w2 ⟨v2, rfl, ho2, hb2⟩
    have H0 := Lib.hid (show LsR w l v2 (.slice none 0 0) w2 from ⟨l, [], rfl, may_fit HM.out, by simp, ⟨own_drop_alloc (by rw [HL.out.1]; exact ho2) HW1.out.size, World.ownsRow_nil _ _ _ _, fun g _ hv => (by cases hv), HW1.out.call hb2⟩⟩)
    clear ho2 hb2
    go_wp2
    go_loopw [6, 7] (fun v6 v7 wr => LsR w l v6 v7 wr) (fun v6 _ _ => lenV v6)
    case atStart => exact H0.out
    case round =>
      obtain ⟨R, L, hinv, hfit, hlen, htw⟩ := hrel
      have HI := Lib.hid (And.intro hinv (And.intro hfit hlen))
      have HT := Lib.hid htw
      have hRl : R.length ≤ 80 := by have := HL.out.1; omega
      have hLl : L.length ≤ 80 := by have := HL.out.1; omega
      obtain ⟨B, d, rfl, hs, hnd, hdm⟩ := Sl.own htw.own1
      have HS := Lib.hid hs
      have HDM := Lib.hid (And.intro hnd hdm)
      clear hinv hfit hlen htw hs H0
      generalize hr : R.length = r at *
      by_cases hr0 : 0 < r
      · have hr0' : (0 : Int) < r := by omega
        have HR := Lib.hid hr
        obtain ⟨b, off, e0, rfl, hbb, _, _⟩ := HS.out.at_ hr0
        clear hr
        go_wp2_with fail
        refine (lowest_any (some ⟨b, off, none⟩) r d R _ HS.out hr0 hnd (by omega)).mono ?_
        rintro e3 w3 ⟨f, x, rfl, hf, hlow, hb3⟩
        have HPK := Lib.hid (show pick R = some (x, R.eraseIdx f) from Low.pick (by rw [HR.out]; exact hlow) HI.out.2.1)
        have HW3 := Lib.hid (Bel.of hb3)
        have HT3 := Lib.hid (HT.out.bel HW3.out)
        have hR := Lib.hid ((HS.out.bel hb3).rng hf hlow.can.1).2
        have HTA := Lib.hid (HT3.out.bel ((Bel.refl w3).alloc (.cells (evv x) 29)))
        have HNW := Lib.hid (Box.news (l := evl x) (Box.new w3 (evv x) 29))
        have HSZ := Lib.hid HTA.out.below.size
        have hf' : (f : Int) < r := by omega
        have hwf : IntKind.i64.wrap ((f : Int) + 1) = (f : Int) + 1 := IntWalk.i64_in _ (by omega)
        clear hb3 hlow hbb
        go_wp2_with (first | (refine build1 22 _ rfl rfl 29 i0 Try.underlying22 J.out.1 J.out.2.1 J.out.2.2.1 x rfl ?_) | (refine load_ev T36 _ rfl rfl rfl hR.out ?_) | (refine ewld_store T36 _ _ rfl rfl _ rfl rfl rfl ?_) | (at_builtin; refine wpList_append_own_at _ rfl (.tmp 24) (.tmp 29) _ rfl w.heap.size 29 i0 _ 3 24 Try.underlying22 J.out.1 J.out.2.1 J.out.2.2.1 J.out.2.2.2 rfl (by omega) _ L.length (evc L) rfl HTA.out.own2 _ 1 1 (evl x) rfl rfl HNW.out (by simp [evl, Value.oneCell']) (by unfold maxLen; omega) (by omega) HSZ.out ?_; intro v8 w8 hown8 hg8 hn8 hat8))
        have HT8 := Lib.hid (HTA.out.add2 hg8 hat8 hown8)
        clear hown8 hg8 hn8 hat8
        refine (delete_any w.heap.size r f (r - 1) _ R w8 (by have := HT8.out.own1; rwa [HR.out] at this) hf (by omega) (by omega)).mono ?_
        rintro e9 w9 ⟨v9, rfl, ho9, hg9, hb9⟩
        have hel : (R.eraseIdx f).length = r - 1 := by rw [List.length_eraseIdx_of_lt (by rw [HR.out]; exact hf), HR.out]
        have HT9 := Lib.hid (HT8.out.del (q := R.eraseIdx f) hg9 hb9 (by rw [hel]; exact ho9))
        obtain ⟨C, c9, rfl, _, _, _⟩ := Sl.own ho9
        have HEL := Lib.hid hel
        clear ho9 hg9 hb9 hel
        go_wp2
        go_roundw
        case rel =>
          refine ⟨R.eraseIdx f, L ++ [x], ?_, pick_fit HPK.out HI.out.2.1, ?_, HT9.out⟩
          · rw [HI.out.1, leastL_cons HPK.out, List.append_assoc]; rfl
          · have := HI.out.2.2; rw [HEL.out, List.length_append, List.length_singleton]; have := HR.out; omega
        case measure => simp [lenV]; omega
      · obtain rfl : r = 0 := by omega
        have hRn : R = [] := List.eq_nil_of_length_eq_zero hr
        subst hRn
        have hLL : L = leastL l := by rw [HI.out.1]; unfold leastL least; simp
        obtain ⟨C, c7, rfl, hs7, hn7, hm7⟩ := Sl.own HT.out.own2
        have H7 := Lib.hid (And.intro hLL (And.intro hs7 (And.intro hn7 hm7)))
        clear hr hLL hs7 hn7 hm7
        go_wp2
        go_ret2
        refine ⟨leastL l, 0, .inr ⟨HM.out, rfl, rfl⟩, C, L.length, c7, rfl, ?_, H7.out.2.2.1, H7.out.2.2.2, HT.out.below.out⟩
        have h1 := H7.out.2.1
        rwa [H7.out.1] at h1 ⊢
  · have hm : may l ≠ 0 := by simpa using h1
    have HM := Lib.hid hm
    clear hm
    go_wp2
    go_ret2
    exact ⟨[], may l, .inl ⟨HM.out, rfl, rfl⟩, none, 0, 0, rfl, ⟨rfl, fun h => absurd h (Nat.lt_irrefl 0)⟩, Nat.le_refl _, Nat.zero_le _, HW1.out.out⟩
end Go.Proofs.Ytmdpegljpdjfoaa

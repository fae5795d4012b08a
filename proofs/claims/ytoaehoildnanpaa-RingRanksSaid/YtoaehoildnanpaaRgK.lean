/- Contracts of the package ring: rank, Rank. -/
import Derived.Test.YtoaehoildnanpaaRgY
set_option linter.all false
set_option maxRecDepth 100000
namespace Go.Proofs.Ytoaehoildnanpaa
open Go Go.RowKit

theorem most_yes {P : Nat → Nat → Bool} {f : Nat → Nat} {k n : Nat} (h : P n k = true) : most P f k (n + 1) = max (most P f k n) (f n + 1) := by rw [most, if_pos h]
theorem most_no {P : Nat → Nat → Bool} {f : Nat → Nat} {k n : Nat} (h : P n k = false) : most P f k (n + 1) = most P f k n := by rw [most, if_neg (by rw [h]; simp)]
set_option maxHeartbeats 8000000 in
theorem rank_rec (G : Nat) (P : Nat → Nat → Bool) (f : Nat → Nat) (h5 : Five P) (hf : RankOk P f) : ∀ (m k : Nat) (w : World), f k < m → k < 5 → GBox w G P →
    Calls Try.prog 39 #[.pointer (some ⟨G, 0, none⟩), .int .i64 k] w fun e w' => e = .returned (.int .i64 (f k : Nat)) ∧ w = w' := by
  intro m
  induction m with
  | zero => intro k w hm; omega
  | succ m ih =>
    intro k w hm hk hg
    have HG := Lib.hid hg
    have IH := Lib.hid ih
    have HM := Lib.hid hm
    have H5 := Lib.hid h5
    have HF := Lib.hid hf
    have HK := Lib.hid hk
    have hk' : (k : Int) < 5 := by omega
    clear hg ih hm h5 hf hk
    go_enter Try.func39, Try.ntmps39
    go_wp2
    go_loopw [5, 7] (fun v t wr => ∃ a : Nat, a ≤ 5 ∧ t = .int .i64 a ∧ v = .int .i64 (most P f k a : Nat) ∧ w = wr) (fun _ t _ => 5 - (intOf t).toNat)
    case atStart => exact ⟨0, by omega, rfl, rfl, rfl⟩
    case round =>
      obtain ⟨a, ha, rfl, rfl, rfl⟩ := hrel
      by_cases hlt : a < 5
      · have hlt' : (a : Int) < 5 := by omega
        have c0 := HG.out.cell hlt HK.out
        cases hP : P a k
        · rw [hP] at c0
          have HS := Lib.hid (most_no (f := f) hP)
          clear hP
          go_wp2
          go_roundw
          case rel => exact ⟨a + 1, by omega, by go_num, by rw [HS.out], trivial⟩
          case measure => simp [intOf]; omega
        · rw [hP] at c0
          have HS := Lib.hid (most_yes (f := f) hP)
          have HUP := Lib.hid (HF.out.up _ _ hP)
          have HFA := Lib.hid (rank_lt H5.out HF.out a hlt)
          have hw1 : IntKind.i64.wrap ((f a : Int) + 1) = ((f a + 1 : Nat) : Int) := by rw [show ((f a + 1 : Nat) : Int) = (f a : Int) + 1 by omega]; exact IntWalk.i64_in _ (by have := HFA.out; omega)
          clear hP
          go_wp2_with (go_at_call 39; (with_reducible refine (IH.out a _ (by have := HUP.out; have := HM.out; omega) (by omega) HG.out).mono ?_); rintro e w' ⟨rfl, rfl⟩)
          go_roundw
          case rel => exact ⟨a + 1, by omega, by go_num, by rw [HS.out]; congr 1; split <;> omega, trivial⟩
          case measure => simp [intOf]; omega
      · obtain rfl : a = 5 := by omega
        have HS := Lib.hid (most_all H5.out HF.out k)
        go_wp2
        go_ret
        exact ⟨by rw [← HS.out]; rfl, rfl⟩
theorem rank_lk (G : Nat) (P : Nat → Nat → Bool) (f : Nat → Nat) (h5 : Five P) (hf : RankOk P f) (k : Nat) (w : World) (hk : k < 5) (hg : GBox w G P) :
    Calls Try.prog 39 #[.pointer (some ⟨G, 0, none⟩), .int .i64 k] w fun e w' => e = .returned (.int .i64 (f k : Nat)) ∧ w = w' := rank_rec G P f h5 hf (f k + 1) k w (by omega) hk hg
theorem rankL_snoc (f : Nat → Nat) (k : Nat) : intq (toI ((List.range (k + 1)).map f)) = intq (toI ((List.range k).map f)) ++ [.int .i64 (f k : Nat)] := by
  rw [List.range_succ, List.map_append]
  exact toI_app _ _
set_option maxHeartbeats 8000000 in
theorem rank_any : RankC := by
  intro A n c l w h hnc hc
  have HC := Lib.hid (graphOf_any A n c l w h hnc hc)
  clear h
  go_enter Try.func20, Try.ntmps20
  go_wp2_with fail
  refine HC.out.mono ?_
  rintro e w1 ⟨hgo, hb1⟩
  have HB1 := Lib.hid (Bel.of hb1)
  clear hb1
  rcases hgo with ⟨hbad, rfl⟩ | ⟨hok, rfl⟩
  · have HN := Lib.hid hbad
    clear hbad
    go_wp2_with (refine storeB (c' := bs 25 fun _ => false) _ _ _ rfl rfl rfl rfl (Box.new w1 (bs 25 fun _ => false) 53) rfl (by rw [bs_size]; exact TGr) (bs_all _ _) ?_)
    go_ret2
    exact ⟨_, [], 1, rfl, .inl ⟨HN.out, rfl, rfl⟩, (.inl ⟨rfl, rfl⟩), below_setRow' (HB1.out.alloc _).out _ _ HB1.out.size⟩
  · have HN := Lib.hid hok
    clear hok
    have HX := Lib.hid ((Box.new w1 (bs 25 fun _ => false) 53).setRow (bs 25 (gcl (Pq l))))
    have HW := Lib.hid (Bel.of (below_setRow' (HB1.out.alloc (.cells (bs 25 fun _ => false) 53)).out w1.heap.size (bs 25 (gcl (Pq l))) HB1.out.size))
    have HCY := Lib.hid (cycle_any w1.heap.size (Pq l) _ HX.out (pq_five HN.out))
    obtain ⟨i0, hi0, hz0, hz1, hz2⟩ := info_parts qint_info
    have HI := Lib.hid (And.intro hi0 (And.intro hz0 (And.intro hz1 hz2)))
    clear hi0 hz0 hz1 hz2
    go_wp2_with (first | (refine storeB (c' := bs 25 (gcl (Pq l))) _ _ _ rfl rfl rfl rfl (Box.new w1 (bs 25 fun _ => false) 53) (by rw [bs_size, bs_size]) (by rw [bs_size]; exact TGr) (bs_all _ _) ?_) | fail)
    refine HCY.out.mono ?_
    rintro e w2 ⟨r, A2, c2, rfl, p1, p2, p3⟩
    have HP1 := Lib.hid p1
    have HW2 := Lib.hid (HW.out.call p3)
    have HG2 := Lib.hid (show GBox w2 w1.heap.size (Pq l) from GBox.bel HX.out (Bel.of p3))
    clear p1 p2 p3
    by_cases hr : r = []
    · subst hr
      have HNC := Lib.hid (ringOk_nil HP1.out)
      obtain ⟨f, hf⟩ := rank_ex (pq_five HN.out) HNC.out
      have HF := Lib.hid hf
      have H0 := Lib.hid (World.ownsRow_nil w2 w2.heap.size 3 1)
      generalize w1.heap.size = G at *
      clear hf
      go_wp2
      go_loopw [6, 19] (fun v t wr => ∃ k : Nat, k ≤ 5 ∧ t = .int .i64 k ∧ wr.ownsRow w2.heap.size 3 1 v k (intq (toI ((List.range k).map f))) ∧ Bel w2 wr) (fun _ t _ => 5 - (intOf t).toNat)
      case atStart => exact ⟨0, by omega, rfl, H0.out, Bel.refl _⟩
      case round =>
        obtain ⟨k, hk, rfl, ho, hbr⟩ := hrel
        have HO := Lib.hid ho
        have HB := Lib.hid hbr
        clear ho hbr H0
        by_cases hlt : k < 5
        · have hlt' : (k : Int) < 5 := by omega
          have HL := Lib.hid hlt
          have HOA := Lib.hid (HO.out.alloc (.cells #[.int .i64 (f k : Nat)] 3))
          have HBX := Lib.hid (Box.new wr #[Value.int .i64 (f k : Nat)] 3)
          have HBA := Lib.hid (HB.out.alloc (.cells #[.int .i64 (f k : Nat)] 3))
          have HRK := Lib.hid (rank_lk G (Pq l) f (pq_five HN.out) HF.out k wr hlt (HG2.out.bel HB.out))
          go_wp2_with (first | (go_at_call 39; (with_reducible refine HRK.out.mono ?_); rintro e w' ⟨rfl, rfl⟩) | (refine buildI 34 (.tmp 24) rfl rfl 3 i0 Try.underlying34 HI.out.1 HI.out.2.1 HI.out.2.2.1 (f k : Nat) rfl ?_) | (at_builtin; refine wpList_append_both rfl (.tmp 22) (.tmp 25) _ rfl w2.heap.size 3 i0 _ 1 8 Try.underlying34 HI.out.1 HI.out.2.1 HI.out.2.2.1 HI.out.2.2.2 rfl (by omega) _ k (intq (toI ((List.range k).map f))) rfl HOA.out ⟨wr.heap.size, 0, none⟩ 1 1 (by omega) [.int .i64 (f k : Nat)] rfl rfl HBX.out.news (by intro u hu; obtain rfl := List.mem_singleton.1 hu; rfl) (by unfold maxLen; omega) (by omega) HBA.out.size ?_; intro v3 w3 hu3; have HU := Lib.hid hu3; clear hu3))
          go_roundw
          case rel => exact ⟨k + 1, by omega, by go_num, by rw [rankL_snoc]; exact HU.out.2.1, Bel.of (HBA.out.out.grown HU.out.1 HBA.out.size (own_block_ge HOA.out))⟩
          case measure => simp [intOf]; omega
        · obtain rfl : k = 5 := by omega
          go_wp2
          go_ret2
          exact ⟨_, rankL f, 0, rfl, .inr (.inr ⟨HN.out, HNC.out, rfl, f, HF.out, rfl⟩), own_int HO.out, (HW2.out.trans HB.out).out⟩
    · have hl : 0 < r.length := List.length_pos_iff.2 hr
      have hl' : (0 : Int) < r.length := by omega
      have HCY2 := Lib.hid (ringOk_cyc HP1.out hr)
      clear hr
      go_wp2
      go_ret2
      exact ⟨_, [], 5, rfl, .inr (.inl ⟨HN.out, ⟨r, HCY2.out⟩, rfl, rfl⟩), (.inl ⟨rfl, rfl⟩), HW2.out.out⟩
end Go.Proofs.Ytoaehoildnanpaa

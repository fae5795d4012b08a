import Derived.Test.YtlcldcbdobgdbaaZRgG
import Derived.Test.YtlcldcbdobgdbaaZKeepTw
import Derived.Test.YtlcldcbdobgdbaaZRgM
set_option linter.all false
set_option maxRecDepth 100000
namespace Go.Proofs.Ytlcldcbdobgdbaa
open Go Go.RowKit

theorem isLock_any (a : Int) (w : World) : Calls Try.prog 97 #[.int .i64 a] w fun e w' => e = .returned (.bool (inB a 5)) ∧ w = w' := by
  by_cases h0 : 0 ≤ a
  · by_cases h1 : a < 5
    · go_enter Try.func97, Try.ntmps97
      go_wp2
      go_ret
      exact ⟨by rw [inB_yes h0 h1]; rfl, rfl⟩
    · go_enter Try.func97, Try.ntmps97
      go_wp2
      go_ret
      exact ⟨by rw [inB_no (by omega)]; rfl, rfl⟩
  · go_enter Try.func97, Try.ntmps97
    go_wp2
    go_ret
    exact ⟨by rw [inB_no (by omega)]; rfl, rfl⟩
theorem qbad_in (x : Int × Int) : qbad x = !(inB x.1 5 && inB x.2 5) := by
  rw [Bool.eq_iff_iff]; simp [qbad, outs, inB]; omega
theorem pq_nil : Pq [] = fun _ _ => false := by funext a b; simp [Pq]
theorem pq_snoc (l : List (Int × Int)) (a b : Nat) : Pq (l ++ [((a : Int), (b : Int))]) = setP (Pq l) a b true := by
  funext x y
  unfold setP
  by_cases h : x = a ∧ y = b
  · rw [if_pos h, h.1, h.2]; simp [Pq]
  · rw [if_neg h]
    unfold Pq
    congr 1
    rw [List.mem_append, List.mem_singleton, Prod.mk.injEq]
    apply propext
    constructor
    · rintro (h9 | h9)
      · exact h9
      · exact absurd ⟨by omega, by omega⟩ h
    · exact .inl
structure RgoR (w : World) (l : List (Int × Int)) (i : Nat) (wr : World) : Prop where
  ok : (l.take i).any qbad = false
  res : Box wr w.heap.size (bs 25 fun _ => false) 113
  now : GBox wr (w.heap.size + 1) (Pq (l.take i))
  bel : Bel w wr
def GoB (l : List (Int × Int)) (e : Ending) : Prop :=
  (l.any qbad = true ∧ e = .returned (.tuple #[.agg (bs 25 fun _ => false), .int .i64 1])) ∨ (l.any qbad = false ∧ e = .returned (.tuple #[.agg (bs 25 (gcl (Pq l))), .int .i64 0]))
set_option maxHeartbeats 8000000 in
theorem graphOf_any (A : Option Addr) (n c : Nat) (l : List (Int × Int)) (w : World) (h : SlQ w A n l) (hnc : n ≤ c) (hc : c ≤ maxLen) : Calls Try.prog 63 #[.slice A n c] w fun e w' => GoB l e ∧ Below w.heap.size w w' := by
  obtain ⟨b1, b2, hB, hs⟩ := boxes2 w (bs 25 fun _ => false) (bs 25 fun _ => false) 113 113
  have H0 := Lib.hid (RgoR.mk (w := w) (l := l) (i := 0) rfl b1 (by rw [List.take_zero, pq_nil]; exact b2) (Bel.of hB))
  have HL := Lib.hid h
  unfold maxLen at hc
  clear b1 b2 hB hs h
  go_enter Try.func63, Try.ntmps63
  go_wp2
  change Code.wp _ _ _ _ ((w.alloc (.cells (bs 25 fun _ => false) 113)).alloc (.cells (bs 25 fun _ => false) 113))
  generalize ((w.alloc (.cells (bs 25 fun _ => false) 113)).alloc (.cells (bs 25 fun _ => false) 113)) = W at *
  go_loopw [9] (fun t wr => ∃ i : Nat, i ≤ n ∧ t = .int .i64 i ∧ RgoR w l i wr) (fun t _ => n - (intOf t).toNat)
  case atStart => exact ⟨0, by omega, rfl, H0.out⟩
  case round =>
    obtain ⟨i, hi, rfl, hr⟩ := hrel
    have HR := Lib.hid hr
    clear hr H0
    by_cases hlt : i < n
    · obtain ⟨bb, off, ⟨x, y⟩, rfl, hbb, he, hrg⟩ := (HL.out.bel HR.out.bel).at_ hlt
      have hlt' : (i : Int) < n := by omega
      have hic : (i : Int) ≤ c := by omega
      have HRG := Lib.hid hrg
      have HE := Lib.hid he
      have HT := Lib.hid (show l.take (i + 1) = l.take i ++ [(x, y)] by rw [List.take_add_one, he]; rfl)
      have HX := Lib.hid (qwld_box wr (x, y) 158)
      have HBW := Lib.hid (HR.out.bel.trans (qwld_below wr (x, y) 158))
      have c0 := HX.out.cell 0 (v := .int .i64 x) rfl
      have c1 := HX.out.cell 1 (v := .int .i64 y) rfl
      have HRS := Lib.hid ((qwld_below wr (x, y) 158).box HR.out.res)
      have HNW := Lib.hid (HR.out.now.bel (qwld_below wr (x, y) 158))
      clear hrg he hbb
      cases hb : (inB x 5 && inB y 5)
      · have HBAD := Lib.hid (show l.any qbad = true by
          rw [List.any_eq_true]
          exact ⟨(x, y), List.mem_of_getElem? HE.out, by rw [qbad_in, hb]; rfl⟩)
        cases hx : inB x 5
        · clear hb
          have hres := HRS.out
          go_wp2_with (first | (refine load_qr TPr _ rfl rfl rfl HRG.out ?_) | (refine qwld_store TPr _ _ rfl rfl _ rfl rfl rfl ?_) | (go_at_call 97; (with_reducible refine (isLock_any _ _).mono ?_); rintro e w' ⟨rfl, rfl⟩) | (refine storeB (c' := bs 25 fun _ => false) _ _ _ rfl rfl rfl rfl hres rfl (by rw [bs_size]; exact TGr) (bs_all _ _) ?_))
          refine bodyPost_ret (res_ct Try.results63 rfl (hres.setRow (bs 25 fun _ => false)) (by rw [bs_size]; exact TGr)) rfl ⟨.inl ⟨HBAD.out, rfl⟩, ?_⟩
          exact below_setRow' HBW.out.out _ _ (Nat.le_refl _)
        · have hy : inB y 5 = false := by rw [hx] at hb; simpa using hb
          have hres := HRS.out
          clear hb
          go_wp2_with (first | (refine load_qr TPr _ rfl rfl rfl HRG.out ?_) | (refine qwld_store TPr _ _ rfl rfl _ rfl rfl rfl ?_) | (go_at_call 97; (with_reducible refine (isLock_any _ _).mono ?_); rintro e w' ⟨rfl, rfl⟩) | (refine storeB (c' := bs 25 fun _ => false) _ _ _ rfl rfl rfl rfl hres rfl (by rw [bs_size]; exact TGr) (bs_all _ _) ?_))
          refine bodyPost_ret (res_ct Try.results63 rfl (hres.setRow (bs 25 fun _ => false)) (by rw [bs_size]; exact TGr)) rfl ⟨.inl ⟨HBAD.out, rfl⟩, ?_⟩
          exact below_setRow' HBW.out.out _ _ (Nat.le_refl _)
      · have hxy : inB x 5 = true ∧ inB y 5 = true := by simpa using hb
        obtain ⟨hx, hy⟩ := hxy
        obtain ⟨a, rfl⟩ := Int.eq_ofNat_of_zero_le (inB_iff.1 hx).1
        obtain ⟨b, rfl⟩ := Int.eq_ofNat_of_zero_le (inB_iff.1 hy).1
        have ha : a < 5 := by have := (inB_iff.1 hx).2; omega
        have hb5 : b < 5 := by have := (inB_iff.1 hy).2; omega
        have ha' : (a : Int) < 5 := by omega
        have hb' : (b : Int) < 5 := by omega
        have HGB := Lib.hid (show qbad ((a : Int), (b : Int)) = false by rw [qbad_in, hb]; rfl)
        have d0 := HNW.out.cell ha hb5
        have g0 := Box.frozen HNW.out (a * 5 + b)
        have HA := Lib.hid ha
        have HB5 := Lib.hid hb5
        clear hb ha hb5
        go_wp2_with (first | (refine load_qr TPr _ rfl rfl rfl HRG.out ?_) | (refine qwld_store TPr _ _ rfl rfl _ rfl rfl rfl ?_) | (go_at_call 97; (with_reducible refine (isLock_any _ _).mono ?_); rintro e w' ⟨rfl, rfl⟩))
        (refine wp_region_still_tail 6 (by kernel_rfl) (by kernel_rfl) ?_; simp only [List.take_succ_cons, List.take_zero, List.drop_succ_cons, List.drop_zero]; (repeat (first | ((with_reducible refine s_skip ?_ ?_); exact rfl; simp only [Act.put, Act.eval, List.setIfInBounds_toArray, List.set_cons_zero, List.set_cons_succ, Array.getD_eq_getD_getElem?, List.getElem?_toArray, List.getElem?_cons_zero, List.getElem?_cons_succ, Option.getD_some]) | ((with_reducible refine wpStill_step ?_); intro K hK; go_simp; (with_reducible refine hK _ ?_); clear hK K))); (with_reducible refine wpStill_nil ?_))
        change wpList _ _ _ _ _ (World.drew _)
        go_wp2
        go_roundw
        case rel => exact ⟨i + 1, by omega, by go_num, ⟨by rw [HT.out, List.any_append, HR.out.ok, List.any_cons, HGB.out]; rfl, Box.set_ne (Box.bel HRS.out (Bel.refl _).drew) _ _ (by simp), by rw [HT.out, pq_snoc]; exact GBox.set (HNW.out.bel (Bel.refl _).drew) HA.out HB5.out true, Bel.of ((HBW.out.trans (Bel.refl _).drew).out.setCell (by simp) _)⟩⟩
        case measure => simp [intOf]; omega
    · obtain rfl : i = n := by omega
      have ht : l.take i = l := List.take_of_length_le (by rw [HL.out.1]; exact Nat.le_refl _)
      have hok := HR.out.ok
      have hnow := HR.out.now
      rw [ht] at hok hnow
      have HOK := Lib.hid hok
      have HS := Lib.hid (show (bs 25 (gcl (Pq l))).size = 25 from bs_size _ _)
      have hres := HR.out.res
      clear ht hok
      go_wp2_with (first | (refine loadB _ _ rfl rfl rfl hnow (by rw [bs_size]; exact TGr) ?_) | (refine storeB _ _ _ rfl rfl rfl rfl hres (by rw [bs_size, bs_size]) (by rw [bs_size]; exact TGr) (bs_all _ _) ?_))
      refine bodyPost_ret (res_ct Try.results63 rfl (hres.setRow (bs 25 (gcl (Pq l)))) (by rw [bs_size]; exact TGr)) rfl ⟨.inr ⟨HOK.out, rfl⟩, ?_⟩
      exact below_setRow' HR.out.bel.out _ _ (Nat.le_refl _)
end Go.Proofs.Ytlcldcbdobgdbaa
set_option linter.all false
set_option maxRecDepth 100000
namespace Go.Proofs.Ytlcldcbdobgdbaa
open Go Go.RowKit

theorem complete_any (base G : Nat) (hG : G < base) (P : Nat → Nat → Bool) : ∀ f, CompC base G P f
  | 0 => comp_zero base G P
  | f + 1 => comp_next base G hG P f (complete_any base G hG P f)
def CyPost (P : Nat → Nat → Bool) (w : World) (e : Ending) (w' : World) : Prop :=
  ∃ r A c, e = .returned (.slice A r.length c) ∧ RingOk P r ∧ w'.ownsRow w.heap.size 3 1 (.slice A r.length c) r.length (intq (toI r)) ∧ Below w.heap.size w w'
theorem grown_bel {w w' : World} (h : w.grownBy w' none) : Bel w w' := Bel.of ((Below.refl _ w).grown h (Nat.le_refl _) fun k hk => by cases hk)
set_option maxHeartbeats 8000000 in
theorem cycle_any (G : Nat) (P : Nat → Nat → Bool) (w : World) (hg : GBox w G P) (h5 : Five P) : Calls Try.prog 64 #[.pointer (some ⟨G, 0, none⟩)] w (CyPost P w) := by
  have HG := Lib.hid hg
  have HLT := Lib.hid (show G < w.heap.size from Box.lt hg)
  have H5 := Lib.hid h5
  clear hg h5
  go_enter Try.func64, Try.ntmps64
  go_wp2
  go_loopw [3] (fun t wr => ∃ n : Nat, n ≤ 5 ∧ t = .int .i64 ((n : Int) + 1) ∧ (∀ j, j < n → comp P (j + 1) [] = none) ∧ w.grownBy wr none) (fun t _ => 6 - (intOf t).toNat)
  case atStart => exact ⟨0, by omega, rfl, fun j h => by omega, World.grownBy.refl _ _⟩
  case round =>
    obtain ⟨n, hn, rfl, hd, hgr⟩ := hrel
    have HD := Lib.hid hd
    have HGR := Lib.hid hgr
    clear hd hgr
    by_cases hlt : n < 5
    · have hlt' : (n : Int) + 1 ≤ 5 := by omega
      have HC := Lib.hid (complete_any w.heap.size G HLT.out P (n + 1) [] (.slice none 0 0) wr ((n : Int) + 1) (by simp) (by simp; omega) (by simp) HGR.out.size (fun k hk => by cases hk) (HG.out.bel (grown_bel HGR.out)) (World.ownsRow_nil _ _ _ _))
      cases hcp : comp P (n + 1) [] with
      | none =>
        have HCP := Lib.hid hcp
        clear hcp
        go_wp2_with (go_at_call 98; (with_reducible refine HC.out.mono ?_); rintro e4 w4 hpost; obtain ⟨p1, p2, rfl⟩ := hpost.no HCP.out; have HF := Lib.hid p1; clear hpost p1 p2)
        go_roundw
        case rel => exact ⟨n + 1, by omega, by go_num, all_succ HD.out HCP.out, HGR.out.trans HF.out⟩
        case measure => simp [intOf]; omega
      | some r =>
        have HCP := Lib.hid hcp
        have HR := Lib.hid (ring_some H5.out HD.out hcp).1
        clear hcp
        go_wp2_with (go_at_call 98; (with_reducible refine HC.out.mono ?_); rintro e4 w4 hpost; obtain ⟨p1, p2, g4, c4, rfl, p3⟩ := hpost.yes HCP.out; have HF := Lib.hid p1; have HX := Lib.hid p3; clear hpost p1 p2 p3)
        go_ret
        exact ⟨r, some ⟨g4, 0, none⟩, c4, rfl, HR.out, HX.out, (grown_bel (HGR.out.trans HF.out)).out⟩
    · obtain rfl : n = 5 := by omega
      have HR := Lib.hid (ring_none H5.out HD.out)
      go_wp2
      go_ret
      exact ⟨[], none, 0, rfl, HR.out, World.ownsRow_nil _ _ _ _, (grown_bel HGR.out).out⟩
def RingOwn (w : World) (l : List (Int × Int)) (e : Ending) (w' : World) : Prop :=
  ∃ r A d c, e = .returned (.tuple #[.slice A r.length d, .int .i64 c]) ∧ RingB l r c ∧ w'.ownsRow w.heap.size 3 1 (.slice A r.length d) r.length (intq (toI r)) ∧ Below w.heap.size w w'
set_option maxHeartbeats 8000000 in
theorem ring_own (A : Option Addr) (n c : Nat) (l : List (Int × Int)) (w : World) (h : SlQ w A n l) (hnc : n ≤ c) (hc : c ≤ maxLen) : Calls Try.prog 30 #[.slice A n c] w (RingOwn w l) := by
  have HC := Lib.hid (graphOf_any A n c l w h hnc hc)
  clear h
  go_enter Try.func30, Try.ntmps30
  go_wp2_with fail
  refine HC.out.mono ?_
  rintro e w1 ⟨hgo, hb1⟩
  have HB1 := Lib.hid (Bel.of hb1)
  clear hb1
  rcases hgo with ⟨hbad, rfl⟩ | ⟨hok, rfl⟩
  · have HN := Lib.hid hbad
    clear hbad
    go_wp2_with (refine storeB (c' := bs 25 fun _ => false) _ _ _ rfl rfl rfl rfl (Box.new w1 (bs 25 fun _ => false) 113) rfl (by rw [bs_size]; exact TGr) (bs_all _ _) ?_)
    go_ret2
    exact ⟨[], none, 0, 1, rfl, .inl ⟨HN.out, rfl, rfl⟩, World.ownsRow_nil _ _ _ _, below_setRow' (HB1.out.alloc _).out _ _ HB1.out.size⟩
  · have HN := Lib.hid hok
    clear hok
    have HX := Lib.hid ((Box.new w1 (bs 25 fun _ => false) 113).setRow (bs 25 (gcl (Pq l))))
    have HW := Lib.hid (Bel.of (below_setRow' (HB1.out.alloc (.cells (bs 25 fun _ => false) 113)).out w1.heap.size (bs 25 (gcl (Pq l))) HB1.out.size))
    have HCY := Lib.hid (cycle_any w1.heap.size (Pq l) _ HX.out (pq_five HN.out))
    go_wp2_with (first | (refine storeB (c' := bs 25 (gcl (Pq l))) _ _ _ rfl rfl rfl rfl (Box.new w1 (bs 25 fun _ => false) 113) (by rw [bs_size, bs_size]) (by rw [bs_size]; exact TGr) (bs_all _ _) ?_) | (go_at_call 64; refine HCY.out.mono ?_; rintro e w2 ⟨r, A2, c2, rfl, p1, p2, p3⟩; have HP := Lib.hid (And.intro p1 (And.intro p2 p3)); clear p1 p2 p3))
    go_ret2
    exact ⟨r, A2, c2, 0, rfl, .inr ⟨HN.out, rfl, HP.out.1⟩, own_drop_alloc HP.out.2.1 HW.out.size, (HW.out.call HP.out.2.2).out⟩
theorem ring_any : RingC := fun A n c l w h hnc hc => (ring_own A n c l w h hnc hc).mono fun _ _ ⟨r, _, _, c', h1, h2, h3, h4⟩ => ⟨_, r, c', h1, h2, own_int h3, h4⟩
end Go.Proofs.Ytlcldcbdobgdbaa

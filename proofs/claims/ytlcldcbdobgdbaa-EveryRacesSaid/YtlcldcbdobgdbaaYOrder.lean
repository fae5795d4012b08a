import Derived.Test.YtlcldcbdobgdbaaYCw
import Derived.Test.YtlcldcbdobgdbaaYVe
import Derived.IntWalk
import Derived.Test.YtlcldcbdobgdbaaYKeepTw
import Derived.Test.YtlcldcbdobgdbaaYTrace
import Derived.Test.YtlcldcbdobgdbaaRows
import Derived.Test.YtlcldcbdobgdbaaYMid
import Derived.Test.YtlcldcbdobgdbaaYOr
set_option linter.all false
set_option maxRecDepth 100000
namespace Go.Proofs.Ytlcldcbdobgdbaa
open Go Go.RowKit Go.Shelf

theorem en_list : ∀ {s : List (Array Value)}, (∀ x ∈ s, EnF x) → ∃ ds : List En, s = ds.map enA
  | [], _ => ⟨[], rfl⟩
  | x :: s, h => by
    obtain ⟨m, v, hh, d, k, rfl⟩ := h x (List.mem_cons_self ..)
    obtain ⟨ds, rfl⟩ := en_list (s := s) fun y hy => h y (List.mem_cons_of_mem _ hy)
    exact ⟨⟨m, v, hh, d, k⟩ :: ds, rfl⟩
theorem end_vis {P : List (List Ev)} {W : World} {NB M : Nat} (hN : NB < M) :
    VisC P W M 39 #[.pointer (some ⟨NB, 0, none⟩)] (visE P) List.length (EndS NB M) where
  step s w := by unfold visE; split <;> simp
  enters := enters_of Try.func39 (by kernel_rfl) rfl
  keep w w' s O h _ k := h.keep hN k
  call ws w s O PV LV _ hc hs _ hM _ _ _ _ := end_call hN hc hs hM
set_option maxHeartbeats 8000000 in
theorem eends_any : EndsC := by
  intro A n c P w h hnc hcm
  have HP := Lib.hid h
  have HC := Lib.hid (And.intro hnc hcm)
  obtain ⟨hb1, hb2, hb3⟩ := boxes1 w #[.slice none 0 0] 23
  have HB1 := Lib.hid hb1
  have HB3 := Lib.hid (And.intro hb2 hb3)
  clear h hnc hcm hb1 hb2 hb3
  go_enter Try.func15, Try.ntmps15
  go_upto_region 2 with fail
  generalize w.alloc (.cells #[.slice none 0 0] 23) = w0 at *
  have hbw : Bel w w0 := HB3.out.1
  have HBW := Lib.hid hbw
  have hsz : w0.heap.size = w.heap.size + 1 := HB3.out.2
  have HSZ := Lib.hid hsz
  by_cases h0 : evC P = 0
  · have hok := evC_ok h0
    have h10 : totP P ≤ 10 := by
      unfold evC at h0
      rw [if_neg (by have := chk_ok.2 hok; omega)] at h0
      by_cases hh : 10 < (P.map (·.length)).sum
      · rw [if_pos hh] at h0; cases h0
      · unfold totP; omega
    have HMD := Lib.hid (mdf_ends hok h10 (Nat.lt_succ_self (totP P)))
    have HLEN := Lib.hid (show (mdf (kidsW P) (keyW P) (visE P) (totP P + 1) ([], []) []).2.length < 1977326750 by
      have h1 := mdf_sz (kids := kidsW P) (K := keyW P) (vis := visE P) (sz := List.length) (fun w => Nat.le_trans (ablL_len P (goS P ps0 w) P.length) hok.six) (fun s w => by unfold visE; split <;> simp) (totP P + 1) ([], []) []
      have h2 : (7 : Nat) ^ (totP P + 1) ≤ 7 ^ 11 := Nat.pow_le_pow_right (by omega) (by omega)
      have h3 : (7 : Nat) ^ 11 = 1977326743 := rfl
      have h4 : ([] : List (Array Value)).length = 0 := rfl
      simp only at h1
      omega)
    have H0 := Lib.hid (And.intro h0 hok)
    have HEX := Lib.hid (explore_yes (vis := visE P) (g := 39) (cb := #[.pointer (some ⟨w.heap.size, 0, none⟩)]) (sz := List.length) (St := fun M => EndS w.heap.size M) (s := []) (O := fun k => k = w.heap.size)
      HP.out HC.out.1 HC.out.2 h0 hbw (fun M hM => end_vis (by omega)) rfl (fun k hk => by omega)
      (fun M w' hM hb => ⟨.slice none 0 0, hb.box HB1.out, World.ownsRow_nil _ _ _ _, fun k => by simp [Value.ownBlock]⟩))
    clear h0 hok h10 hbw hsz
    go_wp2_with fail
    refine HEX.out.mono ?_
    rintro e1 w1 ⟨rfl, M, O', hM, hst, hk⟩
    have HBF := Lib.hid (show Bel w w1 from HBW.out.out.trans (hk.below (by have := HSZ.out; omega) (by have := HSZ.out; omega) (fun k hk => by omega)))
    have HM := Lib.hid hM
    generalize (mdf (kidsW P) (keyW P) (visE P) (totP P + 1) ([], []) []).2 = s at *
    obtain ⟨v, hv, hown, _⟩ := hst.v
    obtain ⟨ds, rfl⟩ := en_list (s := s) fun x hx => ((HMD.out x).1 hx).form
    rw [List.length_map, ens_row] at hown
    rw [List.length_map] at HLEN
    have HV := Lib.hid hv
    have HOW := Lib.hid hown
    have cv := hv.cell 0 (v := v) rfl
    clear hM hst hk hv hown HEX HB1 HB3
    go_wp2_with fail
    refine (sort_any HOW.out (by have := HLEN.out; omega)).mono ?_
    rintro e2 w2 ⟨rfl, ds', hperm, hsort, hown2, hg2⟩
    have HPM := Lib.hid hperm
    have HSO := Lib.hid hsort
    have hl' : ds'.length = ds.length := hperm.length_eq
    have HOW2 := Lib.hid (show w2.ownsRow (M + 1) 33 20 v ds'.length (enRow ds') by rw [hl']; exact hown2)
    have hNB : ∀ k, v.ownBlock = some k → M + 1 ≤ k := fun k hk => (own_lt HOW.out hk).1
    have HV2 := Lib.hid (HV.out.grown hg2 (fun e => by have := hNB _ e.symm; have := HM.out; have := HSZ.out; omega))
    have HG2 := Lib.hid (Below.grown HBF.out.out hg2 HBF.out.size (fun k hk => by have := hNB _ hk; have := HM.out; have := HSZ.out; omega))
    have HNB := Lib.hid hNB
    have HL' := Lib.hid hl'
    clear hperm hsort hown2 hg2 hNB cv hl'
    have cv := HV2.out.cell 0 (v := v) rfl
    go_wp2_with fail
    refine (compact_any HOW2.out (by rw [HL'.out]; exact HLEN.out)).mono ?_
    rintro e3 w3 ⟨v', rfl, hown3, hg3⟩
    have HOW3 := Lib.hid hown3
    have HG3 := Lib.hid (Below.grown HG2.out hg3 HG2.out.size (fun k hk => by have := HNB.out _ hk; have := HM.out; have := HSZ.out; omega))
    clear hown3 hg3 cv
    have hmem : ∀ x, x ∈ (ddp ds').map enA ↔ IsEnd P x := fun x => by
      rw [ddp_mem, ← HMD.out x]
      exact (HPM.out.map enA).mem_iff
    have HOK := Lib.hid (show EndsOk P ((ddp ds').map enA) from ⟨by
      rw [List.pairwise_map]
      refine ddp_sorted HSO.out fun x hx y hy he => ?_
      have hie : ∀ z ∈ ds', IsEnd P (enA z) := fun z hz => (HMD.out _).1 ((HPM.out.map enA).mem_iff.1 (List.mem_map_of_mem hz))
      exact end_key (hie x hx) (hie y hy) he, hmem⟩)
    go_wp2
    go_ret2
    exact ⟨v', (ddp ds').map enA, by rw [H0.out.1]; rfl, fun hne => absurd H0.out.1 hne, fun _ => HOK.out, by rw [List.length_map, ens_row]; exact own_drop_alloc HOW3.out (by have := HM.out; have := HSZ.out; omega), HG3.out⟩
  · have HEX := Lib.hid (explore_no (HP.out.bel hbw) HC.out.1 HC.out.2 h0 (.func (.func 39) #[] #[.pointer (some ⟨w.heap.size, 0, none⟩)]))
    have H0 := Lib.hid h0
    clear h0 hbw hsz
    go_wp2_with fail
    refine HEX.out.mono ?_
    rintro e1 w1 ⟨rfl, hb1⟩
    have HV := Lib.hid ((Bel.of hb1).box HB1.out)
    have cv := HV.out.cell 0 (v := .slice none 0 0) rfl
    have HBF := Lib.hid (HBW.out.trans (Bel.of hb1))
    clear hb1
    go_wp2_with fail
    refine (sort_any (ds := []) (World.ownsRow_nil w1 w1.heap.size 33 20) (by simp)).mono ?_
    rintro e2 w2 ⟨rfl, ds', _, _, _, hg2⟩
    have HG2 := Lib.hid (show Bel w1 w2 from (Below.refl _ w1).grown hg2 (Nat.le_refl _) (fun k hk => by cases hk))
    clear hg2 cv
    have cv := (HG2.out.box HV.out).cell 0 (v := .slice none 0 0) rfl
    go_wp2_with fail
    refine (compact_any (ds := []) (World.ownsRow_nil w2 w2.heap.size 33 20) (by simp)).mono ?_
    rintro e3 w3 ⟨v', rfl, hown3, hg3⟩
    have HG3 := Lib.hid (show Bel w2 w3 from (Below.refl _ w2).grown hg3 (Nat.le_refl _) (fun k hk => by cases hk))
    have HOW3 := Lib.hid hown3
    clear hg3 cv hown3
    go_wp2
    go_ret2
    exact ⟨v', [], rfl, fun _ => rfl, fun he => absurd he H0.out, own_drop_alloc HOW3.out ((HBF.out.trans HG2.out).size), (HBF.out.trans (HG2.out.trans HG3.out)).out⟩
end Go.Proofs.Ytlcldcbdobgdbaa
set_option linter.all false
set_option maxRecDepth 100000
namespace Go.Proofs.Ytlcldcbdobgdbaa
open Go Go.RowKit

def bsl (n : Nat) (g : Nat → Bool) : List Value := (List.range n).map fun j => .bool (g j)
def bs (n : Nat) (g : Nat → Bool) : Array Value := (bsl n g).toArray
theorem bsl_length (n : Nat) (g : Nat → Bool) : (bsl n g).length = n := by simp [bsl]
theorem bs_size (n : Nat) (g : Nat → Bool) : (bs n g).size = n := by simp [bs, bsl]
theorem bsl_get {n : Nat} (g : Nat → Bool) {j : Nat} (hj : j < n) : (bsl n g)[j]? = some (.bool (g j)) := by simp [bsl, hj]
theorem bs_get {n : Nat} (g : Nat → Bool) {j : Nat} (hj : j < n) : (bs n g)[j]? = some (.bool (g j)) := by simpa [bs] using bsl_get g hj
theorem bs_congr {n : Nat} {g g' : Nat → Bool} (h : ∀ j, j < n → g j = g' j) : bs n g = bs n g' := by
  unfold bs bsl
  congr 1
  refine List.map_congr_left fun j hj => ?_
  rw [h j (by simpa using hj)]
theorem bs_set (n : Nat) (g : Nat → Bool) (j : Nat) (v : Bool) : (bs n g).setIfInBounds j (.bool v) = bs n (updB g j v) := by
  apply Array.ext_getElem?
  intro i
  rw [Array.getElem?_setIfInBounds]
  by_cases hi : i < n
  · by_cases hij : j = i
    · subst hij; rw [if_pos rfl, if_pos (by rw [bs_size]; exact hi), bs_get _ hi]; simp [updB]
    · rw [if_neg hij, bs_get _ hi, bs_get _ hi]
      simp [updB, Ne.symm hij]
  · have h1 : (bs n g)[i]? = none := Array.getElem?_eq_none (by rw [bs_size]; omega)
    have h2 : (bs n (updB g j v))[i]? = none := Array.getElem?_eq_none (by rw [bs_size]; omega)
    rw [h1, h2]
    split
    · rename_i hij; subst hij; simp [bs_size, hi]
    · rfl
theorem Box.part {w : World} {B N : Nat} {g : Nat → Bool} {t : TypeId} (h : Box w B (bs N g) t) (o m : Nat) (hm : o + m ≤ N) : w.rangeAt B o (bsl m fun k => g (o + k)) := fun j v hv => by
  have hj : j < m := by have := (List.getElem?_eq_some_iff.1 hv).1; rwa [bsl_length] at this
  rw [bsl_get _ hj] at hv
  cases hv
  exact h.cell _ (bs_get g (by omega))
theorem part_bool {P : Program} {e : TypeId} (he : P.underlying e = some .bool) (cs : Array Value) (off : Nat) (v : Value) (h : cs[off]? = some v) (w : World) : (part e cs off).run P w = .ok v w := by
  unfold part isAgg
  simp [Sem.run_bind, run_underlying he, h]
theorem index_bs {P : Program} {t e : TypeId} {N : Nat} (hT : P.underlying t = some (.array N e)) (he : P.underlying e = some .bool) (hi : (P.info? e).map (·.size) = some 1) (g : Nat → Bool) (k : Nat) (hk : k < N) (w : World) :
    (Instr.index t (.agg (bs N g)) (.int .i64 k)).run P w = .ok (.bool (g k)) w := by
  cases hq : P.info? e with
  | none => simp [hq] at hi
  | some i =>
    have hs : i.size = 1 := by simpa [hq] using hi
    have := part_bool he (bs N g) k _ (bs_get g hk)
    simp [Instr.index, asIntOf, Sem.run_bind, run_underlying hT, sizeOf, typeInfo, hk, hq, hs, this]
end Go.Proofs.Ytlcldcbdobgdbaa
set_option linter.all false
set_option maxRecDepth 100000
namespace Go.Proofs.Ytlcldcbdobgdbaa
open Go Go.RowKit

theorem aw_else {a b : Int} (h3 : (b == 3) = false) (h6 : (b == 6) = false) (h7 : (b == 7) = false) : awaited a b = false := by
  simp only [beq_eq_false_iff_ne] at h3 h6 h7
  unfold awaited; rw [if_neg h3, if_neg h6, if_neg h7]
theorem isAwaited_any (a b : Int) (w : World) : Calls Try.prog 146 #[.int .i64 a, .int .i64 b] w fun e w' => e = .returned (.bool (awaited a b)) ∧ w = w' := by
  cases h3 : (b == 3)
  · cases h6 : (b == 6)
    · cases h7 : (b == 7)
      · have HV := Lib.hid (aw_else (a := a) h3 h6 h7)
        go_enter Try.func146, Try.ntmps146
        go_wp2
        go_ret
        exact ⟨by rw [HV.out]; rfl, rfl⟩
      · obtain rfl := eq_of_beq h7
        go_enter Try.func146, Try.ntmps146
        go_wp2
        go_ret
        exact ⟨rfl, rfl⟩
    · obtain rfl := eq_of_beq h6
      go_enter Try.func146, Try.ntmps146
      go_wp2
      go_ret
      exact ⟨rfl, rfl⟩
  · obtain rfl := eq_of_beq h3
    go_enter Try.func146, Try.ntmps146
    go_wp2
    go_ret
    exact ⟨rfl, rfl⟩
set_option maxHeartbeats 4000000 in
theorem precedes_any (a b : Ev) (w : World) : Calls Try.prog 126 #[.agg (evv a), .agg (evv b)] w fun e w' => e = .returned (.bool (directly a b)) ∧ Below w.heap.size w w' := by
  have HD := Lib.hid (directly_eq a b)
  obtain ⟨b1, b2, hB, hs⟩ := boxes2 w (evv a) (evv b) 107 107
  generalize hW : ((w.alloc (.cells (evv a) 107)).alloc (.cells (evv b) 107)) = W at *
  have HB := Lib.hid hB
  clear hB hs
  have c0 := b1.cell 0 (v := .int .i64 a.k) rfl
  have c1 := b1.cell 1 (v := .int .i64 a.t) rfl
  have c2 := b1.cell 2 (v := .int .i64 a.o) rfl
  have d0 := b2.cell 0 (v := .int .i64 b.k) rfl
  have d1 := b2.cell 1 (v := .int .i64 b.t) rfl
  have d2 := b2.cell 2 (v := .int .i64 b.o) rfl
  clear b1 b2
  cases h1 : (a.t == b.t)
  · cases h2 : (a.k == 5)
    · cases h4 : (b.k == 6)
      · cases h6 : (a.o == b.o)
        · go_enter Try.func126, Try.ntmps126
          go_wp2_with (first | (go_at_call 146; (with_reducible refine (isAwaited_any _ _ _).mono ?_); rintro e w' ⟨rfl, rfl⟩))
          go_ret
          exact ⟨by rw [HD.out]; simp [h1, h2, h4, h6], HB.out⟩
        · go_enter Try.func126, Try.ntmps126
          go_wp2_with (first | (go_at_call 146; (with_reducible refine (isAwaited_any _ _ _).mono ?_); rintro e w' ⟨rfl, rfl⟩))
          go_ret
          exact ⟨by rw [HD.out]; simp [h1, h2, h4, h6], HB.out⟩
      · cases h5 : (b.o == a.t)
        · cases h6 : (a.o == b.o)
          · go_enter Try.func126, Try.ntmps126
            go_wp2_with (first | (go_at_call 146; (with_reducible refine (isAwaited_any _ _ _).mono ?_); rintro e w' ⟨rfl, rfl⟩))
            go_ret
            exact ⟨by rw [HD.out]; simp [h1, h2, h4, h5, h6], HB.out⟩
          · go_enter Try.func126, Try.ntmps126
            go_wp2_with (first | (go_at_call 146; (with_reducible refine (isAwaited_any _ _ _).mono ?_); rintro e w' ⟨rfl, rfl⟩))
            go_ret
            exact ⟨by rw [HD.out]; simp [h1, h2, h4, h5, h6], HB.out⟩
        · go_enter Try.func126, Try.ntmps126
          go_wp2_with (first | (go_at_call 146; (with_reducible refine (isAwaited_any _ _ _).mono ?_); rintro e w' ⟨rfl, rfl⟩))
          go_ret
          exact ⟨by rw [HD.out]; simp [h1, h2, h4, h5], HB.out⟩
    · cases h3 : (a.o == b.t)
      · cases h4 : (b.k == 6)
        · cases h6 : (a.o == b.o)
          · go_enter Try.func126, Try.ntmps126
            go_wp2_with (first | (go_at_call 146; (with_reducible refine (isAwaited_any _ _ _).mono ?_); rintro e w' ⟨rfl, rfl⟩))
            go_ret
            exact ⟨by rw [HD.out]; simp [h1, h2, h3, h4, h6], HB.out⟩
          · go_enter Try.func126, Try.ntmps126
            go_wp2_with (first | (go_at_call 146; (with_reducible refine (isAwaited_any _ _ _).mono ?_); rintro e w' ⟨rfl, rfl⟩))
            go_ret
            exact ⟨by rw [HD.out]; simp [h1, h2, h3, h4, h6], HB.out⟩
        · cases h5 : (b.o == a.t)
          · cases h6 : (a.o == b.o)
            · go_enter Try.func126, Try.ntmps126
              go_wp2_with (first | (go_at_call 146; (with_reducible refine (isAwaited_any _ _ _).mono ?_); rintro e w' ⟨rfl, rfl⟩))
              go_ret
              exact ⟨by rw [HD.out]; simp [h1, h2, h3, h4, h5, h6], HB.out⟩
            · go_enter Try.func126, Try.ntmps126
              go_wp2_with (first | (go_at_call 146; (with_reducible refine (isAwaited_any _ _ _).mono ?_); rintro e w' ⟨rfl, rfl⟩))
              go_ret
              exact ⟨by rw [HD.out]; simp [h1, h2, h3, h4, h5, h6], HB.out⟩
          · go_enter Try.func126, Try.ntmps126
            go_wp2_with (first | (go_at_call 146; (with_reducible refine (isAwaited_any _ _ _).mono ?_); rintro e w' ⟨rfl, rfl⟩))
            go_ret
            exact ⟨by rw [HD.out]; simp [h1, h2, h3, h4, h5], HB.out⟩
      · go_enter Try.func126, Try.ntmps126
        go_wp2_with (first | (go_at_call 146; (with_reducible refine (isAwaited_any _ _ _).mono ?_); rintro e w' ⟨rfl, rfl⟩))
        go_ret
        exact ⟨by rw [HD.out]; simp [h1, h2, h3], HB.out⟩
  · go_enter Try.func126, Try.ntmps126
    go_wp2_with (first | (go_at_call 146; (with_reducible refine (isAwaited_any _ _ _).mono ?_); rintro e w' ⟨rfl, rfl⟩))
    go_ret
    exact ⟨by rw [HD.out]; simp [h1], HB.out⟩
end Go.Proofs.Ytlcldcbdobgdbaa

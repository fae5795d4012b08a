import Derived.Test.YtlcldcbdobgdbaaZCw
import Derived.Test.YtlcldcbdobgdbaaZVe
import Derived.IntWalk
import Derived.Test.YtlcldcbdobgdbaaZPr
import Derived.Test.YtlcldcbdobgdbaaZTrace
import Derived.Test.YtlcldcbdobgdbaaRows
import Derived.Test.YtlcldcbdobgdbaaZMid
import Derived.Test.YtlcldcbdobgdbaaZOr
import Derived.Laws.MakeOwn
import Derived.Shelf.Abstract
import Derived.Maps.AppendAt
import Derived.Test.YtlcldcbdobgdbaaShelf
import Derived.Test.YtlcldcbdobgdbaaZMapInt
import Derived.Test.YtlcldcbdobgdbaaZBase
import Derived.Test.YtlcldcbdobgdbaaZPp
import Derived.Test.YtlcldcbdobgdbaaZGrow
import Derived.Test.YtlcldcbdobgdbaaZEc
import Derived.Test.YtlcldcbdobgdbaaZXp
import Derived.Test.YtlcldcbdobgdbaaZVw
import Derived.Test.YtlcldcbdobgdbaaZFo
set_option linter.all false
set_option maxRecDepth 100000
namespace Go.Proofs.Ytlcldcbdobgdbaa
open Go Go.RowKit Go.Shelf

theorem en_list : ∀ {s : List (Array Value)}, (∀ x ∈ s, EnF x) → ∃ ds : List En, s = ds.map enA
  | [], _ => ⟨[], rfl⟩
  | x :: s, h => by
    obtain ⟨m, v, hh, d, k, rfl⟩ := h x (List.mem_cons_self ..)
    obtain ⟨ds, rfl⟩ := en_list (s := s) fun y hy => h y (List.mem_cons_of_mem _ hy)
    exact ⟨⟨m, v, hh, d, k⟩ :: ds, rfl⟩
theorem end_vis {P : List (List Ev)} {W : World} {NB M : Nat} (hN : NB < M) :
    VisC P W M 39 #[.pointer (some ⟨NB, 0, none⟩)] (visE P) List.length (EndS NB M) where
  step s w := by unfold visE; split <;> simp
  enters := enters_of Try.func39 (by kernel_rfl) rfl
  keep w w' s O h _ k := h.keep hN k
  call ws w s O PV LV _ hc hs _ hM _ _ _ _ := end_call hN hc hs hM
set_option maxHeartbeats 8000000 in
theorem eends_any : EndsC := by
  intro A n c P w h hnc hcm
  have HP := Lib.hid h
  have HC := Lib.hid (And.intro hnc hcm)
  obtain ⟨hb1, hb2, hb3⟩ := boxes1 w #[.slice none 0 0] 23
  have HB1 := Lib.hid hb1
  have HB3 := Lib.hid (And.intro hb2 hb3)
  clear h hnc hcm hb1 hb2 hb3
  go_enter Try.func15, Try.ntmps15
  go_upto_region 2 with fail
  generalize w.alloc (.cells #[.slice none 0 0] 23) = w0 at *
  have hbw : Bel w w0 := HB3.out.1
  have HBW := Lib.hid hbw
  have hsz : w0.heap.size = w.heap.size + 1 := HB3.out.2
  have HSZ := Lib.hid hsz
  by_cases h0 : evC P = 0
  · have hok := evC_ok h0
    have h10 : totP P ≤ 10 := by
      unfold evC at h0
      rw [if_neg (by have := chk_ok.2 hok; omega)] at h0
      by_cases hh : 10 < (P.map (·.length)).sum
      · rw [if_pos hh] at h0; cases h0
      · unfold totP; omega
    have HMD := Lib.hid (mdf_ends hok h10 (Nat.lt_succ_self (totP P)))
    have HLEN := Lib.hid (show (mdf (kidsW P) (keyW P) (visE P) (totP P + 1) ([], []) []).2.length < 1977326750 by
      have h1 := mdf_sz (kids := kidsW P) (K := keyW P) (vis := visE P) (sz := List.length) (fun w => Nat.le_trans (ablL_len P (goS P ps0 w) P.length) hok.six) (fun s w => by unfold visE; split <;> simp) (totP P + 1) ([], []) []
      have h2 : (7 : Nat) ^ (totP P + 1) ≤ 7 ^ 11 := Nat.pow_le_pow_right (by omega) (by omega)
      have h3 : (7 : Nat) ^ 11 = 1977326743 := rfl
      have h4 : ([] : List (Array Value)).length = 0 := rfl
      simp only at h1
      omega)
    have H0 := Lib.hid (And.intro h0 hok)
    have HEX := Lib.hid (explore_yes (vis := visE P) (g := 39) (cb := #[.pointer (some ⟨w.heap.size, 0, none⟩)]) (sz := List.length) (St := fun M => EndS w.heap.size M) (s := []) (O := fun k => k = w.heap.size)
      HP.out HC.out.1 HC.out.2 h0 hbw (fun M hM => end_vis (by omega)) rfl (fun k hk => by omega)
      (fun M w' hM hb => ⟨.slice none 0 0, hb.box HB1.out, World.ownsRow_nil _ _ _ _, fun k => by simp [Value.ownBlock]⟩))
    clear h0 hok h10 hbw hsz
    go_wp2_with fail
    refine HEX.out.mono ?_
    rintro e1 w1 ⟨rfl, M, O', hM, hst, hk⟩
    have HBF := Lib.hid (show Bel w w1 from HBW.out.out.trans (hk.below (by have := HSZ.out; omega) (by have := HSZ.out; omega) (fun k hk => by omega)))
    have HM := Lib.hid hM
    generalize (mdf (kidsW P) (keyW P) (visE P) (totP P + 1) ([], []) []).2 = s at *
    obtain ⟨v, hv, hown, _⟩ := hst.v
    obtain ⟨ds, rfl⟩ := en_list (s := s) fun x hx => ((HMD.out x).1 hx).form
    rw [List.length_map, ens_row] at hown
    rw [List.length_map] at HLEN
    have HV := Lib.hid hv
    have HOW := Lib.hid hown
    have cv := hv.cell 0 (v := v) rfl
    clear hM hst hk hv hown HEX HB1 HB3
    go_wp2_with fail
    refine (sort_any HOW.out (by have := HLEN.out; omega)).mono ?_
    rintro e2 w2 ⟨rfl, ds', hperm, hsort, hown2, hg2⟩
    have HPM := Lib.hid hperm
    have HSO := Lib.hid hsort
    have hl' : ds'.length = ds.length := hperm.length_eq
    have HOW2 := Lib.hid (show w2.ownsRow (M + 1) 33 20 v ds'.length (enRow ds') by rw [hl']; exact hown2)
    have hNB : ∀ k, v.ownBlock = some k → M + 1 ≤ k := fun k hk => (own_lt HOW.out hk).1
    have HV2 := Lib.hid (HV.out.grown hg2 (fun e => by have := hNB _ e.symm; have := HM.out; have := HSZ.out; omega))
    have HG2 := Lib.hid (Below.grown HBF.out.out hg2 HBF.out.size (fun k hk => by have := hNB _ hk; have := HM.out; have := HSZ.out; omega))
    have HNB := Lib.hid hNB
    have HL' := Lib.hid hl'
    clear hperm hsort hown2 hg2 hNB cv hl'
    have cv := HV2.out.cell 0 (v := v) rfl
    go_wp2_with fail
    refine (compact_any HOW2.out (by rw [HL'.out]; exact HLEN.out)).mono ?_
    rintro e3 w3 ⟨v', rfl, hown3, hg3⟩
    have HOW3 := Lib.hid hown3
    have HG3 := Lib.hid (Below.grown HG2.out hg3 HG2.out.size (fun k hk => by have := HNB.out _ hk; have := HM.out; have := HSZ.out; omega))
    clear hown3 hg3 cv
    have hmem : ∀ x, x ∈ (ddp ds').map enA ↔ IsEnd P x := fun x => by
      rw [ddp_mem, ← HMD.out x]
      exact (HPM.out.map enA).mem_iff
    have HOK := Lib.hid (show EndsOk P ((ddp ds').map enA) from ⟨by
      rw [List.pairwise_map]
      refine ddp_sorted HSO.out fun x hx y hy he => ?_
      have hie : ∀ z ∈ ds', IsEnd P (enA z) := fun z hz => (HMD.out _).1 ((HPM.out.map enA).mem_iff.1 (List.mem_map_of_mem hz))
      exact end_key (hie x hx) (hie y hy) he, hmem⟩)
    go_wp2
    go_ret2
    exact ⟨v', (ddp ds').map enA, by rw [H0.out.1]; rfl, fun hne => absurd H0.out.1 hne, fun _ => HOK.out, by rw [List.length_map, ens_row]; exact own_drop_alloc HOW3.out (by have := HM.out; have := HSZ.out; omega), HG3.out⟩
  · have HEX := Lib.hid (explore_no (HP.out.bel hbw) HC.out.1 HC.out.2 h0 (.func (.func 39) #[] #[.pointer (some ⟨w.heap.size, 0, none⟩)]))
    have H0 := Lib.hid h0
    clear h0 hbw hsz
    go_wp2_with fail
    refine HEX.out.mono ?_
    rintro e1 w1 ⟨rfl, hb1⟩
    have HV := Lib.hid ((Bel.of hb1).box HB1.out)
    have cv := HV.out.cell 0 (v := .slice none 0 0) rfl
    have HBF := Lib.hid (HBW.out.trans (Bel.of hb1))
    clear hb1
    go_wp2_with fail
    refine (sort_any (ds := []) (World.ownsRow_nil w1 w1.heap.size 33 20) (by simp)).mono ?_
    rintro e2 w2 ⟨rfl, ds', _, _, _, hg2⟩
    have HG2 := Lib.hid (show Bel w1 w2 from (Below.refl _ w1).grown hg2 (Nat.le_refl _) (fun k hk => by cases hk))
    clear hg2 cv
    have cv := (HG2.out.box HV.out).cell 0 (v := .slice none 0 0) rfl
    go_wp2_with fail
    refine (compact_any (ds := []) (World.ownsRow_nil w2 w2.heap.size 33 20) (by simp)).mono ?_
    rintro e3 w3 ⟨v', rfl, hown3, hg3⟩
    have HG3 := Lib.hid (show Bel w2 w3 from (Below.refl _ w2).grown hg3 (Nat.le_refl _) (fun k hk => by cases hk))
    have HOW3 := Lib.hid hown3
    clear hg3 cv hown3
    go_wp2
    go_ret2
    exact ⟨v', [], rfl, fun _ => rfl, fun he => absurd he H0.out, own_drop_alloc HOW3.out ((HBF.out.trans HG2.out).size), (HBF.out.trans (HG2.out.trans HG3.out)).out⟩
end Go.Proofs.Ytlcldcbdobgdbaa
set_option linter.all false
set_option maxRecDepth 100000
namespace Go.Proofs.Ytlcldcbdobgdbaa
open Go Go.RowKit

def bsl (n : Nat) (g : Nat → Bool) : List Value := (List.range n).map fun j => .bool (g j)
def bs (n : Nat) (g : Nat → Bool) : Array Value := (bsl n g).toArray
theorem bsl_get {n : Nat} (g : Nat → Bool) {j : Nat} (hj : j < n) : (bsl n g)[j]? = some (.bool (g j)) := by simp [bsl, hj]
theorem bs_get {n : Nat} (g : Nat → Bool) {j : Nat} (hj : j < n) : (bs n g)[j]? = some (.bool (g j)) := by simpa [bs] using bsl_get g hj
end Go.Proofs.Ytlcldcbdobgdbaa
set_option linter.all false
set_option maxRecDepth 100000
namespace Go.Proofs.Ytlcldcbdobgdbaa
open Go Go.RowKit

end Go.Proofs.Ytlcldcbdobgdbaa
set_option linter.all false
set_option maxRecDepth 100000
namespace Go.Proofs.Ytlcldcbdobgdbaa
open Go Go.RowKit

end Go.Proofs.Ytlcldcbdobgdbaa
namespace Go.Proofs.Ytlcldcbdobgdbaa
open Go Go.RowKit

section
variable {ops : Array Oper} {rest : List Oper} {o : Oper} {a : Act} {w : World} {Q : Exit → Act → World → Prop}
end
end Go.Proofs.Ytlcldcbdobgdbaa
set_option linter.all false
set_option maxRecDepth 100000
namespace Go.Proofs.Ytlcldcbdobgdbaa
open Go Go.RowKit

set_option maxHeartbeats 2000000 in
/-- The function value of Before. -/
theorem before1_any (B G n : Nat) (g : Nat → Bool) (t u : TypeId) (w : World) (hb : Box w B #[.slice (some ⟨G, 0, none⟩) n n] t) (hg : Box w G (bs (n * 80) g) u) (i j : Nat) (hi : i < n) (hj : j < 80) (R : Bool) (hR : g (i * 80 + j) = R) :
    Calls Try.prog 91 #[.int .i64 i, .int .i64 j, .pointer (some ⟨B, 0, none⟩)] w fun e w' => e = .returned (.bool R) ∧ Below w.heap.size w w' := by
  subst hR
  have c0 := hb.cell 0 (v := .slice (some ⟨G, 0, none⟩) n n) rfl
  have c1 : w.cell? ⟨G, i * 80 + j, none⟩ = some (.bool (g (i * 80 + j))) := hg.cell _ (bs_get _ (by omega))
  have hi' : (i : Int) < n := by omega
  have hj' : (j : Int) < 80 := by omega
  have hw0 := Lib.hid (Bel.refl w)
  clear hb hg
  go_enter Try.func91, Try.ntmps91
  go_wp2
  go_ret
  exact ⟨rfl, hw0.out⟩
end Go.Proofs.Ytlcldcbdobgdbaa
set_option linter.all false
set_option maxRecDepth 100000
namespace Go.Proofs.Ytlcldcbdobgdbaa
open Go.RowKit

end Go.Proofs.Ytlcldcbdobgdbaa
set_option linter.all false
set_option maxRecDepth 100000
namespace Go.Proofs.Ytlcldcbdobgdbaa
open Go Go.RowKit

end Go.Proofs.Ytlcldcbdobgdbaa
namespace Go.Proofs.Ytlcldcbdobgdbaa
open Go Go.RowKit

end Go.Proofs.Ytlcldcbdobgdbaa
set_option linter.all false
set_option maxRecDepth 100000
namespace Go.Proofs.Ytlcldcbdobgdbaa
open Go Go.RowKit

end Go.Proofs.Ytlcldcbdobgdbaa
namespace Go.Proofs.Ytlcldcbdobgdbaa
open Go Go.RowKit

end Go.Proofs.Ytlcldcbdobgdbaa
namespace Go.Proofs.Ytlcldcbdobgdbaa
open Go Go.RowKit

end Go.Proofs.Ytlcldcbdobgdbaa
namespace Go.Proofs.Ytlcldcbdobgdbaa
open Go Go.RowKit

section
variable {ops : Array Oper} {o : Oper} {a : Act} {w : World} {K : Act → World → Prop} {Q : Exit → Act → World → Prop}
end
end Go.Proofs.Ytlcldcbdobgdbaa
namespace Go.Proofs.Ytlcldcbdobgdbaa
open Go Go.RowKit

end Go.Proofs.Ytlcldcbdobgdbaa
namespace Go.Proofs.Ytlcldcbdobgdbaa
open Go Go.RowKit

end Go.Proofs.Ytlcldcbdobgdbaa
namespace Go.Proofs.Ytlcldcbdobgdbaa
open Go Go.RowKit

end Go.Proofs.Ytlcldcbdobgdbaa
namespace Go.Proofs.Ytlcldcbdobgdbaa
open Go Go.RowKit

end Go.Proofs.Ytlcldcbdobgdbaa
set_option linter.all false
set_option maxRecDepth 100000
namespace Go.Proofs.Ytlcldcbdobgdbaa
open Go Go.RowKit Go.Shelf

end Go.Proofs.Ytlcldcbdobgdbaa
set_option linter.all false
set_option maxRecDepth 100000
namespace Go.Proofs.Ytlcldcbdobgdbaa
open Go Go.RowKit

end Go.Proofs.Ytlcldcbdobgdbaa
set_option linter.all false
set_option maxRecDepth 100000
namespace Go.Proofs.Ytlcldcbdobgdbaa
open Go Go.RowKit

def p1 : List (List Ev) := [[⟨3, 0, 1⟩]]
theorem row_cells {w : World} {base : Nat} {e : TypeId} {v : Value} {n : Nat} {xs : List Value} {size : Nat} (h : w.ownsRow base e size v n xs) (h0 : 0 < n) : ∃ g cap, v = .slice (some ⟨g, 0, none⟩) n cap ∧ base ≤ g ∧ n ≤ cap ∧ cap ≤ maxLen ∧ ∀ t u, xs[t]? = some u → w.cell? ⟨g, t, none⟩ = some u := by
  rcases h.2 with ⟨_, h1⟩ | ⟨g, cap, cur, rfl, h2, h3, h4, h5, h6, h7⟩
  · omega
  · refine ⟨g, cap, rfl, h2, h4, h5, fun t u hu => ?_⟩
    have hbx : Box w g cur e := h3
    refine hbx.cell t ?_
    have ht : t < n * size := by have := (List.getElem?_eq_some_iff.1 hu).1; rw [h.1] at this; exact this
    rw [← h7, List.getElem?_take_of_lt ht] at hu
    rw [← Array.getElem?_toList]; exact hu
end Go.Proofs.Ytlcldcbdobgdbaa
set_option linter.all false
set_option maxRecDepth 100000
namespace Go.Proofs.Ytlcldcbdobgdbaa
open Go Go.RowKit

theorem row_slice {w : World} {base n size : Nat} {e : TypeId} {v : Value} {xs : List Value} (h : w.ownsRow base e size v n xs) : ∃ A c, v = .slice A n c ∧ n ≤ c ∧ c ≤ maxLen := by
  rcases h.2 with ⟨rfl, rfl⟩ | ⟨g, cap, cur, rfl, _, _, hc, hm, _⟩
  · exact ⟨none, 0, rfl, Nat.le_refl _, Nat.zero_le _⟩
  · exact ⟨_, cap, rfl, hc, hm⟩
theorem evC_tot {P : List (List Ev)} (h : evC P = 0) : totP P ≤ 10 := by
  unfold evC at h
  unfold totP
  split at h
  · contradiction
  · split at h
    · omega
    · omega
theorem neq_self (y : En) (w : World) : (binOp .neq 33 (.agg (enA y)) (.agg (enA y))).run Try.prog w = .ok (.bool false) w := by
  obtain ⟨b, _, h2, h3⟩ := eq_en y y
  rw [h2 w, h3.2 rfl]; rfl
end Go.Proofs.Ytlcldcbdobgdbaa

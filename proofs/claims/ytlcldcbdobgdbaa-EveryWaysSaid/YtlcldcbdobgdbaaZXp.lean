import Derived.Test.YtlcldcbdobgdbaaZGo
set_option linter.all false
set_option maxRecDepth 100000
namespace Go.Proofs.Ytlcldcbdobgdbaa
open Go Go.RowKit

set_option maxHeartbeats 4000000 in
theorem explore_no {A : Option Addr} {n c : Nat} {P : List (List Ev)} {w : World} (h : Prg w A n P) (hnc : n ≤ c) (hcm : c ≤ maxLen) (h0 : evC P ≠ 0) (v : Value) :
    Calls Try.prog 38 #[.slice A n c, v] w fun e w' => e = .returned (.int .i64 (evC P)) ∧ Below w.heap.size w w' := by
  have HCK := Lib.hid (echeck_any pgcheck_any h hnc hcm)
  have hb : (evC P != 0) = true := by simpa using h0
  clear h hnc hcm h0
  go_enter Try.func38, Try.ntmps38
  go_wp2_with fail
  refine HCK.out.mono ?_
  rintro e1 w1 ⟨rfl, hb1⟩
  go_wp2
  go_ret
  exact ⟨rfl, hb1⟩
theorem map_new (w : World) : MapA (w.alloc (.map #[] 0)) w.heap.size [] := by
  show (w.heap.push (.map #[] 0))[w.heap.size]? = some (.map #[] 0)
  exact Array.getElem?_push_size
set_option maxHeartbeats 4000000 in
theorem explore_yes {σ : Type} {P : List (List Ev)} {W : World} {g : Nat} {cb : Array Value} {vis : σ → List Nat → σ × Bool} {sz : σ → Nat} {St : Nat → World → σ → (Nat → Prop) → Prop} {A : Option Addr} {n c : Nat} {w : World} {s : σ} {O : Nat → Prop}
    (h : Prg W A n P) (hnc : n ≤ c) (hcm : c ≤ maxLen) (h0 : evC P = 0) (hbw : Bel W w) (HV : ∀ M, w.heap.size ≤ M → VisC P W M g cb vis sz (St M)) (hs0 : sz s = 0)
    (hO : ∀ k, O k → W.heap.size ≤ k ∧ k < w.heap.size) (hs : ∀ M w', w.heap.size ≤ M → Bel w w' → St M w' s O) :
    Calls Try.prog 38 #[.slice A n c, .func (.func g) #[] cb] w fun e w' => e = .returned (.int .i64 0) ∧ ∃ M O', w.heap.size ≤ M ∧ St M w' (mdf (kidsW P) (keyW P) vis (totP P + 1) ([], s) []).2 O' ∧ KMO M O w w' := by
  have hok := evC_ok h0
  have h00 := chk_ok.2 hok
  have h10 : totP P ≤ 10 := by
    unfold evC at h0
    rw [if_neg (by omega)] at h0
    by_cases hh : 10 < (P.map (·.length)).sum
    · rw [if_pos hh] at h0; cases h0
    · unfold totP; omega
  have HCK := Lib.hid (echeck_any pgcheck_any (h.bel hbw) hnc hcm)
  have HP := Lib.hid h
  have HC := Lib.hid (And.intro hnc hcm)
  have HVV := Lib.hid HV
  have HO := Lib.hid hO
  have HS := Lib.hid hs
  have HB := Lib.hid hbw
  have H0 := Lib.hid (And.intro h0 (And.intro h00 (And.intro h10 hok)))
  clear h hnc hcm h0 hbw HV hO hs hok h00 h10
  go_enter Try.func38, Try.ntmps38
  go_wp2_with fail
  refine HCK.out.mono ?_
  rw [H0.out.1]
  rintro e1 w1 ⟨rfl, hb1⟩
  have HB1 := Lib.hid (Bel.of hb1)
  have hM : w.heap.size ≤ w1.heap.size := hb1.size
  have HM := Lib.hid hM
  have HMP := Lib.hid (map_new w1)
  have HB2 := Lib.hid ((Bel.refl w1).alloc (.map #[] 0))
  have HB3 := Lib.hid ((Bel.of hb1).alloc (.map #[] 0))
  have HG := Lib.hid (goon_x (HVV.out w1.heap.size hM) HP.out HC.out.1 HC.out.2 (Nat.le_trans HB.out.size hM) H0.out.2.1 H0.out.2.2.1 (totP P + 1) [] s [] O (.slice none 0 0) (w1.alloc (.map #[] 0)) ⟨trivial, by rw [hs0]; have h1 := H0.out.2.2.1; have h2 : (7 : Nat) ^ (totP P + 1) ≤ 7 ^ 11 := Nat.pow_le_pow_right (by omega) (by omega); have h3 : (7 : Nat) ^ 11 = 1977326743 := rfl; omega, fun x hx => by have := vl_tot H0.out.2.2.2 hx; simp at this; omega, HB.out.trans HB3.out, HS.out _ _ hM HB3.out, fun k hk => by
      have h1 := HO.out k hk; have h2 := HB3.out.size; exact ⟨h1.1, by omega, by omega⟩, HMP.out, (fun x hx => by cases hx), World.ownsRow_nil _ _ _ _, (fun k hk => by cases hk)⟩)
  clear hb1 hM
  have hmm := @run_makeMap Try.prog
  go_wp2_with fail
  refine HG.out.mono ?_
  rintro e2 w2 ⟨rfl, O', hst, _, _, _, _, hk⟩
  have HF := Lib.hid (And.intro hst hk)
  clear hst hk hmm
  go_wp2
  go_ret
  exact ⟨rfl, w1.heap.size, O', HM.out, HF.out.1, (KMO.of_bel HB3.out).trans (fun k hk => .inl hk) HF.out.2⟩
end Go.Proofs.Ytlcldcbdobgdbaa

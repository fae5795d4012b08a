import Derived.Test.YticnponenkfneaaZGo
import Derived.IntWalk
import Derived.Test.YticnponenkfneaaZEqInt
import Derived.Test.YticnponenkfneaaZTrace
import Derived.Test.YticnponenkfneaaRows
import Derived.Test.YticnponenkfneaaZAppend
import Derived.Test.YticnponenkfneaaZOr
set_option linter.all false
set_option maxRecDepth 100000
namespace Go.Proofs.Yticnponenkfneaa
open Go Go.RowKit

set_option maxHeartbeats 4000000 in
theorem explore_no {A : Option Addr} {n c : Nat} {P : List (List Ev)} {w : World} (h : Prg w A n P) (hnc : n ≤ c) (hcm : c ≤ maxLen) (h0 : evC P ≠ 0) (v : Value) :
    Calls Try.prog 14 #[.slice A n c, v] w fun e w' => e = .returned (.int .i64 (evC P)) ∧ Below w.heap.size w w' := by
  have HCK := Lib.hid (echeck_any pgcheck_any h hnc hcm)
  have hb : (evC P != 0) = true := by simpa using h0
  clear h hnc hcm h0
  go_enter Try.func14, Try.ntmps14
  go_wp2_with fail
  refine HCK.out.mono ?_
  rintro e1 w1 ⟨rfl, hb1⟩
  go_wp2
  go_ret
  exact ⟨rfl, hb1⟩
theorem map_new (w : World) : MapA (w.alloc (.map #[] 0)) w.heap.size [] := by
  show (w.heap.push (.map #[] 0))[w.heap.size]? = some (.map #[] 0)
  exact Array.getElem?_push_size
set_option maxHeartbeats 4000000 in
theorem explore_yes {σ : Type} {P : List (List Ev)} {W : World} {g : Nat} {cb : Array Value} {vis : σ → List Nat → σ × Bool} {sz : σ → Nat} {St : Nat → World → σ → (Nat → Prop) → Prop} {A : Option Addr} {n c : Nat} {w : World} {s : σ} {O : Nat → Prop}
    (h : Prg W A n P) (hnc : n ≤ c) (hcm : c ≤ maxLen) (h0 : evC P = 0) (hbw : Bel W w) (HV : ∀ M, w.heap.size ≤ M → VisC P W M g cb vis sz (St M)) (hs0 : sz s = 0)
    (hO : ∀ k, O k → W.heap.size ≤ k ∧ k < w.heap.size) (hs : ∀ M w', w.heap.size ≤ M → Bel w w' → St M w' s O) :
    Calls Try.prog 14 #[.slice A n c, .func (.func g) #[] cb] w fun e w' => e = .returned (.int .i64 0) ∧ ∃ M O', w.heap.size ≤ M ∧ St M w' (mdf (kidsW P) (keyW P) vis (totP P + 1) ([], s) []).2 O' ∧ KMO M O w w' := by
  have hok := evC_ok h0
  have h00 := chk_ok.2 hok
  have h10 : totP P ≤ 10 := by
    unfold evC at h0
    rw [if_neg (by omega)] at h0
    by_cases hh : 10 < (P.map (·.length)).sum
    · rw [if_pos hh] at h0; cases h0
    · unfold totP; omega
  have HCK := Lib.hid (echeck_any pgcheck_any (h.bel hbw) hnc hcm)
  have HP := Lib.hid h
  have HC := Lib.hid (And.intro hnc hcm)
  have HVV := Lib.hid HV
  have HO := Lib.hid hO
  have HS := Lib.hid hs
  have HB := Lib.hid hbw
  have H0 := Lib.hid (And.intro h0 (And.intro h00 (And.intro h10 hok)))
  clear h hnc hcm h0 hbw HV hO hs hok h00 h10
  go_enter Try.func14, Try.ntmps14
  go_wp2_with fail
  refine HCK.out.mono ?_
  rw [H0.out.1]
  rintro e1 w1 ⟨rfl, hb1⟩
  have HB1 := Lib.hid (Bel.of hb1)
  have hM : w.heap.size ≤ w1.heap.size := hb1.size
  have HM := Lib.hid hM
  have HMP := Lib.hid (map_new w1)
  have HB2 := Lib.hid ((Bel.refl w1).alloc (.map #[] 0))
  have HB3 := Lib.hid ((Bel.of hb1).alloc (.map #[] 0))
  have HG := Lib.hid (goon_x (HVV.out w1.heap.size hM) HP.out HC.out.1 HC.out.2 (Nat.le_trans HB.out.size hM) H0.out.2.1 H0.out.2.2.1 (totP P + 1) [] s [] O (.slice none 0 0) (w1.alloc (.map #[] 0)) ⟨trivial, by rw [hs0]; have h1 := H0.out.2.2.1; have h2 : (7 : Nat) ^ (totP P + 1) ≤ 7 ^ 11 := Nat.pow_le_pow_right (by omega) (by omega); have h3 : (7 : Nat) ^ 11 = 1977326743 := rfl; omega, fun x hx => by have := vl_tot H0.out.2.2.2 hx; simp at this; omega, HB.out.trans HB3.out, HS.out _ _ hM HB3.out, fun k hk => by
      have h1 := HO.out k hk; have h2 := HB3.out.size; exact ⟨h1.1, by omega, by omega⟩, HMP.out, (fun x hx => by cases hx), World.ownsRow_nil _ _ _ _, (fun k hk => by cases hk)⟩)
  clear hb1 hM
  have hmm := @run_makeMap Try.prog
  go_wp2_with fail
  refine HG.out.mono ?_
  rintro e2 w2 ⟨rfl, O', hst, _, _, _, _, hk⟩
  have HF := Lib.hid (And.intro hst hk)
  clear hst hk hmm
  go_wp2
  go_ret
  exact ⟨rfl, w1.heap.size, O', HM.out, HF.out.1, (KMO.of_bel HB3.out).trans (fun k hk => .inl hk) HF.out.2⟩
end Go.Proofs.Yticnponenkfneaa
set_option linter.all false
set_option maxRecDepth 100000
namespace Go.Proofs.Yticnponenkfneaa
open Go Go.RowKit

def bsl (n : Nat) (g : Nat → Bool) : List Value := (List.range n).map fun j => .bool (g j)
def bs (n : Nat) (g : Nat → Bool) : Array Value := (bsl n g).toArray
theorem bsl_length (n : Nat) (g : Nat → Bool) : (bsl n g).length = n := by simp [bsl]
theorem bs_size (n : Nat) (g : Nat → Bool) : (bs n g).size = n := by simp [bs, bsl]
theorem bsl_get {n : Nat} (g : Nat → Bool) {j : Nat} (hj : j < n) : (bsl n g)[j]? = some (.bool (g j)) := by simp [bsl, hj]
theorem bs_get {n : Nat} (g : Nat → Bool) {j : Nat} (hj : j < n) : (bs n g)[j]? = some (.bool (g j)) := by simpa [bs] using bsl_get g hj
theorem bs_set (n : Nat) (g : Nat → Bool) (j : Nat) (v : Bool) : (bs n g).setIfInBounds j (.bool v) = bs n (updB g j v) := by
  apply Array.ext_getElem?
  intro i
  rw [Array.getElem?_setIfInBounds]
  by_cases hi : i < n
  · by_cases hij : j = i
    · subst hij; rw [if_pos rfl, if_pos (by rw [bs_size]; exact hi), bs_get _ hi]; simp [updB]
    · rw [if_neg hij, bs_get _ hi, bs_get _ hi]
      simp [updB, Ne.symm hij]
  · have h1 : (bs n g)[i]? = none := Array.getElem?_eq_none (by rw [bs_size]; omega)
    have h2 : (bs n (updB g j v))[i]? = none := Array.getElem?_eq_none (by rw [bs_size]; omega)
    rw [h1, h2]
    split
    · rename_i hij; subst hij; simp [bs_size, hi]
    · rfl
theorem Box.part {w : World} {B N : Nat} {g : Nat → Bool} {t : TypeId} (h : Box w B (bs N g) t) (o m : Nat) (hm : o + m ≤ N) : w.rangeAt B o (bsl m fun k => g (o + k)) := fun j v hv => by
  have hj : j < m := by have := (List.getElem?_eq_some_iff.1 hv).1; rwa [bsl_length] at this
  rw [bsl_get _ hj] at hv
  cases hv
  exact h.cell _ (bs_get g (by omega))
theorem part_bool {P : Program} {e : TypeId} (he : P.underlying e = some .bool) (cs : Array Value) (off : Nat) (v : Value) (h : cs[off]? = some v) (w : World) : (part e cs off).run P w = .ok v w := by
  unfold part isAgg
  simp [Sem.run_bind, run_underlying he, h]
theorem index_bs {P : Program} {t e : TypeId} {N : Nat} (hT : P.underlying t = some (.array N e)) (he : P.underlying e = some .bool) (hi : (P.info? e).map (·.size) = some 1) (g : Nat → Bool) (k : Nat) (hk : k < N) (w : World) :
    (Instr.index t (.agg (bs N g)) (.int .i64 k)).run P w = .ok (.bool (g k)) w := by
  cases hq : P.info? e with
  | none => simp [hq] at hi
  | some i =>
    have hs : i.size = 1 := by simpa [hq] using hi
    have := part_bool he (bs N g) k _ (bs_get g hk)
    simp [Instr.index, asIntOf, Sem.run_bind, run_underlying hT, sizeOf, typeInfo, hk, hq, hs, this]
end Go.Proofs.Yticnponenkfneaa
set_option linter.all false
set_option maxRecDepth 100000
namespace Go.Proofs.Yticnponenkfneaa
open Go Go.RowKit

theorem aw_else {a b : Int} (h3 : (b == 3) = false) (h6 : (b == 6) = false) (h7 : (b == 7) = false) : awaited a b = false := by
  simp only [beq_eq_false_iff_ne] at h3 h6 h7
  unfold awaited; rw [if_neg h3, if_neg h6, if_neg h7]
theorem isAwaited_any (a b : Int) (w : World) : Calls Try.prog 116 #[.int .i64 a, .int .i64 b] w fun e w' => e = .returned (.bool (awaited a b)) ∧ w = w' := by
  cases h3 : (b == 3)
  · cases h6 : (b == 6)
    · cases h7 : (b == 7)
      · have HV := Lib.hid (aw_else (a := a) h3 h6 h7)
        go_enter Try.func116, Try.ntmps116
        go_wp2
        go_ret
        exact ⟨by rw [HV.out]; rfl, rfl⟩
      · obtain rfl := eq_of_beq h7
        go_enter Try.func116, Try.ntmps116
        go_wp2
        go_ret
        exact ⟨rfl, rfl⟩
    · obtain rfl := eq_of_beq h6
      go_enter Try.func116, Try.ntmps116
      go_wp2
      go_ret
      exact ⟨rfl, rfl⟩
  · obtain rfl := eq_of_beq h3
    go_enter Try.func116, Try.ntmps116
    go_wp2
    go_ret
    exact ⟨rfl, rfl⟩
set_option maxHeartbeats 4000000 in
theorem precedes_any (a b : Ev) (w : World) : Calls Try.prog 102 #[.agg (evv a), .agg (evv b)] w fun e w' => e = .returned (.bool (directly a b)) ∧ Below w.heap.size w w' := by
  have HD := Lib.hid (directly_eq a b)
  obtain ⟨b1, b2, hB, hs⟩ := boxes2 w (evv a) (evv b) 67 67
  generalize hW : ((w.alloc (.cells (evv a) 67)).alloc (.cells (evv b) 67)) = W at *
  have HB := Lib.hid hB
  clear hB hs
  have c0 := b1.cell 0 (v := .int .i64 a.k) rfl
  have c1 := b1.cell 1 (v := .int .i64 a.t) rfl
  have c2 := b1.cell 2 (v := .int .i64 a.o) rfl
  have d0 := b2.cell 0 (v := .int .i64 b.k) rfl
  have d1 := b2.cell 1 (v := .int .i64 b.t) rfl
  have d2 := b2.cell 2 (v := .int .i64 b.o) rfl
  clear b1 b2
  cases h1 : (a.t == b.t)
  · cases h2 : (a.k == 5)
    · cases h4 : (b.k == 6)
      · cases h6 : (a.o == b.o)
        · go_enter Try.func102, Try.ntmps102
          go_wp2_with (first | (go_at_call 116; (with_reducible refine (isAwaited_any _ _ _).mono ?_); rintro e w' ⟨rfl, rfl⟩))
          go_ret
          exact ⟨by rw [HD.out]; simp [h1, h2, h4, h6], HB.out⟩
        · go_enter Try.func102, Try.ntmps102
          go_wp2_with (first | (go_at_call 116; (with_reducible refine (isAwaited_any _ _ _).mono ?_); rintro e w' ⟨rfl, rfl⟩))
          go_ret
          exact ⟨by rw [HD.out]; simp [h1, h2, h4, h6], HB.out⟩
      · cases h5 : (b.o == a.t)
        · cases h6 : (a.o == b.o)
          · go_enter Try.func102, Try.ntmps102
            go_wp2_with (first | (go_at_call 116; (with_reducible refine (isAwaited_any _ _ _).mono ?_); rintro e w' ⟨rfl, rfl⟩))
            go_ret
            exact ⟨by rw [HD.out]; simp [h1, h2, h4, h5, h6], HB.out⟩
          · go_enter Try.func102, Try.ntmps102
            go_wp2_with (first | (go_at_call 116; (with_reducible refine (isAwaited_any _ _ _).mono ?_); rintro e w' ⟨rfl, rfl⟩))
            go_ret
            exact ⟨by rw [HD.out]; simp [h1, h2, h4, h5, h6], HB.out⟩
        · go_enter Try.func102, Try.ntmps102
          go_wp2_with (first | (go_at_call 116; (with_reducible refine (isAwaited_any _ _ _).mono ?_); rintro e w' ⟨rfl, rfl⟩))
          go_ret
          exact ⟨by rw [HD.out]; simp [h1, h2, h4, h5], HB.out⟩
    · cases h3 : (a.o == b.t)
      · cases h4 : (b.k == 6)
        · cases h6 : (a.o == b.o)
          · go_enter Try.func102, Try.ntmps102
            go_wp2_with (first | (go_at_call 116; (with_reducible refine (isAwaited_any _ _ _).mono ?_); rintro e w' ⟨rfl, rfl⟩))
            go_ret
            exact ⟨by rw [HD.out]; simp [h1, h2, h3, h4, h6], HB.out⟩
          · go_enter Try.func102, Try.ntmps102
            go_wp2_with (first | (go_at_call 116; (with_reducible refine (isAwaited_any _ _ _).mono ?_); rintro e w' ⟨rfl, rfl⟩))
            go_ret
            exact ⟨by rw [HD.out]; simp [h1, h2, h3, h4, h6], HB.out⟩
        · cases h5 : (b.o == a.t)
          · cases h6 : (a.o == b.o)
            · go_enter Try.func102, Try.ntmps102
              go_wp2_with (first | (go_at_call 116; (with_reducible refine (isAwaited_any _ _ _).mono ?_); rintro e w' ⟨rfl, rfl⟩))
              go_ret
              exact ⟨by rw [HD.out]; simp [h1, h2, h3, h4, h5, h6], HB.out⟩
            · go_enter Try.func102, Try.ntmps102
              go_wp2_with (first | (go_at_call 116; (with_reducible refine (isAwaited_any _ _ _).mono ?_); rintro e w' ⟨rfl, rfl⟩))
              go_ret
              exact ⟨by rw [HD.out]; simp [h1, h2, h3, h4, h5, h6], HB.out⟩
          · go_enter Try.func102, Try.ntmps102
            go_wp2_with (first | (go_at_call 116; (with_reducible refine (isAwaited_any _ _ _).mono ?_); rintro e w' ⟨rfl, rfl⟩))
            go_ret
            exact ⟨by rw [HD.out]; simp [h1, h2, h3, h4, h5], HB.out⟩
      · go_enter Try.func102, Try.ntmps102
        go_wp2_with (first | (go_at_call 116; (with_reducible refine (isAwaited_any _ _ _).mono ?_); rintro e w' ⟨rfl, rfl⟩))
        go_ret
        exact ⟨by rw [HD.out]; simp [h1, h2, h3], HB.out⟩
  · go_enter Try.func102, Try.ntmps102
    go_wp2_with (first | (go_at_call 116; (with_reducible refine (isAwaited_any _ _ _).mono ?_); rintro e w' ⟨rfl, rfl⟩))
    go_ret
    exact ⟨by rw [HD.out]; simp [h1], HB.out⟩
end Go.Proofs.Yticnponenkfneaa

import Derived.Test.YtlcldcbdobgdbaaZWv
import Derived.Test.YtlcldcbdobgdbaaZOr
import Derived.RangeFuncBox
import Derived.Test.YtlcldcbdobgdbaaZPp
import Derived.Test.YtlcldcbdobgdbaaZPr
import Derived.Test.YtlcldcbdobgdbaaZEc
import Derived.Test.YtlcldcbdobgdbaaZKeepPg
import Derived.Test.YtlcldcbdobgdbaaZRpG
set_option linter.all false
set_option maxRecDepth 100000
namespace Go.Proofs.Ytlcldcbdobgdbaa
open Go Go.RowKit Go.Shelf

def gz (A : Option Addr) (n c : Nat) : Array Value := #[.slice A n c, .int .i64 0, .int .i64 0, .int .i64 0, .int .i64 0, .int .i64 0, .int .i64 0, .slice none 0 0, .int .i64 0, .int .i64 0, .int .i64 0, .int .i64 0, .int .i64 0, .int .i64 0, .int .i64 0, .int .i64 0, .int .i64 0, .int .i64 0, .int .i64 0, .int .i64 0, .int .i64 0, .int .i64 0, .int .i64 0, .int .i64 0, .int .i64 0, .int .i64 0, .bool false, .bool false, .slice none 0 0]
theorem gz_vs (P : List (List Ev)) (A : Option Addr) (n c : Nat) : vs 29 (gP A n c (goS P ps0 []) (.slice none 0 0) (.slice none 0 0) false false) = gz A n c := by kernel_rfl
theorem walk0_any {σ : Type} {P : List (List Ev)} {W : World} {A : Option Addr} {nP c g : Nat} {cb : Array Value} {vis : σ → List Nat → σ × Bool} {St : World → σ → Prop} {O : Nat → Prop} (HT : TelC P W A nP c g cb vis St O)
    (hP : Prg W A nP P) (hnc : nP ≤ c) (hcm : c ≤ maxLen) (hok : OkP P) (hO : ∀ k, O k → W.heap.size ≤ k) (s : σ) (w : World) (hb : Bel W w) (hs : St w s) (ho : ∀ k, O k → k < w.heap.size) :
    Calls Try.prog 45 #[.agg (gz A nP c), .func (.func g) #[] cb] w (WkPost P vis St O (totP P + 1) s [] w) := by
  rw [← gz_vs P]
  refine walkr_any HT hP hnc hcm hok hO _ s [] _ _ w ⟨trivial, fun x hx => ?_, hb, hs, ho, ⟨none, 0, 0, rfl, ⟨rfl, fun h => absurd h (Nat.lt_irrefl 0)⟩, Nat.le_refl _, Nat.zero_le _⟩, .inl ⟨rfl, rfl⟩, fun X _ => ⟨fun b off n c h => (by cases h), fun b off n c h => (by cases h)⟩⟩
  have := vl_tot hok hx
  rw [List.nil_append] at this
  omega
def RWayPost (w : World) (P : List (List Ev)) (x : Array Value) (e : Ending) (w' : World) : Prop :=
  ∃ v ws b, e = .returned (.tuple #[v, .bool b]) ∧ ((b = true ∧ IsWay P x ws) ∨ (b = false ∧ ¬ IsEnd P x ∧ ws = [])) ∧ SlI w' v (pks ws) ∧ Below w.heap.size w w'
set_option maxHeartbeats 8000000 in
theorem rway_any (A : Option Addr) (n c : Nat) (P : List (List Ev)) (x : Array Value) (w : World) (h : Prg w A n P) (hnc : n ≤ c) (hcm : c ≤ maxLen) (h0 : evC P = 0) (hx : EnF x) : Calls Try.prog 20 #[.slice A n c, .agg x] w (RWayPost w P x) := by
  have hok := evC_ok h0
  have HP := Lib.hid h
  have HC := Lib.hid (And.intro hnc (And.intro hcm hok))
  have HX := Lib.hid hx
  have HMD := Lib.hid (wf_way hok (Nat.le_succ (totP P)) x)
  obtain ⟨hb1, hb2, hb3⟩ := boxes3 w x #[.slice none 0 0] #[.bool false] 33 36 4
  have HB1 := Lib.hid hb1
  have HB2 := Lib.hid hb2
  have HB3 := Lib.hid hb3
  clear h hnc hcm hx hb1 hb2 hb3 hok h0
  go_enter Try.func20, Try.ntmps20
  go_upto_region 3 with fail
  generalize ((w.alloc (.cells x 33)).alloc (.cells #[.slice none 0 0] 36)).alloc (.cells #[.bool false] 4) = w0 at *
  have hbw : Bel w w0 := HB3.out.2.1
  have hsz : w0.heap.size = w.heap.size + 3 := HB3.out.2.2
  have HWK := Lib.hid (walk0_any (wy_tel HP.out HC.out.1 HC.out.2.1 HC.out.2.2 HX.out (FB := w.heap.size + 1 + 1) (EB := w.heap.size) (WB := w.heap.size + 1) (by omega) (by omega) (by omega)) HP.out HC.out.1 HC.out.2.1 HC.out.2.2 (fun k hk => by rcases hk with rfl | rfl <;> omega) none w0 hbw
    ⟨HB3.out.1, HB1.out, ⟨.slice none 0 0, HB2.out, .inl ⟨rfl, rfl⟩, fun b off n c h => (by cases h), fun b off n c h => (by cases h)⟩⟩ (fun k hk => by rcases hk with rfl | rfl <;> omega))
  have HBW := Lib.hid hbw
  have HSZ := Lib.hid hsz
  clear hbw hsz HB1 HB2 HB3
  go_wp2_with fail
  refine HWK.out.mono ?_
  clear HWK
  rintro e1 w1 ⟨rfl, hst, hk⟩
  have HST := Lib.hid hst
  have HBF := Lib.hid (show Bel w w1 from HBW.out.out.trans (hk.below (by have := HSZ.out; omega) (fun k hk => by rcases hk with rfl | rfl <;> omega)))
  generalize (fldS (visW P x) (runW P (totP P + 1) []) none).1 = s at *
  obtain ⟨v, hv, hsl, _⟩ := HST.out.v
  have cv := hv.cell 0 (v := v) rfl
  have cf := HST.out.f.cell 0 (v := .bool s.isSome) rfl
  have HOW := Lib.hid hsl
  clear hst hk hv hsl
  have HFF := Lib.hid (fun (w9 : World) (h9 : Bel w1 w9) => And.intro (h9.cell cf) (h9.cell cv))
  clear cf cv
  go_wp2_with fail
  (refine region_bel (by kernel_rfl) (by kernel_rfl) ?_; (repeat (first | ((with_reducible refine BigFrame.wpQuiet_skip ?_ ?_); exact rfl; simp only [Act.put, Act.eval, List.setIfInBounds_toArray, List.set_cons_zero, List.set_cons_succ, Array.getD_eq_getD_getElem?, List.getElem?_toArray, List.getElem?_cons_zero, List.getElem?_cons_succ, Option.getD_some]) | (refine q_move _ rfl rfl ?_; simp only [Act.put, Act.eval, List.setIfInBounds_toArray, List.set_cons_zero, List.set_cons_succ, Array.getD_eq_getD_getElem?, List.getElem?_toArray, List.getElem?_cons_zero, List.getElem?_cons_succ, Option.getD_some]) | (refine q_assign _ rfl rfl ?_; simp only [Act.put, Act.eval, List.setIfInBounds_toArray, List.set_cons_zero, List.set_cons_succ, Array.getD_eq_getD_getElem?, List.getElem?_toArray, List.getElem?_cons_zero, List.getElem?_cons_succ, Option.getD_some]) | (refine q_any rfl ?_; apply Exists.intro; refine ⟨fun w hw => ?_, ?_⟩; (have fct0 := HFF.out w hw; go_simp; first | exact ⟨rfl, rfl⟩ | rfl); simp only [Act.put, Act.eval, List.setIfInBounds_toArray, List.set_cons_zero, List.set_cons_succ, Array.getD_eq_getD_getElem?, List.getElem?_toArray, List.getElem?_cons_zero, List.getElem?_cons_succ, Option.getD_some]))); refine wpQuiet_nil ?_; intro w2 hw2)
  go_wp2
  go_ret2
  cases s with
  | none => exact ⟨v, [], false, rfl, .inr ⟨rfl, HMD.out.2 (by first | rfl | trivial), rfl⟩, SlI.bel HOW.out hw2, (HBF.out.trans hw2).out⟩
  | some b => exact ⟨v, b, true, rfl, .inl ⟨rfl, HMD.out.1 b (by first | rfl | trivial)⟩, SlI.bel HOW.out hw2, (HBF.out.trans hw2).out⟩
end Go.Proofs.Ytlcldcbdobgdbaa
set_option linter.all false
set_option maxRecDepth 100000
namespace Go.Proofs.Ytlcldcbdobgdbaa
open Go Go.RowKit

def lx : List Nat → List Nat → Prop
  | a :: r, b :: s => a < b ∨ (a = b ∧ lx r s)
  | _, _ => False
end Go.Proofs.Ytlcldcbdobgdbaa
set_option linter.all false
set_option maxRecDepth 100000
namespace Go.Proofs.Ytlcldcbdobgdbaa
open Go Go.RowKit

theorem own_int {w : World} {base : Nat} {t : TypeId} {v : Value} {l : List Int} {n : Nat} (h : w.ownsRow base t 1 v n (intq l)) : SlI w v l := by
  have hl : l.length = n := by have := h.1; simp [intq] at this; omega
  rcases h.2 with ⟨rfl, rfl⟩ | ⟨g, cap, cur, rfl, hg, hh, hn, hc, hs, ht⟩
  · exact .inl ⟨rfl, List.eq_nil_of_length_eq_zero hl⟩
  · have hb : Box w g cur t := hh
    refine .inr ⟨g, 0, n, cap, rfl, hl, by omega, fun i hi => ?_⟩
    rw [Nat.zero_add]
    refine hb.cell i ?_
    have h9 : (intq l)[i]? = some (.int .i64 (l[i]?.getD 0)) := by
      unfold intq
      rw [List.getElem?_map, List.getElem?_eq_getElem (by omega)]; rfl
    rw [← ht, List.getElem?_take] at h9
    split at h9
    · simpa using h9
    · cases h9
end Go.Proofs.Ytlcldcbdobgdbaa
set_option linter.all false
set_option maxRecDepth 100000
namespace Go.Proofs.Ytlcldcbdobgdbaa
open Go Go.ChangeShapes Go.WideShapes Go.ChangeAt Go.RowKit Go.Deep

theorem take_one_at {C : List Value} {i : Nat} {v : Value} (h : (C.drop i).take 1 = [v]) : C[i]? = some v := by
  have h1 : ((C.drop i).take 1)[0]? = some v := by rw [h]; rfl
  rwa [List.getElem?_take_of_lt (by omega), List.getElem?_drop, Nat.add_zero] at h1
section
variable {H : Type} {enc : TypeId × Value → H} {P : Program} {w : World} {base : Nat} {spare : Nat → Bool} {held : Bool}
theorem arr_ints {T E : TypeId} {N : Nat} (hT : P.underlying T = some (.array N E)) (he : P.underlying E = some (.int .i64)) (hce : P.cellsOf E = 1) {fuel : Nat} {C : List Value} {x : DataW H × List MemPlace} (h : DataW.trod enc P w base spare held fuel T C = some x) : ∀ i, i < N → ∃ n, C[i]? = some (.int .i64 n) := fun i hi => by
  obtain ⟨xs, m, rfl, _, _, hl, hx⟩ := DataW.trod_array hT h
  have h1 := hx i hi
  rw [hce, Nat.mul_one, List.getElem?_eq_getElem (by omega)] at h1
  obtain ⟨n, hn, _, _⟩ := DataW.trod_int he h1
  exact ⟨n, take_one_at hn⟩
end
def gInt (L : List Value) (i : Nat) : Int := vInt (L[i]?.getD undef)
theorem gInt_at {L : List Value} {i : Nat} (h : ∃ n, L[i]? = some (.int .i64 n)) : L[i]? = some (.int .i64 (gInt L i)) := by
  obtain ⟨n, hn⟩ := h
  rw [hn]
  unfold gInt
  rw [hn]
  rfl
theorem end_of {L : List Value} (hl : L.length = 20) (h1 : ∀ i, i < 8 → ∃ n, L[i]? = some (.int .i64 n)) (h2 : ∀ i, i < 4 → ∃ n, L[8 + i]? = some (.int .i64 n)) (h3 : ∀ i, i < 6 → ∃ n, L[12 + i]? = some (.int .i64 n))
    {d k : Bool} (h4 : L[18]? = some (.bool d)) (h5 : L[19]? = some (.bool k)) : L = endc (gInt L) (fun i => gInt L (8 + i)) (fun i => gInt L (12 + i)) d k := by
  have e : (endc (gInt L) (fun i => gInt L (8 + i)) (fun i => gInt L (12 + i)) d k).length = 20 := rfl
  refine List.ext_getElem? fun i => ?_
  rcases Nat.lt_or_ge i 20 with hi | hi
  · have hc : (endc (gInt L) (fun i => gInt L (8 + i)) (fun i => gInt L (12 + i)) d k)[i]? = some (endF (gInt L) (fun i => gInt L (8 + i)) (fun i => gInt L (12 + i)) d k i) := by
      have := vs_get (n := 20) (endF (gInt L) (fun i => gInt L (8 + i)) (fun i => gInt L (12 + i)) d k) hi
      rw [end_vs] at this
      simpa using this
    rw [hc]
    unfold endF
    rcases Nat.lt_or_ge i 8 with g | g
    · rw [if_pos g]; exact gInt_at (h1 i g)
    · rw [if_neg (by omega)]
      rcases Nat.lt_or_ge i 12 with g2 | g2
      · rw [if_pos g2]
        have := gInt_at (h2 (i - 8) (by omega))
        show L[i]? = some (.int .i64 (gInt L (8 + (i - 8))))
        rwa [show 8 + (i - 8) = i by omega] at this ⊢
      · rw [if_neg (by omega)]
        rcases Nat.lt_or_ge i 18 with g3 | g3
        · rw [if_pos g3]
          have := gInt_at (h3 (i - 12) (by omega))
          show L[i]? = some (.int .i64 (gInt L (12 + (i - 12))))
          rwa [show 12 + (i - 12) = i by omega] at this ⊢
        · rw [if_neg (by omega)]
          rcases (by omega : i = 18 ∨ i = 19) with rfl | rfl
          · rw [if_pos rfl]; exact h4
          · rw [if_neg (by omega)]; exact h5
  · rw [List.getElem?_eq_none (by omega), List.getElem?_eq_none (by rw [e]; omega)]
theorem sub_at {L : List Value} {o N i : Nat} (hi : i < N) : ((L.drop o).take N)[i]? = L[o + i]? := by rw [List.getElem?_take_of_lt hi, List.getElem?_drop]
theorem cells_e : Try.prog.cellsOf 29 = 8 ∧ Try.prog.cellsOf 30 = 4 ∧ Try.prog.cellsOf 31 = 6 ∧ Try.prog.cellsOf 4 = 1 ∧ Try.prog.cellsOf 3 = 1 ∧ Try.prog.cellsOf 33 = 20 := ⟨by kernel_rfl, by kernel_rfl, by kernel_rfl, by kernel_rfl, by kernel_rfl, by kernel_rfl⟩
theorem open_end {H : Type} {enc : TypeId × Value → H} {w : World} {base : Nat} {spare : Nat → Bool} {held : Bool} {r : Reach} {b0 : Nat} {v : Value} {d : DataW H} {ps : List MemPlace} (hval : Value.okWide Try.prog w r b0 33 v) (hd : DataW.Trod enc Try.prog w base spare held 33 v d ps) : ∃ x, v = .agg x ∧ EnF x := by
  obtain ⟨e8, e4, e6, eb, ei, ee⟩ := cells_e
  simp only [Value.okWide, Try.underlying33] at hval
  obtain ⟨cs, rfl, hs, _⟩ := hval
  obtain ⟨fuel, hf⟩ := hd
  obtain ⟨xs, n, rfl, _, hl, hlen, hfl⟩ := DataW.trod_struct Try.underlying33 hf
  obtain ⟨L⟩ := cs
  have hx5 : xs.length = 5 := hlen
  have hL : L.length = 20 := by rw [← ee]; exact hl
  have f0 : DataW.trod enc Try.prog w base spare held n 29 ((L.drop 0).take (Try.prog.cellsOf 29)) = xs[0]? := hfl 0 _ rfl
  have f1 : DataW.trod enc Try.prog w base spare held n 30 ((L.drop 8).take (Try.prog.cellsOf 30)) = xs[1]? := hfl 1 _ rfl
  have f2 : DataW.trod enc Try.prog w base spare held n 31 ((L.drop 12).take (Try.prog.cellsOf 31)) = xs[2]? := hfl 2 _ rfl
  have f3 : DataW.trod enc Try.prog w base spare held n 4 ((L.drop 18).take (Try.prog.cellsOf 4)) = xs[3]? := hfl 3 _ rfl
  have f4 : DataW.trod enc Try.prog w base spare held n 4 ((L.drop 19).take (Try.prog.cellsOf 4)) = xs[4]? := hfl 4 _ rfl
  rw [List.getElem?_eq_getElem (by omega)] at f0 f1 f2 f3 f4
  rw [e8] at f0; rw [e4] at f1; rw [e6] at f2; rw [eb] at f3 f4
  obtain ⟨b3, h3, _⟩ := DataW.trod_bool Try.underlying4 f3
  obtain ⟨b4, h4, _⟩ := DataW.trod_bool Try.underlying4 f4
  refine ⟨_, rfl, gInt L, fun i => gInt L (8 + i), fun i => gInt L (12 + i), b3, b4, ?_⟩
  congr 1
  refine end_of hL (fun i hi => ?_) (fun i hi => ?_) (fun i hi => ?_) (take_one_at h3) (take_one_at h4)
  · obtain ⟨m, hm⟩ := arr_ints Try.underlying29 Try.underlying3 ei f0 i hi
    rw [sub_at hi, Nat.zero_add] at hm
    exact ⟨m, hm⟩
  · obtain ⟨m, hm⟩ := arr_ints Try.underlying30 Try.underlying3 ei f1 i hi
    rw [sub_at hi] at hm
    exact ⟨m, hm⟩
  · obtain ⟨m, hm⟩ := arr_ints Try.underlying31 Try.underlying3 ei f2 i hi
    rw [sub_at hi] at hm
    exact ⟨m, hm⟩
end Go.Proofs.Ytlcldcbdobgdbaa

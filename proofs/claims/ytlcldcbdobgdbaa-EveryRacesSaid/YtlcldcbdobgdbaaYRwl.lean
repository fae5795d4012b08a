import Derived.Test.YtlcldcbdobgdbaaYWv
import Derived.Test.YtlcldcbdobgdbaaYTr
import Derived.RangeFuncBox
import Derived.Test.YtlcldcbdobgdbaaYPp
import Derived.Test.YtlcldcbdobgdbaaYKeepTw
import Derived.Test.YtlcldcbdobgdbaaYCi
set_option linter.all false
set_option maxRecDepth 100000
namespace Go.Proofs.Ytlcldcbdobgdbaa
open Go Go.RowKit Go.Shelf

def gz (A : Option Addr) (n c : Nat) : Array Value := #[.slice A n c, .int .i64 0, .int .i64 0, .int .i64 0, .int .i64 0, .int .i64 0, .int .i64 0, .slice none 0 0, .int .i64 0, .int .i64 0, .int .i64 0, .int .i64 0, .int .i64 0, .int .i64 0, .int .i64 0, .int .i64 0, .int .i64 0, .int .i64 0, .int .i64 0, .int .i64 0, .int .i64 0, .int .i64 0, .int .i64 0, .int .i64 0, .int .i64 0, .int .i64 0, .bool false, .bool false, .slice none 0 0]
theorem gz_vs (P : List (List Ev)) (A : Option Addr) (n c : Nat) : vs 29 (gP A n c (goS P ps0 []) (.slice none 0 0) (.slice none 0 0) false false) = gz A n c := by kernel_rfl
theorem walk0_any {σ : Type} {P : List (List Ev)} {W : World} {A : Option Addr} {nP c g : Nat} {cb : Array Value} {vis : σ → List Nat → σ × Bool} {St : World → σ → Prop} {O : Nat → Prop} (HT : TelC P W A nP c g cb vis St O)
    (hP : Prg W A nP P) (hnc : nP ≤ c) (hcm : c ≤ maxLen) (hok : OkP P) (hO : ∀ k, O k → W.heap.size ≤ k) (s : σ) (w : World) (hb : Bel W w) (hs : St w s) (ho : ∀ k, O k → k < w.heap.size) :
    Calls Try.prog 45 #[.agg (gz A nP c), .func (.func g) #[] cb] w (WkPost P vis St O (totP P + 1) s [] w) := by
  rw [← gz_vs P]
  refine walkr_any HT hP hnc hcm hok hO _ s [] _ _ w ⟨trivial, fun x hx => ?_, hb, hs, ho, ⟨none, 0, 0, rfl, ⟨rfl, fun h => absurd h (Nat.lt_irrefl 0)⟩, Nat.le_refl _, Nat.zero_le _⟩, .inl ⟨rfl, rfl⟩, fun X _ => ⟨fun b off n c h => (by cases h), fun b off n c h => (by cases h)⟩⟩
  have := vl_tot hok hx
  rw [List.nil_append] at this
  omega
def RRacesPost (w : World) (P : List (List Ev)) (e : Ending) (w' : World) : Prop :=
  ∃ v ws b, e = .returned (.tuple #[.bool b, v]) ∧ ((b = true ∧ IsBest P ws) ∨ (b = false ∧ ws = [] ∧ ∀ ts, rcs (runP P ts).L = [])) ∧ SlI w' v (pks ws) ∧ Below w.heap.size w w'
set_option maxHeartbeats 8000000 in
theorem rraces_any (A : Option Addr) (n c : Nat) (P : List (List Ev)) (w : World) (h : Prg w A n P) (hnc : n ≤ c) (hcm : c ≤ maxLen) (h0 : evC P = 0) : Calls Try.prog 23 #[.slice A n c] w (RRacesPost w P) := by
  have hok := evC_ok h0
  have HP := Lib.hid h
  have HC := Lib.hid (And.intro hnc (And.intro hcm hok))
  have HMD := Lib.hid (wf_races hok (Nat.le_succ (totP P)))
  obtain ⟨hb1, hb2, hb3⟩ := boxes2 w #[.slice none 0 0] #[.bool false] 36 4
  have HB1 := Lib.hid hb1
  have HB2 := Lib.hid hb2
  have HB3 := Lib.hid hb3
  clear h hnc hcm hb1 hb2 hb3 hok h0
  go_enter Try.func23, Try.ntmps23
  go_upto_region 3 with fail
  generalize (w.alloc (.cells #[.slice none 0 0] 36)).alloc (.cells #[.bool false] 4) = w0 at *
  have hbw : Bel w w0 := HB3.out.1
  have hsz : w0.heap.size = w.heap.size + 2 := HB3.out.2
  have HWK := Lib.hid (walk0_any (rq_tel (W := w) (A := A) (nP := n) (c := c) HC.out.2.2 (FB := w.heap.size + 1) (SB := w.heap.size) (by omega)) HP.out HC.out.1 HC.out.2.1 HC.out.2.2 (fun k hk => by rcases hk with rfl | rfl <;> omega) none w0 hbw
    ⟨HB2.out, ⟨.slice none 0 0, HB1.out, .inl ⟨rfl, rfl⟩, fun b off n c h => (by cases h), fun b off n c h => (by cases h)⟩⟩ (fun k hk => by rcases hk with rfl | rfl <;> omega))
  have HBW := Lib.hid hbw
  have HSZ := Lib.hid hsz
  clear hbw hsz HB1 HB2 HB3
  go_wp2_with fail
  refine HWK.out.mono ?_
  clear HWK
  rintro e1 w1 ⟨rfl, hst, hk⟩
  have HST := Lib.hid hst
  have HBF := Lib.hid (show Bel w w1 from HBW.out.out.trans (hk.below (by have := HSZ.out; omega) (fun k hk => by rcases hk with rfl | rfl <;> omega)))
  generalize (fldS (visQ P) (runW P (totP P + 1) []) none).1 = s at *
  obtain ⟨v, hv, hsl, _⟩ := HST.out.v
  have cv := hv.cell 0 (v := v) rfl
  have cf := HST.out.f.cell 0 (v := .bool s.isSome) rfl
  have HOW := Lib.hid hsl
  clear hst hk hv hsl
  have HFF := Lib.hid (fun (w9 : World) (h9 : Bel w1 w9) => And.intro (h9.cell cf) (h9.cell cv))
  clear cf cv
  go_wp2_with fail
  (refine region_bel (by kernel_rfl) (by kernel_rfl) ?_; (repeat (first | ((with_reducible refine BigFrame.wpQuiet_skip ?_ ?_); exact rfl; simp only [Act.put, Act.eval, List.setIfInBounds_toArray, List.set_cons_zero, List.set_cons_succ, Array.getD_eq_getD_getElem?, List.getElem?_toArray, List.getElem?_cons_zero, List.getElem?_cons_succ, Option.getD_some]) | (refine q_move _ rfl rfl ?_; simp only [Act.put, Act.eval, List.setIfInBounds_toArray, List.set_cons_zero, List.set_cons_succ, Array.getD_eq_getD_getElem?, List.getElem?_toArray, List.getElem?_cons_zero, List.getElem?_cons_succ, Option.getD_some]) | (refine q_assign _ rfl rfl ?_; simp only [Act.put, Act.eval, List.setIfInBounds_toArray, List.set_cons_zero, List.set_cons_succ, Array.getD_eq_getD_getElem?, List.getElem?_toArray, List.getElem?_cons_zero, List.getElem?_cons_succ, Option.getD_some]) | (refine q_any rfl ?_; apply Exists.intro; refine ⟨fun w hw => ?_, ?_⟩; (have fct0 := HFF.out w hw; go_simp; first | exact ⟨rfl, rfl⟩ | rfl); simp only [Act.put, Act.eval, List.setIfInBounds_toArray, List.set_cons_zero, List.set_cons_succ, Array.getD_eq_getD_getElem?, List.getElem?_toArray, List.getElem?_cons_zero, List.getElem?_cons_succ, Option.getD_some]))); refine wpQuiet_nil ?_; intro w2 hw2)
  go_wp2
  go_ret2
  cases s with
  | none => exact ⟨v, [], false, rfl, .inr ⟨rfl, rfl, HMD.out.2 (by first | rfl | trivial)⟩, SlI.bel HOW.out hw2, (HBF.out.trans hw2).out⟩
  | some b => exact ⟨v, b, true, rfl, .inl ⟨rfl, HMD.out.1 b (by first | rfl | trivial)⟩, SlI.bel HOW.out hw2, (HBF.out.trans hw2).out⟩
end Go.Proofs.Ytlcldcbdobgdbaa
set_option linter.all false
set_option maxRecDepth 100000
namespace Go.Proofs.Ytlcldcbdobgdbaa
open Go Go.RowKit

def lx : List Nat → List Nat → Prop
  | a :: r, b :: s => a < b ∨ (a = b ∧ lx r s)
  | _, _ => False
end Go.Proofs.Ytlcldcbdobgdbaa
set_option linter.all false
set_option maxRecDepth 100000
namespace Go.Proofs.Ytlcldcbdobgdbaa
open Go Go.RowKit

theorem own_int {w : World} {base : Nat} {t : TypeId} {v : Value} {l : List Int} {n : Nat} (h : w.ownsRow base t 1 v n (intq l)) : SlI w v l := by
  have hl : l.length = n := by have := h.1; simp [intq] at this; omega
  rcases h.2 with ⟨rfl, rfl⟩ | ⟨g, cap, cur, rfl, hg, hh, hn, hc, hs, ht⟩
  · exact .inl ⟨rfl, List.eq_nil_of_length_eq_zero hl⟩
  · have hb : Box w g cur t := hh
    refine .inr ⟨g, 0, n, cap, rfl, hl, by omega, fun i hi => ?_⟩
    rw [Nat.zero_add]
    refine hb.cell i ?_
    have h9 : (intq l)[i]? = some (.int .i64 (l[i]?.getD 0)) := by
      unfold intq
      rw [List.getElem?_map, List.getElem?_eq_getElem (by omega)]; rfl
    rw [← ht, List.getElem?_take] at h9
    split at h9
    · simpa using h9
    · cases h9
end Go.Proofs.Ytlcldcbdobgdbaa

/- Plain facts and rows for FastVars. -/
import Derived.Test.YteihildhlcggoaaFs
import Derived.Test.YteihildhlcggoaaSec
import Derived.Test.YteihildhlcggoaaEqFl
set_option linter.all false
set_option maxRecDepth 100000
namespace Go.Proofs.Yteihildhlcggoaa
open Go Go.RowKit

theorem vown_two {w w' : World} {b1 b2 : Nat} {e1 e2 : TypeId} {s1 s2 n1 n2 : Nat} {v1 v2 v1' : Value} {x1 x2 : List Value} (h1 : w.ownsRow b1 e1 s1 v1 n1 x1) (h2 : w.ownsRow b2 e2 s2 v2 n2 x2) (ap : ∀ g, v1.ownBlock = some g → v2.ownBlock ≠ some g)
    (hg : w.grownBy w' v1.ownBlock) (hat : v1'.ownBlock = v1.ownBlock ∨ v1'.ownBlock = some w.heap.size) : w'.ownsRow b2 e2 s2 v2 n2 x2 ∧ (∀ g, v1'.ownBlock = some g → v2.ownBlock ≠ some g) := by
  refine ⟨own_keep h2 fun g hv hlt => hg.block g hlt fun e => ap g e.symm hv, fun g hv hv2 => ?_⟩
  rcases hat with h | h
  · exact ap g (h ▸ hv) hv2
  · rw [h] at hv; have := Option.some.inj hv; have := (own_lt h2 hv2).2; omega
/-- The places that are kept, as numbers. -/
def atI (x : Nat) (l : List Ev) (k : Nat) : List Int := (atK (varF x) l k).map fun (i : Nat) => (i : Int)
theorem atI_yes {x : Nat} {l : List Ev} {k : Nat} (h : varF x (eZ l k) = true) : atI x l (k + 1) = atI x l k ++ [(k : Int)] := by
  unfold atI atK
  rw [List.range_succ, List.filter_append, List.map_append]
  simp [h]
theorem atI_no {x : Nat} {l : List Ev} {k : Nat} (h : varF x (eZ l k) = false) : atI x l (k + 1) = atI x l k := by
  unfold atI atK
  rw [List.range_succ, List.filter_append, List.map_append]
  simp [h]
theorem vfilter_yes {p : Ev → Bool} {l : List Ev} {i : Nat} {e : Ev} (h : l[i]? = some e) (hp : p e = true) : (l.take (i + 1)).filter p = (l.take i).filter p ++ [e] := by
  rw [take_snoc' h, List.filter_append]; simp [hp]
theorem vfilter_no {p : Ev → Bool} {l : List Ev} {i : Nat} {e : Ev} (h : l[i]? = some e) (hp : p e = false) : (l.take (i + 1)).filter p = (l.take i).filter p := by
  rw [take_snoc' h, List.filter_append]; simp [hp]
theorem vfilter_len (p : Ev → Bool) (l : List Ev) (i : Nat) : ((l.take i).filter p).length ≤ i := Nat.le_trans (List.length_filter_le _ _) (by rw [List.length_take]; omega)
theorem atI_len {x : Nat} {l : List Ev} {k : Nat} (hk : k ≤ l.length) : (atI x l k).length = ((l.take k).filter (varF x)).length := by
  unfold atI; rw [List.length_map, atK_len k hk]; rfl
structure VaR (w : World) (L1 : List Ev) (L2 : List Int) (v1 v2 : Value) (wr : World) : Prop where
  own1 : wr.ownsRow w.heap.size 50 3 v1 L1.length (evc L1)
  own2 : wr.ownsRow w.heap.size 3 1 v2 L2.length (intv L2)
  apart : ∀ g, v1.ownBlock = some g → v2.ownBlock ≠ some g
  below : Bel w wr
section
variable {w wr w' : World} {L1 : List Ev} {L2 : List Int} {v1 v2 v : Value}
theorem VaR.bel (h : VaR w L1 L2 v1 v2 wr) (hb : Bel wr w') : VaR w L1 L2 v1 v2 w' := ⟨own_bel h.own1 hb, own_bel h.own2 hb, h.apart, h.below.trans hb⟩
theorem VaR.add1 {e : Ev} (h : VaR w L1 L2 v1 v2 wr) (hg : wr.grownBy w' v1.ownBlock) (hat : v.ownBlock = v1.ownBlock ∨ v.ownBlock = some wr.heap.size)
    (ho : w'.ownsRow w.heap.size 50 3 v (L1.length + 1) (evc L1 ++ evl e)) : VaR w (L1 ++ [e]) L2 v v2 w' := by
  obtain ⟨h2, hap⟩ := vown_two h.own1 h.own2 h.apart hg hat
  refine ⟨?_, h2, hap, Bel.of (h.below.out.grown hg h.below.size (own_block_ge h.own1))⟩
  rw [List.length_append, evc_append]; exact ho
theorem VaR.add2 {y : Int} (h : VaR w L1 L2 v1 v2 wr) (hg : wr.grownBy w' v2.ownBlock) (hat : v.ownBlock = v2.ownBlock ∨ v.ownBlock = some wr.heap.size)
    (ho : w'.ownsRow w.heap.size 3 1 v (L2.length + 1) (intv L2 ++ [.int .i64 y])) : VaR w L1 (L2 ++ [y]) v1 v w' := by
  obtain ⟨h2, hap⟩ := vown_two h.own2 h.own1 (fun g hv hv2 => h.apart g hv2 hv) hg hat
  refine ⟨h2, ?_, fun g hv hv2 => hap g hv2 hv, Bel.of (h.below.out.grown hg h.below.size (own_block_ge h.own2))⟩
  rw [List.length_append, intv_app]; exact ho
end
/-- A row of flags of which the first k have their places told anew. -/
def mapTo (at_ : List Nat) (fb : List Ev) (k : Nat) : List Ev := (fb.take k).map (reAt at_) ++ fb.drop k
theorem mapTo_zero (at_ : List Nat) (fb : List Ev) : mapTo at_ fb 0 = fb := by simp [mapTo]
theorem mapTo_all (at_ : List Nat) {fb : List Ev} {n : Nat} (h : fb.length = n) : mapTo at_ fb n = fb.map (reAt at_) := by subst h; simp [mapTo]
theorem mapTo_len (at_ : List Nat) (fb : List Ev) (k : Nat) : (mapTo at_ fb k).length = fb.length := by
  unfold mapTo; rw [List.length_append, List.length_map, List.length_take, List.length_drop]; omega
theorem mapTo_at {at_ : List Nat} {fb : List Ev} {k : Nat} {e : Ev} (he : fb[k]? = some e) : (mapTo at_ fb k)[k]? = some e := by
  have hk := (List.getElem?_eq_some_iff.1 he).1
  unfold mapTo
  rw [List.getElem?_append_right (by rw [List.length_map, List.length_take]; omega), List.length_map, List.length_take, List.getElem?_drop]
  rw [show k + (k - min k fb.length) = k by omega]; exact he
theorem mapTo_step {at_ : List Nat} {fb : List Ev} {k : Nat} {e : Ev} (he : fb[k]? = some e) : mapTo at_ fb (k + 1) = (mapTo at_ fb k).set k (reAt at_ e) := by
  have hk := (List.getElem?_eq_some_iff.1 he)
  have hk1 : k < fb.length := hk.1
  apply List.ext_getElem?
  intro j
  have hl1 : ((fb.take (k + 1)).map (reAt at_)).length = k + 1 := by rw [List.length_map, List.length_take]; omega
  have hl0 : ((fb.take k).map (reAt at_)).length = k := by rw [List.length_map, List.length_take]; omega
  rw [List.getElem?_set, mapTo_len]
  unfold mapTo
  by_cases h1 : j < k
  · rw [if_neg (by omega), List.getElem?_append_left (by omega), List.getElem?_append_left (by omega), List.getElem?_map, List.getElem?_map, List.getElem?_take, List.getElem?_take, if_pos (by omega), if_pos (by omega)]
  · by_cases h2 : j = k
    · subst h2
      rw [if_pos rfl, if_pos hk.1, List.getElem?_append_left (by omega), List.getElem?_map, List.getElem?_take, if_pos (by omega), he]; rfl
    · rw [if_neg (by omega), List.getElem?_append_right (by omega), List.getElem?_append_right (by omega), hl1, hl0, List.getElem?_drop, List.getElem?_drop]
      congr 1; omega
theorem evc_set : ∀ (L : List Ev) (k : Nat) (e : Ev), L[k]? = some e → ∀ a : Int, (evc L).set (k * 3) (.int .i64 a) = evc (L.set k ⟨a, e.t, e.o⟩)
  | [], k, e, h, a => by simp at h
  | f :: L, 0, e, h, a => by simp at h; subst h; rfl
  | f :: L, k + 1, e, h, a => by
    have ih := evc_set L k e (by simpa using h) a
    rw [show (k + 1) * 3 = k * 3 + 1 + 1 + 1 by omega]
    show Value.int .i64 f.k :: Value.int .i64 f.t :: Value.int .i64 f.o :: (evc L).set (k * 3) (.int .i64 a) = _
    rw [ih]; rfl
/-- The row's block. -/
structure MaR (w : World) (g nb : Nat) (at_ : List Nat) (fb : List Ev) (k : Nat) (wr : World) : Prop where
  box : ∃ cur, Box wr g cur 33 ∧ cur.toList.take (nb * 3) = evc (mapTo at_ fb k)
  chg : w.grownBy wr (some g)
theorem MaR.cell {w : World} {g nb : Nat} {at_ : List Nat} {fb : List Ev} {k : Nat} {wr : World} (h : MaR w g nb at_ fb k wr) {e : Ev} (he : fb[k]? = some e) : wr.cell? ⟨g, k * 3, none⟩ = some (.int .i64 e.k) ∧ wr.frozen? ⟨g, k * 3, none⟩ = false := by
  obtain ⟨cur, hb, ht⟩ := h.box
  refine ⟨hb.cell _ ?_, hb.frozen _⟩
  have h1 := (evc_get _ _ _ (mapTo_at (at_ := at_) he)).1
  rw [← ht, List.getElem?_take] at h1
  split at h1
  · simpa using h1
  · cases h1
theorem MaR.step {w : World} {g nb : Nat} {at_ : List Nat} {fb : List Ev} {k : Nat} {wr : World} (h : MaR w g nb at_ fb k wr) {e : Ev} (he : fb[k]? = some e) {a : Int} (ha : a = ((at_[e.k.toNat]?).getD 0 : Nat)) : MaR w g nb at_ fb (k + 1) (wr.setCell ⟨g, k * 3, none⟩ (.int .i64 a)) := by
  obtain ⟨cur, hb, ht⟩ := h.box
  refine ⟨⟨_, hb.set (k * 3) (.int .i64 a), ?_⟩, h.chg.trans ⟨rfl, rfl, rfl, by simp [World.setCell], fun j _ hne => heap_setCell_other wr _ j _ (fun e => hne (by rw [e]))⟩⟩
  rw [Array.toList_setIfInBounds, List.take_set, ht, evc_set _ _ e (mapTo_at he), mapTo_step he]
  subst ha; rfl
theorem MaR.sl {w : World} {g nb : Nat} {at_ : List Nat} {fb : List Ev} {wr : World} (hn : fb.length = nb) (h : MaR w g nb at_ fb nb wr) : Sl wr (some ⟨g, 0, none⟩) nb (fb.map (reAt at_)) := by
  obtain ⟨cur, hb, ht⟩ := h.box
  rw [mapTo_all at_ hn] at ht
  refine ⟨by rw [List.length_map]; exact hn, fun _ => ⟨g, 0, rfl, hb.lt, fun j v hv => ?_⟩⟩
  rw [Nat.zero_add]
  refine hb.cell j ?_
  rw [← ht, List.getElem?_take] at hv
  split at hv
  · simpa using hv
  · cases hv
end Go.Proofs.Yteihildhlcggoaa

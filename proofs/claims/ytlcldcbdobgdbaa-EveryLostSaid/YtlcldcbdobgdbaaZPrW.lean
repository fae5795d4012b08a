import Derived.Laws.OwnMore
import Derived.Deep.DeepCutAuto
import Derived.Test.YtlcldcbdobgdbaaZPp
import Derived.Test.YtlcldcbdobgdbaaZKeepTw
import Derived.Test.YtlcldcbdobgdbaaZCp
import Derived.Test.YtlcldcbdobgdbaaZEc
import Derived.Test.YtlcldcbdobgdbaaZRpG
import Derived.Test.YtlcldcbdobgdbaaZRest
import Derived.Test.YtlcldcbdobgdbaaZEv
import Derived.Test.YtlcldcbdobgdbaaZGg
set_option linter.all false
set_option maxRecDepth 100000
namespace Go.Proofs.Ytlcldcbdobgdbaa
open Go Go.RowKit

theorem opr_info : (Try.prog.info? 57).map (fun i => (i.zero, i.size, i.bytes)) = some (some (.slice none 0 0), 1, 24) := by kernel_rfl
theorem opx_info : (Try.prog.info? 59).map (fun i => (i.zero, i.size, i.bytes)) = some (some (.agg #[.int .i64 0, .int .i64 0, .int .i64 0]), 3, 24) := by kernel_rfl
def updL (g : Nat → List Ev) (j : Nat) (v : List Ev) : Nat → List Ev := fun i => if i = j then v else g i
structure PrW (N k : Nat) (L : Nat → List Ev) (r : Nat → Value) (v : Value) (w : World) : Prop where
  own : w.ownsRow N 57 1 v k ((List.range k).map r)
  rows : ∀ j, j < k → w.ownsRow N 59 3 (r j) (L j).length (evc (L j))
  apart : ∀ i j, i < k → j < k → i ≠ j → ∀ g, (r i).ownBlock = some g → (r j).ownBlock ≠ some g
  top : ∀ j, j < k → ∀ g, (r j).ownBlock = some g → v.ownBlock ≠ some g
theorem PrW.bel {N k : Nat} {L : Nat → List Ev} {r : Nat → Value} {v : Value} {w w' : World} (h : PrW N k L r v w) (hb : Bel w w') : PrW N k L r v w' :=
  ⟨own_bel h.own hb, fun j hj => own_bel (h.rows j hj) hb, h.apart, h.top⟩
theorem PrW.congr {N k : Nat} {L L' : Nat → List Ev} {r : Nat → Value} {v : Value} {w : World} (h : PrW N k L r v w) (hL : ∀ j, j < k → L j = L' j) : PrW N k L' r v w :=
  ⟨h.own, fun j hj => by rw [← hL j hj]; exact h.rows j hj, h.apart, h.top⟩
theorem PrW.form {N k : Nat} {L : Nat → List Ev} {r : Nat → Value} {v : Value} {w : World} (h : PrW N k L r v w) (hk : 0 < k) : ∃ g cap, v = .slice (some ⟨g, 0, none⟩) k cap ∧ N ≤ g ∧ g < w.heap.size ∧ k ≤ cap ∧ cap ≤ maxLen := by
  rcases h.own.2 with ⟨_, rfl⟩ | ⟨g, cap, cur, rfl, hg, hb, hn, hc, _⟩
  · omega
  · exact ⟨g, cap, rfl, hg, Box.lt (w := w) (c := cur) (t := 57) hb, hn, hc⟩
theorem range_map_set (k : Nat) (r : Nat → Value) (s : Nat) (v : Value) : ((List.range k).map r).set s v = (List.range k).map (updC r s v) := by
  apply List.ext_getElem?
  intro j
  rw [List.getElem?_set, List.length_map, List.length_range]
  by_cases hj : j < k
  · rw [List.getElem?_map, List.getElem?_map, List.getElem?_range hj]
    unfold updC
    by_cases e : s = j
    · subst e; rw [if_pos rfl, if_pos hj]; simp
    · rw [if_neg e]; simp [Ne.symm e]
  · rw [List.getElem?_eq_none (l := (List.range k).map r) (by simp; omega), List.getElem?_eq_none (l := (List.range k).map (updC r s v)) (by simp; omega)]
    split
    · rename_i e
      subst e
      rw [if_neg hj]
    · rfl
theorem PrW.kept {N k s : Nat} {L : Nat → List Ev} {r : Nat → Value} {y u : World} {v : Value} (h : PrW N k L r v y) (hs : s < k) (hg : y.grownBy u (r s).ownBlock) : u.ownsRow N 57 1 v k ((List.range k).map r) :=
  own_keep h.own (fun b hb hl => hg.block b hl (fun e => h.top s hs b e.symm hb))
theorem PrW.put {N k s g cap : Nat} {L : Nat → List Ev} {r : Nat → Value} {y u : World} {v : Value} {m : List Ev} (h : PrW N k L r (.slice (some ⟨g, 0, none⟩) k cap) y) (hs : s < k) (hM : N ≤ y.heap.size)
    (ho : u.ownsRow N 59 3 v (L s ++ m).length (evc (L s ++ m))) (hg : y.grownBy u (r s).ownBlock) (hat : v.ownBlock = (r s).ownBlock ∨ v.ownBlock = some y.heap.size) :
    PrW N k (updL L s (L s ++ m)) (updC r s v) (.slice (some ⟨g, 0, none⟩) k cap) (u.setCell ⟨g, s, none⟩ v) := by
  have hlt : ∀ j, j < k → ∀ b, (r j).ownBlock = some b → b < y.heap.size ∧ b ≠ g := fun j hj b hb => ⟨(own_lt (h.rows j hj) hb).2, fun e => h.top j hj b hb (by rw [e]; rfl)⟩
  have hgl : g < y.heap.size := (own_lt h.own rfl).2
  have hvg : v.ownBlock ≠ some g := by
    rcases hat with q | q
    · rw [q]; exact fun e => (hlt s hs g e).2 rfl
    · rw [q]; intro e; have := Option.some.inj e; omega
  have hou : u.ownsRow N 57 1 (.slice (some ⟨g, 0, none⟩) k cap) k ((List.range k).map r) :=
    own_keep h.own (fun b hb hl => hg.block b hl (fun e => by
      have hbg : b = g := (Option.some.inj hb).symm
      exact (hlt s hs b e.symm).2 hbg))
  refine ⟨?_, fun j hj => ?_, fun i j hi hj hij b hbi hbj => ?_, fun j hj b hb => ?_⟩
  · rw [← range_map_set]
    exact (hou.stored s v).1
  · unfold updL updC
    by_cases e : j = s
    · subst e
      rw [if_pos rfl, if_pos rfl]
      exact own_keep ho (fun b hb _ => heap_setCell_other u ⟨g, j, none⟩ b v (fun q => hvg (by rw [hb]; exact congrArg some q)))
    · rw [if_neg e, if_neg e]
      have h1 := own_keep (w' := u) (h.rows j hj) (fun b hb hl => hg.block b hl (fun q => h.apart j s hj hs e b hb q.symm))
      exact own_keep h1 (fun b hb _ => heap_setCell_other u ⟨g, s, none⟩ b v (hlt j hj b hb).2)
  · unfold updC at hbi hbj
    by_cases ei : i = s
    · subst ei
      rw [if_pos rfl] at hbi
      rw [if_neg (Ne.symm hij)] at hbj
      rcases hat with q | q
      · exact h.apart i j hi hj hij b (q ▸ hbi) hbj
      · rw [q] at hbi; have := Option.some.inj hbi; have := (hlt j hj b hbj).1; omega
    · rw [if_neg ei] at hbi
      by_cases ej : j = s
      · subst ej
        rw [if_pos rfl] at hbj
        rcases hat with q | q
        · exact h.apart i j hi hj hij b hbi (q ▸ hbj)
        · rw [q] at hbj; have := Option.some.inj hbj; have := (hlt i hi b hbi).1; omega
      · rw [if_neg ej] at hbj
        exact h.apart i j hi hj hij b hbi hbj
  · unfold updC at hb
    by_cases e : j = s
    · subst e
      rw [if_pos rfl] at hb
      intro q
      exact hvg (hb.trans q.symm)
    · rw [if_neg e] at hb
      exact h.top j hj b hb
theorem PrW.push {N k : Nat} {L : Nat → List Ev} {r : Nat → Value} {y u : World} {v v' x : Value} {m : List Ev} (h : PrW N k L r v y) (hm : y.ownsRow N 59 3 x m.length (evc m))
    (hx : ∀ b, x.ownBlock = some b → v.ownBlock ≠ some b ∧ ∀ j, j < k → (r j).ownBlock ≠ some b)
    (ho : u.ownsRow N 57 1 v' (k + 1) ((List.range k).map r ++ [x])) (hg : y.grownBy u v.ownBlock) (hat : v'.ownBlock = v.ownBlock ∨ v'.ownBlock = some y.heap.size) :
    PrW N (k + 1) (updL L k m) (updC r k x) v' u := by
  have hlt : ∀ j, j < k → ∀ b, (r j).ownBlock = some b → b < y.heap.size := fun j hj b hb => (own_lt (h.rows j hj) hb).2
  have hmap : (List.range (k + 1)).map (updC r k x) = (List.range k).map r ++ [x] := by
    rw [List.range_succ, List.map_append, List.map_cons, List.map_nil]
    congr 1
    · apply List.map_congr_left
      intro j hj
      have := List.mem_range.1 hj
      unfold updC
      rw [if_neg (by omega)]
    · unfold updC; rw [if_pos rfl]
  refine ⟨by rw [hmap]; exact ho, fun j hj => ?_, fun i j hi hj hij b hbi hbj => ?_, fun j hj b hb q => ?_⟩
  · unfold updL updC
    by_cases e : j = k
    · rw [if_pos e, if_pos e]
      exact own_keep hm (fun b hb hl => hg.block b hl (fun q => (hx b hb).1 q.symm))
    · rw [if_neg e, if_neg e]
      exact own_keep (h.rows j (by omega)) (fun b hb hl => hg.block b hl (fun q => h.top j (by omega) b hb q.symm))
  · unfold updC at hbi hbj
    by_cases ei : i = k
    · rw [if_pos ei] at hbi
      rw [if_neg (by omega)] at hbj
      exact (hx b hbi).2 j (by omega) hbj
    · rw [if_neg ei] at hbi
      by_cases ej : j = k
      · rw [if_pos ej] at hbj
        exact (hx b hbj).2 i (by omega) hbi
      · rw [if_neg ej] at hbj
        exact h.apart i j (by omega) (by omega) hij b hbi hbj
  · unfold updC at hb
    by_cases e : j = k
    · rw [if_pos e] at hb
      rcases hat with h1 | h1
      · exact (hx b hb).1 (h1 ▸ q)
      · rw [h1] at q; have := Option.some.inj q; have := (own_lt hm hb).2; omega
    · rw [if_neg e] at hb
      rcases hat with h1 | h1
      · exact h.top j (by omega) b hb (h1 ▸ q)
      · rw [h1] at q; have := Option.some.inj q; have := hlt j (by omega) b hb; omega
theorem PrW.prg {N k : Nat} {L : Nat → List Ev} {r : Nat → Value} {v : Value} {w : World} (h : PrW N k L r v w) (hk : 0 < k) :
    ∃ A c, v = .slice A k c ∧ Prg w A k ((List.range k).map L) ∧ k ≤ c ∧ c ≤ maxLen := by
  obtain ⟨g, cap, rfl, hg, hgl, hkc, hcm⟩ := h.form hk
  refine ⟨_, cap, rfl, ⟨by simp, fun _ => ⟨g, 0, rfl, hgl, fun t ops ht => ?_⟩⟩, hkc, hcm⟩
  have htk : t < k := by have := (List.getElem?_eq_some_iff.1 ht).1; simpa using this
  rw [List.getElem?_map, List.getElem?_range htk] at ht
  obtain rfl : L t = ops := Option.some.inj ht
  obtain ⟨B, c, h1, h2, h3, h4⟩ := Sl.own (h.rows t htk)
  refine ⟨B, _, c, ?_, h2, h3, h4⟩
  rw [Nat.zero_add, h.own.cellAt t (by omega), List.getElem?_map, List.getElem?_range htk, Option.map_some, h1]
theorem PrW.lit {w : World} {N B : Nat} (hb : Box w B #[.slice none 0 0] 57) (hN : N ≤ B) : PrW N 1 (fun _ => []) (fun _ => .slice none 0 0) (.slice (some ⟨B, 0, none⟩) 1 1) w :=
  ⟨own_lit hb hN 1 1 (by unfold maxLen; omega) rfl, fun j _ => World.ownsRow_nil _ _ _ _, fun i j hi hj hij => absurd hij (by omega), fun j _ g hg => by cases hg⟩
end Go.Proofs.Ytlcldcbdobgdbaa

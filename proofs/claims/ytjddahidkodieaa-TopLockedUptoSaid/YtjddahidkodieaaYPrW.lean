import Derived.Laws.MakeOwn
import Derived.Test.YtjddahidkodieaaYKeepTw
import Derived.Test.YtjddahidkodieaaYRest
import Derived.Test.YtjddahidkodieaaYPg
import Derived.Test.YtjddahidkodieaaYEr
import Derived.Laws.OwnMore
import Derived.Deep.DeepCutAuto
set_option linter.all false
set_option maxRecDepth 100000
namespace Go.Proofs.Ytjddahidkodieaa
open Go Go.RowKit

set_option maxHeartbeats 2000000 in
theorem fill9 {n : Nat} (hn : n = 9) (ff : Fin n → Value) (a b c d e f g h i : Value) : ((((((((((Array.ofFn ff).setIfInBounds 0 a).setIfInBounds 1 b).setIfInBounds 2 c).setIfInBounds 3 d).setIfInBounds 4 e).setIfInBounds 5 f).setIfInBounds 6 g).setIfInBounds 7 h).setIfInBounds 8 i) = #[a, b, c, d, e, f, g, h, i] := by
  subst hn
  apply Array.ext
  · simp
  · intro i h1 h2
    have hi : i < 9 := by simpa using h2
    rcases (show i = 0 ∨ i = 1 ∨ i = 2 ∨ i = 3 ∨ i = 4 ∨ i = 5 ∨ i = 6 ∨ i = 7 ∨ i = 8 by omega) with rfl | rfl | rfl | rfl | rfl | rfl | rfl | rfl | rfl <;> simp [Array.getElem_setIfInBounds]
theorem run_bld3 {P : Program} (t e : TypeId) (i : TypeInfo) (ht : P.underlying t = some (.slice e)) (hi : P.info? e = some i) (hz : i.zero = some (.agg #[.int .i64 0, .int .i64 0, .int .i64 0])) (hs : i.size = 3) (x y z : Ev) (w : World) :
    (Instr.buildSlice t 3 #[(0, .agg (evv x)), (1, .agg (evv y)), (2, .agg (evv z))]).run P w = .ok (.slice (some ⟨w.heap.size, 0, none⟩) 3 3) (w.alloc (.cells (evc [x, y, z]).toArray e)) := by
  simp [Instr.buildSlice, Sem.run_bind, run_underlying ht, sizeOf, typeInfo, hi, hs, zeroValue, hz, Instr.fill, Value.cells, evv, newRow, newObj, List.zipIdx, Array.range, Result.andThen, go_sem]
  rw [fill9 (by rw [hs])]
  rfl
theorem wp_bld3 {P : Program} {o : Oper} {a : Act} {w : World} {K : Act → World → Prop} {Q : Exit → Act → World → Prop} (t : TypeId) (p0 p1 p2 : Operand) (ho : o.op = .buildSlice t 3 #[(0, p0), (1, p1), (2, p2)]) (e : TypeId) (i : TypeInfo) (ht : P.underlying t = some (.slice e)) (hi : P.info? e = some i)
    (hz : i.zero = some (.agg #[.int .i64 0, .int .i64 0, .int .i64 0])) (hs : i.size = 3) (x y z : Ev) (h0 : a.eval p0 = .agg (evv x)) (h1 : a.eval p1 = .agg (evv y)) (h2 : a.eval p2 = .agg (evv z))
    (h : K (a.put o.dst (.slice (some ⟨w.heap.size, 0, none⟩) 3 3)) (w.alloc (.cells (evc [x, y, z]).toArray e))) : o.wp P a w K Q := by
  unfold Oper.wp execOp
  simp only [ho, Sem.run_bind, Sem.run_pure, Result.andThen_ok, List.map_toArray, List.map_cons, List.map_nil, h0, h1, h2, run_bld3 t e i ht hi hz hs x y z w]
  exact h
theorem bld3 {P : Program} {ops : Array Oper} {rest : List Oper} {o : Oper} {a : Act} {w : World} {Q : Exit → Act → World → Prop} (t : TypeId) (p0 p1 p2 : Operand) (ho : o.op = .buildSlice t 3 #[(0, p0), (1, p1), (2, p2)]) (hgd : o.guard = none) (e : TypeId) (i : TypeInfo) (ht : P.underlying t = some (.slice e)) (hi : P.info? e = some i)
    (hz : i.zero = some (.agg #[.int .i64 0, .int .i64 0, .int .i64 0])) (hs : i.size = 3) (x y z : Ev) (h0 : a.eval p0 = .agg (evv x)) (h1 : a.eval p1 = .agg (evv y)) (h2 : a.eval p2 = .agg (evv z))
    (h : wpList P ops Q rest (a.put o.dst (.slice (some ⟨w.heap.size, 0, none⟩) 3 3)) (w.alloc (.cells (evc [x, y, z]).toArray e))) : wpList P ops Q (o :: rest) a w :=
  wpList_plain hgd fun _ hK' => wp_bld3 t p0 p1 p2 ho e i ht hi hz hs x y z h0 h1 h2 (hK' _ _ h)
end Go.Proofs.Ytjddahidkodieaa
set_option linter.all false
set_option maxRecDepth 100000
namespace Go.Proofs.Ytjddahidkodieaa
open Go Go.RowKit

theorem rcsA_none {l : List Ev} (h : ∀ i j a b, l[i]? = some a → l[j]? = some b → i < j → conf a b ≠ 0 → bef l i j = true) : rcsA l = [] := by
  refine List.eq_nil_iff_forall_not_mem.2 fun r hr => ?_
  obtain ⟨a, b, h1, h2, h3, _, _, h4, h5⟩ := mem_rcsA hr
  rw [h _ _ a b h1 h2 h3 h4] at h5
  cases h5
def UnL (q : Int) (l : List Ev) : Prop := ∀ i e, l[i]? = some e → e.k ≤ 2 → owner (l.take i) q = e.t
theorem unl_bef {l : List Ev} (hm : may l = 0) {q : Int} (hu : UnL q l) {i j : Nat} {a b : Ev} (ha : l[i]? = some a) (hb : l[j]? = some b) (hij : i < j) (ka : a.k ≤ 2) (kb : b.k ≤ 2) : bef l i j = true := by
  have oa := hu i a ha ka
  have ob := hu j b hb kb
  have ta := isEv_t (wrong_isEv (wrong_at hm ha))
  have tb := isEv_t (wrong_isEv (wrong_at hm hb))
  have hj : j < l.length := (List.getElem?_eq_some_iff.1 hb).1
  by_cases ht : a.t = b.t
  · exact dir_bef (thread_dir ha hb hij ht)
  · obtain ⟨r, e, h1, h2, he, h3, h4, h5⟩ := lost hm ta.1 oa (show i ≤ j by omega) (by omega) (by rw [ob]; exact Ne.symm ht)
    have hne : r ≠ i := fun e1 => by
      subst e1; rw [ha] at he; cases he; omega
    have or := owner_rel he h3
    obtain ⟨s, f, g1, g2, hf, g3, g4, g5⟩ := gained (l := l) (o := q) (t := b.t) tb.1 (i := r + 1) (by rw [← h5, or]; omega) (j := j) (by omega) (by omega) ob
    exact bef_trans (dir_bef (thread_dir ha he (by omega) h4.symm)) (bef_trans (dir_bef (handed_dir he hf (by omega) h3 g3 (by omega))) (dir_bef (thread_dir hf hb g2 g4)))
theorem guarded_free {l : List Ev} (hm : may l = 0) {q : Int} (hu : UnL q l) : rcsA l = [] :=
  rcsA_none fun i j a b ha hb hij hc => by
    have hk := conf_bin (l := l) hc
    exact unl_bef hm hu ha hb hij (by omega) (by omega)
theorem gd_step {P : List (List Ev)} {s : Ps} {t : Nat} {o : Ev} {q : Int} (h : ∀ i e, s.L[i]? = some e → e.k ≤ 2 → owner (s.L.take i) q = e.t) (hk : kindO P s t o ≠ 0 → kindO P s t o ≤ 2 → owner s.L q = (t : Int)) :
    ∀ i e, (s.L ++ evO P s t o)[i]? = some e → e.k ≤ 2 → owner ((s.L ++ evO P s t o).take i) q = e.t := fun i e he hk2 => by
  rcases Nat.lt_or_ge i s.L.length with hi | hi
  · rw [List.getElem?_append_left hi] at he
    rw [List.take_append_of_le_length (Nat.le_of_lt hi)]
    exact h i e he hk2
  · by_cases hk0 : kindO P s t o = 0
    · unfold evO at he
      rw [if_pos hk0, List.append_nil, List.getElem?_eq_none hi] at he
      cases he
    · unfold evO at he ⊢
      rw [if_neg hk0] at he ⊢
      have hlen := (List.getElem?_eq_some_iff.1 he).1
      rw [List.length_append, List.length_singleton] at hlen
      obtain rfl : i = s.L.length := by omega
      rw [List.getElem?_append_right hi, Nat.sub_self] at he
      simp only [List.getElem?_cons_zero, Option.some.injEq] at he
      subst he
      rw [List.take_append_of_le_length hi, List.take_length]
      exact hk hk0 hk2
end Go.Proofs.Ytjddahidkodieaa
set_option linter.all false
set_option maxRecDepth 100000
namespace Go.Proofs.Ytjddahidkodieaa
open Go Go.RowKit

end Go.Proofs.Ytjddahidkodieaa
namespace Go.Proofs.Ytjddahidkodieaa
open Go Go.RowKit

end Go.Proofs.Ytjddahidkodieaa
namespace Go.Proofs.Ytjddahidkodieaa
open Go Go.RowKit

end Go.Proofs.Ytjddahidkodieaa
namespace Go.Proofs.Ytjddahidkodieaa
open Go Go.RowKit

end Go.Proofs.Ytjddahidkodieaa
namespace Go.Proofs.Ytjddahidkodieaa
open Go Go.RowKit

end Go.Proofs.Ytjddahidkodieaa
namespace Go.Proofs.Ytjddahidkodieaa
open Go Go.RowKit

end Go.Proofs.Ytjddahidkodieaa
namespace Go.Proofs.Ytjddahidkodieaa
open Go Go.RowKit

end Go.Proofs.Ytjddahidkodieaa
set_option linter.all false
set_option maxRecDepth 100000
namespace Go.Proofs.Ytjddahidkodieaa
open Go Go.RowKit

end Go.Proofs.Ytjddahidkodieaa
set_option linter.all false
set_option maxRecDepth 100000
namespace Go.Proofs.Ytjddahidkodieaa
open Go Go.RowKit

theorem opr_info : (Try.prog.info? 61).map (fun i => (i.zero, i.size, i.bytes)) = some (some (.slice none 0 0), 1, 24) := by kernel_rfl
theorem opx_info : (Try.prog.info? 63).map (fun i => (i.zero, i.size, i.bytes)) = some (some (.agg #[.int .i64 0, .int .i64 0, .int .i64 0]), 3, 24) := by kernel_rfl
def updL (g : Nat → List Ev) (j : Nat) (v : List Ev) : Nat → List Ev := fun i => if i = j then v else g i
structure PrW (N k : Nat) (L : Nat → List Ev) (r : Nat → Value) (v : Value) (w : World) : Prop where
  own : w.ownsRow N 61 1 v k ((List.range k).map r)
  rows : ∀ j, j < k → w.ownsRow N 63 3 (r j) (L j).length (evc (L j))
  apart : ∀ i j, i < k → j < k → i ≠ j → ∀ g, (r i).ownBlock = some g → (r j).ownBlock ≠ some g
  top : ∀ j, j < k → ∀ g, (r j).ownBlock = some g → v.ownBlock ≠ some g
theorem PrW.bel {N k : Nat} {L : Nat → List Ev} {r : Nat → Value} {v : Value} {w w' : World} (h : PrW N k L r v w) (hb : Bel w w') : PrW N k L r v w' :=
  ⟨own_bel h.own hb, fun j hj => own_bel (h.rows j hj) hb, h.apart, h.top⟩
theorem PrW.congr {N k : Nat} {L L' : Nat → List Ev} {r : Nat → Value} {v : Value} {w : World} (h : PrW N k L r v w) (hL : ∀ j, j < k → L j = L' j) : PrW N k L' r v w :=
  ⟨h.own, fun j hj => by rw [← hL j hj]; exact h.rows j hj, h.apart, h.top⟩
theorem PrW.form {N k : Nat} {L : Nat → List Ev} {r : Nat → Value} {v : Value} {w : World} (h : PrW N k L r v w) (hk : 0 < k) : ∃ g cap, v = .slice (some ⟨g, 0, none⟩) k cap ∧ N ≤ g ∧ g < w.heap.size ∧ k ≤ cap ∧ cap ≤ maxLen := by
  rcases h.own.2 with ⟨_, rfl⟩ | ⟨g, cap, cur, rfl, hg, hb, hn, hc, _⟩
  · omega
  · exact ⟨g, cap, rfl, hg, Box.lt (w := w) (c := cur) (t := 61) hb, hn, hc⟩
theorem PrW.push {N k : Nat} {L : Nat → List Ev} {r : Nat → Value} {y u : World} {v v' x : Value} {m : List Ev} (h : PrW N k L r v y) (hm : y.ownsRow N 63 3 x m.length (evc m))
    (hx : ∀ b, x.ownBlock = some b → v.ownBlock ≠ some b ∧ ∀ j, j < k → (r j).ownBlock ≠ some b)
    (ho : u.ownsRow N 61 1 v' (k + 1) ((List.range k).map r ++ [x])) (hg : y.grownBy u v.ownBlock) (hat : v'.ownBlock = v.ownBlock ∨ v'.ownBlock = some y.heap.size) :
    PrW N (k + 1) (updL L k m) (updC r k x) v' u := by
  have hlt : ∀ j, j < k → ∀ b, (r j).ownBlock = some b → b < y.heap.size := fun j hj b hb => (own_lt (h.rows j hj) hb).2
  have hmap : (List.range (k + 1)).map (updC r k x) = (List.range k).map r ++ [x] := by
    rw [List.range_succ, List.map_append, List.map_cons, List.map_nil]
    congr 1
    · apply List.map_congr_left
      intro j hj
      have := List.mem_range.1 hj
      unfold updC
      rw [if_neg (by omega)]
    · unfold updC; rw [if_pos rfl]
  refine ⟨by rw [hmap]; exact ho, fun j hj => ?_, fun i j hi hj hij b hbi hbj => ?_, fun j hj b hb q => ?_⟩
  · unfold updL updC
    by_cases e : j = k
    · rw [if_pos e, if_pos e]
      exact own_keep hm (fun b hb hl => hg.block b hl (fun q => (hx b hb).1 q.symm))
    · rw [if_neg e, if_neg e]
      exact own_keep (h.rows j (by omega)) (fun b hb hl => hg.block b hl (fun q => h.top j (by omega) b hb q.symm))
  · unfold updC at hbi hbj
    by_cases ei : i = k
    · rw [if_pos ei] at hbi
      rw [if_neg (by omega)] at hbj
      exact (hx b hbi).2 j (by omega) hbj
    · rw [if_neg ei] at hbi
      by_cases ej : j = k
      · rw [if_pos ej] at hbj
        exact (hx b hbj).2 i (by omega) hbi
      · rw [if_neg ej] at hbj
        exact h.apart i j (by omega) (by omega) hij b hbi hbj
  · unfold updC at hb
    by_cases e : j = k
    · rw [if_pos e] at hb
      rcases hat with h1 | h1
      · exact (hx b hb).1 (h1 ▸ q)
      · rw [h1] at q; have := Option.some.inj q; have := (own_lt hm hb).2; omega
    · rw [if_neg e] at hb
      rcases hat with h1 | h1
      · exact h.top j (by omega) b hb (h1 ▸ q)
      · rw [h1] at q; have := Option.some.inj q; have := hlt j (by omega) b hb; omega
theorem PrW.prg {N k : Nat} {L : Nat → List Ev} {r : Nat → Value} {v : Value} {w : World} (h : PrW N k L r v w) (hk : 0 < k) :
    ∃ A c, v = .slice A k c ∧ Prg w A k ((List.range k).map L) ∧ k ≤ c ∧ c ≤ maxLen := by
  obtain ⟨g, cap, rfl, hg, hgl, hkc, hcm⟩ := h.form hk
  refine ⟨_, cap, rfl, ⟨by simp, fun _ => ⟨g, 0, rfl, hgl, fun t ops ht => ?_⟩⟩, hkc, hcm⟩
  have htk : t < k := by have := (List.getElem?_eq_some_iff.1 ht).1; simpa using this
  rw [List.getElem?_map, List.getElem?_range htk] at ht
  obtain rfl : L t = ops := Option.some.inj ht
  obtain ⟨B, c, h1, h2, h3, h4⟩ := Sl.own (h.rows t htk)
  refine ⟨B, _, c, ?_, h2, h3, h4⟩
  rw [Nat.zero_add, h.own.cellAt t (by omega), List.getElem?_map, List.getElem?_range htk, Option.map_some, h1]
theorem own_cut {w : World} {base n c size j : Nat} {e : TypeId} {A : Option Addr} {xs : List Value} (h : w.ownsRow base e size (.slice A n c) n xs) (hj : j ≤ n) : w.ownsRow base e size (.slice A j c) j (xs.take (j * size)) := by
  have hlen : (xs.take (j * size)).length = j * size := by rw [List.length_take, h.1]; have := Nat.mul_le_mul_right size hj; omega
  rcases h.2 with ⟨h1, h2⟩ | ⟨g, cap, cur, h1, h2, h3, h4, h5, h6, h7⟩
  · simp only [Value.slice.injEq] at h1
    obtain ⟨rfl, rfl, rfl⟩ := h1
    obtain rfl : j = 0 := by omega
    exact ⟨hlen, .inl ⟨rfl, rfl⟩⟩
  · simp only [Value.slice.injEq, true_and] at h1
    obtain ⟨rfl, rfl⟩ := h1
    refine ⟨hlen, .inr ⟨g, c, cur, rfl, h2, h3, by omega, h5, h6, ?_⟩⟩
    rw [← h7, List.take_take, Nat.min_eq_left (Nat.mul_le_mul_right size hj)]
theorem PrW.prg' {N k : Nat} {L : Nat → List Ev} {r : Nat → Value} {v : Value} {w : World} (h : PrW N k L r v w) :
    ∃ A c, v = .slice A k c ∧ Prg w A k ((List.range k).map L) ∧ k ≤ c ∧ c ≤ maxLen := by
  rcases Nat.eq_zero_or_pos k with rfl | hk
  · rcases h.own.2 with ⟨rfl, _⟩ | ⟨g, cap, cur, rfl, _, _, h1, h2, _⟩
    · exact ⟨none, 0, rfl, Prg.nil w, Nat.le_refl _, by omega⟩
    · exact ⟨_, cap, rfl, ⟨rfl, fun h0 => absurd h0 (by omega)⟩, h1, h2⟩
  · exact h.prg hk
theorem PrW.nil (w : World) (N : Nat) : PrW N 0 (fun _ => []) (fun _ => .slice none 0 0) (.slice none 0 0) w :=
  ⟨World.ownsRow_nil _ _ _ _, fun j hj => absurd hj (by omega), fun i j hi => absurd hi (by omega), fun j hj => absurd hj (by omega)⟩
theorem PrW.push_cut {N k nn c8 j : Nat} {L : Nat → List Ev} {r : Nat → Value} {wr y u : World} {v v' : Value} {A8 : Option Addr} {out : List Ev} (h : PrW N k L r v wr) (hN : N ≤ wr.heap.size) (hy : Bel wr y) (ho8 : y.ownsRow wr.heap.size 63 3 (.slice A8 nn c8) nn (evc out)) (hj : j = min nn 12)
    (ho : u.ownsRow N 61 1 v' (k + 1) ((List.range k).map r ++ [.slice A8 j c8])) (hg : y.grownBy u v.ownBlock) (hat : v'.ownBlock = v.ownBlock ∨ v'.ownBlock = some y.heap.size) : PrW N (k + 1) (updL L k (out.take 12)) (updC r k (.slice A8 j c8)) v' u := by
  have hl : out.length = nn := by have := ho8.1; rw [evc_length] at this; omega
  have htk : out.take 12 = out.take j := by
    rw [hj]
    by_cases h12 : nn ≤ 12
    · rw [Nat.min_eq_left h12, ← hl, List.take_length, List.take_of_length_le (by omega)]
    · rw [Nat.min_eq_right (by omega)]
  have hlj : (out.take 12).length = j := by rw [htk, List.length_take]; omega
  have hc := own_cut (j := j) ho8 (by omega)
  have hlt : ∀ b, (Value.slice A8 j c8).ownBlock = some b → wr.heap.size ≤ b := fun b hb => (own_lt hc hb).1
  rw [evc_take, ← htk] at hc
  refine PrW.push (h.bel hy) (by rw [hlj]; exact own_drop_alloc hc hN) (fun b hb => ⟨fun q => ?_, fun i hi q => ?_⟩) ho hg hat
  · have h1 := hlt b hb; have h2 := (own_lt h.own q).2; omega
  · have h1 := hlt b hb; have h2 := (own_lt (h.rows i hi) q).2; omega
end Go.Proofs.Ytjddahidkodieaa

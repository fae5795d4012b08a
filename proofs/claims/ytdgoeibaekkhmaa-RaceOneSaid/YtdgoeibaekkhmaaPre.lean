/- The contract of predecessors: a map from each event to the row of those that come before it. -/
import Derived.Test.YtdgoeibaekkhmaaPreM
import Derived.Test.YtdgoeibaekkhmaaGrowK
import Derived.Test.YtdgoeibaekkhmaaOrder2
import Derived.Test.YtdgoeibaekkhmaaIter
set_option linter.all false
set_option maxRecDepth 100000
namespace Go.Proofs.Ytdgoeibaekkhmaa
open Go Go.RowKit

theorem own_keep {w w' : World} {base : Nat} {e : TypeId} {size n : Nat} {v : Value} {xs : List Value} (h : w.ownsRow base e size v n xs) (hk : ∀ g, v.ownBlock = some g → g < w.heap.size → w'.heap[g]? = w.heap[g]?) : w'.ownsRow base e size v n xs :=
  ⟨h.1, h.2.imp id fun ⟨g, cap, cur, h1, h2, h3, h4⟩ => ⟨g, cap, cur, h1, h2, (hk g (by rw [h1]; rfl) (Box.lt (w := w) (c := cur) (t := e) h3)).trans h3, h4⟩⟩
theorem own_lt {w : World} {base : Nat} {e : TypeId} {size n : Nat} {v : Value} {xs : List Value} (h : w.ownsRow base e size v n xs) {g : Nat} (hg : v.ownBlock = some g) : base ≤ g ∧ g < w.heap.size := by
  rcases h.2 with ⟨rfl, _⟩ | ⟨k, cap, cur, rfl, h2, h3, _⟩
  · cases hg
  · simp [Value.ownBlock] at hg; subst hg; exact ⟨h2, Box.lt (w := w) (c := cur) (t := e) h3⟩
/-- Those that are told to come before b. -/
def predOf (ps : List (Nat × Nat)) (b : Nat) : List Nat := (ps.filter fun p => p.2 == b).map (·.1)
theorem predOf_nil (b : Nat) : predOf [] b = [] := rfl
theorem predOf_snoc (ps : List (Nat × Nat)) (p : Nat × Nat) (b : Nat) : predOf (ps ++ [p]) b = if b = p.2 then predOf ps b ++ [p.1] else predOf ps b := by
  unfold predOf
  rw [List.filter_append, List.map_append]
  by_cases h : b = p.2
  · subst h; simp
  · rw [if_neg h, List.filter_cons_of_neg (by simpa using Ne.symm h)]; simp
theorem predOf_len (ps : List (Nat × Nat)) (b : Nat) : (predOf ps b).length ≤ ps.length := by
  unfold predOf; rw [List.length_map]; exact List.length_filter_le _ _
theorem mem_predOf {ps : List (Nat × Nat)} {a b : Nat} : a ∈ predOf ps b ↔ (a, b) ∈ ps := by
  unfold predOf
  simp only [List.mem_map, List.mem_filter, beq_iff_eq]
  constructor
  · rintro ⟨⟨x, y⟩, ⟨h1, h2⟩, h3⟩; dsimp only at h2 h3; subst h2; subst h3; exact h1
  · intro h; exact ⟨(a, b), ⟨h, rfl⟩, rfl⟩
/-- The map of rows behind the pairs ps. -/
structure PreR (base : Nat) (M : Nat) (ps : List (Nat × Nat)) (ks : List Nat) (vs : Nat → Value) (wr : World) : Prop where
  map : MapR wr M ks vs
  nodup : ks.Nodup
  absent : ∀ b, b ∉ ks → vs b = .slice none 0 0
  row : ∀ b, wr.ownsRow base 3 1 (vs b) (predOf ps b).length (il (predOf ps b))
  apart : ∀ b c g, (vs b).ownBlock = some g → (vs c).ownBlock = some g → b = c
  notM : ∀ b, (vs b).ownBlock ≠ some M
theorem PreR.bel {base M : Nat} {ps : List (Nat × Nat)} {ks : List Nat} {vs : Nat → Value} {w w' : World} (h : PreR base M ps ks vs w) (hb : Bel w w') : PreR base M ps ks vs w' :=
  ⟨h.map.bel hb, h.nodup, h.absent, fun b => own_bel (h.row b) hb, h.apart, h.notM⟩
theorem PreR.start (base : Nat) {w : World} {M : Nat} (hM : MapR w M [] (fun _ => .slice none 0 0)) : PreR base M [] [] (fun _ => .slice none 0 0) w :=
  ⟨hM, List.nodup_nil, fun _ _ => rfl, fun _ => World.ownsRow_nil _ _ _ _, fun _ _ _ h => (by cases h), fun _ h => by cases h⟩
theorem PreR.look {base M : Nat} {ps : List (Nat × Nat)} {ks : List Nat} {vs : Nat → Value} {w : World} (h : PreR base M ps ks vs w) (b : Nat) :
    (Instr.lookup 56 (.map (some M)) (.int .i64 b) false).run Try.prog w = .ok (vs b) w := run_look_row h.map h.nodup h.absent b
/-- Behind an append and a store. -/
theorem PreR.store {base M : Nat} {ps : List (Nat × Nat)} {ks : List Nat} {vs : Nat → Value} {w w1 : World} (h : PreR base M ps ks vs w) {a b : Nat} {v : Value} (hg : w.grownBy w1 (vs b).ownBlock) (hM : M < w.heap.size)
    (ho : w1.ownsRow base 3 1 v ((predOf ps b).length + 1) (il (predOf ps b) ++ [.int .i64 a])) (hv : v.ownBlock = (vs b).ownBlock ∨ v.ownBlock = some w.heap.size) {w2 : World} (hb : Bel w1 w2) :
    MapR w2 M ks vs ∧ PreR base M (ps ++ [(a, b)]) (addK ks b) (updV vs b v) (rset w2 M (addK ks b) (updV vs b v)) := by
  have hmap : MapR w2 M ks vs := (hb.block M (Nat.lt_of_lt_of_le hM hg.size)).trans ((hg.block M hM (fun e => h.notM b e.symm)).trans h.map)
  have hnM : ∀ c, (updV vs b v c).ownBlock ≠ some M := fun c e => by
    unfold updV at e
    split at e
    · rcases hv with hv | hv
      · exact h.notM b (hv.symm.trans e)
      · rw [hv] at e; have := Option.some.inj e; omega
    · exact h.notM c e
  have hltw : ∀ c g, (vs c).ownBlock = some g → g < w.heap.size := fun c g hc => (own_lt (h.row c) hc).2
  refine ⟨hmap, rset_map _ _ hmap.lt, ?_, ?_, ?_, ?_, hnM⟩
  · unfold addK
    split
    · exact h.nodup
    · rename_i hn
      refine List.nodup_append.2 ⟨h.nodup, by simp, fun x hx y hy e => ?_⟩
      simp at hy; subst hy; subst e; exact hn hx
  · intro c hc
    have h1 : c ≠ b := fun e => hc (by subst e; unfold addK; split <;> simp_all)
    have h2 : c ∉ ks := fun hk => hc (by unfold addK; split <;> simp_all)
    unfold updV
    rw [if_neg h1]
    exact h.absent c h2
  · intro c
    rw [predOf_snoc]
    by_cases hc : c = b
    · subst hc
      have e : updV vs c v c = v := by simp [updV]
      rw [if_pos rfl, List.length_append, il_app, e]
      refine own_keep (own_bel ho hb) fun g hg' hlt => rset_other _ _ _ _ ?_
      intro e2
      have := hnM c
      rw [e, hg', e2] at this
      exact this rfl
    · have e : updV vs b v c = vs c := by simp [updV, hc]
      rw [if_neg hc, e]
      refine own_keep (own_bel (own_keep (h.row c) fun g hg' hlt => hg.block g hlt ?_) hb) fun g hg' hlt => rset_other _ _ _ _ ?_
      · intro e2
        exact hc (h.apart c b g hg' e2.symm)
      · intro e2
        rw [e2] at hg'
        exact h.notM c hg'
  · intro c d g hc hd
    unfold updV at hc hd
    by_cases h1 : c = b <;> by_cases h2 : d = b
    · rw [h1, h2]
    · rw [if_pos h1] at hc; rw [if_neg h2] at hd
      rcases hv with hv | hv
      · rw [hv] at hc; rw [h1]; exact h.apart b d g hc hd
      · rw [hv] at hc; have := hltw d g hd; have := Option.some.inj hc; omega
    · rw [if_neg h1] at hc; rw [if_pos h2] at hd
      rcases hv with hv | hv
      · rw [hv] at hd; rw [h2]; exact h.apart c b g hc hd
      · rw [hv] at hd; have := hltw c g hc; have := Option.some.inj hd; omega
    · rw [if_neg h1] at hc; rw [if_neg h2] at hd; exact h.apart c d g hc hd
theorem fill1 {n : Nat} (hn : n = 1) (f : Fin n → Value) (a : Value) : (Array.ofFn f).setIfInBounds 0 a = #[a] := by
  subst hn
  apply Array.ext
  · simp
  · intro i h1 h2
    have hi : i < 1 := by simpa using h2
    match i, hi with
    | 0, _ => simp [Array.getElem_setIfInBounds]
theorem run_build_int {P : Program} (t e : TypeId) (i : TypeInfo) (ht : P.underlying t = some (.slice e)) (hi : P.info? e = some i) (hz : i.zero = some (.int .i64 0)) (hs : i.size = 1) (x : Int) (w : World) :
    (Instr.buildSlice t 1 #[(0, .int .i64 x)]).run P w = .ok (.slice (some ⟨w.heap.size, 0, none⟩) 1 1) (w.alloc (.cells #[.int .i64 x] e)) := by
  simp [Instr.buildSlice, Sem.run_bind, run_underlying ht, sizeOf, typeInfo, hi, hs, zeroValue, hz, Instr.fill, Value.cells, newRow, newObj, List.zipIdx, Array.range, Result.andThen, go_sem]
  rw [fill1 (by rw [hs])]
  rfl
section
variable {ops : Array Oper} {o : Oper} {a : Act} {w : World} {K : Act → World → Prop} {Q : Exit → Act → World → Prop}
theorem wp_build_int (t : TypeId) (x : Operand) (ho : o.op = .buildSlice t 1 #[(0, x)]) (e : TypeId) (i : TypeInfo) {P : Program} (ht : P.underlying t = some (.slice e)) (hi : P.info? e = some i) (hz : i.zero = some (.int .i64 0)) (hs : i.size = 1) (n : Int) (hx : a.eval x = .int .i64 n)
    (h : K (a.put o.dst (.slice (some ⟨w.heap.size, 0, none⟩) 1 1)) (w.alloc (.cells #[.int .i64 n] e))) : o.wp P a w K Q := by
  unfold Oper.wp execOp
  simp only [ho, Sem.run_bind, Sem.run_pure, Result.andThen_ok, List.map_toArray, List.map_cons, List.map_nil, hx, run_build_int t e i ht hi hz hs n w]
  exact h
theorem wp_look_row (m k : Operand) (ho : o.op = .lookup 56 m k false) {base M : Nat} {ps : List (Nat × Nat)} {ks : List Nat} {vs : Nat → Value} (hR : PreR base M ps ks vs w) {b : Nat} (hm : a.eval m = .map (some M)) (hk : a.eval k = .int .i64 b)
    (h : K (a.put o.dst (vs b)) w) : o.wp Try.prog a w K Q := by
  unfold Oper.wp execOp
  simp only [ho, hm, hk, Sem.run_bind, hR.look b, Result.andThen_ok, Sem.run_pure]
  exact h
theorem wp_upd_row (m k v : Operand) (ho : o.op = .mapUpdate 56 m k v) {M : Nat} {ks : List Nat} {vs : Nat → Value} {u : Value} (hR : MapR w M ks vs) (hn : ks.Nodup) {b : Nat} (hm : a.eval m = .map (some M)) (hk : a.eval k = .int .i64 b) (hv : a.eval v = u)
    (h : K (a.put o.dst undef) (rset w M (addK ks b) (updV vs b u))) : o.wp Try.prog a w K Q := by
  unfold Oper.wp execOp
  simp only [ho, hm, hk, hv, Sem.run_bind, run_upd_row hR hn b u, Result.andThen_ok, Sem.run_pure]
  exact h
end
end Go.Proofs.Ytdgoeibaekkhmaa

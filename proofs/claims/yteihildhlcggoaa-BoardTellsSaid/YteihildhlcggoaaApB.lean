/- An append onto a row of the call's own that lives on: the row itself stands behind it. -/
import Derived.Test.YteihildhlcggoaaAppend
import Derived.Test.YteihildhlcggoaaKeepTw
set_option linter.all false
set_option maxRecDepth 100000
namespace Go.Proofs.Yteihildhlcggoaa
open Go Go.RowKit

/-- Whatever has come to v' since, v is as it was. -/
def Under (base : Nat) (e : TypeId) (size : Nat) (w : World) (v : Value) (n : Nat) (xs : List Value) (w1 : World) (v' : Value) (m : Nat) (ys : List Value) : Prop :=
  w.grownBy w1 v.ownBlock ∧ w1.ownsRow base e size v' m ys ∧ ∀ w2, w1.grownBy w2 v'.ownBlock → w2.ownsRow base e size v' m ys → w.grownBy w2 v.ownBlock ∧ w2.ownsRow base e size v n xs
theorem own_mono {w : World} {base base' : Nat} {e : TypeId} {size : Nat} {v : Value} {n : Nat} {xs : List Value} (h : w.ownsRow base e size v n xs) (hb : base' ≤ base) : w.ownsRow base' e size v n xs :=
  ⟨h.1, h.2.imp id fun ⟨g, cap, cur, h1, h2, h3⟩ => ⟨g, cap, cur, h1, Nat.le_trans hb h2, h3⟩⟩
theorem run_append_both {P : Program} {w : World} (base : Nat) (t ty e : TypeId) (i : TypeInfo) (z : Value) (size bytes : Nat) (ht : P.underlying t = some (.slice e)) (hi : P.info? e = some i) (hz : i.zero = some z)
    (hsize : i.size = size) (hby : i.bytes = bytes) (hzs : z.cells.size = size) (hsz : 0 < size)
    (v : Value) (n : Nat) (xs : List Value) (hown : w.ownsRow base e size v n xs)
    (ad : Addr) (m c : Nat) (hm : 0 < m) (news : List Value) (hl : news.length = m * size) (hnews : ∀ j u, news[j]? = some u → w.cell? (ad.add j) = some u) (h1 : ∀ u ∈ news, u.oneCell' = true)
    (h63 : n + m ≤ maxLen) (hbytes : (n + m) * bytes ≤ 140737488355328) (hbase : base ≤ w.heap.size) :
    ∃ v' w', (Builtin.append_ #[t, t] ty #[v, .slice (some ad) m c]).run P w = .ok v' w' ∧ Under base e size w v n xs w' v' (n + m) (xs ++ news) := by
  -- where the new row is a block of its own
  have fresh : ∀ v' w', w.grownBy w' none → w'.ownsRow base e size v' (n + m) (xs ++ news) → (∀ k, v'.ownBlock = some k → w.heap.size ≤ k) → Under base e size w v n xs w' v' (n + m) (xs ++ news) := fun v' w' hg ho hk => by
    refine ⟨hg.but _, ho, fun w2 hg2 _ => ?_⟩
    have hb : ∀ k, k < w.heap.size → w2.heap[k]? = w.heap[k]? := fun k hk2 =>
      (hg2.block k (Nat.lt_of_lt_of_le hk2 hg.size) (fun e => by have := hk k e.symm; omega)).trans (hg.block k hk2 (by simp))
    exact ⟨⟨hg2.os.trans hg.os, hg2.tape.trans hg.tape, hg2.output.trans hg.output, Nat.le_trans hg.size hg2.size, fun k hk2 _ => hb k hk2⟩, own_keep hown fun g _ hg => hb g hg⟩
  rcases hown.2 with ⟨rfl, rfl⟩ | ⟨g, cap, cur, rfl, hbg, hg, hnc, hcm, hcs, htake⟩
  · obtain ⟨v', w', hr, h2, h3, _, h5⟩ := run_append_own_at (P := P) w base t ty e i z size bytes ht hi hz hsize hby hzs hsz _ 0 xs hown ad m c news hl hnews h1 h63 hbytes hbase
    refine ⟨v', w', hr, fresh v' w' h3 h2 fun k hk => ?_⟩
    rcases h5 with h5 | h5
    · rw [hk] at h5; cases h5
    · rw [hk] at h5; cases h5; exact Nat.le_refl _
  · by_cases hroom : n + m ≤ cap
    · subst hsize
      have hfit : n * i.size + news.length ≤ cur.size := by rw [hl, hcs, ← Nat.add_mul]; exact Nat.mul_le_mul_right _ hroom
      have hr := run_append_room (P := P) w t ty e i ht hi g n cap cur hg ad m c news hl hnews h1 hroom hfit
      obtain ⟨v', w', hr', h2, h3, _, _⟩ := run_append_own_at (P := P) w base t ty e i z i.size bytes ht hi hz rfl hby hzs hsz _ n xs hown ad m c news hl hnews h1 h63 hbytes hbase
      rw [hr] at hr'
      cases hr'
      refine ⟨_, _, hr, h3, h2, fun w2 hg2 ho2 => ⟨h3.trans hg2, hown.1, .inr ⟨g, cap, ?_⟩⟩⟩
      rcases ho2.2 with ⟨h9, _⟩ | ⟨g', cap', cur', h9, _, hg', _, _, hcs', htake'⟩
      · cases h9
      · cases h9
        refine ⟨cur', rfl, hbg, hg', hnc, hcm, hcs', ?_⟩
        have := congrArg (List.take (n * i.size)) htake'
        rw [List.take_take, Nat.min_eq_left (Nat.mul_le_mul_right _ (by omega)), List.take_left' hown.1] at this
        exact this
    · obtain ⟨v', w', hr, h2, h3⟩ := run_append_arg_grows (P := P) w t ty e i z size bytes ht hi hz hsize hby hzs hsz ⟨g, 0, none⟩ n cap xs hown.1 (hown.cells (g := g) rfl) ad m c news hl hnews (by omega) h63 hbytes
      exact ⟨v', w', hr, fresh v' w' h3 (own_mono h2 hbase) fun k hk => (h2.lt k hk).1⟩
theorem wpList_append_both {P : Program} {ops : Array Oper} {rest : List Oper} {o : Oper} {a : Act} {w : World} {Q : Exit → Act → World → Prop} (hgd : o.guard = none) (s x : Operand) (t : TypeId)
    (ho : o.op = .call { callee := .builtin .append, args := #[s, x], argTypes := #[t, t] })
    (base : Nat) (e : TypeId) (i : TypeInfo) (z : Value) (size bytes : Nat) (ht : P.underlying t = some (.slice e)) (hi : P.info? e = some i) (hz : i.zero = some z)
    (hsize : i.size = size) (hby : i.bytes = bytes) (hzs : z.cells.size = size) (hsz : 0 < size)
    (v : Value) (n : Nat) (xs : List Value) (hs : a.eval s = v) (hown : w.ownsRow base e size v n xs)
    (ad : Addr) (m c : Nat) (hm : 0 < m) (news : List Value) (hx : a.eval x = .slice (some ad) m c) (hl : news.length = m * size) (hnews : ∀ j u, news[j]? = some u → w.cell? (ad.add j) = some u) (h1 : ∀ u ∈ news, u.oneCell' = true)
    (h63 : n + m ≤ maxLen) (hbytes : (n + m) * bytes ≤ 140737488355328) (hbase : base ≤ w.heap.size)
    (h : ∀ v' w', Under base e size w v n xs w' v' (n + m) (xs ++ news) → wpList P ops Q rest (a.put o.dst v') w') : wpList P ops Q (o :: rest) a w :=
  wpList_plain hgd fun _ hK' => by
    obtain ⟨v', w', hr, h2⟩ := run_append_both (P := P) base t o.type e i z size bytes ht hi hz hsize hby hzs hsz v n xs hown ad m c hm news hl hnews h1 h63 hbytes hbase
    have h9 := hK' _ _ (h v' w' h2)
    unfold Oper.wp execOp
    simp only [ho, resolve, invoke, builtin, Sem.run_bind, Sem.run_pure, Result.andThen_ok, List.map_toArray, List.map_cons, List.map_nil, hs, hx, hr]
    exact h9
end Go.Proofs.Yteihildhlcggoaa

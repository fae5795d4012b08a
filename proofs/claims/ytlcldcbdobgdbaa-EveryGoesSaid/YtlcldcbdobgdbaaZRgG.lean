import Derived.Test.YtlcldcbdobgdbaaZRfK
import Derived.Test.YtlcldcbdobgdbaaZRgS
import Derived.Test.YtlcldcbdobgdbaaZOrder
set_option linter.all false
set_option maxRecDepth 100000
namespace Go.Proofs.Ytlcldcbdobgdbaa
open Go Go.RowKit

def Under (base : Nat) (e : TypeId) (size : Nat) (w : World) (v : Value) (n : Nat) (xs : List Value) (w1 : World) (v' : Value) (m : Nat) (ys : List Value) : Prop :=
  w.grownBy w1 v.ownBlock ∧ w1.ownsRow base e size v' m ys ∧ ∀ w2, w1.grownBy w2 v'.ownBlock → w2.ownsRow base e size v' m ys → w.grownBy w2 v.ownBlock ∧ w2.ownsRow base e size v n xs
theorem own_mono {w : World} {base base' : Nat} {e : TypeId} {size : Nat} {v : Value} {n : Nat} {xs : List Value} (h : w.ownsRow base e size v n xs) (hb : base' ≤ base) : w.ownsRow base' e size v n xs :=
  ⟨h.1, h.2.imp id fun ⟨g, cap, cur, h1, h2, h3⟩ => ⟨g, cap, cur, h1, Nat.le_trans hb h2, h3⟩⟩
theorem run_append_both {P : Program} {w : World} (base : Nat) (t ty e : TypeId) (i : TypeInfo) (z : Value) (size bytes : Nat) (ht : P.underlying t = some (.slice e)) (hi : P.info? e = some i) (hz : i.zero = some z)
    (hsize : i.size = size) (hby : i.bytes = bytes) (hzs : z.cells.size = size) (hsz : 0 < size)
    (v : Value) (n : Nat) (xs : List Value) (hown : w.ownsRow base e size v n xs)
    (ad : Addr) (m c : Nat) (hm : 0 < m) (news : List Value) (hl : news.length = m * size) (hnews : ∀ j u, news[j]? = some u → w.cell? (ad.add j) = some u) (h1 : ∀ u ∈ news, u.oneCell' = true)
    (h63 : n + m ≤ maxLen) (hbytes : (n + m) * bytes ≤ 140737488355328) (hbase : base ≤ w.heap.size) :
    ∃ v' w', (Builtin.append_ #[t, t] ty #[v, .slice (some ad) m c]).run P w = .ok v' w' ∧ Under base e size w v n xs w' v' (n + m) (xs ++ news) := by
  -- where the new row is a block of its own
  have fresh : ∀ v' w', w.grownBy w' none → w'.ownsRow base e size v' (n + m) (xs ++ news) → (∀ k, v'.ownBlock = some k → w.heap.size ≤ k) → Under base e size w v n xs w' v' (n + m) (xs ++ news) := fun v' w' hg ho hk => by
    refine ⟨hg.but _, ho, fun w2 hg2 _ => ?_⟩
    have hb : ∀ k, k < w.heap.size → w2.heap[k]? = w.heap[k]? := fun k hk2 =>
      (hg2.block k (Nat.lt_of_lt_of_le hk2 hg.size) (fun e => by have := hk k e.symm; omega)).trans (hg.block k hk2 (by simp))
    exact ⟨⟨hg2.os.trans hg.os, hg2.tape.trans hg.tape, hg2.output.trans hg.output, Nat.le_trans hg.size hg2.size, fun k hk2 _ => hb k hk2⟩, own_keep hown fun g _ hg => hb g hg⟩
  rcases hown.2 with ⟨rfl, rfl⟩ | ⟨g, cap, cur, rfl, hbg, hg, hnc, hcm, hcs, htake⟩
  · obtain ⟨v', w', hr, h2, h3, _, h5⟩ := run_append_own_at (P := P) w base t ty e i z size bytes ht hi hz hsize hby hzs hsz _ 0 xs hown ad m c news hl hnews h1 h63 hbytes hbase
    refine ⟨v', w', hr, fresh v' w' h3 h2 fun k hk => ?_⟩
    rcases h5 with h5 | h5
    · rw [hk] at h5; cases h5
    · rw [hk] at h5; cases h5; exact Nat.le_refl _
  · by_cases hroom : n + m ≤ cap
    · subst hsize
      have hfit : n * i.size + news.length ≤ cur.size := by rw [hl, hcs, ← Nat.add_mul]; exact Nat.mul_le_mul_right _ hroom
      have hr := run_append_room (P := P) w t ty e i ht hi g n cap cur hg ad m c news hl hnews h1 hroom hfit
      obtain ⟨v', w', hr', h2, h3, _, _⟩ := run_append_own_at (P := P) w base t ty e i z i.size bytes ht hi hz rfl hby hzs hsz _ n xs hown ad m c news hl hnews h1 h63 hbytes hbase
      rw [hr] at hr'
      cases hr'
      refine ⟨_, _, hr, h3, h2, fun w2 hg2 ho2 => ⟨h3.trans hg2, hown.1, .inr ⟨g, cap, ?_⟩⟩⟩
      rcases ho2.2 with ⟨h9, _⟩ | ⟨g', cap', cur', h9, _, hg', _, _, hcs', htake'⟩
      · cases h9
      · cases h9
        refine ⟨cur', rfl, hbg, hg', hnc, hcm, hcs', ?_⟩
        have := congrArg (List.take (n * i.size)) htake'
        rw [List.take_take, Nat.min_eq_left (Nat.mul_le_mul_right _ (by omega)), List.take_left' hown.1] at this
        exact this
    · obtain ⟨v', w', hr, h2, h3⟩ := run_append_arg_grows (P := P) w t ty e i z size bytes ht hi hz hsize hby hzs hsz ⟨g, 0, none⟩ n cap xs hown.1 (hown.cells (g := g) rfl) ad m c news hl hnews (by omega) h63 hbytes
      exact ⟨v', w', hr, fresh v' w' h3 (own_mono h2 hbase) fun k hk => (h2.lt k hk).1⟩
theorem wpList_append_both {P : Program} {ops : Array Oper} {rest : List Oper} {o : Oper} {a : Act} {w : World} {Q : Exit → Act → World → Prop} (hgd : o.guard = none) (s x : Operand) (t : TypeId)
    (ho : o.op = .call { callee := .builtin .append, args := #[s, x], argTypes := #[t, t] })
    (base : Nat) (e : TypeId) (i : TypeInfo) (z : Value) (size bytes : Nat) (ht : P.underlying t = some (.slice e)) (hi : P.info? e = some i) (hz : i.zero = some z)
    (hsize : i.size = size) (hby : i.bytes = bytes) (hzs : z.cells.size = size) (hsz : 0 < size)
    (v : Value) (n : Nat) (xs : List Value) (hs : a.eval s = v) (hown : w.ownsRow base e size v n xs)
    (ad : Addr) (m c : Nat) (hm : 0 < m) (news : List Value) (hx : a.eval x = .slice (some ad) m c) (hl : news.length = m * size) (hnews : ∀ j u, news[j]? = some u → w.cell? (ad.add j) = some u) (h1 : ∀ u ∈ news, u.oneCell' = true)
    (h63 : n + m ≤ maxLen) (hbytes : (n + m) * bytes ≤ 140737488355328) (hbase : base ≤ w.heap.size)
    (h : ∀ v' w', Under base e size w v n xs w' v' (n + m) (xs ++ news) → wpList P ops Q rest (a.put o.dst v') w') : wpList P ops Q (o :: rest) a w :=
  wpList_plain hgd fun _ hK' => by
    obtain ⟨v', w', hr, h2⟩ := run_append_both (P := P) base t o.type e i z size bytes ht hi hz hsize hby hzs hsz v n xs hown ad m c hm news hl hnews h1 h63 hbytes hbase
    have h9 := hK' _ _ (h v' w' h2)
    unfold Oper.wp execOp
    simp only [ho, resolve, invoke, builtin, Sem.run_bind, Sem.run_pure, Result.andThen_ok, List.map_toArray, List.map_cons, List.map_nil, hs, hx, hr]
    exact h9
end Go.Proofs.Ytlcldcbdobgdbaa
set_option linter.all false
set_option maxRecDepth 100000
namespace Go.Proofs.Ytlcldcbdobgdbaa
open Go Go.RowKit

theorem TGr : RowTy Try.prog 113 25 := ⟨_, Try.underlying113, rfl, by kernel_rfl⟩
theorem TG5 : RowTy Try.prog 111 5 := ⟨_, Try.underlying111, rfl, by kernel_rfl⟩
def gcl (P : Nat → Nat → Bool) : Nat → Bool := fun i => P (i / 5) (i % 5)
theorem gcl_at (P : Nat → Nat → Bool) {a b : Nat} (hb : b < 5) : gcl P (a * 5 + b) = P a b := by
  unfold gcl
  rw [show (a * 5 + b) / 5 = a by omega, show (a * 5 + b) % 5 = b by omega]
def GBox (w : World) (G : Nat) (P : Nat → Nat → Bool) : Prop := Box w G (bs 25 (gcl P)) 113
theorem GBox.cell {w : World} {G : Nat} {P : Nat → Nat → Bool} (h : GBox w G P) {a b : Nat} (ha : a < 5) (hb : b < 5) : w.cell? ⟨G, a * 5 + b, none⟩ = some (.bool (P a b)) := by
  have := Box.cell h (a * 5 + b) (bs_get (gcl P) (show a * 5 + b < 25 by omega))
  rwa [gcl_at P hb] at this
theorem GBox.bel {w w' : World} {G : Nat} {P : Nat → Nat → Bool} (h : GBox w G P) (hb : Bel w w') : GBox w' G P := hb.box h
theorem GBox.grown {w w' : World} {G : Nat} {P : Nat → Nat → Bool} (h : GBox w G P) {row : Option Nat} (hg : w.grownBy w' row) (hne : some G ≠ row) : GBox w' G P := Box.grown h hg hne
def setP (P : Nat → Nat → Bool) (a b : Nat) (v : Bool) : Nat → Nat → Bool := fun x y => if x = a ∧ y = b then v else P x y
theorem gcl_set (P : Nat → Nat → Bool) {a b : Nat} (ha : a < 5) (hb : b < 5) (v : Bool) : bs 25 (updB (gcl P) (a * 5 + b) v) = bs 25 (gcl (setP P a b v)) := bs_congr fun j hj => by
  unfold updB gcl setP
  by_cases h : j = a * 5 + b
  · rw [if_pos h, if_pos ⟨by omega, by omega⟩]
  · rw [if_neg h, if_neg (by omega)]
theorem GBox.set {w : World} {G : Nat} {P : Nat → Nat → Bool} (h : GBox w G P) {a b : Nat} (ha : a < 5) (hb : b < 5) (v : Bool) : GBox (w.setCell ⟨G, a * 5 + b, none⟩ (.bool v)) G (setP P a b v) := by
  have := Box.set h (a * 5 + b) (.bool v)
  rwa [bs_set, gcl_set P ha hb] at this
theorem own_at {w : World} {base : Nat} {t : TypeId} {v : Value} {r : List Nat} {n : Nat} (h : w.ownsRow base t 1 v n (intq (toI r))) (hr : r ≠ []) :
    ∃ g c, v = .slice (some ⟨g, 0, none⟩) n c ∧ base ≤ g ∧ n ≤ c ∧ c ≤ maxLen ∧ ∀ i, i < r.length → w.cell? ⟨g, i, none⟩ = some (.int .i64 (at0 r i : Nat)) := by
  have hl : r.length = n := by have := h.1; simpa [intq, toI] using this
  rcases h.2 with ⟨_, h0⟩ | ⟨g, cap, cur, rfl, h2, h3, h4, h5, h6⟩
  · exact absurd (List.eq_nil_of_length_eq_zero (by omega)) hr
  · refine ⟨g, cap, rfl, h2, h4, h5, fun i hi => ?_⟩
    have h9 := h.cells (g := g) rfl i (.int .i64 (at0 r i : Nat)) (by simp [intq, toI, at0, List.getElem?_eq_getElem hi])
    have e : (⟨g, 0, none⟩ : Addr).add i = ⟨g, i, none⟩ := by unfold Addr.add; split <;> simp_all
    rwa [e] at h9
end Go.Proofs.Ytlcldcbdobgdbaa

import Derived.Test.YtnklpifnknmdgaaGreatDoorZGu
import Derived.Test.YtnklpifnknmdgaaGreatDoorZKeepTw
import Derived.Test.YtnklpifnknmdgaaGreatDoorZRgS
import Derived.Test.YtnklpifnknmdgaaGreatDoorZBs
import Derived.Test.YtnklpifnknmdgaaGreatDoorZVs
import Derived.Shelf.Abstract
import Derived.Test.YtnklpifnknmdgaaGreatDoorZTrace4
set_option linter.all false
set_option maxRecDepth 100000
namespace Go.Proofs.YtnklpifnknmdgaaGreatDoor
open Go Go.RowKit

def Under (base : Nat) (e : TypeId) (size : Nat) (w : World) (v : Value) (n : Nat) (xs : List Value) (w1 : World) (v' : Value) (m : Nat) (ys : List Value) : Prop :=
  w.grownBy w1 v.ownBlock ∧ w1.ownsRow base e size v' m ys ∧ ∀ w2, w1.grownBy w2 v'.ownBlock → w2.ownsRow base e size v' m ys → w.grownBy w2 v.ownBlock ∧ w2.ownsRow base e size v n xs
theorem own_mono {w : World} {base base' : Nat} {e : TypeId} {size : Nat} {v : Value} {n : Nat} {xs : List Value} (h : w.ownsRow base e size v n xs) (hb : base' ≤ base) : w.ownsRow base' e size v n xs :=
  ⟨h.1, h.2.imp id fun ⟨g, cap, cur, h1, h2, h3⟩ => ⟨g, cap, cur, h1, Nat.le_trans hb h2, h3⟩⟩
theorem run_append_both {P : Program} {w : World} (base : Nat) (t ty e : TypeId) (i : TypeInfo) (z : Value) (size bytes : Nat) (ht : P.underlying t = some (.slice e)) (hi : P.info? e = some i) (hz : i.zero = some z)
    (hsize : i.size = size) (hby : i.bytes = bytes) (hzs : z.cells.size = size) (hsz : 0 < size)
    (v : Value) (n : Nat) (xs : List Value) (hown : w.ownsRow base e size v n xs)
    (ad : Addr) (m c : Nat) (hm : 0 < m) (news : List Value) (hl : news.length = m * size) (hnews : ∀ j u, news[j]? = some u → w.cell? (ad.add j) = some u) (h1 : ∀ u ∈ news, u.oneCell' = true)
    (h63 : n + m ≤ maxLen) (hbytes : (n + m) * bytes ≤ 140737488355328) (hbase : base ≤ w.heap.size) :
    ∃ v' w', (Builtin.append_ #[t, t] ty #[v, .slice (some ad) m c]).run P w = .ok v' w' ∧ Under base e size w v n xs w' v' (n + m) (xs ++ news) := by
  -- where the new row is a block of its own
  have fresh : ∀ v' w', w.grownBy w' none → w'.ownsRow base e size v' (n + m) (xs ++ news) → (∀ k, v'.ownBlock = some k → w.heap.size ≤ k) → Under base e size w v n xs w' v' (n + m) (xs ++ news) := fun v' w' hg ho hk => by
    refine ⟨hg.but _, ho, fun w2 hg2 _ => ?_⟩
    have hb : ∀ k, k < w.heap.size → w2.heap[k]? = w.heap[k]? := fun k hk2 =>
      (hg2.block k (Nat.lt_of_lt_of_le hk2 hg.size) (fun e => by have := hk k e.symm; omega)).trans (hg.block k hk2 (by simp))
    exact ⟨⟨hg2.os.trans hg.os, hg2.tape.trans hg.tape, hg2.output.trans hg.output, Nat.le_trans hg.size hg2.size, fun k hk2 _ => hb k hk2⟩, own_keep hown fun g _ hg => hb g hg⟩
  rcases hown.2 with ⟨rfl, rfl⟩ | ⟨g, cap, cur, rfl, hbg, hg, hnc, hcm, hcs, htake⟩
  · obtain ⟨v', w', hr, h2, h3, _, h5⟩ := run_append_own_at (P := P) w base t ty e i z size bytes ht hi hz hsize hby hzs hsz _ 0 xs hown ad m c news hl hnews h1 h63 hbytes hbase
    refine ⟨v', w', hr, fresh v' w' h3 h2 fun k hk => ?_⟩
    rcases h5 with h5 | h5
    · rw [hk] at h5; cases h5
    · rw [hk] at h5; cases h5; exact Nat.le_refl _
  · by_cases hroom : n + m ≤ cap
    · subst hsize
      have hfit : n * i.size + news.length ≤ cur.size := by rw [hl, hcs, ← Nat.add_mul]; exact Nat.mul_le_mul_right _ hroom
      have hr := run_append_room (P := P) w t ty e i ht hi g n cap cur hg ad m c news hl hnews h1 hroom hfit
      obtain ⟨v', w', hr', h2, h3, _, _⟩ := run_append_own_at (P := P) w base t ty e i z i.size bytes ht hi hz rfl hby hzs hsz _ n xs hown ad m c news hl hnews h1 h63 hbytes hbase
      rw [hr] at hr'
      cases hr'
      refine ⟨_, _, hr, h3, h2, fun w2 hg2 ho2 => ⟨h3.trans hg2, hown.1, .inr ⟨g, cap, ?_⟩⟩⟩
      rcases ho2.2 with ⟨h9, _⟩ | ⟨g', cap', cur', h9, _, hg', _, _, hcs', htake'⟩
      · cases h9
      · cases h9
        refine ⟨cur', rfl, hbg, hg', hnc, hcm, hcs', ?_⟩
        have := congrArg (List.take (n * i.size)) htake'
        rw [List.take_take, Nat.min_eq_left (Nat.mul_le_mul_right _ (by omega)), List.take_left' hown.1] at this
        exact this
    · obtain ⟨v', w', hr, h2, h3⟩ := run_append_arg_grows (P := P) w t ty e i z size bytes ht hi hz hsize hby hzs hsz ⟨g, 0, none⟩ n cap xs hown.1 (hown.cells (g := g) rfl) ad m c news hl hnews (by omega) h63 hbytes
      exact ⟨v', w', hr, fresh v' w' h3 (own_mono h2 hbase) fun k hk => (h2.lt k hk).1⟩
theorem wpList_append_both {P : Program} {ops : Array Oper} {rest : List Oper} {o : Oper} {a : Act} {w : World} {Q : Exit → Act → World → Prop} (hgd : o.guard = none) (s x : Operand) (t : TypeId)
    (ho : o.op = .call { callee := .builtin .append, args := #[s, x], argTypes := #[t, t] })
    (base : Nat) (e : TypeId) (i : TypeInfo) (z : Value) (size bytes : Nat) (ht : P.underlying t = some (.slice e)) (hi : P.info? e = some i) (hz : i.zero = some z)
    (hsize : i.size = size) (hby : i.bytes = bytes) (hzs : z.cells.size = size) (hsz : 0 < size)
    (v : Value) (n : Nat) (xs : List Value) (hs : a.eval s = v) (hown : w.ownsRow base e size v n xs)
    (ad : Addr) (m c : Nat) (hm : 0 < m) (news : List Value) (hx : a.eval x = .slice (some ad) m c) (hl : news.length = m * size) (hnews : ∀ j u, news[j]? = some u → w.cell? (ad.add j) = some u) (h1 : ∀ u ∈ news, u.oneCell' = true)
    (h63 : n + m ≤ maxLen) (hbytes : (n + m) * bytes ≤ 140737488355328) (hbase : base ≤ w.heap.size)
    (h : ∀ v' w', Under base e size w v n xs w' v' (n + m) (xs ++ news) → wpList P ops Q rest (a.put o.dst v') w') : wpList P ops Q (o :: rest) a w :=
  wpList_plain hgd fun _ hK' => by
    obtain ⟨v', w', hr, h2⟩ := run_append_both (P := P) base t o.type e i z size bytes ht hi hz hsize hby hzs hsz v n xs hown ad m c hm news hl hnews h1 h63 hbytes hbase
    have h9 := hK' _ _ (h v' w' h2)
    unfold Oper.wp execOp
    simp only [ho, resolve, invoke, builtin, Sem.run_bind, Sem.run_pure, Result.andThen_ok, List.map_toArray, List.map_cons, List.map_nil, hs, hx, hr]
    exact h9
theorem wp_append_both {P : Program} {o : Oper} {a : Act} {w : World} {K : Act → World → Prop} {Q : Exit → Act → World → Prop} (s x : Operand) (t : TypeId)
    (ho : o.op = .call { callee := .builtin .append, args := #[s, x], argTypes := #[t, t] })
    (base : Nat) (e : TypeId) (i : TypeInfo) (z : Value) (size bytes : Nat) (ht : P.underlying t = some (.slice e)) (hi : P.info? e = some i) (hz : i.zero = some z)
    (hsize : i.size = size) (hby : i.bytes = bytes) (hzs : z.cells.size = size) (hsz : 0 < size)
    (v : Value) (n : Nat) (xs : List Value) (hs : a.eval s = v) (hown : w.ownsRow base e size v n xs)
    (ad : Addr) (m c : Nat) (hm : 0 < m) (news : List Value) (hx : a.eval x = .slice (some ad) m c) (hl : news.length = m * size) (hnews : ∀ j u, news[j]? = some u → w.cell? (ad.add j) = some u) (h1 : ∀ u ∈ news, u.oneCell' = true)
    (h63 : n + m ≤ maxLen) (hbytes : (n + m) * bytes ≤ 140737488355328) (hbase : base ≤ w.heap.size)
    (h : ∀ v' w', Under base e size w v n xs w' v' (n + m) (xs ++ news) → (v'.ownBlock = v.ownBlock ∨ v'.ownBlock = some w.heap.size) → K (a.put o.dst v') w') : o.wp P a w K Q := by
  obtain ⟨v', w', hr, h2⟩ := run_append_both (P := P) base t o.type e i z size bytes ht hi hz hsize hby hzs hsz v n xs hown ad m c hm news hl hnews h1 h63 hbytes hbase
  obtain ⟨v2, w2, hr2, _, _, _, h5⟩ := run_append_own_at (P := P) w base t o.type e i z size bytes ht hi hz hsize hby hzs hsz v n xs hown ad m c news hl hnews h1 h63 hbytes hbase
  rw [hr] at hr2
  cases hr2
  have h9 := h v' w' h2 h5
  unfold Oper.wp execOp
  simp only [ho, resolve, invoke, builtin, Sem.run_bind, Sem.run_pure, Result.andThen_ok, List.map_toArray, List.map_cons, List.map_nil, hs, hx, hr]
  exact h9
theorem Bel.grownBy {w w' : World} (h : Bel w w') (r : Option Nat) : w.grownBy w' r := ⟨h.out.os, h.out.tape, h.out.output, h.out.size, fun k hk _ => h.out.block k hk⟩
end Go.Proofs.YtnklpifnknmdgaaGreatDoor
set_option linter.all false
set_option maxRecDepth 100000
namespace Go.Proofs.YtnklpifnknmdgaaGreatDoor
open Go Go.RowKit

theorem TGr : RowTy Tryz.prog 204 25 := ⟨_, Tryz.underlying204, rfl, by kernel_rfl⟩
theorem TG5 : RowTy Tryz.prog 202 5 := ⟨_, Tryz.underlying202, rfl, by kernel_rfl⟩
def gcl (P : Nat → Nat → Bool) : Nat → Bool := fun i => P (i / 5) (i % 5)
theorem gcl_at (P : Nat → Nat → Bool) {a b : Nat} (hb : b < 5) : gcl P (a * 5 + b) = P a b := by
  unfold gcl
  rw [show (a * 5 + b) / 5 = a by omega, show (a * 5 + b) % 5 = b by omega]
def GBox (w : World) (G : Nat) (P : Nat → Nat → Bool) : Prop := Box w G (bs 25 (gcl P)) 204
theorem GBox.cell {w : World} {G : Nat} {P : Nat → Nat → Bool} (h : GBox w G P) {a b : Nat} (ha : a < 5) (hb : b < 5) : w.cell? ⟨G, a * 5 + b, none⟩ = some (.bool (P a b)) := by
  have := Box.cell h (a * 5 + b) (bs_get (gcl P) (show a * 5 + b < 25 by omega))
  rwa [gcl_at P hb] at this
theorem GBox.bel {w w' : World} {G : Nat} {P : Nat → Nat → Bool} (h : GBox w G P) (hb : Bel w w') : GBox w' G P := hb.box h
theorem GBox.grown {w w' : World} {G : Nat} {P : Nat → Nat → Bool} (h : GBox w G P) {row : Option Nat} (hg : w.grownBy w' row) (hne : some G ≠ row) : GBox w' G P := Box.grown h hg hne
def setP (P : Nat → Nat → Bool) (a b : Nat) (v : Bool) : Nat → Nat → Bool := fun x y => if x = a ∧ y = b then v else P x y
theorem gcl_set (P : Nat → Nat → Bool) {a b : Nat} (ha : a < 5) (hb : b < 5) (v : Bool) : bs 25 (updB (gcl P) (a * 5 + b) v) = bs 25 (gcl (setP P a b v)) := bs_congr fun j hj => by
  unfold updB gcl setP
  by_cases h : j = a * 5 + b
  · rw [if_pos h, if_pos ⟨by omega, by omega⟩]
  · rw [if_neg h, if_neg (by omega)]
theorem GBox.set {w : World} {G : Nat} {P : Nat → Nat → Bool} (h : GBox w G P) {a b : Nat} (ha : a < 5) (hb : b < 5) (v : Bool) : GBox (w.setCell ⟨G, a * 5 + b, none⟩ (.bool v)) G (setP P a b v) := by
  have := Box.set h (a * 5 + b) (.bool v)
  rwa [bs_set, gcl_set P ha hb] at this
theorem own_at {w : World} {base : Nat} {t : TypeId} {v : Value} {r : List Nat} {n : Nat} (h : w.ownsRow base t 1 v n (intq (toI r))) (hr : r ≠ []) :
    ∃ g c, v = .slice (some ⟨g, 0, none⟩) n c ∧ base ≤ g ∧ n ≤ c ∧ c ≤ maxLen ∧ ∀ i, i < r.length → w.cell? ⟨g, i, none⟩ = some (.int .i64 (at0 r i : Nat)) := by
  have hl : r.length = n := by have := h.1; simpa [intq, toI] using this
  rcases h.2 with ⟨_, h0⟩ | ⟨g, cap, cur, rfl, h2, h3, h4, h5, h6⟩
  · exact absurd (List.eq_nil_of_length_eq_zero (by omega)) hr
  · refine ⟨g, cap, rfl, h2, h4, h5, fun i hi => ?_⟩
    have h9 := h.cells (g := g) rfl i (.int .i64 (at0 r i : Nat)) (by simp [intq, toI, at0, List.getElem?_eq_getElem hi])
    have e : (⟨g, 0, none⟩ : Addr).add i = ⟨g, i, none⟩ := by unfold Addr.add; split <;> simp_all
    rwa [e] at h9
end Go.Proofs.YtnklpifnknmdgaaGreatDoor
set_option linter.all false
set_option maxRecDepth 100000
namespace Go.Proofs.YtnklpifnknmdgaaGreatDoor
open Go Go.RowKit

end Go.Proofs.YtnklpifnknmdgaaGreatDoor
set_option linter.all false
set_option maxRecDepth 100000
namespace Go.Proofs.YtnklpifnknmdgaaGreatDoor
open Go Go.RowKit

theorem row5_info : (Tryz.prog.info? 202).map (fun i => (i.zero, i.size, i.bytes)) = some (some (.agg #[.bool false, .bool false, .bool false, .bool false, .bool false]), 5, 5) := by kernel_rfl
theorem GBox.row {w : World} {G : Nat} {P : Nat → Nat → Bool} (h : GBox w G P) {a : Nat} (ha : a < 5) : w.rangeAt G (a * 5) (bsl 5 (P a)) := by
  have h1 := Box.part h (a * 5) 5 (by omega)
  have e : (bsl 5 fun k => gcl P (a * 5 + k)) = bsl 5 (P a) := by
    unfold bsl
    refine List.map_congr_left fun j hj => ?_
    show Value.bool (gcl P (a * 5 + j)) = _
    rw [gcl_at P (List.mem_range.1 hj)]
  rwa [e] at h1
set_option maxHeartbeats 8000000 in
theorem gpairs_any (G : Nat) (P : Nat → Nat → Bool) (w : World) (hg : GBox w G P) : Calls Tryz.prog 148 #[.pointer (some ⟨G, 0, none⟩)] w (PrsPost w P 5) := by
  have HG := Lib.hid hg
  have H0 := Lib.hid (PrsR.mk (World.ownsRow_nil _ _ _ _) (Bel.refl w) : PrsR w P 5 0 0 (.slice none 0 0) w)
  obtain ⟨i0, hi0, hz0, hz1, hz2⟩ := info_parts pr_info
  have J := Lib.hid (And.intro hi0 (And.intro hz0 (And.intro hz1 hz2)))
  obtain ⟨j0, hj0, gz0, gz1, gz2⟩ := info_parts row5_info
  have J5 := Lib.hid (And.intro hj0 gz0)
  clear hi0 hz0 hz1 hz2 hg hj0 gz0 gz1 gz2
  go_enter Tryz.func148, Tryz.ntmps148
  go_wp2
  go_loopw [3, 10] (fun v t9 wr => ∃ i : Nat, i ≤ 5 ∧ t9 = .int .i64 i ∧ PrsR w P 5 i 0 v wr) (fun _ t9 _ => 5 - (intOf t9).toNat)
  case atStart => exact ⟨0, by omega, rfl, H0.out⟩
  case round =>
    obtain ⟨i, hi, rfl, hr⟩ := hrel
    have HP := Lib.hid hr
    clear hr H0
    by_cases hlt : i < 5
    · have hlt' : (i : Int) < 5 := by omega
      have HGR := Lib.hid (HG.out.bel HP.out.below)
      go_wp2
      refine region_grow (by kernel_rfl) ?_
      have HROW := fun (w1 : World) (h1 : Below wr.heap.size wr w1) => (HGR.out.bel (Bel.of h1)).row hlt
      (repeat (first | ((first | refine wpG_go 0 (by simp only [List.getElem?_toArray, List.getElem?_cons_zero, List.getElem?_cons_succ] <;> rfl) (by decide +kernel) (by decide +kernel) (by kernel_rfl) (by rfl) (by exact fun _ _ _ _ h => h) (Nat.le_refl _) ?_ | refine wpG_go 1 (by simp only [List.getElem?_toArray, List.getElem?_cons_zero, List.getElem?_cons_succ] <;> rfl) (by decide +kernel) (by decide +kernel) (by kernel_rfl) (by rfl) (by exact fun _ _ _ _ h => h) (Nat.le_refl _) ?_ | refine wpG_go 2 (by simp only [List.getElem?_toArray, List.getElem?_cons_zero, List.getElem?_cons_succ] <;> rfl) (by decide +kernel) (by decide +kernel) (by kernel_rfl) (by rfl) (by exact fun _ _ _ _ h => h) (Nat.le_refl _) ?_ | refine wpG_go 3 (by simp only [List.getElem?_toArray, List.getElem?_cons_zero, List.getElem?_cons_succ] <;> rfl) (by decide +kernel) (by decide +kernel) (by kernel_rfl) (by rfl) (by exact fun _ _ _ _ h => h) (Nat.le_refl _) ?_); apply Exists.intro; refine ⟨fun w1 h1 => ?_, ?_⟩; (first | exact g_move _ rfl | exact g_assign _ rfl | exact g_load_mid _ _ rfl rfl (HROW w1 h1) TG5 (bs 5 (P i)) rfl | (go_simp; first | exact ⟨rfl, rfl⟩ | rfl)); simp only [Act.put, Act.eval, List.setIfInBounds_toArray, List.set_cons_zero, List.set_cons_succ, Array.getD_eq_getD_getElem?, List.getElem?_toArray, List.getElem?_cons_zero, List.getElem?_cons_succ, Option.getD_some]) | ((first | refine wpG_skip 0 (by simp only [List.getElem?_toArray, List.getElem?_cons_zero, List.getElem?_cons_succ] <;> rfl) (by decide +kernel) (by decide +kernel) (by kernel_rfl) (by rfl) (by exact fun _ _ _ _ h => h) (Nat.le_refl _) ?_ | refine wpG_skip 1 (by simp only [List.getElem?_toArray, List.getElem?_cons_zero, List.getElem?_cons_succ] <;> rfl) (by decide +kernel) (by decide +kernel) (by kernel_rfl) (by rfl) (by exact fun _ _ _ _ h => h) (Nat.le_refl _) ?_ | refine wpG_skip 2 (by simp only [List.getElem?_toArray, List.getElem?_cons_zero, List.getElem?_cons_succ] <;> rfl) (by decide +kernel) (by decide +kernel) (by kernel_rfl) (by rfl) (by exact fun _ _ _ _ h => h) (Nat.le_refl _) ?_ | refine wpG_skip 3 (by simp only [List.getElem?_toArray, List.getElem?_cons_zero, List.getElem?_cons_succ] <;> rfl) (by decide +kernel) (by decide +kernel) (by kernel_rfl) (by rfl) (by exact fun _ _ _ _ h => h) (Nat.le_refl _) ?_); simp only [Act.put, Act.eval, List.setIfInBounds_toArray, List.set_cons_zero, List.set_cons_succ, Array.getD_eq_getD_getElem?, List.getElem?_toArray, List.getElem?_cons_zero, List.getElem?_cons_succ, Option.getD_some])))
      (refine wpG_one 4 (by decide +kernel) ?_; intro w1 hw1; refine op_wanted (by simp only [List.getElem?_toArray, List.getElem?_cons_zero, List.getElem?_cons_succ] <;> rfl) rfl ?_)
      refine wp_new _ rfl j0 J5.out.1 _ J5.out.2 ⟨Below.alloc (Below.refl _ _) hw1.size _, ?_⟩
      simp only [Act.put, Act.eval, List.setIfInBounds_toArray, List.set_cons_zero, List.set_cons_succ, Array.getD_eq_getD_getElem?, List.getElem?_toArray, List.getElem?_cons_zero, List.getElem?_cons_succ, Option.getD_some]
      (repeat (first | ((first | refine wpG_go 5 (by simp only [List.getElem?_toArray, List.getElem?_cons_zero, List.getElem?_cons_succ] <;> rfl) (by decide +kernel) (by decide +kernel) (by kernel_rfl) (by rfl) (by exact fun _ _ _ _ h => h) (Nat.le_trans hw1.size (by simp)) ?_); apply Exists.intro; refine ⟨fun w1 h1 => ?_, ?_⟩; (first | exact g_move _ rfl | exact g_assign _ rfl | (go_simp; first | exact ⟨rfl, rfl⟩ | rfl)); simp only [Act.put, Act.eval, List.setIfInBounds_toArray, List.set_cons_zero, List.set_cons_succ, Array.getD_eq_getD_getElem?, List.getElem?_toArray, List.getElem?_cons_zero, List.getElem?_cons_succ, Option.getD_some]) | ((first | refine wpG_skip 5 (by simp only [List.getElem?_toArray, List.getElem?_cons_zero, List.getElem?_cons_succ] <;> rfl) (by decide +kernel) (by decide +kernel) (by kernel_rfl) (by rfl) (by exact fun _ _ _ _ h => h) (Nat.le_trans hw1.size (by simp)) ?_); simp only [Act.put, Act.eval, List.setIfInBounds_toArray, List.set_cons_zero, List.set_cons_succ, Array.getD_eq_getD_getElem?, List.getElem?_toArray, List.getElem?_cons_zero, List.getElem?_cons_succ, Option.getD_some])))
      (refine wpG_one 6 (by decide +kernel) ?_; intro w2 hw2; refine op_wanted (by simp only [List.getElem?_toArray, List.getElem?_cons_zero, List.getElem?_cons_succ] <;> rfl) rfl ?_)
      have hbx := hw2.box (Box.new w1 (bs 5 fun _ => false) 202)
      refine wp_storeB TG5 _ _ rfl rfl (bs_size 5 (P i)) rfl hbx (bs_size _ _) (bs_all _ _) ⟨below_setRow' (Below.refl _ _) _ _ hw1.size, ?_⟩
      simp only [Act.put, Act.eval, List.setIfInBounds_toArray, List.set_cons_zero, List.set_cons_succ, Array.getD_eq_getD_getElem?, List.getElem?_toArray, List.getElem?_cons_zero, List.getElem?_cons_succ, Option.getD_some]
      (refine wpG_done (by decide +kernel) ?_ _; intro w3 hw3; try simp only [Act.put, Act.eval, List.setIfInBounds_toArray, List.set_cons_zero, List.set_cons_succ, Array.getD_eq_getD_getElem?, List.getElem?_toArray, List.getElem?_cons_zero, List.getElem?_cons_succ, Option.getD_some])
      have HBW := Lib.hid ((Bel.of (below_setRow' (((Bel.of hw1).alloc (.cells (bs 5 fun _ => false) 202)).trans hw2).out w1.heap.size (bs 5 (P i)) hw1.size)).trans hw3)
      have HX := Lib.hid (hw3.box (hbx.setRow (bs 5 (P i))))
      have H1 := Lib.hid (PrsR.mk (own_bel HP.out.own HBW.out) (HP.out.below.trans HBW.out) : PrsR w P 5 i 0 u3 w3)
      have HI := Lib.hid (fun (k : Nat) (hk : k < 5) (w : World) => index_bs (P := Tryz.prog) Tryz.underlying202 Tryz.underlying4 (by kernel_rfl) (P i) k hk w)
      clear hw1 hw2 hw3 hbx HROW
      go_wp2_with (refine loadT TG5 _ rfl rfl rfl HX.out (bs_size _ _) ?_)
      go_loopw [3, 17] (fun v t7 wr => ∃ j : Nat, j ≤ 5 ∧ t7 = .int .i64 j ∧ PrsR w P 5 i j v wr) (fun _ t7 _ => 5 - (intOf t7).toNat)
      case atStart => exact ⟨0, by omega, rfl, H1.out⟩
      case round =>
        obtain ⟨j, hj, rfl, hr⟩ := hrel
        have HQ := Lib.hid hr
        clear hr H1 HP
        by_cases hlj : j < 5
        · have hlj' : (j : Int) < 5 := by omega
          have hI := HI.out j hlj
          cases hq : P i j
          · rw [hq] at hI
            have HS := Lib.hid (HQ.out.to (prs_no hq))
            go_wp2
            go_roundw
            case rel => exact ⟨j + 1, by omega, by go_num, HS.out⟩
            case measure => simp [intOf]; omega
          · rw [hq] at hI
            have HA := Lib.hid (own_alloc HQ.out.own (.cells (prv (i, j)) 112))
            have HNW := Lib.hid (Box.news (l := prl (i, j)) (Box.new wr (prv (i, j)) 112))
            have HSZ := Lib.hid (HQ.out.below.alloc (.cells (prv (i, j)) 112)).size
            have HLN := Lib.hid (prs_small (R := P) (n := 5) (i := i) (j := j) (by omega) hi hj)
            go_wp2_with (first | (refine buildp 80 _ rfl rfl 112 i0 Tryz.underlying80 J.out.1 J.out.2.1 J.out.2.2.1 (i, j) rfl ?_) | (at_builtin; refine wpList_append_own_at _ rfl (.tmp 22) (.tmp 26) _ rfl w.heap.size 112 i0 _ 2 16 Tryz.underlying80 J.out.1 J.out.2.1 J.out.2.2.1 J.out.2.2.2 rfl (by omega) _ (prs P 5 i j).length _ rfl HA.out ⟨wr.heap.size, 0, none⟩ 1 1 (prl (i, j)) rfl rfl HNW.out (by simp [prl, Value.oneCell']) (by have := HLN.out; unfold maxLen; omega) (by have := HLN.out; omega) HSZ.out ?_; intro v2 w2 hown2 hg2 hn2 hat2))
            refine ⟨⟨j + 1, by omega, by go_num, ⟨?_, (HQ.out.below.alloc _).out.grown hg2 HSZ.out (own_block_ge HA.out)⟩⟩, by simp [intOf]; omega⟩
            rw [prs_yes hq, List.length_append, prc_append]
            exact hown2
        · obtain rfl : j = 5 := by omega
          have HS := Lib.hid (HQ.out.to (prs_next P 5 i))
          go_wp2
          go_roundw
          case rel => exact ⟨i + 1, by omega, by go_num, HS.out⟩
          case measure => simp [intOf]; omega
    · obtain rfl : i = 5 := by omega
      go_wp2
      go_ret
      exact ⟨_, rfl, HP.out.own, HP.out.below⟩
end Go.Proofs.YtnklpifnknmdgaaGreatDoor
set_option linter.all false
set_option maxRecDepth 100000
namespace Go.Proofs.YtnklpifnknmdgaaGreatDoor
open Go Go.RowKit

def evA (l : List Ev) (i : Nat) : Ev := (l[i]?).getD ⟨0, 0, 0⟩
theorem evA_at {l : List Ev} {i : Nat} {e : Ev} (h : l[i]? = some e) : evA l i = e := by simp [evA, h]
def edgeAt (l : List Ev) (a b : Int) (i : Nat) : Bool := (evA l i).k == 3 && (evA l i).o == b && owner (l.take i) a == (evA l i).t
def edge (l : List Ev) (a b : Int) : Bool := (List.range l.length).any (edgeAt l a b)
end Go.Proofs.YtnklpifnknmdgaaGreatDoor

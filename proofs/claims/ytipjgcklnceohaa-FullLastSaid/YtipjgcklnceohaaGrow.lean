/- A region that draws its order and makes memory: every order at once, but for the operations whose value leans on the order (new blocks, appends, stores at the end). -/
import Derived.Test.YtipjgcklnceohaaBase
import Derived.OrdersHeld
import Derived.Deep.Quiet
set_option linter.all false
set_option maxRecDepth 100000
namespace Go.Proofs.Ytipjgcklnceohaa
open Go Go.RowKit

section
variable {P : Program} {ops : Array Oper} {md : Region.Mode} {Q : Exit → Act → World → Prop} {N : Nat}

/-- Whatever order is picked from here on, in every world that has grown from this one; of what lies below N nothing turns. -/
def wpG (P : Program) (md : Region.Mode) (ops : Array Oper) (Q : Exit → Act → World → Prop) (N : Nat) : Nat → Array Bool → Act → World → Prop
  | 0, listed, a, w => ∀ w1, Bel w w1 → Region.ready md ops listed = [] ∧ Q .normal a w1
  | f + 1, listed, a, w => ∀ w1, Bel w w1 → (Region.ready md ops listed = [] → Q .normal a w1) ∧
      ∀ i ∈ Region.ready md ops listed, wpOp P ops Q i (fun a' w' => Below N w1 w' ∧ wpG P md ops Q N f (listed.setIfInBounds i true) a' w') a w1

theorem wpAny_of_grow : ∀ (f : Nat) (listed : Array Bool) (a : Act) (w : World), wpG P md ops Q N f listed a w → wpAny P md ops Q f listed a w
  | 0, _, _, w, h => h w (Bel.refl w)
  | f + 1, _, _, w, h => ⟨(h w (Bel.refl w)).1, fun i hi => wpOp_mono (fun a' w' h' => wpAny_of_grow f _ a' w' h'.2) ((h w (Bel.refl w)).2 i hi)⟩

theorem wpG.world {f : Nat} {listed : Array Bool} {a : Act} {w w1 : World} (h : wpG P md ops Q N f listed a w) (hb : Bel w w1) : wpG P md ops Q N f listed a w1 := by
  cases f <;> exact fun w2 h2 => h w2 (hb.trans h2)

/-- In every world in which nothing below N has turned since w, o leaves v, and a world that has only grown. -/
def YieldsG (P : Program) (ops : Array Oper) (N : Nat) (o : Oper) (v : Value) (a : Act) (w : World) : Prop :=
  (Region.wanted o (yielded ops a.tmps) = true ∧ ∀ w1, Below N w w1 → o.quietAt P a (Bel w1) w1 v) ∨ (Region.wanted o (yielded ops a.tmps) = false ∧ v = undef)

theorem quietAt_mono {o : Oper} {a : Act} {C D : World → Prop} {w : World} {v : Value} (h : ∀ w, C w → D w) (hq : o.quietAt P a C w v) : o.quietAt P a D w v := by
  unfold Oper.quietAt at *
  generalize (execOp a.eval o).run P w = r at *
  cases r with
  | ok n w' =>
    cases n <;> simp only [Oper.quietUpon] at hq ⊢ <;> first | exact hq | exact ⟨hq.1, hq.2.mono fun e w'' ⟨h1, h2⟩ => ⟨h1, h _ h2⟩⟩
  | halt x w' => exact hq

theorem YieldsG.later {o : Oper} {v : Value} {a : Act} {w w' : World} (h : YieldsG P ops N o v a w) (hb : Below N w w') : YieldsG P ops N o v a w' :=
  h.imp (fun ⟨h1, h2⟩ => ⟨h1, fun w1 hb1 => h2 w1 (hb.trans hb1)⟩) id

theorem YieldsG.same {o : Oper} {v : Value} {a a' : Act} {w : World} (hy : YieldsG P ops N o v a w) (he : execOp a'.eval o = execOp a.eval o)
    (hw : Region.wanted o (yielded ops a'.tmps) = Region.wanted o (yielded ops a.tmps)) : YieldsG P ops N o v a' w := by
  unfold YieldsG Oper.quietAt at *
  rw [he, hw]
  exact hy

theorem YieldsG.op {i : Nat} {o : Oper} {v : Value} {a : Act} {w : World} (hi : ops[i]? = some o) (hN : N ≤ w.heap.size) (hy : YieldsG P ops N o v a w) {K : Act → World → Prop}
    (h : ∀ w', Bel w w' → K (a.put o.dst v) w') : wpOp P ops Q i K a w := by
  unfold wpOp
  simp only [hi]
  rcases hy with ⟨hw, hv⟩ | ⟨hw, rfl⟩
  · simp only [hw, if_true]
    refine .inl (Oper.wp_of_quiet (C := Bel w) (K := fun a' => ∀ w', Bel w w' → K a' w') (Bel.refl w) (fun a' w' hb hk => hk w' hb) ⟨v, fun w1 hb => ?_, h⟩)
    exact quietAt_mono (fun w2 h2 => hb.trans h2) (hv w1 (Below.mono hb hN))
  · simp only [hw, Bool.false_eq_true, if_false]; exact h w (Bel.refl w)

theorem putG {j : Nat} {oi oj : Oper} {v : Value} (hj : ops[j]? = some oj) (hap : oi.apart ops oj = true)
    (hsi : ∀ cs b, oi.op ≠ .select cs b) (hsj : ∀ cs b, oj.op ≠ .select cs b)
    (hQ : ∀ c a w, Q (.panic c) (a.put oi.dst v) w → Q (.panic c) a w) {K : Act → World → Prop} {a : Act} {w : World}
    (hy : YieldsG P ops N oi v a w) (h : wpOp P ops Q j (fun a' w' => Below N w w' ∧ K a' w') (a.put oi.dst v) w) :
    wpOp P ops Q j (fun a' w' => Below N w w' ∧ YieldsG P ops N oi v a' w' ∧ K (a'.put oi.dst v) w') a w := by
  obtain ⟨h1, h2, h3⟩ := Oper.apart_spec hap
  have keep : ∀ (a : Act) (w' : World), YieldsG P ops N oi v a w → Below N w w' → ∀ u, YieldsG P ops N oi v (a.put oj.dst u) w' := fun a w' hy hb u =>
    (hy.later hb).same (execOp_put oi hsi a oj.dst u h3) (wanted_put oi a oj.dst u h3)
  have keepD : ∀ d, YieldsG P ops N oi v { a with defers := d :: a.defers } w := fun d => hy.same rfl rfl
  unfold wpOp at *
  simp only [hj] at *
  rw [wanted_put oj a oi.dst v h1] at h
  split
  · rename_i hw
    simp only [hw, if_true] at h
    rcases h with h | ⟨hasks, hlets⟩
    case inr => exact .inr ⟨by unfold Oper.asks at *; rw [execOp_put oj hsj a oi.dst v h1] at hasks; exact hasks, hlets⟩
    refine .inl ?_
    unfold Oper.wp at *
    rw [execOp_put oj hsj a oi.dst v h1] at h
    generalize (execOp a.eval oj).run P w = r at *
    cases r with
    | ok n w' =>
      cases n <;> simp only [Oper.upon] at h ⊢
      case value u => exact ⟨h.1, keep a _ hy h.1 u, by rw [← Act.put_comm a v u h2]; exact h.2⟩
      case skip => exact ⟨h.1, keep a _ hy h.1 _, by rw [← Act.put_comm a v undef h2]; exact h.2⟩
      case defer d =>
        refine ⟨h.1, keep _ _ (keepD d) h.1 _, ?_⟩
        rw [← Act.put_comm _ v undef h2, ← Act.put_defers]
        exact h.2
      case enter f args =>
        refine Calls.mono h fun e w'' he => ?_
        cases e with
        | returned u => exact ⟨he.1, keep a _ hy he.1 u, by rw [← Act.put_comm a v u h2]; exact he.2⟩
        | panicked c => exact hQ _ _ _ he
        | outgrown => exact he
      case row row args => exact Rows.mono h fun u w'' he => ⟨he.1, keep a _ hy he.1 u, by rw [← Act.put_comm a v u h2]; exact he.2⟩
    | halt x w' =>
      cases x <;> simp only [Oper.upon] at h ⊢
      case panic u => exact hQ _ _ _ h
  · rename_i hw
    simp only [hw] at h
    exact ⟨h.1, keep a _ hy h.1 _, by rw [← Act.put_comm a v undef h2]; exact h.2⟩

theorem wpG_first {i : Nat} {oi : Oper} {v : Value} (hi : ops[i]? = some oi) (hsel : ∀ (j : Nat) (o : Oper) cs b, ops[j]? = some o → o.op ≠ .select cs b)
    (hQ : ∀ c a w, Q (.panic c) (a.put oi.dst v) w → Q (.panic c) a w) :
    ∀ (f : Nat) (listed : Array Bool) (a : Act) (w : World), N ≤ w.heap.size →
      (∀ j oj, ops[j]? = some oj → j ≠ i → listed.getD j true = false → (∀ e ∈ oj.after, Region.binds md e = true → e.on ≠ i) → oi.apart ops oj = true) →
      i ∈ Region.ready md ops listed → YieldsG P ops N oi v a w →
      wpG P md ops Q N f (listed.setIfInBounds i true) (a.put oi.dst v) w → wpG P md ops Q N (f + 1) listed a w := by
  intro f
  induction f with
  | zero =>
    intro listed a w hN _ hr hy H w1 hb
    refine ⟨fun h => (by rw [h] at hr; cases hr), fun j hj => ?_⟩
    by_cases hji : j = i
    · subst hji
      exact (hy.later (Below.mono hb hN)).op hi (Nat.le_trans hN hb.size) fun w' hb' => ⟨Below.mono hb' (Nat.le_trans hN hb.size), H.world (hb.trans hb')⟩
    · have := ready_mono hj hji
      rw [(H w1 hb).1] at this
      cases this
  | succ f ih =>
    intro listed a w hN hfree hr hy H w1 hb
    have hN1 : N ≤ w1.heap.size := Nat.le_trans hN hb.size
    have hy1 := hy.later (Below.mono hb hN)
    refine ⟨fun h => (by rw [h] at hr; cases hr), fun j hj => ?_⟩
    by_cases hji : j = i
    · subst hji
      exact hy1.op hi hN1 fun w' hb' => ⟨Below.mono hb' hN1, H.world (hb.trans hb')⟩
    · have h1 := (H w1 hb).2 j (ready_mono hj hji)
      obtain ⟨hjun, oj, hoj, hall⟩ := mem_ready.1 hj
      have hnot : ∀ e ∈ oj.after, Region.binds md e = true → e.on ≠ i := fun e he hb heq => by
        have h1 := hall e he hb
        have h0 := (mem_ready.1 hr).1
        rw [heq] at h1
        rcases Nat.lt_or_ge i listed.size with h' | h'
        · simp [h'] at h0 h1; rw [h0] at h1; cases h1
        · simp [Array.getElem?_eq_none h'] at h1
      have h2 := putG hoj (hfree j oj hoj hji hjun hnot) (fun cs b => hsel i oi cs b hi) (fun cs b => hsel j oj cs b hoj) hQ hy1 h1
      have hfree' : ∀ k ok, ops[k]? = some ok → k ≠ i → (listed.setIfInBounds j true).getD k true = false →
          (∀ e ∈ ok.after, Region.binds md e = true → e.on ≠ i) → oi.apart ops ok = true := fun k ok hk hki hun hno => by
        refine hfree k ok hk hki ?_ hno
        by_cases hjk : j = k
        · subst hjk; exact hjun
        · rw [getD_set_ne true hjk] at hun; exact hun
      refine wpOp_mono (fun a' w' h3 => ⟨h3.1, ih (listed.setIfInBounds j true) a' w' (Nat.le_trans hN1 h3.1.size) hfree' (ready_mono hr (Ne.symm hji)) h3.2.1 ?_⟩) h2
      rw [Array.setIfInBounds_comm _ _ hji]
      exact h3.2.2

/-- Take number i: it yields v whatever came before it. -/
theorem wpG_take {i : Nat} {oi : Oper} {v : Value} {f : Nat} {listed : Array Bool} {a : Act} {w : World} (hi : ops[i]? = some oi)
    (hs : Region.noSelect ops = true) (hf : Region.free md ops listed i = true) (hr : (Region.ready md ops listed).contains i = true)
    (hQ : ∀ c a w, Q (.panic c) (a.put oi.dst v) w → Q (.panic c) a w) (hN : N ≤ w.heap.size) (hy : YieldsG P ops N oi v a w)
    (h : wpG P md ops Q N f (listed.setIfInBounds i true) (a.put oi.dst v) w) : wpG P md ops Q N (f + 1) listed a w :=
  wpG_first hi (Region.noSelect_spec hs) hQ f listed a w hN (Region.free_spec hi hf) (by simpa using hr) hy h
theorem wpG_all {rs : List Nat} {f : Nat} {listed : Array Bool} {a : Act} {w : World} (hr : Region.ready md ops listed = rs) (hne : rs ≠ [])
    (h : ∀ w1, Bel w w1 → ∀ i ∈ rs, wpOp P ops Q i (fun a' w' => Below N w1 w' ∧ wpG P md ops Q N f (listed.setIfInBounds i true) a' w') a w1) : wpG P md ops Q N (f + 1) listed a w :=
  fun w1 hb => ⟨fun h0 => absurd (hr ▸ h0) hne, hr ▸ h w1 hb⟩
theorem wpG_done {listed : Array Bool} {a : Act} {w : World} (hr : Region.ready md ops listed = []) (h : ∀ w1, Bel w w1 → Q .normal a w1) : ∀ f, wpG P md ops Q N f listed a w
  | 0 => fun w1 hb => ⟨hr, h w1 hb⟩
  | _ + 1 => fun w1 hb => ⟨fun _ => h w1 hb, by rw [hr]; simp⟩
/-- The beginning. -/
theorem region_grow {id : Nat} {a : Act} {w : World} (hm : P.follows .mixedOrders = true)
    (h : wpG P .any ops Q w.heap.size ops.size (Array.replicate ops.size false) a w) : (Code.region id ops true).wp P Q a w :=
  wp_region_any hm (wpAny_of_grow _ _ _ _ (h.world (w1 := w.drew) (Bel.refl w).drew))
/-- The same where what is older than this region may be stored into: all that lies from N on. -/
theorem region_growN (N : Nat) {id : Nat} {a : Act} {w : World} (hm : P.follows .mixedOrders = true)
    (h : wpG P .any ops Q N ops.size (Array.replicate ops.size false) a w) : (Code.region id ops true).wp P Q a w :=
  wp_region_any hm (wpAny_of_grow _ _ _ _ (h.world (w1 := w.drew) (Bel.refl w).drew))

variable {o : Oper} {a : Act} {w w1 : World}
theorem g_load (ty : TypeId) (x : Operand) (ho : o.op = .load ty x) {B : Nat} {c : Array Value} {t : TypeId} (hT : RowTy P ty c.size) (hx : a.eval x = .pointer (some ⟨B, 0, none⟩)) (hb : Box w1 B c t) : o.quietAt P a (Bel w1) w1 (.agg c) := by
  obtain ⟨d, hu, hd, hi⟩ := hT
  unfold Oper.quietAt execOp
  simp only [ho, hx, Instr.loadAt, Instr.sureAddr, Sem.run_bind, Sem.run_pure, Result.andThen_ok, run_loadVar_row w1 B t ty c (0, 0) d hb hu (by cases d <;> simp_all [TypeDesc.isRow]) hi]
  exact ⟨rfl, rfl⟩
theorem g_move (x : Operand) (ho : o.op = .move x) : o.quietAt P a (Bel w1) w1 (a.eval x) := by unfold Oper.quietAt; rw [BigFrame.run_move x ho]; exact ⟨rfl, rfl⟩
theorem g_assign (x : Operand) (ho : o.op = .assign x) : o.quietAt P a (Bel w1) w1 (a.eval x) := by unfold Oper.quietAt; rw [BigFrame.run_assign x ho]; exact ⟨rfl, rfl⟩
/-- One operation that comes up, wanted. -/
theorem op_wanted {i : Nat} {K : Act → World → Prop} (hi : ops[i]? = some o) (hw : Region.wanted o (yielded ops a.tmps) = true) (h : o.wp P a w K Q) : wpOp P ops Q i K a w := by
  unfold wpOp
  simp only [hi, hw, if_true]
  exact .inl h
theorem wpG_go (i : Nat) {oi : Oper} {f : Nat} {listed : Array Bool} (hi : ops[i]? = some oi)
    (hr : (Region.ready md ops listed).contains i = true) (hf : Region.free md ops listed i = true) (hs : Region.noSelect ops = true) (hw : Region.wanted oi (yielded ops a.tmps) = true)
    (hQ : ∀ v c a w, Q (.panic c) (a.put oi.dst v) w → Q (.panic c) a w) (hN : N ≤ w.heap.size)
    (h : ∃ v, (∀ w1, Below N w w1 → oi.quietAt P a (Bel w1) w1 v) ∧ wpG P md ops Q N f (listed.setIfInBounds i true) (a.put oi.dst v) w) : wpG P md ops Q N (f + 1) listed a w :=
  let ⟨v, h1, h2⟩ := h
  wpG_take hi hs hf hr (hQ v) hN (.inl ⟨hw, h1⟩) h2
/-- A guard that is false: nothing comes to pass. -/
theorem wpG_skip (i : Nat) {oi : Oper} {f : Nat} {listed : Array Bool} (hi : ops[i]? = some oi)
    (hr : (Region.ready md ops listed).contains i = true) (hf : Region.free md ops listed i = true) (hs : Region.noSelect ops = true) (hw : Region.wanted oi (yielded ops a.tmps) = false)
    (hQ : ∀ v c a w, Q (.panic c) (a.put oi.dst v) w → Q (.panic c) a w) (hN : N ≤ w.heap.size)
    (h : wpG P md ops Q N f (listed.setIfInBounds i true) (a.put oi.dst undef) w) : wpG P md ops Q N (f + 1) listed a w :=
  wpG_take hi hs hf hr (hQ undef) hN (.inr ⟨hw, rfl⟩) h
theorem wpG_raise {M : Nat} (hM : N ≤ M) : ∀ (f : Nat) (listed : Array Bool) (a : Act) (w : World), wpG P md ops Q M f listed a w → wpG P md ops Q N f listed a w
  | 0, _, _, _, h => h
  | f + 1, _, _, _, h => fun w1 hb => ⟨(h w1 hb).1, fun i hi => wpOp_mono (fun a' w' h' => ⟨Below.mono h'.1 hM, wpG_raise hM f _ a' w' h'.2⟩) ((h w1 hb).2 i hi)⟩
/-- One operation alone may come up, or whichever of a few. -/
theorem wpG_one (i : Nat) {f : Nat} {listed : Array Bool} (hr : Region.ready md ops listed = [i])
    (h : ∀ w1, Bel w w1 → wpOp P ops Q i (fun a' w' => Below N w1 w' ∧ wpG P md ops Q N f (listed.setIfInBounds i true) a' w') a w1) : wpG P md ops Q N (f + 1) listed a w :=
  wpG_all hr (by simp) fun w1 hb j hj => by
    simp only [List.mem_singleton] at hj
    subst hj
    exact h w1 hb
theorem wpG_two (i k : Nat) {f : Nat} {listed : Array Bool} (hr : Region.ready md ops listed = [i, k])
    (h : ∀ w1, Bel w w1 → wpOp P ops Q i (fun a' w' => Below N w1 w' ∧ wpG P md ops Q N f (listed.setIfInBounds i true) a' w') a w1)
    (h' : ∀ w1, Bel w w1 → wpOp P ops Q k (fun a' w' => Below N w1 w' ∧ wpG P md ops Q N f (listed.setIfInBounds k true) a' w') a w1) : wpG P md ops Q N (f + 1) listed a w :=
  wpG_all hr (by simp) fun w1 hb j hj => by
    simp only [List.mem_cons, List.not_mem_nil, or_false] at hj
    rcases hj with rfl | rfl
    · exact h w1 hb
    · exact h' w1 hb
/-- A whole row stored, as an operation that comes up. -/
theorem wp_storeB {ty : TypeId} {n : Nat} (hT : RowTy P ty n) (x y : Operand) (ho : o.op = .store ty x y) {c' : Array Value} (hy : a.eval y = .agg c') (hn : c'.size = n) {B : Nat} (hx : a.eval x = .pointer (some ⟨B, 0, none⟩)) {c : Array Value} {t : TypeId} (hb : Box w B c t) (hs : c.size = n)
    (h1 : c'.all (·.oneCell') = true) {K : Act → World → Prop} (h : K (a.put o.dst undef) (w.setRow B c')) : o.wp P a w K Q := by
  subst hn
  obtain ⟨d, hu, hd, hi⟩ := hT
  unfold Oper.wp execOp
  simp only [ho, hx, hy, Instr.storeAt, Instr.sureAddr, Sem.run_bind, Sem.run_pure, Result.andThen_ok, run_storeVar_row w B t ty c c' hb hi hs h1]
  exact h
end
end Go.Proofs.Ytipjgcklnceohaa

/- A region that draws its order, makes memory and turns older blocks: every order at once; one block alone must stay (it holds what is read). -/
import Derived.Test.YtipjgcklnceohaaGrow
set_option linter.all false
set_option maxRecDepth 100000
namespace Go.Proofs.Ytipjgcklnceohaa
open Go Go.RowKit

/-- Block N stays. -/
def Kp (N : Nat) (w w' : World) : Prop := w.heap.size ≤ w'.heap.size ∧ (N < w.heap.size → w'.heap[N]? = w.heap[N]?)
theorem Kp.size {N : Nat} {w w' : World} (h : Kp N w w') : w.heap.size ≤ w'.heap.size := h.1
theorem Kp.of {N : Nat} {w w' : World} (h : Bel w w') : Kp N w w' := ⟨h.size, fun hN => h.block N hN⟩
theorem Kp.trans {N : Nat} {a b c : World} (h : Kp N a b) (k : Kp N b c) : Kp N a c := ⟨Nat.le_trans h.1 k.1, fun hN => (k.2 (Nat.lt_of_lt_of_le hN h.1)).trans (h.2 hN)⟩
theorem Kp.box {N : Nat} {w w' : World} (h : Kp N w w') {c : Array Value} {t : TypeId} (hb : Box w N c t) : Box w' N c t := (h.2 hb.lt).trans hb
theorem Kp.grown {N : Nat} {w w' : World} {row : Option Nat} (h : w.grownBy w' row) (hne : some N ≠ row) : Kp N w w' := ⟨h.size, fun hN => h.block N hN hne⟩
section
variable {P : Program} {ops : Array Oper} {md : Region.Mode} {Q : Exit → Act → World → Prop} {N : Nat}

/-- Whatever order is picked from here on, in every world that has grown from this one; block N stays. -/
def wpK (P : Program) (md : Region.Mode) (ops : Array Oper) (Q : Exit → Act → World → Prop) (N : Nat) : Nat → Array Bool → Act → World → Prop
  | 0, listed, a, w => ∀ w1, Bel w w1 → Region.ready md ops listed = [] ∧ Q .normal a w1
  | f + 1, listed, a, w => ∀ w1, Bel w w1 → (Region.ready md ops listed = [] → Q .normal a w1) ∧
      ∀ i ∈ Region.ready md ops listed, wpOp P ops Q i (fun a' w' => Kp N w1 w' ∧ wpK P md ops Q N f (listed.setIfInBounds i true) a' w') a w1

theorem wpAny_of_keep : ∀ (f : Nat) (listed : Array Bool) (a : Act) (w : World), wpK P md ops Q N f listed a w → wpAny P md ops Q f listed a w
  | 0, _, _, w, h => h w (Bel.refl w)
  | f + 1, _, _, w, h => ⟨(h w (Bel.refl w)).1, fun i hi => wpOp_mono (fun a' w' h' => wpAny_of_keep f _ a' w' h'.2) ((h w (Bel.refl w)).2 i hi)⟩

theorem wpK.world {f : Nat} {listed : Array Bool} {a : Act} {w w1 : World} (h : wpK P md ops Q N f listed a w) (hb : Bel w w1) : wpK P md ops Q N f listed a w1 := by
  cases f <;> exact fun w2 h2 => h w2 (hb.trans h2)

/-- In every world in which block N is as it was in w, o leaves v, and a world that has only grown. -/
def YieldsK (P : Program) (ops : Array Oper) (N : Nat) (o : Oper) (v : Value) (a : Act) (w : World) : Prop :=
  (Region.wanted o (yielded ops a.tmps) = true ∧ ∀ w1, Kp N w w1 → o.quietAt P a (Bel w1) w1 v) ∨ (Region.wanted o (yielded ops a.tmps) = false ∧ v = undef)
theorem YieldsK.later {o : Oper} {v : Value} {a : Act} {w w' : World} (h : YieldsK P ops N o v a w) (hb : Kp N w w') : YieldsK P ops N o v a w' :=
  h.imp (fun ⟨h1, h2⟩ => ⟨h1, fun w1 hb1 => h2 w1 (hb.trans hb1)⟩) id

theorem YieldsK.same {o : Oper} {v : Value} {a a' : Act} {w : World} (hy : YieldsK P ops N o v a w) (he : execOp a'.eval o = execOp a.eval o)
    (hw : Region.wanted o (yielded ops a'.tmps) = Region.wanted o (yielded ops a.tmps)) : YieldsK P ops N o v a' w := by
  unfold YieldsK Oper.quietAt at *
  rw [he, hw]
  exact hy

theorem YieldsK.op {i : Nat} {o : Oper} {v : Value} {a : Act} {w : World} (hi : ops[i]? = some o) (hy : YieldsK P ops N o v a w) {K : Act → World → Prop}
    (h : ∀ w', Bel w w' → K (a.put o.dst v) w') : wpOp P ops Q i K a w := by
  unfold wpOp
  simp only [hi]
  rcases hy with ⟨hw, hv⟩ | ⟨hw, rfl⟩
  · simp only [hw, if_true]
    refine .inl (Oper.wp_of_quiet (C := Bel w) (K := fun a' => ∀ w', Bel w w' → K a' w') (Bel.refl w) (fun a' w' hb hk => hk w' hb) ⟨v, fun w1 hb => ?_, h⟩)
    exact quietAt_mono (fun w2 h2 => hb.trans h2) (hv w1 (Kp.of hb))
  · simp only [hw, Bool.false_eq_true, if_false]; exact h w (Bel.refl w)

theorem putK {j : Nat} {oi oj : Oper} {v : Value} (hj : ops[j]? = some oj) (hap : oi.apart ops oj = true)
    (hsi : ∀ cs b, oi.op ≠ .select cs b) (hsj : ∀ cs b, oj.op ≠ .select cs b)
    (hQ : ∀ c a w, Q (.panic c) (a.put oi.dst v) w → Q (.panic c) a w) {K : Act → World → Prop} {a : Act} {w : World}
    (hy : YieldsK P ops N oi v a w) (h : wpOp P ops Q j (fun a' w' => Kp N w w' ∧ K a' w') (a.put oi.dst v) w) :
    wpOp P ops Q j (fun a' w' => Kp N w w' ∧ YieldsK P ops N oi v a' w' ∧ K (a'.put oi.dst v) w') a w := by
  obtain ⟨h1, h2, h3⟩ := Oper.apart_spec hap
  have keep : ∀ (a : Act) (w' : World), YieldsK P ops N oi v a w → Kp N w w' → ∀ u, YieldsK P ops N oi v (a.put oj.dst u) w' := fun a w' hy hb u =>
    (hy.later hb).same (execOp_put oi hsi a oj.dst u h3) (wanted_put oi a oj.dst u h3)
  have keepD : ∀ d, YieldsK P ops N oi v { a with defers := d :: a.defers } w := fun d => hy.same rfl rfl
  unfold wpOp at *
  simp only [hj] at *
  rw [wanted_put oj a oi.dst v h1] at h
  split
  · rename_i hw
    simp only [hw, if_true] at h
    rcases h with h | ⟨hasks, hlets⟩
    case inr => exact .inr ⟨by unfold Oper.asks at *; rw [execOp_put oj hsj a oi.dst v h1] at hasks; exact hasks, hlets⟩
    refine .inl ?_
    unfold Oper.wp at *
    rw [execOp_put oj hsj a oi.dst v h1] at h
    generalize (execOp a.eval oj).run P w = r at *
    cases r with
    | ok n w' =>
      cases n <;> simp only [Oper.upon] at h ⊢
      case value u => exact ⟨h.1, keep a _ hy h.1 u, by rw [← Act.put_comm a v u h2]; exact h.2⟩
      case skip => exact ⟨h.1, keep a _ hy h.1 _, by rw [← Act.put_comm a v undef h2]; exact h.2⟩
      case defer d =>
        refine ⟨h.1, keep _ _ (keepD d) h.1 _, ?_⟩
        rw [← Act.put_comm _ v undef h2, ← Act.put_defers]
        exact h.2
      case enter f args =>
        refine Calls.mono h fun e w'' he => ?_
        cases e with
        | returned u => exact ⟨he.1, keep a _ hy he.1 u, by rw [← Act.put_comm a v u h2]; exact he.2⟩
        | panicked c => exact hQ _ _ _ he
        | outgrown => exact he
      case row row args => exact Rows.mono h fun u w'' he => ⟨he.1, keep a _ hy he.1 u, by rw [← Act.put_comm a v u h2]; exact he.2⟩
    | halt x w' =>
      cases x <;> simp only [Oper.upon] at h ⊢
      case panic u => exact hQ _ _ _ h
  · rename_i hw
    simp only [hw] at h
    exact ⟨h.1, keep a _ hy h.1 _, by rw [← Act.put_comm a v undef h2]; exact h.2⟩

theorem wpK_first {i : Nat} {oi : Oper} {v : Value} (hi : ops[i]? = some oi) (hsel : ∀ (j : Nat) (o : Oper) cs b, ops[j]? = some o → o.op ≠ .select cs b)
    (hQ : ∀ c a w, Q (.panic c) (a.put oi.dst v) w → Q (.panic c) a w) :
    ∀ (f : Nat) (listed : Array Bool) (a : Act) (w : World),
      (∀ j oj, ops[j]? = some oj → j ≠ i → listed.getD j true = false → (∀ e ∈ oj.after, Region.binds md e = true → e.on ≠ i) → oi.apart ops oj = true) →
      i ∈ Region.ready md ops listed → YieldsK P ops N oi v a w →
      wpK P md ops Q N f (listed.setIfInBounds i true) (a.put oi.dst v) w → wpK P md ops Q N (f + 1) listed a w := by
  intro f
  induction f with
  | zero =>
    intro listed a w _ hr hy H w1 hb
    refine ⟨fun h => (by rw [h] at hr; cases hr), fun j hj => ?_⟩
    by_cases hji : j = i
    · subst hji
      exact (hy.later (Kp.of hb)).op hi fun w' hb' => ⟨Kp.of hb', H.world (hb.trans hb')⟩
    · have := ready_mono hj hji
      rw [(H w1 hb).1] at this
      cases this
  | succ f ih =>
    intro listed a w hfree hr hy H w1 hb
    have hy1 := hy.later (Kp.of hb)
    refine ⟨fun h => (by rw [h] at hr; cases hr), fun j hj => ?_⟩
    by_cases hji : j = i
    · subst hji
      exact hy1.op hi fun w' hb' => ⟨Kp.of hb', H.world (hb.trans hb')⟩
    · have h1 := (H w1 hb).2 j (ready_mono hj hji)
      obtain ⟨hjun, oj, hoj, hall⟩ := mem_ready.1 hj
      have hnot : ∀ e ∈ oj.after, Region.binds md e = true → e.on ≠ i := fun e he hb heq => by
        have h1 := hall e he hb
        have h0 := (mem_ready.1 hr).1
        rw [heq] at h1
        rcases Nat.lt_or_ge i listed.size with h' | h'
        · simp [h'] at h0 h1; rw [h0] at h1; cases h1
        · simp [Array.getElem?_eq_none h'] at h1
      have h2 := putK hoj (hfree j oj hoj hji hjun hnot) (fun cs b => hsel i oi cs b hi) (fun cs b => hsel j oj cs b hoj) hQ hy1 h1
      have hfree' : ∀ k ok, ops[k]? = some ok → k ≠ i → (listed.setIfInBounds j true).getD k true = false →
          (∀ e ∈ ok.after, Region.binds md e = true → e.on ≠ i) → oi.apart ops ok = true := fun k ok hk hki hun hno => by
        refine hfree k ok hk hki ?_ hno
        by_cases hjk : j = k
        · subst hjk; exact hjun
        · rw [getD_set_ne true hjk] at hun; exact hun
      refine wpOp_mono (fun a' w' h3 => ⟨h3.1, ih (listed.setIfInBounds j true) a' w' hfree' (ready_mono hr (Ne.symm hji)) h3.2.1 ?_⟩) h2
      rw [Array.setIfInBounds_comm _ _ hji]
      exact h3.2.2

/-- Take number i: it yields v whatever came before it. -/
theorem wpK_take {i : Nat} {oi : Oper} {v : Value} {f : Nat} {listed : Array Bool} {a : Act} {w : World} (hi : ops[i]? = some oi)
    (hs : Region.noSelect ops = true) (hf : Region.free md ops listed i = true) (hr : (Region.ready md ops listed).contains i = true)
    (hQ : ∀ c a w, Q (.panic c) (a.put oi.dst v) w → Q (.panic c) a w) (hy : YieldsK P ops N oi v a w)
    (h : wpK P md ops Q N f (listed.setIfInBounds i true) (a.put oi.dst v) w) : wpK P md ops Q N (f + 1) listed a w :=
  wpK_first hi (Region.noSelect_spec hs) hQ f listed a w (Region.free_spec hi hf) (by simpa using hr) hy h
theorem wpK_all {rs : List Nat} {f : Nat} {listed : Array Bool} {a : Act} {w : World} (hr : Region.ready md ops listed = rs) (hne : rs ≠ [])
    (h : ∀ w1, Bel w w1 → ∀ i ∈ rs, wpOp P ops Q i (fun a' w' => Kp N w1 w' ∧ wpK P md ops Q N f (listed.setIfInBounds i true) a' w') a w1) : wpK P md ops Q N (f + 1) listed a w :=
  fun w1 hb => ⟨fun h0 => absurd (hr ▸ h0) hne, hr ▸ h w1 hb⟩
theorem wpK_done {listed : Array Bool} {a : Act} {w : World} (hr : Region.ready md ops listed = []) (h : ∀ w1, Bel w w1 → Q .normal a w1) : ∀ f, wpK P md ops Q N f listed a w
  | 0 => fun w1 hb => ⟨hr, h w1 hb⟩
  | _ + 1 => fun w1 hb => ⟨fun _ => h w1 hb, by rw [hr]; simp⟩
/-- The beginning. -/
theorem region_keep (N : Nat) {id : Nat} {a : Act} {w : World} (hm : P.follows .mixedOrders = true)
    (h : wpK P .any ops Q N ops.size (Array.replicate ops.size false) a w) : (Code.region id ops true).wp P Q a w :=
  wp_region_any hm (wpAny_of_keep _ _ _ _ (h.world (w1 := w.drew) (Bel.refl w).drew))
variable {o : Oper} {a : Act} {w w1 : World}
theorem wpK_go (i : Nat) {oi : Oper} {f : Nat} {listed : Array Bool} (hi : ops[i]? = some oi)
    (hr : (Region.ready md ops listed).contains i = true) (hf : Region.free md ops listed i = true) (hs : Region.noSelect ops = true) (hw : Region.wanted oi (yielded ops a.tmps) = true)
    (hQ : ∀ v c a w, Q (.panic c) (a.put oi.dst v) w → Q (.panic c) a w)
    (h : ∃ v, (∀ w1, Kp N w w1 → oi.quietAt P a (Bel w1) w1 v) ∧ wpK P md ops Q N f (listed.setIfInBounds i true) (a.put oi.dst v) w) : wpK P md ops Q N (f + 1) listed a w :=
  let ⟨v, h1, h2⟩ := h
  wpK_take hi hs hf hr (hQ v) (.inl ⟨hw, h1⟩) h2
/-- A guard that is false: nothing comes to pass. -/
theorem wpK_skip (i : Nat) {oi : Oper} {f : Nat} {listed : Array Bool} (hi : ops[i]? = some oi)
    (hr : (Region.ready md ops listed).contains i = true) (hf : Region.free md ops listed i = true) (hs : Region.noSelect ops = true) (hw : Region.wanted oi (yielded ops a.tmps) = false)
    (hQ : ∀ v c a w, Q (.panic c) (a.put oi.dst v) w → Q (.panic c) a w)
    (h : wpK P md ops Q N f (listed.setIfInBounds i true) (a.put oi.dst undef) w) : wpK P md ops Q N (f + 1) listed a w :=
  wpK_take hi hs hf hr (hQ undef) (.inr ⟨hw, rfl⟩) h
/-- One operation alone may come up, or whichever of a few. -/
theorem wpK_one (i : Nat) {f : Nat} {listed : Array Bool} (hr : Region.ready md ops listed = [i])
    (h : ∀ w1, Bel w w1 → wpOp P ops Q i (fun a' w' => Kp N w1 w' ∧ wpK P md ops Q N f (listed.setIfInBounds i true) a' w') a w1) : wpK P md ops Q N (f + 1) listed a w :=
  wpK_all hr (by simp) fun w1 hb j hj => by
    simp only [List.mem_singleton] at hj
    subst hj
    exact h w1 hb
theorem wpK_two (i k : Nat) {f : Nat} {listed : Array Bool} (hr : Region.ready md ops listed = [i, k])
    (h : ∀ w1, Bel w w1 → wpOp P ops Q i (fun a' w' => Kp N w1 w' ∧ wpK P md ops Q N f (listed.setIfInBounds i true) a' w') a w1)
    (h' : ∀ w1, Bel w w1 → wpOp P ops Q k (fun a' w' => Kp N w1 w' ∧ wpK P md ops Q N f (listed.setIfInBounds k true) a' w') a w1) : wpK P md ops Q N (f + 1) listed a w :=
  wpK_all hr (by simp) fun w1 hb j hj => by
    simp only [List.mem_cons, List.not_mem_nil, or_false] at hj
    rcases hj with rfl | rfl
    · exact h w1 hb
    · exact h' w1 hb
end
end Go.Proofs.Ytipjgcklnceohaa

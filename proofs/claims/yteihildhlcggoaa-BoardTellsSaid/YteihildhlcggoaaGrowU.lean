/- A drawn region with an operation L that may do what it likes; what comes behind L may do so, too. | A drawn region in which some blocks stay, with an operation L that may do what it likes; what comes behind L may do so, too. -/
import Derived.Test.YteihildhlcggoaaGrow
set_option linter.all false
set_option maxRecDepth 100000
namespace Go.Proofs.Yteihildhlcggoaa
open Go Go.RowKit

section
variable {P : Program} {ops : Array Oper} {md : Region.Mode} {Q : Exit → Act → World → Prop} {N L : Nat}
def wpU (P : Program) (md : Region.Mode) (ops : Array Oper) (Q : Exit → Act → World → Prop) (N L : Nat) : Nat → Array Bool → Act → World → Prop
  | 0, listed, a, w => ∀ w1, Bel w w1 → Region.ready md ops listed = [] ∧ Q .normal a w1
  | f + 1, listed, a, w => ∀ w1, Bel w w1 → (Region.ready md ops listed = [] → Q .normal a w1) ∧
      ∀ i ∈ Region.ready md ops listed, wpOp P ops Q i (fun a' w' => ((i = L ∨ listed.getD L false = true) ∨ Below N w1 w') ∧ wpU P md ops Q N L f (listed.setIfInBounds i true) a' w') a w1
theorem wpAny_of_growU : ∀ (f : Nat) (listed : Array Bool) (a : Act) (w : World), wpU P md ops Q N L f listed a w → wpAny P md ops Q f listed a w
  | 0, _, _, w, h => h w (Bel.refl w)
  | f + 1, _, _, w, h => ⟨(h w (Bel.refl w)).1, fun i hi => wpOp_mono (fun a' w' h' => wpAny_of_growU f _ a' w' h'.2) ((h w (Bel.refl w)).2 i hi)⟩
theorem wpU.world {f : Nat} {listed : Array Bool} {a : Act} {w w1 : World} (h : wpU P md ops Q N L f listed a w) (hb : Bel w w1) : wpU P md ops Q N L f listed a w1 := by
  cases f <;> exact fun w2 h2 => h w2 (hb.trans h2)
theorem wpU_firstN {i g : Nat} {oi : Oper} {v : Value} (hi : ops[i]? = some oi) (hsel : ∀ (j : Nat) (o : Oper) cs b, ops[j]? = some o → o.op ≠ .select cs b)
    (hQ : ∀ c a w, Q (.panic c) (a.put oi.dst v) w → Q (.panic c) a w) (hW : waitsN md ops g L i = true) :
    ∀ (f : Nat) (listed : Array Bool) (a : Act) (w : World), Closed md ops listed → N ≤ w.heap.size →
      (∀ j oj, ops[j]? = some oj → j ≠ i → listed.getD j true = false → (∀ e ∈ oj.after, Region.binds md e = true → e.on ≠ i) → oi.apart ops oj = true) →
      i ∈ Region.ready md ops listed → YieldsG P ops N oi v a w →
      wpU P md ops Q N L f (listed.setIfInBounds i true) (a.put oi.dst v) w → wpU P md ops Q N L (f + 1) listed a w := by
  intro f
  induction f with
  | zero =>
    intro listed a w _ hN _ hr hy H w1 hb
    refine ⟨fun h => (by rw [h] at hr; cases hr), fun j hj => ?_⟩
    by_cases hji : j = i
    · subst hji
      exact (hy.later (Below.mono hb hN)).op hi (Nat.le_trans hN hb.size) fun w' hb' => ⟨.inr (Below.mono hb' (Nat.le_trans hN hb.size)), H.world (hb.trans hb')⟩
    · have := ready_mono hj hji
      rw [(H w1 hb).1] at this
      cases this
  | succ f ih =>
    intro listed a w hcl hN hfree hr hy H w1 hb
    have hN1 : N ≤ w1.heap.size := Nat.le_trans hN hb.size
    have hy1 := hy.later (Below.mono hb hN)
    refine ⟨fun h => (by rw [h] at hr; cases hr), fun j hj => ?_⟩
    by_cases hji : j = i
    · subst hji
      exact hy1.op hi hN1 fun w' hb' => ⟨.inr (Below.mono hb' hN1), H.world (hb.trans hb')⟩
    · have hjL : ¬ (j = L ∨ (listed.setIfInBounds i true).getD L false = true) := fun h => by
        have hLi : L ≠ i := fun e => not_readyN hcl hW hr (e ▸ hr)
        rcases h with h | h
        · exact not_readyN hcl hW hr (h ▸ hj)
        · rw [getD_set_ne false (Ne.symm hLi)] at h
          have h1 := waitsN_listed hcl g L hW h
          rw [getD_both (mem_ready.1 hr).1] at h1
          cases h1
      have h1 := wpOp_mono (fun a' w' (h : ((j = L ∨ (listed.setIfInBounds i true).getD L false = true) ∨ Below N w1 w') ∧ wpU P md ops Q N L f ((listed.setIfInBounds i true).setIfInBounds j true) a' w') => And.intro (h.1.resolve_left hjL) h.2) ((H w1 hb).2 j (ready_mono hj hji))
      obtain ⟨hjun, oj, hoj, hall⟩ := mem_ready.1 hj
      have hnot : ∀ e ∈ oj.after, Region.binds md e = true → e.on ≠ i := fun e he hb heq => by
        have h1 := hall e he hb
        rw [heq, getD_both (mem_ready.1 hr).1] at h1
        cases h1
      have h2 := putG hoj (hfree j oj hoj hji hjun hnot) (fun cs b => hsel i oi cs b hi) (fun cs b => hsel j oj cs b hoj) hQ hy1 h1
      have hfree' : ∀ k ok, ops[k]? = some ok → k ≠ i → (listed.setIfInBounds j true).getD k true = false →
          (∀ e ∈ ok.after, Region.binds md e = true → e.on ≠ i) → oi.apart ops ok = true := fun k ok hk hki hun hno => by
        refine hfree k ok hk hki ?_ hno
        by_cases hjk : j = k
        · subst hjk; exact hjun
        · rw [getD_set_ne true hjk] at hun; exact hun
      refine wpOp_mono (fun a' w' h3 => ⟨.inr h3.1, ih (listed.setIfInBounds j true) a' w' (hcl.set hj) (Nat.le_trans hN1 h3.1.size) hfree' (ready_mono hr (Ne.symm hji)) h3.2.1 ?_⟩) h2
      rw [Array.setIfInBounds_comm _ _ hji]
      exact h3.2.2
theorem wpU_goN (i : Nat) {oi : Oper} {f : Nat} {listed : Array Bool} {a : Act} {w : World} (hi : ops[i]? = some oi)
    (hr : ((Region.ready md ops listed).contains i && (waitsN md ops 4 L i && closedB md ops listed)) = true) (hf : Region.free md ops listed i = true) (hs : Region.noSelect ops = true) (hw : Region.wanted oi (yielded ops a.tmps) = true)
    (hQ : ∀ v c a w, Q (.panic c) (a.put oi.dst v) w → Q (.panic c) a w) (hN : N ≤ w.heap.size)
    (h : ∃ v, (∀ w1, Below N w w1 → oi.quietAt P a (Bel w1) w1 v) ∧ wpU P md ops Q N L f (listed.setIfInBounds i true) (a.put oi.dst v) w) : wpU P md ops Q N L (f + 1) listed a w :=
  let ⟨v, h1, h2⟩ := h
  have hr1 := Bool.and_eq_true_iff.1 hr
  have hr2 := Bool.and_eq_true_iff.1 hr1.2
  wpU_firstN hi (Region.noSelect_spec hs) (hQ v) hr2.1 f listed a w (closedB_spec hr2.2) hN (Region.free_spec hi hf) (by simpa using hr1.1) (.inl ⟨hw, h1⟩) h2
/-- What leans on no world may be taken first, whatever L waits for. -/
theorem wpU_firstA {i : Nat} {oi : Oper} {v : Value} (hi : ops[i]? = some oi) (hsel : ∀ (j : Nat) (o : Oper) cs b, ops[j]? = some o → o.op ≠ .select cs b)
    (hQ : ∀ c a w, Q (.panic c) (a.put oi.dst v) w → Q (.panic c) a w) (hiL : i ≠ L) :
    ∀ (f : Nat) (listed : Array Bool) (a : Act) (w : World),
      (∀ j oj, ops[j]? = some oj → j ≠ i → listed.getD j true = false → (∀ e ∈ oj.after, Region.binds md e = true → e.on ≠ i) → oi.apart ops oj = true) →
      i ∈ Region.ready md ops listed → YieldsA P ops oi v a →
      wpU P md ops Q N L f (listed.setIfInBounds i true) (a.put oi.dst v) w → wpU P md ops Q N L (f + 1) listed a w := by
  intro f
  induction f with
  | zero =>
    intro listed a w _ hr hy H w1 hb
    refine ⟨fun h => (by rw [h] at hr; cases hr), fun j hj => ?_⟩
    by_cases hji : j = i
    · subst hji
      exact hy.op hi ⟨.inr (Below.refl _ _), H.world hb⟩
    · have := ready_mono hj hji
      rw [(H w1 hb).1] at this
      cases this
  | succ f ih =>
    intro listed a w hfree hr hy H w1 hb
    refine ⟨fun h => (by rw [h] at hr; cases hr), fun j hj => ?_⟩
    by_cases hji : j = i
    · subst hji
      exact hy.op hi ⟨.inr (Below.refl _ _), H.world hb⟩
    · have h1 := (H w1 hb).2 j (ready_mono hj hji)
      obtain ⟨hjun, oj, hoj, hall⟩ := mem_ready.1 hj
      have hnot : ∀ e ∈ oj.after, Region.binds md e = true → e.on ≠ i := fun e he hb heq => by
        have h1 := hall e he hb
        rw [heq, getD_both (mem_ready.1 hr).1] at h1
        cases h1
      have h2 := putA hoj (hfree j oj hoj hji hjun hnot) (fun cs b => hsel i oi cs b hi) (fun cs b => hsel j oj cs b hoj) hQ hy h1
      have hfree' : ∀ k ok, ops[k]? = some ok → k ≠ i → (listed.setIfInBounds j true).getD k true = false →
          (∀ e ∈ ok.after, Region.binds md e = true → e.on ≠ i) → oi.apart ops ok = true := fun k ok hk hki hun hno => by
        refine hfree k ok hk hki ?_ hno
        by_cases hjk : j = k
        · subst hjk; exact hjun
        · rw [getD_set_ne true hjk] at hun; exact hun
      refine wpOp_mono (fun a' w' h3 => ⟨h3.2.1.imp (Or.imp id (fun h => by rwa [getD_set_ne false hiL] at h)) id, ih (listed.setIfInBounds j true) a' w' hfree' (ready_mono hr (Ne.symm hji)) h3.1 ?_⟩) h2
      rw [Array.setIfInBounds_comm _ _ hji]
      exact h3.2.2
theorem wpU_goA (i : Nat) {oi : Oper} {f : Nat} {listed : Array Bool} {a : Act} {w : World} (hi : ops[i]? = some oi)
    (hr : ((Region.ready md ops listed).contains i && !decide (i = L)) = true) (hf : Region.free md ops listed i = true) (hs : Region.noSelect ops = true) (hw : Region.wanted oi (yielded ops a.tmps) = true)
    (hQ : ∀ v c a w, Q (.panic c) (a.put oi.dst v) w → Q (.panic c) a w)
    (h : ∃ v, (∀ w1, oi.quietAt P a (fun w' => w' = w1) w1 v) ∧ wpU P md ops Q N L f (listed.setIfInBounds i true) (a.put oi.dst v) w) : wpU P md ops Q N L (f + 1) listed a w :=
  let ⟨v, h1, h2⟩ := h
  have hr1 := Bool.and_eq_true_iff.1 hr
  wpU_firstA hi (Region.noSelect_spec hs) (hQ v) (by simpa using hr1.2) f listed a w (Region.free_spec hi hf) (by simpa using hr1.1) (.inl ⟨hw, h1⟩) h2
theorem wpU_one (i : Nat) {f : Nat} {listed : Array Bool} {a : Act} {w : World} (hr : Region.ready md ops listed = [i])
    (h : ∀ w1, Bel w w1 → wpOp P ops Q i (fun a' w' => Below N w1 w' ∧ wpU P md ops Q N L f (listed.setIfInBounds i true) a' w') a w1) : wpU P md ops Q N L (f + 1) listed a w := fun w1 hb =>
  ⟨fun h0 => (by rw [hr] at h0; cases h0), fun j hj => by
    rw [hr] at hj
    simp only [List.mem_singleton] at hj
    subst hj
    exact wpOp_mono (fun a' w' h' => ⟨.inr h'.1, h'.2⟩) (h w1 hb)⟩
theorem wpU_two (i k : Nat) {f : Nat} {listed : Array Bool} {a : Act} {w : World} (hr : Region.ready md ops listed = [i, k])
    (h : ∀ w1, Bel w w1 → wpOp P ops Q i (fun a' w' => Below N w1 w' ∧ wpU P md ops Q N L f (listed.setIfInBounds i true) a' w') a w1)
    (h' : ∀ w1, Bel w w1 → wpOp P ops Q k (fun a' w' => Below N w1 w' ∧ wpU P md ops Q N L f (listed.setIfInBounds k true) a' w') a w1) : wpU P md ops Q N L (f + 1) listed a w := fun w1 hb =>
  ⟨fun h0 => (by rw [hr] at h0; cases h0), fun j hj => by
    rw [hr] at hj
    simp only [List.mem_cons, List.not_mem_nil, or_false] at hj
    rcases hj with rfl | rfl
    · exact wpOp_mono (fun a' w' h' => ⟨.inr h'.1, h'.2⟩) (h w1 hb)
    · exact wpOp_mono (fun a' w' h' => ⟨.inr h'.1, h'.2⟩) (h' w1 hb)⟩
/-- The operation that may do what it likes. -/
theorem wpU_now {f : Nat} {listed : Array Bool} {a : Act} {w : World} (hr : Region.ready md ops listed = [L])
    (h : ∀ w1, Bel w w1 → wpOp P ops Q L (fun a' w' => wpU P md ops Q N L f (listed.setIfInBounds L true) a' w') a w1) : wpU P md ops Q N L (f + 1) listed a w := fun w1 hb =>
  ⟨fun h0 => (by rw [hr] at h0; cases h0), fun j hj => by
    rw [hr] at hj
    simp only [List.mem_singleton] at hj
    subst hj
    exact wpOp_mono (fun a' w' h' => ⟨.inl (.inl rfl), h'⟩) (h w1 hb)⟩
/-- What comes behind it, one alone. -/
theorem wpU_next (i : Nat) {f : Nat} {listed : Array Bool} {a : Act} {w : World} (hl : listed.getD L false = true) (hr : Region.ready md ops listed = [i])
    (h : ∀ w1, Bel w w1 → wpOp P ops Q i (fun a' w' => wpU P md ops Q N L f (listed.setIfInBounds i true) a' w') a w1) : wpU P md ops Q N L (f + 1) listed a w := fun w1 hb =>
  ⟨fun h0 => (by rw [hr] at h0; cases h0), fun j hj => by
    rw [hr] at hj
    simp only [List.mem_singleton] at hj
    subst hj
    exact wpOp_mono (fun a' w' h' => ⟨.inl (.inr hl), h'⟩) (h w1 hb)⟩
theorem wpU_done {listed : Array Bool} {a : Act} {w : World} (hr : Region.ready md ops listed = []) (h : ∀ w1, Bel w w1 → Q .normal a w1) : ∀ f, wpU P md ops Q N L f listed a w
  | 0 => fun w1 hb => ⟨hr, h w1 hb⟩
  | _ + 1 => fun w1 hb => ⟨fun _ => h w1 hb, by rw [hr]; simp⟩
/-- The beginning. -/
theorem region_growU (L : Nat) {id : Nat} {a : Act} {w : World} (hm : P.follows .mixedOrders = true)
    (h : wpU P .any ops Q w.heap.size L ops.size (Array.replicate ops.size false) a w) : (Code.region id ops true).wp P Q a w :=
  wp_region_any hm (wpAny_of_growU _ _ _ _ (h.world (w1 := w.drew) (Bel.refl w).drew))
end
end Go.Proofs.Yteihildhlcggoaa
namespace Go.Proofs.Yteihildhlcggoaa
open Go Go.RowKit

section
variable {P : Program} {ops : Array Oper} {md : Region.Mode} {Q : Exit → Act → World → Prop} {N : Nat → Prop} {L : Nat}
def wpV (P : Program) (md : Region.Mode) (ops : Array Oper) (Q : Exit → Act → World → Prop) (N : Nat → Prop) (L : Nat) : Nat → Array Bool → Act → World → Prop
  | 0, listed, a, w => ∀ w1, Bel w w1 → Region.ready md ops listed = [] ∧ Q .normal a w1
  | f + 1, listed, a, w => ∀ w1, Bel w w1 → (Region.ready md ops listed = [] → Q .normal a w1) ∧
      ∀ i ∈ Region.ready md ops listed, wpOp P ops Q i (fun a' w' => ((i = L ∨ listed.getD L false = true) ∨ Ks N w1 w') ∧ wpV P md ops Q N L f (listed.setIfInBounds i true) a' w') a w1
theorem wpAny_of_growV : ∀ (f : Nat) (listed : Array Bool) (a : Act) (w : World), wpV P md ops Q N L f listed a w → wpAny P md ops Q f listed a w
  | 0, _, _, w, h => h w (Bel.refl w)
  | f + 1, _, _, w, h => ⟨(h w (Bel.refl w)).1, fun i hi => wpOp_mono (fun a' w' h' => wpAny_of_growV f _ a' w' h'.2) ((h w (Bel.refl w)).2 i hi)⟩
theorem wpV.world {f : Nat} {listed : Array Bool} {a : Act} {w w1 : World} (h : wpV P md ops Q N L f listed a w) (hb : Bel w w1) : wpV P md ops Q N L f listed a w1 := by
  cases f <;> exact fun w2 h2 => h w2 (hb.trans h2)
theorem wpV_firstN {i g : Nat} {oi : Oper} {v : Value} (hi : ops[i]? = some oi) (hsel : ∀ (j : Nat) (o : Oper) cs b, ops[j]? = some o → o.op ≠ .select cs b)
    (hQ : ∀ c a w, Q (.panic c) (a.put oi.dst v) w → Q (.panic c) a w) (hW : waitsN md ops g L i = true) :
    ∀ (f : Nat) (listed : Array Bool) (a : Act) (w : World), Closed md ops listed → 
      (∀ j oj, ops[j]? = some oj → j ≠ i → listed.getD j true = false → (∀ e ∈ oj.after, Region.binds md e = true → e.on ≠ i) → oi.apart ops oj = true) →
      i ∈ Region.ready md ops listed → YieldsS P ops N oi v a w →
      wpV P md ops Q N L f (listed.setIfInBounds i true) (a.put oi.dst v) w → wpV P md ops Q N L (f + 1) listed a w := by
  intro f
  induction f with
  | zero =>
    intro listed a w _ _ hr hy H w1 hb
    refine ⟨fun h => (by rw [h] at hr; cases hr), fun j hj => ?_⟩
    by_cases hji : j = i
    · subst hji
      exact (hy.later (Ks.of hb)).op hi fun w' hb' => ⟨.inr (Ks.of hb'), H.world (hb.trans hb')⟩
    · have := ready_mono hj hji
      rw [(H w1 hb).1] at this
      cases this
  | succ f ih =>
    intro listed a w hcl hfree hr hy H w1 hb
    have hy1 := hy.later (Ks.of hb)
    refine ⟨fun h => (by rw [h] at hr; cases hr), fun j hj => ?_⟩
    by_cases hji : j = i
    · subst hji
      exact hy1.op hi fun w' hb' => ⟨.inr (Ks.of hb'), H.world (hb.trans hb')⟩
    · have hjL : ¬ (j = L ∨ (listed.setIfInBounds i true).getD L false = true) := fun h => by
        have hLi : L ≠ i := fun e => not_readyN hcl hW hr (e ▸ hr)
        rcases h with h | h
        · exact not_readyN hcl hW hr (h ▸ hj)
        · rw [getD_set_ne false (Ne.symm hLi)] at h
          have h1 := waitsN_listed hcl g L hW h
          rw [getD_both (mem_ready.1 hr).1] at h1
          cases h1
      have h1 := wpOp_mono (fun a' w' (h : ((j = L ∨ (listed.setIfInBounds i true).getD L false = true) ∨ Ks N w1 w') ∧ wpV P md ops Q N L f ((listed.setIfInBounds i true).setIfInBounds j true) a' w') => And.intro (h.1.resolve_left hjL) h.2) ((H w1 hb).2 j (ready_mono hj hji))
      obtain ⟨hjun, oj, hoj, hall⟩ := mem_ready.1 hj
      have hnot : ∀ e ∈ oj.after, Region.binds md e = true → e.on ≠ i := fun e he hb heq => by
        have h1 := hall e he hb
        rw [heq, getD_both (mem_ready.1 hr).1] at h1
        cases h1
      have h2 := putS hoj (hfree j oj hoj hji hjun hnot) (fun cs b => hsel i oi cs b hi) (fun cs b => hsel j oj cs b hoj) hQ hy1 h1
      have hfree' : ∀ k ok, ops[k]? = some ok → k ≠ i → (listed.setIfInBounds j true).getD k true = false →
          (∀ e ∈ ok.after, Region.binds md e = true → e.on ≠ i) → oi.apart ops ok = true := fun k ok hk hki hun hno => by
        refine hfree k ok hk hki ?_ hno
        by_cases hjk : j = k
        · subst hjk; exact hjun
        · rw [getD_set_ne true hjk] at hun; exact hun
      refine wpOp_mono (fun a' w' h3 => ⟨.inr h3.1, ih (listed.setIfInBounds j true) a' w' (hcl.set hj) hfree' (ready_mono hr (Ne.symm hji)) h3.2.1 ?_⟩) h2
      rw [Array.setIfInBounds_comm _ _ hji]
      exact h3.2.2
theorem wpV_goN (i : Nat) {oi : Oper} {f : Nat} {listed : Array Bool} {a : Act} {w : World} (hi : ops[i]? = some oi)
    (hr : ((Region.ready md ops listed).contains i && (waitsN md ops 4 L i && closedB md ops listed)) = true) (hf : Region.free md ops listed i = true) (hs : Region.noSelect ops = true) (hw : Region.wanted oi (yielded ops a.tmps) = true)
    (hQ : ∀ v c a w, Q (.panic c) (a.put oi.dst v) w → Q (.panic c) a w)
    (h : ∃ v, (∀ w1, Ks N w w1 → oi.quietAt P a (Bel w1) w1 v) ∧ wpV P md ops Q N L f (listed.setIfInBounds i true) (a.put oi.dst v) w) : wpV P md ops Q N L (f + 1) listed a w :=
  let ⟨v, h1, h2⟩ := h
  have hr1 := Bool.and_eq_true_iff.1 hr
  have hr2 := Bool.and_eq_true_iff.1 hr1.2
  wpV_firstN hi (Region.noSelect_spec hs) (hQ v) hr2.1 f listed a w (closedB_spec hr2.2) (Region.free_spec hi hf) (by simpa using hr1.1) (.inl ⟨hw, h1⟩) h2
/-- What leans on no world may be taken first, whatever L waits for. -/
theorem wpV_firstA {i : Nat} {oi : Oper} {v : Value} (hi : ops[i]? = some oi) (hsel : ∀ (j : Nat) (o : Oper) cs b, ops[j]? = some o → o.op ≠ .select cs b)
    (hQ : ∀ c a w, Q (.panic c) (a.put oi.dst v) w → Q (.panic c) a w) (hiL : i ≠ L) :
    ∀ (f : Nat) (listed : Array Bool) (a : Act) (w : World),
      (∀ j oj, ops[j]? = some oj → j ≠ i → listed.getD j true = false → (∀ e ∈ oj.after, Region.binds md e = true → e.on ≠ i) → oi.apart ops oj = true) →
      i ∈ Region.ready md ops listed → YieldsA P ops oi v a →
      wpV P md ops Q N L f (listed.setIfInBounds i true) (a.put oi.dst v) w → wpV P md ops Q N L (f + 1) listed a w := by
  intro f
  induction f with
  | zero =>
    intro listed a w _ hr hy H w1 hb
    refine ⟨fun h => (by rw [h] at hr; cases hr), fun j hj => ?_⟩
    by_cases hji : j = i
    · subst hji
      exact hy.op hi ⟨.inr (Ks.of (Bel.refl _)), H.world hb⟩
    · have := ready_mono hj hji
      rw [(H w1 hb).1] at this
      cases this
  | succ f ih =>
    intro listed a w hfree hr hy H w1 hb
    refine ⟨fun h => (by rw [h] at hr; cases hr), fun j hj => ?_⟩
    by_cases hji : j = i
    · subst hji
      exact hy.op hi ⟨.inr (Ks.of (Bel.refl _)), H.world hb⟩
    · have h1 := (H w1 hb).2 j (ready_mono hj hji)
      obtain ⟨hjun, oj, hoj, hall⟩ := mem_ready.1 hj
      have hnot : ∀ e ∈ oj.after, Region.binds md e = true → e.on ≠ i := fun e he hb heq => by
        have h1 := hall e he hb
        rw [heq, getD_both (mem_ready.1 hr).1] at h1
        cases h1
      have h2 := putA hoj (hfree j oj hoj hji hjun hnot) (fun cs b => hsel i oi cs b hi) (fun cs b => hsel j oj cs b hoj) hQ hy h1
      have hfree' : ∀ k ok, ops[k]? = some ok → k ≠ i → (listed.setIfInBounds j true).getD k true = false →
          (∀ e ∈ ok.after, Region.binds md e = true → e.on ≠ i) → oi.apart ops ok = true := fun k ok hk hki hun hno => by
        refine hfree k ok hk hki ?_ hno
        by_cases hjk : j = k
        · subst hjk; exact hjun
        · rw [getD_set_ne true hjk] at hun; exact hun
      refine wpOp_mono (fun a' w' h3 => ⟨h3.2.1.imp (Or.imp id (fun h => by rwa [getD_set_ne false hiL] at h)) id, ih (listed.setIfInBounds j true) a' w' hfree' (ready_mono hr (Ne.symm hji)) h3.1 ?_⟩) h2
      rw [Array.setIfInBounds_comm _ _ hji]
      exact h3.2.2
theorem wpV_goA (i : Nat) {oi : Oper} {f : Nat} {listed : Array Bool} {a : Act} {w : World} (hi : ops[i]? = some oi)
    (hr : ((Region.ready md ops listed).contains i && !decide (i = L)) = true) (hf : Region.free md ops listed i = true) (hs : Region.noSelect ops = true) (hw : Region.wanted oi (yielded ops a.tmps) = true)
    (hQ : ∀ v c a w, Q (.panic c) (a.put oi.dst v) w → Q (.panic c) a w)
    (h : ∃ v, (∀ w1, oi.quietAt P a (fun w' => w' = w1) w1 v) ∧ wpV P md ops Q N L f (listed.setIfInBounds i true) (a.put oi.dst v) w) : wpV P md ops Q N L (f + 1) listed a w :=
  let ⟨v, h1, h2⟩ := h
  have hr1 := Bool.and_eq_true_iff.1 hr
  wpV_firstA hi (Region.noSelect_spec hs) (hQ v) (by simpa using hr1.2) f listed a w (Region.free_spec hi hf) (by simpa using hr1.1) (.inl ⟨hw, h1⟩) h2
theorem wpV_one (i : Nat) {f : Nat} {listed : Array Bool} {a : Act} {w : World} (hr : Region.ready md ops listed = [i])
    (h : ∀ w1, Bel w w1 → wpOp P ops Q i (fun a' w' => Ks N w1 w' ∧ wpV P md ops Q N L f (listed.setIfInBounds i true) a' w') a w1) : wpV P md ops Q N L (f + 1) listed a w := fun w1 hb =>
  ⟨fun h0 => (by rw [hr] at h0; cases h0), fun j hj => by
    rw [hr] at hj
    simp only [List.mem_singleton] at hj
    subst hj
    exact wpOp_mono (fun a' w' h' => ⟨.inr h'.1, h'.2⟩) (h w1 hb)⟩
/-- The operation that may do what it likes. -/
theorem wpV_now {f : Nat} {listed : Array Bool} {a : Act} {w : World} (hr : Region.ready md ops listed = [L])
    (h : ∀ w1, Bel w w1 → wpOp P ops Q L (fun a' w' => wpV P md ops Q N L f (listed.setIfInBounds L true) a' w') a w1) : wpV P md ops Q N L (f + 1) listed a w := fun w1 hb =>
  ⟨fun h0 => (by rw [hr] at h0; cases h0), fun j hj => by
    rw [hr] at hj
    simp only [List.mem_singleton] at hj
    subst hj
    exact wpOp_mono (fun a' w' h' => ⟨.inl (.inl rfl), h'⟩) (h w1 hb)⟩
/-- What comes behind it, one alone. -/
theorem wpV_next (i : Nat) {f : Nat} {listed : Array Bool} {a : Act} {w : World} (hl : listed.getD L false = true) (hr : Region.ready md ops listed = [i])
    (h : ∀ w1, Bel w w1 → wpOp P ops Q i (fun a' w' => wpV P md ops Q N L f (listed.setIfInBounds i true) a' w') a w1) : wpV P md ops Q N L (f + 1) listed a w := fun w1 hb =>
  ⟨fun h0 => (by rw [hr] at h0; cases h0), fun j hj => by
    rw [hr] at hj
    simp only [List.mem_singleton] at hj
    subst hj
    exact wpOp_mono (fun a' w' h' => ⟨.inl (.inr hl), h'⟩) (h w1 hb)⟩
theorem wpV_done {listed : Array Bool} {a : Act} {w : World} (hr : Region.ready md ops listed = []) (h : ∀ w1, Bel w w1 → Q .normal a w1) : ∀ f, wpV P md ops Q N L f listed a w
  | 0 => fun w1 hb => ⟨hr, h w1 hb⟩
  | _ + 1 => fun w1 hb => ⟨fun _ => h w1 hb, by rw [hr]; simp⟩
/-- The beginning. -/
theorem region_keepV (N : Nat → Prop) (L : Nat) {id : Nat} {a : Act} {w : World} (hm : P.follows .mixedOrders = true)
    (h : wpV P .any ops Q N L ops.size (Array.replicate ops.size false) a w) : (Code.region id ops true).wp P Q a w :=
  wp_region_any hm (wpAny_of_growV _ _ _ _ (h.world (w1 := w.drew) (Bel.refl w).drew))
theorem wpV_last {f : Nat} {listed : Array Bool} {a : Act} {w : World} {o : Oper} (hr : Region.ready md ops listed = [L]) (hd : Region.ready md ops (listed.setIfInBounds L true) = []) (hi : ops[L]? = some o) (hw : Region.wanted o (yielded ops a.tmps) = true)
    (h : ∀ w1, Bel w w1 → o.wp P a w1 (fun a' w' => ∀ w2, Bel w' w2 → Q .normal a' w2) Q) : wpV P md ops Q N L (f + 1) listed a w :=
  wpV_now hr fun w1 hb => wpOp_mono (fun a' w' h' => wpV_done hd h' f) (op_wanted hi hw (h w1 hb))
end
end Go.Proofs.Yteihildhlcggoaa

import Derived.OrdersHeld
import Derived.Deep.Quiet
import Derived.StillTail
import Derived.Test.YtnklpifnknmdgaaGreatDoorZTr
set_option linter.all false
set_option maxRecDepth 100000
namespace Go.Proofs.YtnklpifnknmdgaaGreatDoor
open Go Go.RowKit

section
variable {P : Program} {ops : Array Oper} {md : Region.Mode} {Q : Exit → Act → World → Prop} {N : Nat}

def wpG (P : Program) (md : Region.Mode) (ops : Array Oper) (Q : Exit → Act → World → Prop) (N : Nat) : Nat → Array Bool → Act → World → Prop
  | 0, listed, a, w => ∀ w1, Bel w w1 → Region.ready md ops listed = [] ∧ Q .normal a w1
  | f + 1, listed, a, w => ∀ w1, Bel w w1 → (Region.ready md ops listed = [] → Q .normal a w1) ∧
      ∀ i ∈ Region.ready md ops listed, wpOp P ops Q i (fun a' w' => Below N w1 w' ∧ wpG P md ops Q N f (listed.setIfInBounds i true) a' w') a w1

theorem wpAny_of_grow : ∀ (f : Nat) (listed : Array Bool) (a : Act) (w : World), wpG P md ops Q N f listed a w → wpAny P md ops Q f listed a w
  | 0, _, _, w, h => h w (Bel.refl w)
  | f + 1, _, _, w, h => ⟨(h w (Bel.refl w)).1, fun i hi => wpOp_mono (fun a' w' h' => wpAny_of_grow f _ a' w' h'.2) ((h w (Bel.refl w)).2 i hi)⟩

theorem wpG.world {f : Nat} {listed : Array Bool} {a : Act} {w w1 : World} (h : wpG P md ops Q N f listed a w) (hb : Bel w w1) : wpG P md ops Q N f listed a w1 := by
  cases f <;> exact fun w2 h2 => h w2 (hb.trans h2)

def YieldsG (P : Program) (ops : Array Oper) (N : Nat) (o : Oper) (v : Value) (a : Act) (w : World) : Prop :=
  (Region.wanted o (yielded ops a.tmps) = true ∧ ∀ w1, Below N w w1 → o.quietAt P a (Bel w1) w1 v) ∨ (Region.wanted o (yielded ops a.tmps) = false ∧ v = undef)

theorem quietAt_mono {o : Oper} {a : Act} {C D : World → Prop} {w : World} {v : Value} (h : ∀ w, C w → D w) (hq : o.quietAt P a C w v) : o.quietAt P a D w v := by
  unfold Oper.quietAt at *
  generalize (execOp a.eval o).run P w = r at *
  cases r with
  | ok n w' =>
    cases n <;> simp only [Oper.quietUpon] at hq ⊢ <;> first | exact hq | exact ⟨hq.1, hq.2.mono fun e w'' ⟨h1, h2⟩ => ⟨h1, h _ h2⟩⟩
  | halt x w' => exact hq

theorem YieldsG.later {o : Oper} {v : Value} {a : Act} {w w' : World} (h : YieldsG P ops N o v a w) (hb : Below N w w') : YieldsG P ops N o v a w' :=
  h.imp (fun ⟨h1, h2⟩ => ⟨h1, fun w1 hb1 => h2 w1 (hb.trans hb1)⟩) id

theorem YieldsG.same {o : Oper} {v : Value} {a a' : Act} {w : World} (hy : YieldsG P ops N o v a w) (he : execOp a'.eval o = execOp a.eval o)
    (hw : Region.wanted o (yielded ops a'.tmps) = Region.wanted o (yielded ops a.tmps)) : YieldsG P ops N o v a' w := by
  unfold YieldsG Oper.quietAt at *
  rw [he, hw]
  exact hy

theorem YieldsG.op {i : Nat} {o : Oper} {v : Value} {a : Act} {w : World} (hi : ops[i]? = some o) (hN : N ≤ w.heap.size) (hy : YieldsG P ops N o v a w) {K : Act → World → Prop}
    (h : ∀ w', Bel w w' → K (a.put o.dst v) w') : wpOp P ops Q i K a w := by
  unfold wpOp
  simp only [hi]
  rcases hy with ⟨hw, hv⟩ | ⟨hw, rfl⟩
  · simp only [hw, if_true]
    refine .inl (Oper.wp_of_quiet (C := Bel w) (K := fun a' => ∀ w', Bel w w' → K a' w') (Bel.refl w) (fun a' w' hb hk => hk w' hb) ⟨v, fun w1 hb => ?_, h⟩)
    exact quietAt_mono (fun w2 h2 => hb.trans h2) (hv w1 (Below.mono hb hN))
  · simp only [hw, Bool.false_eq_true, if_false]; exact h w (Bel.refl w)

theorem putG {j : Nat} {oi oj : Oper} {v : Value} (hj : ops[j]? = some oj) (hap : oi.apart ops oj = true)
    (hsi : ∀ cs b, oi.op ≠ .select cs b) (hsj : ∀ cs b, oj.op ≠ .select cs b)
    (hQ : ∀ c a w, Q (.panic c) (a.put oi.dst v) w → Q (.panic c) a w) {K : Act → World → Prop} {a : Act} {w : World}
    (hy : YieldsG P ops N oi v a w) (h : wpOp P ops Q j (fun a' w' => Below N w w' ∧ K a' w') (a.put oi.dst v) w) :
    wpOp P ops Q j (fun a' w' => Below N w w' ∧ YieldsG P ops N oi v a' w' ∧ K (a'.put oi.dst v) w') a w := by
  obtain ⟨h1, h2, h3⟩ := Oper.apart_spec hap
  have keep : ∀ (a : Act) (w' : World), YieldsG P ops N oi v a w → Below N w w' → ∀ u, YieldsG P ops N oi v (a.put oj.dst u) w' := fun a w' hy hb u =>
    (hy.later hb).same (execOp_put oi hsi a oj.dst u h3) (wanted_put oi a oj.dst u h3)
  have keepD : ∀ d, YieldsG P ops N oi v { a with defers := d :: a.defers } w := fun d => hy.same rfl rfl
  unfold wpOp at *
  simp only [hj] at *
  rw [wanted_put oj a oi.dst v h1] at h
  split
  · rename_i hw
    simp only [hw, if_true] at h
    rcases h with h | ⟨hasks, hlets⟩
    case inr => exact .inr ⟨by unfold Oper.asks at *; rw [execOp_put oj hsj a oi.dst v h1] at hasks; exact hasks, hlets⟩
    refine .inl ?_
    unfold Oper.wp at *
    rw [execOp_put oj hsj a oi.dst v h1] at h
    generalize (execOp a.eval oj).run P w = r at *
    cases r with
    | ok n w' =>
      cases n <;> simp only [Oper.upon] at h ⊢
      case value u => exact ⟨h.1, keep a _ hy h.1 u, by rw [← Act.put_comm a v u h2]; exact h.2⟩
      case skip => exact ⟨h.1, keep a _ hy h.1 _, by rw [← Act.put_comm a v undef h2]; exact h.2⟩
      case defer d =>
        refine ⟨h.1, keep _ _ (keepD d) h.1 _, ?_⟩
        rw [← Act.put_comm _ v undef h2, ← Act.put_defers]
        exact h.2
      case enter f args =>
        refine Calls.mono h fun e w'' he => ?_
        cases e with
        | returned u => exact ⟨he.1, keep a _ hy he.1 u, by rw [← Act.put_comm a v u h2]; exact he.2⟩
        | panicked c => exact hQ _ _ _ he
        | outgrown => exact he
      case row row args => exact Rows.mono h fun u w'' he => ⟨he.1, keep a _ hy he.1 u, by rw [← Act.put_comm a v u h2]; exact he.2⟩
    | halt x w' =>
      cases x <;> simp only [Oper.upon] at h ⊢
      case panic u => exact hQ _ _ _ h
  · rename_i hw
    simp only [hw] at h
    exact ⟨h.1, keep a _ hy h.1 _, by rw [← Act.put_comm a v undef h2]; exact h.2⟩

theorem wpG_first {i : Nat} {oi : Oper} {v : Value} (hi : ops[i]? = some oi) (hsel : ∀ (j : Nat) (o : Oper) cs b, ops[j]? = some o → o.op ≠ .select cs b)
    (hQ : ∀ c a w, Q (.panic c) (a.put oi.dst v) w → Q (.panic c) a w) :
    ∀ (f : Nat) (listed : Array Bool) (a : Act) (w : World), N ≤ w.heap.size →
      (∀ j oj, ops[j]? = some oj → j ≠ i → listed.getD j true = false → (∀ e ∈ oj.after, Region.binds md e = true → e.on ≠ i) → oi.apart ops oj = true) →
      i ∈ Region.ready md ops listed → YieldsG P ops N oi v a w →
      wpG P md ops Q N f (listed.setIfInBounds i true) (a.put oi.dst v) w → wpG P md ops Q N (f + 1) listed a w := by
  intro f
  induction f with
  | zero =>
    intro listed a w hN _ hr hy H w1 hb
    refine ⟨fun h => (by rw [h] at hr; cases hr), fun j hj => ?_⟩
    by_cases hji : j = i
    · subst hji
      exact (hy.later (Below.mono hb hN)).op hi (Nat.le_trans hN hb.size) fun w' hb' => ⟨Below.mono hb' (Nat.le_trans hN hb.size), H.world (hb.trans hb')⟩
    · have := ready_mono hj hji
      rw [(H w1 hb).1] at this
      cases this
  | succ f ih =>
    intro listed a w hN hfree hr hy H w1 hb
    have hN1 : N ≤ w1.heap.size := Nat.le_trans hN hb.size
    have hy1 := hy.later (Below.mono hb hN)
    refine ⟨fun h => (by rw [h] at hr; cases hr), fun j hj => ?_⟩
    by_cases hji : j = i
    · subst hji
      exact hy1.op hi hN1 fun w' hb' => ⟨Below.mono hb' hN1, H.world (hb.trans hb')⟩
    · have h1 := (H w1 hb).2 j (ready_mono hj hji)
      obtain ⟨hjun, oj, hoj, hall⟩ := mem_ready.1 hj
      have hnot : ∀ e ∈ oj.after, Region.binds md e = true → e.on ≠ i := fun e he hb heq => by
        have h1 := hall e he hb
        have h0 := (mem_ready.1 hr).1
        rw [heq] at h1
        rcases Nat.lt_or_ge i listed.size with h' | h'
        · simp [h'] at h0 h1; rw [h0] at h1; cases h1
        · simp [Array.getElem?_eq_none h'] at h1
      have h2 := putG hoj (hfree j oj hoj hji hjun hnot) (fun cs b => hsel i oi cs b hi) (fun cs b => hsel j oj cs b hoj) hQ hy1 h1
      have hfree' : ∀ k ok, ops[k]? = some ok → k ≠ i → (listed.setIfInBounds j true).getD k true = false →
          (∀ e ∈ ok.after, Region.binds md e = true → e.on ≠ i) → oi.apart ops ok = true := fun k ok hk hki hun hno => by
        refine hfree k ok hk hki ?_ hno
        by_cases hjk : j = k
        · subst hjk; exact hjun
        · rw [getD_set_ne true hjk] at hun; exact hun
      refine wpOp_mono (fun a' w' h3 => ⟨h3.1, ih (listed.setIfInBounds j true) a' w' (Nat.le_trans hN1 h3.1.size) hfree' (ready_mono hr (Ne.symm hji)) h3.2.1 ?_⟩) h2
      rw [Array.setIfInBounds_comm _ _ hji]
      exact h3.2.2

theorem wpG_take {i : Nat} {oi : Oper} {v : Value} {f : Nat} {listed : Array Bool} {a : Act} {w : World} (hi : ops[i]? = some oi)
    (hs : Region.noSelect ops = true) (hf : Region.free md ops listed i = true) (hr : (Region.ready md ops listed).contains i = true)
    (hQ : ∀ c a w, Q (.panic c) (a.put oi.dst v) w → Q (.panic c) a w) (hN : N ≤ w.heap.size) (hy : YieldsG P ops N oi v a w)
    (h : wpG P md ops Q N f (listed.setIfInBounds i true) (a.put oi.dst v) w) : wpG P md ops Q N (f + 1) listed a w :=
  wpG_first hi (Region.noSelect_spec hs) hQ f listed a w hN (Region.free_spec hi hf) (by simpa using hr) hy h
theorem wpG_all {rs : List Nat} {f : Nat} {listed : Array Bool} {a : Act} {w : World} (hr : Region.ready md ops listed = rs) (hne : rs ≠ [])
    (h : ∀ w1, Bel w w1 → ∀ i ∈ rs, wpOp P ops Q i (fun a' w' => Below N w1 w' ∧ wpG P md ops Q N f (listed.setIfInBounds i true) a' w') a w1) : wpG P md ops Q N (f + 1) listed a w :=
  fun w1 hb => ⟨fun h0 => absurd (hr ▸ h0) hne, hr ▸ h w1 hb⟩
theorem wpG_done {listed : Array Bool} {a : Act} {w : World} (hr : Region.ready md ops listed = []) (h : ∀ w1, Bel w w1 → Q .normal a w1) : ∀ f, wpG P md ops Q N f listed a w
  | 0 => fun w1 hb => ⟨hr, h w1 hb⟩
  | _ + 1 => fun w1 hb => ⟨fun _ => h w1 hb, by rw [hr]; simp⟩
theorem region_grow {id : Nat} {a : Act} {w : World} (hm : P.follows .mixedOrders = true)
    (h : wpG P .any ops Q w.heap.size ops.size (Array.replicate ops.size false) a w) : (Code.region id ops true).wp P Q a w :=
  wp_region_any hm (wpAny_of_grow _ _ _ _ (h.world (w1 := w.drew) (Bel.refl w).drew))
variable {o : Oper} {a : Act} {w w1 : World}
theorem g_load (ty : TypeId) (x : Operand) (ho : o.op = .load ty x) {B : Nat} {c : Array Value} {t : TypeId} (hT : RowTy P ty c.size) (hx : a.eval x = .pointer (some ⟨B, 0, none⟩)) (hb : Box w1 B c t) : o.quietAt P a (Bel w1) w1 (.agg c) := by
  obtain ⟨d, hu, hd, hi⟩ := hT
  unfold Oper.quietAt execOp
  simp only [ho, hx, Instr.loadAt, Instr.sureAddr, Sem.run_bind, Sem.run_pure, Result.andThen_ok, run_loadVar_row w1 B t ty c (0, 0) d hb hu (by cases d <;> simp_all [TypeDesc.isRow]) hi]
  exact ⟨rfl, rfl⟩
theorem g_move (x : Operand) (ho : o.op = .move x) : o.quietAt P a (Bel w1) w1 (a.eval x) := by unfold Oper.quietAt; rw [BigFrame.run_move x ho]; exact ⟨rfl, rfl⟩
theorem g_assign (x : Operand) (ho : o.op = .assign x) : o.quietAt P a (Bel w1) w1 (a.eval x) := by unfold Oper.quietAt; rw [BigFrame.run_assign x ho]; exact ⟨rfl, rfl⟩
theorem op_wanted {i : Nat} {K : Act → World → Prop} (hi : ops[i]? = some o) (hw : Region.wanted o (yielded ops a.tmps) = true) (h : o.wp P a w K Q) : wpOp P ops Q i K a w := by
  unfold wpOp
  simp only [hi, hw, if_true]
  exact .inl h
theorem wpG_go (i : Nat) {oi : Oper} {f : Nat} {listed : Array Bool} (hi : ops[i]? = some oi)
    (hr : (Region.ready md ops listed).contains i = true) (hf : Region.free md ops listed i = true) (hs : Region.noSelect ops = true) (hw : Region.wanted oi (yielded ops a.tmps) = true)
    (hQ : ∀ v c a w, Q (.panic c) (a.put oi.dst v) w → Q (.panic c) a w) (hN : N ≤ w.heap.size)
    (h : ∃ v, (∀ w1, Below N w w1 → oi.quietAt P a (Bel w1) w1 v) ∧ wpG P md ops Q N f (listed.setIfInBounds i true) (a.put oi.dst v) w) : wpG P md ops Q N (f + 1) listed a w :=
  let ⟨v, h1, h2⟩ := h
  wpG_take hi hs hf hr (hQ v) hN (.inl ⟨hw, h1⟩) h2
theorem wpG_raise {M : Nat} (hM : N ≤ M) : ∀ (f : Nat) (listed : Array Bool) (a : Act) (w : World), wpG P md ops Q M f listed a w → wpG P md ops Q N f listed a w
  | 0, _, _, _, h => h
  | f + 1, _, _, _, h => fun w1 hb => ⟨(h w1 hb).1, fun i hi => wpOp_mono (fun a' w' h' => ⟨Below.mono h'.1 hM, wpG_raise hM f _ a' w' h'.2⟩) ((h w1 hb).2 i hi)⟩
theorem wpG_one (i : Nat) {f : Nat} {listed : Array Bool} (hr : Region.ready md ops listed = [i])
    (h : ∀ w1, Bel w w1 → wpOp P ops Q i (fun a' w' => Below N w1 w' ∧ wpG P md ops Q N f (listed.setIfInBounds i true) a' w') a w1) : wpG P md ops Q N (f + 1) listed a w :=
  wpG_all hr (by simp) fun w1 hb j hj => by
    simp only [List.mem_singleton] at hj
    subst hj
    exact h w1 hb
theorem wpG_two (i k : Nat) {f : Nat} {listed : Array Bool} (hr : Region.ready md ops listed = [i, k])
    (h : ∀ w1, Bel w w1 → wpOp P ops Q i (fun a' w' => Below N w1 w' ∧ wpG P md ops Q N f (listed.setIfInBounds i true) a' w') a w1)
    (h' : ∀ w1, Bel w w1 → wpOp P ops Q k (fun a' w' => Below N w1 w' ∧ wpG P md ops Q N f (listed.setIfInBounds k true) a' w') a w1) : wpG P md ops Q N (f + 1) listed a w :=
  wpG_all hr (by simp) fun w1 hb j hj => by
    simp only [List.mem_cons, List.not_mem_nil, or_false] at hj
    rcases hj with rfl | rfl
    · exact h w1 hb
    · exact h' w1 hb
theorem wp_storeB {ty : TypeId} {n : Nat} (hT : RowTy P ty n) (x y : Operand) (ho : o.op = .store ty x y) {c' : Array Value} (hy : a.eval y = .agg c') (hn : c'.size = n) {B : Nat} (hx : a.eval x = .pointer (some ⟨B, 0, none⟩)) {c : Array Value} {t : TypeId} (hb : Box w B c t) (hs : c.size = n)
    (h1 : c'.all (·.oneCell') = true) {K : Act → World → Prop} (h : K (a.put o.dst undef) (w.setRow B c')) : o.wp P a w K Q := by
  subst hn
  obtain ⟨d, hu, hd, hi⟩ := hT
  unfold Oper.wp execOp
  simp only [ho, hx, hy, Instr.storeAt, Instr.sureAddr, Sem.run_bind, Sem.run_pure, Result.andThen_ok, run_storeVar_row w B t ty c c' hb hi hs h1]
  exact h
end
end Go.Proofs.YtnklpifnknmdgaaGreatDoor
namespace Go.Proofs.YtnklpifnknmdgaaGreatDoor
open Go Go.RowKit

section
variable {P : Program} {ops : Array Oper} {md : Region.Mode} {Q : Exit → Act → World → Prop} {N L : Nat}
def wpT (P : Program) (md : Region.Mode) (ops : Array Oper) (Q : Exit → Act → World → Prop) (N L : Nat) : Nat → Array Bool → Act → World → Prop
  | 0, listed, a, w => ∀ w1, Bel w w1 → Region.ready md ops listed = [] ∧ Q .normal a w1
  | f + 1, listed, a, w => ∀ w1, Bel w w1 → (Region.ready md ops listed = [] → Q .normal a w1) ∧
      ∀ i ∈ Region.ready md ops listed, wpOp P ops Q i (fun a' w' => (i = L ∨ Below N w1 w') ∧ wpT P md ops Q N L f (listed.setIfInBounds i true) a' w') a w1
theorem wpAny_of_growT : ∀ (f : Nat) (listed : Array Bool) (a : Act) (w : World), wpT P md ops Q N L f listed a w → wpAny P md ops Q f listed a w
  | 0, _, _, w, h => h w (Bel.refl w)
  | f + 1, _, _, w, h => ⟨(h w (Bel.refl w)).1, fun i hi => wpOp_mono (fun a' w' h' => wpAny_of_growT f _ a' w' h'.2) ((h w (Bel.refl w)).2 i hi)⟩
theorem wpT.world {f : Nat} {listed : Array Bool} {a : Act} {w w1 : World} (h : wpT P md ops Q N L f listed a w) (hb : Bel w w1) : wpT P md ops Q N L f listed a w1 := by
  cases f <;> exact fun w2 h2 => h w2 (hb.trans h2)
def waitsN (md : Region.Mode) (ops : Array Oper) : Nat → Nat → Nat → Bool
  | 0, L, i => Region.waitsFor md ops L i
  | f + 1, L, i => Region.waitsFor md ops L i || (List.range ops.size).any fun j => Region.waitsFor md ops L j && waitsN md ops f j i
def Closed (md : Region.Mode) (ops : Array Oper) (listed : Array Bool) : Prop := ∀ j oj, ops[j]? = some oj → listed.getD j false = true → ∀ e ∈ oj.after, Region.binds md e = true → listed.getD e.on false = true
def closedB (md : Region.Mode) (ops : Array Oper) (listed : Array Bool) : Bool := (List.range ops.size).all fun j => !(listed.getD j false) || match ops[j]? with
  | some oj => oj.after.all fun e => !(Region.binds md e) || listed.getD e.on false
  | none => true
theorem closedB_spec {listed : Array Bool} (h : closedB md ops listed = true) : Closed md ops listed := fun j oj hj hl e he hb => by
  have hlt : j < ops.size := (Array.getElem?_eq_some_iff.1 hj).1
  have h1 := List.all_eq_true.1 h j (List.mem_range.2 hlt)
  rw [hl, hj] at h1
  simp only [Bool.not_true, Bool.false_or] at h1
  have h2 := Array.all_eq_true_iff_forall_mem.1 h1 e he
  rw [hb] at h2
  simpa only [Bool.not_true, Bool.false_or] using h2
theorem Closed.set {i : Nat} {listed : Array Bool} (h : Closed md ops listed) (hi : i ∈ Region.ready md ops listed) : Closed md ops (listed.setIfInBounds i true) := by
  obtain ⟨_, oi, hoi, hall⟩ := mem_ready.1 hi
  intro j oj hj hl e he hb
  by_cases hij : i = j
  · subst hij
    have : oj = oi := Option.some.inj (hj.symm.trans hoi)
    subst this
    exact getD_set_true (hall e he hb)
  · rw [getD_set_ne false hij] at hl
    exact getD_set_true (h j oj hj hl e he hb)
theorem waitsFor_listed {listed : Array Bool} (hc : Closed md ops listed) {j i : Nat} (h : Region.waitsFor md ops j i = true) (hl : listed.getD j false = true) : listed.getD i false = true := by
  obtain ⟨oj, hoj, e, he, hb, rfl⟩ := Region.waitsFor_spec h
  exact hc j oj hoj hl e he hb
theorem waitsN_listed {listed : Array Bool} (hc : Closed md ops listed) {i : Nat} : ∀ (f j : Nat), waitsN md ops f j i = true → listed.getD j false = true → listed.getD i false = true
  | 0, _, h, hl => waitsFor_listed hc h hl
  | f + 1, j, h, hl => by
    simp only [waitsN, Bool.or_eq_true, List.any_eq_true, Bool.and_eq_true] at h
    rcases h with h | ⟨k, _, h1, h2⟩
    · exact waitsFor_listed hc h hl
    · exact waitsN_listed hc f k h2 (waitsFor_listed hc h1 hl)
theorem not_readyN {i f : Nat} {listed : Array Bool} (hc : Closed md ops listed) (hW : waitsN md ops f L i = true) (hi : i ∈ Region.ready md ops listed) : L ∉ Region.ready md ops listed := fun hL => by
  obtain ⟨_, oL, hoL, hall⟩ := mem_ready.1 hL
  have h0 := getD_both (mem_ready.1 hi).1
  have direct : ∀ j, Region.waitsFor md ops L j = true → listed.getD j false = true := fun j h => by
    obtain ⟨oj, hoj, e, he, hb, rfl⟩ := Region.waitsFor_spec h
    rw [hoL] at hoj; cases hoj
    exact hall e he hb
  cases f with
  | zero => rw [direct i hW] at h0; cases h0
  | succ f =>
    simp only [waitsN, Bool.or_eq_true, List.any_eq_true, Bool.and_eq_true] at hW
    rcases hW with h | ⟨k, _, h1, h2⟩
    · rw [direct i h] at h0; cases h0
    · rw [waitsN_listed hc f k h2 (direct k h1)] at h0; cases h0
theorem wpT_firstN {i g : Nat} {oi : Oper} {v : Value} (hi : ops[i]? = some oi) (hsel : ∀ (j : Nat) (o : Oper) cs b, ops[j]? = some o → o.op ≠ .select cs b)
    (hQ : ∀ c a w, Q (.panic c) (a.put oi.dst v) w → Q (.panic c) a w) (hW : waitsN md ops g L i = true) :
    ∀ (f : Nat) (listed : Array Bool) (a : Act) (w : World), Closed md ops listed → N ≤ w.heap.size →
      (∀ j oj, ops[j]? = some oj → j ≠ i → listed.getD j true = false → (∀ e ∈ oj.after, Region.binds md e = true → e.on ≠ i) → oi.apart ops oj = true) →
      i ∈ Region.ready md ops listed → YieldsG P ops N oi v a w →
      wpT P md ops Q N L f (listed.setIfInBounds i true) (a.put oi.dst v) w → wpT P md ops Q N L (f + 1) listed a w := by
  intro f
  induction f with
  | zero =>
    intro listed a w _ hN _ hr hy H w1 hb
    refine ⟨fun h => (by rw [h] at hr; cases hr), fun j hj => ?_⟩
    by_cases hji : j = i
    · subst hji
      exact (hy.later (Below.mono hb hN)).op hi (Nat.le_trans hN hb.size) fun w' hb' => ⟨.inr (Below.mono hb' (Nat.le_trans hN hb.size)), H.world (hb.trans hb')⟩
    · have := ready_mono hj hji
      rw [(H w1 hb).1] at this
      cases this
  | succ f ih =>
    intro listed a w hcl hN hfree hr hy H w1 hb
    have hN1 : N ≤ w1.heap.size := Nat.le_trans hN hb.size
    have hy1 := hy.later (Below.mono hb hN)
    refine ⟨fun h => (by rw [h] at hr; cases hr), fun j hj => ?_⟩
    by_cases hji : j = i
    · subst hji
      exact hy1.op hi hN1 fun w' hb' => ⟨.inr (Below.mono hb' hN1), H.world (hb.trans hb')⟩
    · have hjL : j ≠ L := fun h => not_readyN hcl hW hr (h ▸ hj)
      have h1 := wpOp_mono (fun a' w' (h : (j = L ∨ Below N w1 w') ∧ wpT P md ops Q N L f ((listed.setIfInBounds i true).setIfInBounds j true) a' w') => And.intro (h.1.resolve_left hjL) h.2) ((H w1 hb).2 j (ready_mono hj hji))
      obtain ⟨hjun, oj, hoj, hall⟩ := mem_ready.1 hj
      have hnot : ∀ e ∈ oj.after, Region.binds md e = true → e.on ≠ i := fun e he hb heq => by
        have h1 := hall e he hb
        rw [heq, getD_both (mem_ready.1 hr).1] at h1
        cases h1
      have h2 := putG hoj (hfree j oj hoj hji hjun hnot) (fun cs b => hsel i oi cs b hi) (fun cs b => hsel j oj cs b hoj) hQ hy1 h1
      have hfree' : ∀ k ok, ops[k]? = some ok → k ≠ i → (listed.setIfInBounds j true).getD k true = false →
          (∀ e ∈ ok.after, Region.binds md e = true → e.on ≠ i) → oi.apart ops ok = true := fun k ok hk hki hun hno => by
        refine hfree k ok hk hki ?_ hno
        by_cases hjk : j = k
        · subst hjk; exact hjun
        · rw [getD_set_ne true hjk] at hun; exact hun
      refine wpOp_mono (fun a' w' h3 => ⟨.inr h3.1, ih (listed.setIfInBounds j true) a' w' (hcl.set hj) (Nat.le_trans hN1 h3.1.size) hfree' (ready_mono hr (Ne.symm hji)) h3.2.1 ?_⟩) h2
      rw [Array.setIfInBounds_comm _ _ hji]
      exact h3.2.2
theorem wpT_goN (i : Nat) {oi : Oper} {f : Nat} {listed : Array Bool} {a : Act} {w : World} (hi : ops[i]? = some oi)
    (hr : ((Region.ready md ops listed).contains i && (waitsN md ops 4 L i && closedB md ops listed)) = true) (hf : Region.free md ops listed i = true) (hs : Region.noSelect ops = true) (hw : Region.wanted oi (yielded ops a.tmps) = true)
    (hQ : ∀ v c a w, Q (.panic c) (a.put oi.dst v) w → Q (.panic c) a w) (hN : N ≤ w.heap.size)
    (h : ∃ v, (∀ w1, Below N w w1 → oi.quietAt P a (Bel w1) w1 v) ∧ wpT P md ops Q N L f (listed.setIfInBounds i true) (a.put oi.dst v) w) : wpT P md ops Q N L (f + 1) listed a w :=
  let ⟨v, h1, h2⟩ := h
  have hr1 := Bool.and_eq_true_iff.1 hr
  have hr2 := Bool.and_eq_true_iff.1 hr1.2
  wpT_firstN hi (Region.noSelect_spec hs) (hQ v) hr2.1 f listed a w (closedB_spec hr2.2) hN (Region.free_spec hi hf) (by simpa using hr1.1) (.inl ⟨hw, h1⟩) h2
def YieldsA (P : Program) (ops : Array Oper) (o : Oper) (v : Value) (a : Act) : Prop :=
  (Region.wanted o (yielded ops a.tmps) = true ∧ ∀ w1, o.quietAt P a (fun w' => w' = w1) w1 v) ∨ (Region.wanted o (yielded ops a.tmps) = false ∧ v = undef)
theorem YieldsA.op {i : Nat} {o : Oper} {v : Value} {a : Act} {w : World} (hi : ops[i]? = some o) (hy : YieldsA P ops o v a) {K : Act → World → Prop} (h : K (a.put o.dst v) w) : wpOp P ops Q i K a w := by
  unfold wpOp
  simp only [hi]
  rcases hy with ⟨hw, hv⟩ | ⟨hw, rfl⟩
  · simp only [hw, if_true]
    exact .inl (Oper.wp_of_quiet (C := fun w' => w' = w) (K := fun a' => K a' w) rfl (fun a' w' hb hk => hb ▸ hk) ⟨v, fun w1 hb => by subst hb; exact hv w1, h⟩)
  · simp only [hw, Bool.false_eq_true, if_false]; exact h
theorem a_move {o : Oper} {a : Act} {w1 : World} (x : Operand) (ho : o.op = .move x) : o.quietAt P a (fun w' => w' = w1) w1 (a.eval x) := by unfold Oper.quietAt; rw [BigFrame.run_move x ho]; exact ⟨rfl, rfl⟩
theorem a_assign {o : Oper} {a : Act} {w1 : World} (x : Operand) (ho : o.op = .assign x) : o.quietAt P a (fun w' => w' = w1) w1 (a.eval x) := by unfold Oper.quietAt; rw [BigFrame.run_assign x ho]; exact ⟨rfl, rfl⟩
theorem wpT_last {f : Nat} {listed : Array Bool} {a : Act} {w : World} {o : Oper} (hr : Region.ready md ops listed = [L]) (hd : Region.ready md ops (listed.setIfInBounds L true) = []) (hi : ops[L]? = some o) (hw : Region.wanted o (yielded ops a.tmps) = true)
    (h : ∀ w1, Bel w w1 → o.wp P a w1 (fun a' w' => ∀ w2, Bel w' w2 → Q .normal a' w2) Q) : wpT P md ops Q N L (f + 1) listed a w := fun w1 hb =>
  ⟨fun h0 => (by rw [hr] at h0; cases h0), fun j hj => by
    rw [hr] at hj
    simp only [List.mem_singleton] at hj
    subst hj
    refine wpOp_mono (fun a' w' h' => ⟨.inl rfl, ?_⟩) (op_wanted hi hw (h w1 hb))
    cases f with
    | zero => exact fun w2 h2 => ⟨hd, h' w2 h2⟩
    | succ f => exact fun w2 h2 => ⟨fun _ => h' w2 h2, by rw [hd]; simp⟩⟩
theorem wpT_then (M : Nat) {f : Nat} {listed : Array Bool} {a : Act} {w : World} {o oM : Oper} (hr : Region.ready md ops listed = [L]) (hd : Region.ready md ops (listed.setIfInBounds L true) = [M]) (hd2 : Region.ready md ops ((listed.setIfInBounds L true).setIfInBounds M true) = [])
    (hi : ops[L]? = some o) (hM : ops[M]? = some oM) (hw : Region.wanted o (yielded ops a.tmps) = true)
    (h : ∀ w1, Bel w w1 → o.wp P a w1 (fun a' w' => ∃ v, YieldsA P ops oM v a' ∧ ∀ w2, Bel w' w2 → Q .normal (a'.put oM.dst v) w2) Q) : wpT P md ops Q N L (f + 2) listed a w := fun w1 hb =>
  ⟨fun h0 => (by rw [h0] at hr; cases hr), fun j hj => by
    rw [hr] at hj
    simp only [List.mem_singleton] at hj
    subst hj
    refine wpOp_mono (fun a' w' h' => ⟨.inl rfl, ?_⟩) (op_wanted hi hw (h w1 hb))
    obtain ⟨v, hv, h'⟩ := h'
    intro w2 h2
    refine ⟨fun h0 => (by rw [hd] at h0; cases h0), fun j hj => ?_⟩
    rw [hd] at hj
    simp only [List.mem_singleton] at hj
    subst hj
    refine hv.op hM ⟨.inr (Below.refl _ _), ?_⟩
    cases f with
    | zero => exact fun w3 h3 => ⟨hd2, h' w3 (h2.trans h3)⟩
    | succ f => exact fun w3 h3 => ⟨fun _ => h' w3 (h2.trans h3), by rw [hd2]; simp⟩⟩
theorem region_growT (L : Nat) {id : Nat} {a : Act} {w : World} (hm : P.follows .mixedOrders = true)
    (h : wpT P .any ops Q w.heap.size L ops.size (Array.replicate ops.size false) a w) : (Code.region id ops true).wp P Q a w :=
  wp_region_any hm (wpAny_of_growT _ _ _ _ (h.world (w1 := w.drew) (Bel.refl w).drew))
end
section
variable {P : Program} {o : Oper} {a : Act} {w w1 : World}
theorem g_load_mid (ty : TypeId) (x : Operand) (ho : o.op = .load ty x) {b off : Nat} (hx : a.eval x = .pointer (some ⟨b, off, none⟩)) {cs : List Value} (hr : w1.rangeAt b off cs) (hT : RowTy P ty cs.length) (c : Array Value) (hc : cs.toArray = c) : o.quietAt P a (Bel w1) w1 (.agg c) := by
  subst hc
  obtain ⟨d, hu, hd, hi⟩ := hT
  unfold Oper.quietAt execOp
  simp only [ho, hx, Instr.loadAt, Instr.sureAddr, Sem.run_bind, Sem.run_pure, Result.andThen_ok, run_loadVar_mid w1 b off ty cs d hr hu hd hi]
  exact ⟨rfl, rfl⟩
theorem s_skip {ops : Array Oper} {rest : List Oper} {Q : Act → Prop} (hw : Region.wanted o (yielded ops a.tmps) = false) (h : wpStill P ops w Q rest (a.put o.dst undef)) : wpStill P ops w Q (o :: rest) a := by
  unfold wpStill
  rw [hw]
  exact h
end
end Go.Proofs.YtnklpifnknmdgaaGreatDoor
namespace Go.Proofs.YtnklpifnknmdgaaGreatDoor
open Go Go.RowKit

def Kp (N : Nat) (w w' : World) : Prop := w.heap.size ≤ w'.heap.size ∧ (N < w.heap.size → w'.heap[N]? = w.heap[N]?)
theorem Kp.of {N : Nat} {w w' : World} (h : Bel w w') : Kp N w w' := ⟨h.size, fun hN => h.block N hN⟩
theorem Kp.trans {N : Nat} {a b c : World} (h : Kp N a b) (k : Kp N b c) : Kp N a c := ⟨Nat.le_trans h.1 k.1, fun hN => (k.2 (Nat.lt_of_lt_of_le hN h.1)).trans (h.2 hN)⟩
theorem Kp.box {N : Nat} {w w' : World} (h : Kp N w w') {c : Array Value} {t : TypeId} (hb : Box w N c t) : Box w' N c t := (h.2 hb.lt).trans hb
theorem Kp.grown {N : Nat} {w w' : World} {row : Option Nat} (h : w.grownBy w' row) (hne : some N ≠ row) : Kp N w w' := ⟨h.size, fun hN => h.block N hN hne⟩
section
variable {P : Program} {ops : Array Oper} {md : Region.Mode} {Q : Exit → Act → World → Prop} {N : Nat}

def wpK (P : Program) (md : Region.Mode) (ops : Array Oper) (Q : Exit → Act → World → Prop) (N : Nat) : Nat → Array Bool → Act → World → Prop
  | 0, listed, a, w => ∀ w1, Bel w w1 → Region.ready md ops listed = [] ∧ Q .normal a w1
  | f + 1, listed, a, w => ∀ w1, Bel w w1 → (Region.ready md ops listed = [] → Q .normal a w1) ∧
      ∀ i ∈ Region.ready md ops listed, wpOp P ops Q i (fun a' w' => Kp N w1 w' ∧ wpK P md ops Q N f (listed.setIfInBounds i true) a' w') a w1

theorem wpAny_of_keep : ∀ (f : Nat) (listed : Array Bool) (a : Act) (w : World), wpK P md ops Q N f listed a w → wpAny P md ops Q f listed a w
  | 0, _, _, w, h => h w (Bel.refl w)
  | f + 1, _, _, w, h => ⟨(h w (Bel.refl w)).1, fun i hi => wpOp_mono (fun a' w' h' => wpAny_of_keep f _ a' w' h'.2) ((h w (Bel.refl w)).2 i hi)⟩

theorem wpK.world {f : Nat} {listed : Array Bool} {a : Act} {w w1 : World} (h : wpK P md ops Q N f listed a w) (hb : Bel w w1) : wpK P md ops Q N f listed a w1 := by
  cases f <;> exact fun w2 h2 => h w2 (hb.trans h2)

def YieldsK (P : Program) (ops : Array Oper) (N : Nat) (o : Oper) (v : Value) (a : Act) (w : World) : Prop :=
  (Region.wanted o (yielded ops a.tmps) = true ∧ ∀ w1, Kp N w w1 → o.quietAt P a (Bel w1) w1 v) ∨ (Region.wanted o (yielded ops a.tmps) = false ∧ v = undef)
theorem YieldsK.later {o : Oper} {v : Value} {a : Act} {w w' : World} (h : YieldsK P ops N o v a w) (hb : Kp N w w') : YieldsK P ops N o v a w' :=
  h.imp (fun ⟨h1, h2⟩ => ⟨h1, fun w1 hb1 => h2 w1 (hb.trans hb1)⟩) id

theorem YieldsK.same {o : Oper} {v : Value} {a a' : Act} {w : World} (hy : YieldsK P ops N o v a w) (he : execOp a'.eval o = execOp a.eval o)
    (hw : Region.wanted o (yielded ops a'.tmps) = Region.wanted o (yielded ops a.tmps)) : YieldsK P ops N o v a' w := by
  unfold YieldsK Oper.quietAt at *
  rw [he, hw]
  exact hy

theorem YieldsK.op {i : Nat} {o : Oper} {v : Value} {a : Act} {w : World} (hi : ops[i]? = some o) (hy : YieldsK P ops N o v a w) {K : Act → World → Prop}
    (h : ∀ w', Bel w w' → K (a.put o.dst v) w') : wpOp P ops Q i K a w := by
  unfold wpOp
  simp only [hi]
  rcases hy with ⟨hw, hv⟩ | ⟨hw, rfl⟩
  · simp only [hw, if_true]
    refine .inl (Oper.wp_of_quiet (C := Bel w) (K := fun a' => ∀ w', Bel w w' → K a' w') (Bel.refl w) (fun a' w' hb hk => hk w' hb) ⟨v, fun w1 hb => ?_, h⟩)
    exact quietAt_mono (fun w2 h2 => hb.trans h2) (hv w1 (Kp.of hb))
  · simp only [hw, Bool.false_eq_true, if_false]; exact h w (Bel.refl w)

theorem putK {j : Nat} {oi oj : Oper} {v : Value} (hj : ops[j]? = some oj) (hap : oi.apart ops oj = true)
    (hsi : ∀ cs b, oi.op ≠ .select cs b) (hsj : ∀ cs b, oj.op ≠ .select cs b)
    (hQ : ∀ c a w, Q (.panic c) (a.put oi.dst v) w → Q (.panic c) a w) {K : Act → World → Prop} {a : Act} {w : World}
    (hy : YieldsK P ops N oi v a w) (h : wpOp P ops Q j (fun a' w' => Kp N w w' ∧ K a' w') (a.put oi.dst v) w) :
    wpOp P ops Q j (fun a' w' => Kp N w w' ∧ YieldsK P ops N oi v a' w' ∧ K (a'.put oi.dst v) w') a w := by
  obtain ⟨h1, h2, h3⟩ := Oper.apart_spec hap
  have keep : ∀ (a : Act) (w' : World), YieldsK P ops N oi v a w → Kp N w w' → ∀ u, YieldsK P ops N oi v (a.put oj.dst u) w' := fun a w' hy hb u =>
    (hy.later hb).same (execOp_put oi hsi a oj.dst u h3) (wanted_put oi a oj.dst u h3)
  have keepD : ∀ d, YieldsK P ops N oi v { a with defers := d :: a.defers } w := fun d => hy.same rfl rfl
  unfold wpOp at *
  simp only [hj] at *
  rw [wanted_put oj a oi.dst v h1] at h
  split
  · rename_i hw
    simp only [hw, if_true] at h
    rcases h with h | ⟨hasks, hlets⟩
    case inr => exact .inr ⟨by unfold Oper.asks at *; rw [execOp_put oj hsj a oi.dst v h1] at hasks; exact hasks, hlets⟩
    refine .inl ?_
    unfold Oper.wp at *
    rw [execOp_put oj hsj a oi.dst v h1] at h
    generalize (execOp a.eval oj).run P w = r at *
    cases r with
    | ok n w' =>
      cases n <;> simp only [Oper.upon] at h ⊢
      case value u => exact ⟨h.1, keep a _ hy h.1 u, by rw [← Act.put_comm a v u h2]; exact h.2⟩
      case skip => exact ⟨h.1, keep a _ hy h.1 _, by rw [← Act.put_comm a v undef h2]; exact h.2⟩
      case defer d =>
        refine ⟨h.1, keep _ _ (keepD d) h.1 _, ?_⟩
        rw [← Act.put_comm _ v undef h2, ← Act.put_defers]
        exact h.2
      case enter f args =>
        refine Calls.mono h fun e w'' he => ?_
        cases e with
        | returned u => exact ⟨he.1, keep a _ hy he.1 u, by rw [← Act.put_comm a v u h2]; exact he.2⟩
        | panicked c => exact hQ _ _ _ he
        | outgrown => exact he
      case row row args => exact Rows.mono h fun u w'' he => ⟨he.1, keep a _ hy he.1 u, by rw [← Act.put_comm a v u h2]; exact he.2⟩
    | halt x w' =>
      cases x <;> simp only [Oper.upon] at h ⊢
      case panic u => exact hQ _ _ _ h
  · rename_i hw
    simp only [hw] at h
    exact ⟨h.1, keep a _ hy h.1 _, by rw [← Act.put_comm a v undef h2]; exact h.2⟩

theorem wpK_first {i : Nat} {oi : Oper} {v : Value} (hi : ops[i]? = some oi) (hsel : ∀ (j : Nat) (o : Oper) cs b, ops[j]? = some o → o.op ≠ .select cs b)
    (hQ : ∀ c a w, Q (.panic c) (a.put oi.dst v) w → Q (.panic c) a w) :
    ∀ (f : Nat) (listed : Array Bool) (a : Act) (w : World),
      (∀ j oj, ops[j]? = some oj → j ≠ i → listed.getD j true = false → (∀ e ∈ oj.after, Region.binds md e = true → e.on ≠ i) → oi.apart ops oj = true) →
      i ∈ Region.ready md ops listed → YieldsK P ops N oi v a w →
      wpK P md ops Q N f (listed.setIfInBounds i true) (a.put oi.dst v) w → wpK P md ops Q N (f + 1) listed a w := by
  intro f
  induction f with
  | zero =>
    intro listed a w _ hr hy H w1 hb
    refine ⟨fun h => (by rw [h] at hr; cases hr), fun j hj => ?_⟩
    by_cases hji : j = i
    · subst hji
      exact (hy.later (Kp.of hb)).op hi fun w' hb' => ⟨Kp.of hb', H.world (hb.trans hb')⟩
    · have := ready_mono hj hji
      rw [(H w1 hb).1] at this
      cases this
  | succ f ih =>
    intro listed a w hfree hr hy H w1 hb
    have hy1 := hy.later (Kp.of hb)
    refine ⟨fun h => (by rw [h] at hr; cases hr), fun j hj => ?_⟩
    by_cases hji : j = i
    · subst hji
      exact hy1.op hi fun w' hb' => ⟨Kp.of hb', H.world (hb.trans hb')⟩
    · have h1 := (H w1 hb).2 j (ready_mono hj hji)
      obtain ⟨hjun, oj, hoj, hall⟩ := mem_ready.1 hj
      have hnot : ∀ e ∈ oj.after, Region.binds md e = true → e.on ≠ i := fun e he hb heq => by
        have h1 := hall e he hb
        have h0 := (mem_ready.1 hr).1
        rw [heq] at h1
        rcases Nat.lt_or_ge i listed.size with h' | h'
        · simp [h'] at h0 h1; rw [h0] at h1; cases h1
        · simp [Array.getElem?_eq_none h'] at h1
      have h2 := putK hoj (hfree j oj hoj hji hjun hnot) (fun cs b => hsel i oi cs b hi) (fun cs b => hsel j oj cs b hoj) hQ hy1 h1
      have hfree' : ∀ k ok, ops[k]? = some ok → k ≠ i → (listed.setIfInBounds j true).getD k true = false →
          (∀ e ∈ ok.after, Region.binds md e = true → e.on ≠ i) → oi.apart ops ok = true := fun k ok hk hki hun hno => by
        refine hfree k ok hk hki ?_ hno
        by_cases hjk : j = k
        · subst hjk; exact hjun
        · rw [getD_set_ne true hjk] at hun; exact hun
      refine wpOp_mono (fun a' w' h3 => ⟨h3.1, ih (listed.setIfInBounds j true) a' w' hfree' (ready_mono hr (Ne.symm hji)) h3.2.1 ?_⟩) h2
      rw [Array.setIfInBounds_comm _ _ hji]
      exact h3.2.2

theorem wpK_take {i : Nat} {oi : Oper} {v : Value} {f : Nat} {listed : Array Bool} {a : Act} {w : World} (hi : ops[i]? = some oi)
    (hs : Region.noSelect ops = true) (hf : Region.free md ops listed i = true) (hr : (Region.ready md ops listed).contains i = true)
    (hQ : ∀ c a w, Q (.panic c) (a.put oi.dst v) w → Q (.panic c) a w) (hy : YieldsK P ops N oi v a w)
    (h : wpK P md ops Q N f (listed.setIfInBounds i true) (a.put oi.dst v) w) : wpK P md ops Q N (f + 1) listed a w :=
  wpK_first hi (Region.noSelect_spec hs) hQ f listed a w (Region.free_spec hi hf) (by simpa using hr) hy h
theorem wpK_all {rs : List Nat} {f : Nat} {listed : Array Bool} {a : Act} {w : World} (hr : Region.ready md ops listed = rs) (hne : rs ≠ [])
    (h : ∀ w1, Bel w w1 → ∀ i ∈ rs, wpOp P ops Q i (fun a' w' => Kp N w1 w' ∧ wpK P md ops Q N f (listed.setIfInBounds i true) a' w') a w1) : wpK P md ops Q N (f + 1) listed a w :=
  fun w1 hb => ⟨fun h0 => absurd (hr ▸ h0) hne, hr ▸ h w1 hb⟩
theorem wpK_done {listed : Array Bool} {a : Act} {w : World} (hr : Region.ready md ops listed = []) (h : ∀ w1, Bel w w1 → Q .normal a w1) : ∀ f, wpK P md ops Q N f listed a w
  | 0 => fun w1 hb => ⟨hr, h w1 hb⟩
  | _ + 1 => fun w1 hb => ⟨fun _ => h w1 hb, by rw [hr]; simp⟩
theorem region_keep (N : Nat) {id : Nat} {a : Act} {w : World} (hm : P.follows .mixedOrders = true)
    (h : wpK P .any ops Q N ops.size (Array.replicate ops.size false) a w) : (Code.region id ops true).wp P Q a w :=
  wp_region_any hm (wpAny_of_keep _ _ _ _ (h.world (w1 := w.drew) (Bel.refl w).drew))
variable {o : Oper} {a : Act} {w w1 : World}
theorem wpK_go (i : Nat) {oi : Oper} {f : Nat} {listed : Array Bool} (hi : ops[i]? = some oi)
    (hr : (Region.ready md ops listed).contains i = true) (hf : Region.free md ops listed i = true) (hs : Region.noSelect ops = true) (hw : Region.wanted oi (yielded ops a.tmps) = true)
    (hQ : ∀ v c a w, Q (.panic c) (a.put oi.dst v) w → Q (.panic c) a w)
    (h : ∃ v, (∀ w1, Kp N w w1 → oi.quietAt P a (Bel w1) w1 v) ∧ wpK P md ops Q N f (listed.setIfInBounds i true) (a.put oi.dst v) w) : wpK P md ops Q N (f + 1) listed a w :=
  let ⟨v, h1, h2⟩ := h
  wpK_take hi hs hf hr (hQ v) (.inl ⟨hw, h1⟩) h2
theorem wpK_one (i : Nat) {f : Nat} {listed : Array Bool} (hr : Region.ready md ops listed = [i])
    (h : ∀ w1, Bel w w1 → wpOp P ops Q i (fun a' w' => Kp N w1 w' ∧ wpK P md ops Q N f (listed.setIfInBounds i true) a' w') a w1) : wpK P md ops Q N (f + 1) listed a w :=
  wpK_all hr (by simp) fun w1 hb j hj => by
    simp only [List.mem_singleton] at hj
    subst hj
    exact h w1 hb
theorem wpK_two (i k : Nat) {f : Nat} {listed : Array Bool} (hr : Region.ready md ops listed = [i, k])
    (h : ∀ w1, Bel w w1 → wpOp P ops Q i (fun a' w' => Kp N w1 w' ∧ wpK P md ops Q N f (listed.setIfInBounds i true) a' w') a w1)
    (h' : ∀ w1, Bel w w1 → wpOp P ops Q k (fun a' w' => Kp N w1 w' ∧ wpK P md ops Q N f (listed.setIfInBounds k true) a' w') a w1) : wpK P md ops Q N (f + 1) listed a w :=
  wpK_all hr (by simp) fun w1 hb j hj => by
    simp only [List.mem_cons, List.not_mem_nil, or_false] at hj
    rcases hj with rfl | rfl
    · exact h w1 hb
    · exact h' w1 hb
end
end Go.Proofs.YtnklpifnknmdgaaGreatDoor
namespace Go.Proofs.YtnklpifnknmdgaaGreatDoor
open Go Go.RowKit

def Ks (N : Nat → Prop) (w w' : World) : Prop := w.heap.size ≤ w'.heap.size ∧ ∀ b, N b → b < w.heap.size → w'.heap[b]? = w.heap[b]?
theorem Ks.of {N : Nat → Prop} {w w' : World} (h : Bel w w') : Ks N w w' := ⟨h.size, fun b _ hb => h.block b hb⟩
theorem Ks.trans {N : Nat → Prop} {a b c : World} (h : Ks N a b) (k : Ks N b c) : Ks N a c := ⟨Nat.le_trans h.1 k.1, fun x hx hN => (k.2 x hx (Nat.lt_of_lt_of_le hN h.1)).trans (h.2 x hx hN)⟩
theorem Ks.box {N : Nat → Prop} {w w' : World} (h : Ks N w w') {B : Nat} (hB : N B) {c : Array Value} {t : TypeId} (hb : Box w B c t) : Box w' B c t := (h.2 B hB hb.lt).trans hb
theorem Ks.grown {N : Nat → Prop} {w w' : World} {row : Option Nat} (h : w.grownBy w' row) (hne : ∀ b, N b → some b ≠ row) : Ks N w w' := ⟨h.size, fun b hb hN => h.block b hN (hne b hb)⟩
section
variable {P : Program} {ops : Array Oper} {md : Region.Mode} {Q : Exit → Act → World → Prop} {N : Nat → Prop}

def wpS (P : Program) (md : Region.Mode) (ops : Array Oper) (Q : Exit → Act → World → Prop) (N : Nat → Prop) : Nat → Array Bool → Act → World → Prop
  | 0, listed, a, w => ∀ w1, Bel w w1 → Region.ready md ops listed = [] ∧ Q .normal a w1
  | f + 1, listed, a, w => ∀ w1, Bel w w1 → (Region.ready md ops listed = [] → Q .normal a w1) ∧
      ∀ i ∈ Region.ready md ops listed, wpOp P ops Q i (fun a' w' => Ks N w1 w' ∧ wpS P md ops Q N f (listed.setIfInBounds i true) a' w') a w1

theorem wpAny_of_keepS : ∀ (f : Nat) (listed : Array Bool) (a : Act) (w : World), wpS P md ops Q N f listed a w → wpAny P md ops Q f listed a w
  | 0, _, _, w, h => h w (Bel.refl w)
  | f + 1, _, _, w, h => ⟨(h w (Bel.refl w)).1, fun i hi => wpOp_mono (fun a' w' h' => wpAny_of_keepS f _ a' w' h'.2) ((h w (Bel.refl w)).2 i hi)⟩

theorem wpS.world {f : Nat} {listed : Array Bool} {a : Act} {w w1 : World} (h : wpS P md ops Q N f listed a w) (hb : Bel w w1) : wpS P md ops Q N f listed a w1 := by
  cases f <;> exact fun w2 h2 => h w2 (hb.trans h2)

def YieldsS (P : Program) (ops : Array Oper) (N : Nat → Prop) (o : Oper) (v : Value) (a : Act) (w : World) : Prop :=
  (Region.wanted o (yielded ops a.tmps) = true ∧ ∀ w1, Ks N w w1 → o.quietAt P a (Bel w1) w1 v) ∨ (Region.wanted o (yielded ops a.tmps) = false ∧ v = undef)
theorem YieldsS.later {o : Oper} {v : Value} {a : Act} {w w' : World} (h : YieldsS P ops N o v a w) (hb : Ks N w w') : YieldsS P ops N o v a w' :=
  h.imp (fun ⟨h1, h2⟩ => ⟨h1, fun w1 hb1 => h2 w1 (hb.trans hb1)⟩) id

theorem YieldsS.same {o : Oper} {v : Value} {a a' : Act} {w : World} (hy : YieldsS P ops N o v a w) (he : execOp a'.eval o = execOp a.eval o)
    (hw : Region.wanted o (yielded ops a'.tmps) = Region.wanted o (yielded ops a.tmps)) : YieldsS P ops N o v a' w := by
  unfold YieldsS Oper.quietAt at *
  rw [he, hw]
  exact hy

theorem YieldsS.op {i : Nat} {o : Oper} {v : Value} {a : Act} {w : World} (hi : ops[i]? = some o) (hy : YieldsS P ops N o v a w) {K : Act → World → Prop}
    (h : ∀ w', Bel w w' → K (a.put o.dst v) w') : wpOp P ops Q i K a w := by
  unfold wpOp
  simp only [hi]
  rcases hy with ⟨hw, hv⟩ | ⟨hw, rfl⟩
  · simp only [hw, if_true]
    refine .inl (Oper.wp_of_quiet (C := Bel w) (K := fun a' => ∀ w', Bel w w' → K a' w') (Bel.refl w) (fun a' w' hb hk => hk w' hb) ⟨v, fun w1 hb => ?_, h⟩)
    exact quietAt_mono (fun w2 h2 => hb.trans h2) (hv w1 (Ks.of hb))
  · simp only [hw, Bool.false_eq_true, if_false]; exact h w (Bel.refl w)

theorem putS {j : Nat} {oi oj : Oper} {v : Value} (hj : ops[j]? = some oj) (hap : oi.apart ops oj = true)
    (hsi : ∀ cs b, oi.op ≠ .select cs b) (hsj : ∀ cs b, oj.op ≠ .select cs b)
    (hQ : ∀ c a w, Q (.panic c) (a.put oi.dst v) w → Q (.panic c) a w) {K : Act → World → Prop} {a : Act} {w : World}
    (hy : YieldsS P ops N oi v a w) (h : wpOp P ops Q j (fun a' w' => Ks N w w' ∧ K a' w') (a.put oi.dst v) w) :
    wpOp P ops Q j (fun a' w' => Ks N w w' ∧ YieldsS P ops N oi v a' w' ∧ K (a'.put oi.dst v) w') a w := by
  obtain ⟨h1, h2, h3⟩ := Oper.apart_spec hap
  have keep : ∀ (a : Act) (w' : World), YieldsS P ops N oi v a w → Ks N w w' → ∀ u, YieldsS P ops N oi v (a.put oj.dst u) w' := fun a w' hy hb u =>
    (hy.later hb).same (execOp_put oi hsi a oj.dst u h3) (wanted_put oi a oj.dst u h3)
  have keepD : ∀ d, YieldsS P ops N oi v { a with defers := d :: a.defers } w := fun d => hy.same rfl rfl
  unfold wpOp at *
  simp only [hj] at *
  rw [wanted_put oj a oi.dst v h1] at h
  split
  · rename_i hw
    simp only [hw, if_true] at h
    rcases h with h | ⟨hasks, hlets⟩
    case inr => exact .inr ⟨by unfold Oper.asks at *; rw [execOp_put oj hsj a oi.dst v h1] at hasks; exact hasks, hlets⟩
    refine .inl ?_
    unfold Oper.wp at *
    rw [execOp_put oj hsj a oi.dst v h1] at h
    generalize (execOp a.eval oj).run P w = r at *
    cases r with
    | ok n w' =>
      cases n <;> simp only [Oper.upon] at h ⊢
      case value u => exact ⟨h.1, keep a _ hy h.1 u, by rw [← Act.put_comm a v u h2]; exact h.2⟩
      case skip => exact ⟨h.1, keep a _ hy h.1 _, by rw [← Act.put_comm a v undef h2]; exact h.2⟩
      case defer d =>
        refine ⟨h.1, keep _ _ (keepD d) h.1 _, ?_⟩
        rw [← Act.put_comm _ v undef h2, ← Act.put_defers]
        exact h.2
      case enter f args =>
        refine Calls.mono h fun e w'' he => ?_
        cases e with
        | returned u => exact ⟨he.1, keep a _ hy he.1 u, by rw [← Act.put_comm a v u h2]; exact he.2⟩
        | panicked c => exact hQ _ _ _ he
        | outgrown => exact he
      case row row args => exact Rows.mono h fun u w'' he => ⟨he.1, keep a _ hy he.1 u, by rw [← Act.put_comm a v u h2]; exact he.2⟩
    | halt x w' =>
      cases x <;> simp only [Oper.upon] at h ⊢
      case panic u => exact hQ _ _ _ h
  · rename_i hw
    simp only [hw] at h
    exact ⟨h.1, keep a _ hy h.1 _, by rw [← Act.put_comm a v undef h2]; exact h.2⟩

theorem wpS_first {i : Nat} {oi : Oper} {v : Value} (hi : ops[i]? = some oi) (hsel : ∀ (j : Nat) (o : Oper) cs b, ops[j]? = some o → o.op ≠ .select cs b)
    (hQ : ∀ c a w, Q (.panic c) (a.put oi.dst v) w → Q (.panic c) a w) :
    ∀ (f : Nat) (listed : Array Bool) (a : Act) (w : World),
      (∀ j oj, ops[j]? = some oj → j ≠ i → listed.getD j true = false → (∀ e ∈ oj.after, Region.binds md e = true → e.on ≠ i) → oi.apart ops oj = true) →
      i ∈ Region.ready md ops listed → YieldsS P ops N oi v a w →
      wpS P md ops Q N f (listed.setIfInBounds i true) (a.put oi.dst v) w → wpS P md ops Q N (f + 1) listed a w := by
  intro f
  induction f with
  | zero =>
    intro listed a w _ hr hy H w1 hb
    refine ⟨fun h => (by rw [h] at hr; cases hr), fun j hj => ?_⟩
    by_cases hji : j = i
    · subst hji
      exact (hy.later (Ks.of hb)).op hi fun w' hb' => ⟨Ks.of hb', H.world (hb.trans hb')⟩
    · have := ready_mono hj hji
      rw [(H w1 hb).1] at this
      cases this
  | succ f ih =>
    intro listed a w hfree hr hy H w1 hb
    have hy1 := hy.later (Ks.of hb)
    refine ⟨fun h => (by rw [h] at hr; cases hr), fun j hj => ?_⟩
    by_cases hji : j = i
    · subst hji
      exact hy1.op hi fun w' hb' => ⟨Ks.of hb', H.world (hb.trans hb')⟩
    · have h1 := (H w1 hb).2 j (ready_mono hj hji)
      obtain ⟨hjun, oj, hoj, hall⟩ := mem_ready.1 hj
      have hnot : ∀ e ∈ oj.after, Region.binds md e = true → e.on ≠ i := fun e he hb heq => by
        have h1 := hall e he hb
        have h0 := (mem_ready.1 hr).1
        rw [heq] at h1
        rcases Nat.lt_or_ge i listed.size with h' | h'
        · simp [h'] at h0 h1; rw [h0] at h1; cases h1
        · simp [Array.getElem?_eq_none h'] at h1
      have h2 := putS hoj (hfree j oj hoj hji hjun hnot) (fun cs b => hsel i oi cs b hi) (fun cs b => hsel j oj cs b hoj) hQ hy1 h1
      have hfree' : ∀ k ok, ops[k]? = some ok → k ≠ i → (listed.setIfInBounds j true).getD k true = false →
          (∀ e ∈ ok.after, Region.binds md e = true → e.on ≠ i) → oi.apart ops ok = true := fun k ok hk hki hun hno => by
        refine hfree k ok hk hki ?_ hno
        by_cases hjk : j = k
        · subst hjk; exact hjun
        · rw [getD_set_ne true hjk] at hun; exact hun
      refine wpOp_mono (fun a' w' h3 => ⟨h3.1, ih (listed.setIfInBounds j true) a' w' hfree' (ready_mono hr (Ne.symm hji)) h3.2.1 ?_⟩) h2
      rw [Array.setIfInBounds_comm _ _ hji]
      exact h3.2.2

theorem wpS_take {i : Nat} {oi : Oper} {v : Value} {f : Nat} {listed : Array Bool} {a : Act} {w : World} (hi : ops[i]? = some oi)
    (hs : Region.noSelect ops = true) (hf : Region.free md ops listed i = true) (hr : (Region.ready md ops listed).contains i = true)
    (hQ : ∀ c a w, Q (.panic c) (a.put oi.dst v) w → Q (.panic c) a w) (hy : YieldsS P ops N oi v a w)
    (h : wpS P md ops Q N f (listed.setIfInBounds i true) (a.put oi.dst v) w) : wpS P md ops Q N (f + 1) listed a w :=
  wpS_first hi (Region.noSelect_spec hs) hQ f listed a w (Region.free_spec hi hf) (by simpa using hr) hy h
theorem wpS_all {rs : List Nat} {f : Nat} {listed : Array Bool} {a : Act} {w : World} (hr : Region.ready md ops listed = rs) (hne : rs ≠ [])
    (h : ∀ w1, Bel w w1 → ∀ i ∈ rs, wpOp P ops Q i (fun a' w' => Ks N w1 w' ∧ wpS P md ops Q N f (listed.setIfInBounds i true) a' w') a w1) : wpS P md ops Q N (f + 1) listed a w :=
  fun w1 hb => ⟨fun h0 => absurd (hr ▸ h0) hne, hr ▸ h w1 hb⟩
theorem wpS_done {listed : Array Bool} {a : Act} {w : World} (hr : Region.ready md ops listed = []) (h : ∀ w1, Bel w w1 → Q .normal a w1) : ∀ f, wpS P md ops Q N f listed a w
  | 0 => fun w1 hb => ⟨hr, h w1 hb⟩
  | _ + 1 => fun w1 hb => ⟨fun _ => h w1 hb, by rw [hr]; simp⟩
theorem region_keepS (N : Nat → Prop) {id : Nat} {a : Act} {w : World} (hm : P.follows .mixedOrders = true)
    (h : wpS P .any ops Q N ops.size (Array.replicate ops.size false) a w) : (Code.region id ops true).wp P Q a w :=
  wp_region_any hm (wpAny_of_keepS _ _ _ _ (h.world (w1 := w.drew) (Bel.refl w).drew))
variable {o : Oper} {a : Act} {w w1 : World}
theorem wpS_go (i : Nat) {oi : Oper} {f : Nat} {listed : Array Bool} (hi : ops[i]? = some oi)
    (hr : (Region.ready md ops listed).contains i = true) (hf : Region.free md ops listed i = true) (hs : Region.noSelect ops = true) (hw : Region.wanted oi (yielded ops a.tmps) = true)
    (hQ : ∀ v c a w, Q (.panic c) (a.put oi.dst v) w → Q (.panic c) a w)
    (h : ∃ v, (∀ w1, Ks N w w1 → oi.quietAt P a (Bel w1) w1 v) ∧ wpS P md ops Q N f (listed.setIfInBounds i true) (a.put oi.dst v) w) : wpS P md ops Q N (f + 1) listed a w :=
  let ⟨v, h1, h2⟩ := h
  wpS_take hi hs hf hr (hQ v) (.inl ⟨hw, h1⟩) h2
theorem wpS_one (i : Nat) {f : Nat} {listed : Array Bool} (hr : Region.ready md ops listed = [i])
    (h : ∀ w1, Bel w w1 → wpOp P ops Q i (fun a' w' => Ks N w1 w' ∧ wpS P md ops Q N f (listed.setIfInBounds i true) a' w') a w1) : wpS P md ops Q N (f + 1) listed a w :=
  wpS_all hr (by simp) fun w1 hb j hj => by
    simp only [List.mem_singleton] at hj
    subst hj
    exact h w1 hb
end
end Go.Proofs.YtnklpifnknmdgaaGreatDoor

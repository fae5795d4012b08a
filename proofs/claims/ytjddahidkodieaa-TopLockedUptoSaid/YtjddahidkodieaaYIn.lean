import Derived.Test.YtjddahidkodieaaYPrW
import Derived.Test.YtjddahidkodieaaYGd
import Derived.RangeFuncNested
import Derived.RangeFuncBound
import Derived.RangeFuncCalls
import Derived.RangeFuncLeaves
import Derived.OrdersIn
import Derived.Shelf.Abstract
import Derived.Shelf.RegionOpen
import Derived.WalkKit
import Derived.OwnWalkIn
import Derived.TacticsInMore
import Derived.LoopNIn
import Derived.LoopIn
import Derived.Test.YtjddahidkodieaaYOpenInts
import Derived.Test.YtjddahidkodieaaYGrow
set_option linter.all false
set_option maxRecDepth 100000
namespace Go.Proofs.Ytjddahidkodieaa
open Go Go.RowKit

section
variable {l : List Ev} (hm : may l = 0) (h : ∀ i j, i < j → j < l.length → kZ l i = 1 → kZ l j = 1 → oZ l i = oZ l j → bef l i j = true)
include hm h
theorem ord_kn {x k : Nat} (hk : k < l.length) (ho : oZ l k = x) (h1 : kZ l k = 1) : (fsTo l x k).rn ≤ cZ l k (fsTo l x k).rt := by
  rcases (fsI_all l x k).r with ⟨_, e⟩ | ⟨i, g1, g2, g3, g4, g5⟩
  · rw [e]; exact Nat.zero_le _
  · rw [g4, g5]; exact (acc_iff hm hk (.inl h1) g1).2 (h i k g1 hk g2 h1 (by rw [g3, ho]))
theorem ord_many (x : Nat) : ∀ k, k ≤ l.length → (fsTo l x k).many = false
  | 0, _ => rfl
  | k + 1, hk' => by
    have hk : k < l.length := by omega
    have ih := ord_many x k (by omega)
    rw [fsTo]
    split
    · rename_i ho
      unfold fsStep
      split
      · rename_i h1
        have hkn := ord_kn hm h hk ho h1
        split
        · exact ih
        · unfold fsR
          rw [if_neg (by rw [ih]; simp), if_pos hkn]
          exact ih
      · split
        · split
          · exact ih
          · rfl
        · exact ih
    · exact ih
theorem slT_ord : ∀ k, k ≤ l.length → slT l k = 0
  | 0, _ => rfl
  | k + 1, hk' => by
    have hk : k < l.length := by omega
    rw [slT, slT_ord k (by omega)]
    unfold fsSl
    split
    · rename_i h1
      split
      · rfl
      · rw [if_neg (by rw [ord_many hm h _ k (by omega)]; simp), if_pos (ord_kn hm h hk rfl h1)]
    · rfl
end
theorem unl_befZ {l : List Ev} (hm : may l = 0) {q : Int} (hu : UnL q l) {i j : Nat} (hij : i < j) (hj : j < l.length) (ka : kZ l i = 1 ∨ kZ l i = 2) (kb : kZ l j = 1 ∨ kZ l j = 2) : bef l i j = true := by
  have ha := List.getElem?_eq_getElem (show i < l.length by omega)
  have hb := List.getElem?_eq_getElem hj
  unfold kZ at ka kb
  rw [eZ_at ha] at ka
  rw [eZ_at hb] at kb
  exact unl_bef hm hu ha hb hij (by omega) (by omega)
theorem unl_slow {l : List Ev} (hm : may l = 0) {q : Int} (hu : UnL q l) : slT l l.length = 0 :=
  slT_ord hm (fun _ _ hij hj h1 h2 _ => unl_befZ hm hu hij hj (.inl h1) (.inl h2)) _ (Nat.le_refl _)
theorem free_flags {l : List Ev} (hm : may l = 0) (h : rcsA l = []) : fflags l = [] := by
  rw [fflags_ok hm]
  refine gl_nil_iff.2 fun j hj => Classical.byContradiction fun hn => ?_
  have := fk_true hm hj hn
  rw [h] at this
  cases this
theorem com_of {l : List Ev} {x q : Nat} : ∀ k, (∀ j, j < k → acB l j = true → hB l j q = true) → comTo l x k q = true
  | 0, _ => rfl
  | k + 1, h => by
    have ih := com_of (x := x) k fun j hj => h j (by omega)
    rw [comTo]
    split
    · rename_i hc
      show (comTo l x k q && hB l k q) = true
      rw [ih, h k (by omega) hc.1]; rfl
    · exact ih
theorem unl_warns {l : List Ev} {q : Nat} (hq : q < 5) (hu : UnL q l) : ∀ k, k ≤ l.length → wl l k = []
  | 0, _ => rfl
  | k + 1, hk => by
    rw [wl_no (wn_common hq (show k < l.length by omega) (com_of l.length fun j hj ha => ?_) rfl)]
    · exact unl_warns hq hu k (by omega)
    · have hj' := List.getElem?_eq_getElem hj
      have hkk := of_decide_eq_true ha
      unfold kZ at hkk
      unfold hB
      rw [eZ_at hj'] at hkk ⊢
      exact decide_eq_true (hu j _ hj' (by omega))
def lkE (o : Ev) : List Ev := if o.k = 4 ∨ o.k = 5 then [] else if o.k = 1 ∨ o.k = 2 then [⟨4, 0, 0⟩, o, ⟨5, 0, 0⟩] else [o]
def lkP (P : List (List Ev)) : List (List Ev) := P.map fun ops => (ops.flatMap lkE).take 12
theorem lk_held : ∀ (ops : List Ev) (h : Int → Bool) (i : Nat) (o : Ev), (ops.flatMap lkE)[i]? = some o → (o.k = 1 ∨ o.k = 2) → ((ops.flatMap lkE).take i).foldl hldE h 0 = true
  | [], _, _, _, ho, _ => by simp at ho
  | p :: ops, h, i, o, ho, hk => by
    rw [List.flatMap_cons] at ho ⊢
    by_cases h4 : p.k = 4 ∨ p.k = 5
    · have e : lkE p = [] := if_pos h4
      rw [e, List.nil_append] at ho ⊢
      exact lk_held ops h i o ho hk
    · by_cases h1 : p.k = 1 ∨ p.k = 2
      · have e : lkE p = [⟨4, 0, 0⟩, p, ⟨5, 0, 0⟩] := by unfold lkE; rw [if_neg h4, if_pos h1]
        rw [e] at ho ⊢
        match i, ho with
        | 0, ho => simp at ho; subst ho; simp at hk
        | 1, _ => simp [hldE]
        | 2, ho => simp at ho; subst ho; simp at hk
        | i + 3, ho =>
          simp only [List.cons_append, List.nil_append, List.getElem?_cons_succ, List.take_succ_cons, List.foldl_cons] at ho ⊢
          exact lk_held ops _ i o ho hk
      · have e : lkE p = [p] := by unfold lkE; rw [if_neg h4, if_neg h1]
        rw [e] at ho ⊢
        match i, ho with
        | 0, ho => simp at ho; subst ho; exact absurd hk h1
        | i + 1, ho =>
          simp only [List.cons_append, List.nil_append, List.getElem?_cons_succ, List.take_succ_cons, List.foldl_cons] at ho ⊢
          exact lk_held ops _ i o ho hk
theorem lk_ops (P : List (List Ev)) (t : Nat) : opsP (lkP P) t = ((opsP P t).flatMap lkE).take 12 := by
  unfold opsP lkP
  rw [List.getD_eq_getElem?_getD, List.getD_eq_getElem?_getD, List.getElem?_map]
  cases P[t]? <;> rfl
theorem lk_hld (P : List (List Ev)) {t i : Nat} {o : Ev} (ho : (opsP (lkP P) t)[i]? = some o) (hk : o.k = 1 ∨ o.k = 2) : hldL ((opsP (lkP P) t).take i) 0 = true := by
  rw [lk_ops] at ho ⊢
  rw [List.getElem?_take] at ho
  split at ho
  · rename_i hi
    rw [List.take_take, Nat.min_eq_left (by omega)]
    exact lk_held _ _ i o ho hk
  · cases ho
theorem unl_picks {P : List (List Ev)} {q : Int} (hP : ∀ {t i : Nat} {o : Ev}, (opsP P t)[i]? = some o → (o.k = 1 ∨ o.k = 2) → hldL ((opsP P t).take i) q = true) : ∀ (ts : List Int) {s : Ps}, GrR P s → UnL q s.L → UnL q (ts.foldl (pickP P) s).L
  | [], _, _, h => h
  | t :: ts, s, hg, h => by
    refine unl_picks hP ts (gr_pick hg t) ?_
    unfold pickP
    split
    · rename_i hc
      obtain ⟨_, _, o, h3, _⟩ := can_op hc.2
      rw [step_op h3]
      refine gd_step h fun h0 h2 => (hg.hd _ q).2 (hP h3 ?_)
      rcases kind_cases P s t.toNat o with g | ⟨_, g⟩ | ⟨_, g⟩ | ⟨g, _⟩ | ⟨g, _⟩ | ⟨g, _⟩ | ⟨g, _⟩ | ⟨g, _⟩ | ⟨g, _⟩ <;> omega
    · exact h
theorem lkd_run (P : List (List Ev)) (ts : List Int) : UnL 0 (runP (lkP P) ts).L :=
  unl_picks (lk_hld P) ts (gr_run (lkP P) []) fun i e h => by simp [runP, ps0] at h
theorem lk_top {P : List (List Ev)} (hP : OkP (lkP P)) (ts : List Int) : may (runP (lkP P) ts).L = 0 ∧ rcsA (runP (lkP P) ts).L = [] ∧ fflags (runP (lkP P) ts).L = [] ∧ wl (runP (lkP P) ts).L (runP (lkP P) ts).L.length = [] ∧ slT (runP (lkP P) ts).L (runP (lkP P) ts).L.length = 0 := by
  have hm := (runP_ok hP ts).may hP
  have hu := lkd_run P ts
  have hf := guarded_free hm hu
  exact ⟨hm, hf, free_flags hm hf, unl_warns (q := 0) (by omega) hu _ (Nat.le_refl _), unl_slow hm hu⟩
end Go.Proofs.Ytjddahidkodieaa
set_option linter.all false
set_option maxRecDepth 100000
namespace Go.Proofs.Ytjddahidkodieaa
open Go Go.RowKit Go.Shelf
attribute [local go_sem] Oper.semAt_some

section
variable {F : Fence} {d : Nat} {P : Program} {ops : Array Oper} {rest : List Oper} {o : Oper} {a : Act} {w : World} {Q : Exit → Act → World → Prop}
theorem load_rowIn (ty : TypeId) (x : Operand) (ho : o.op = .load ty x) (hgd : o.guard = none) {b off : Nat} {cs : List Value} (hx : a.eval x = .pointer (some ⟨b, off, none⟩)) (hr : w.rangeAt b off cs) (hT : RowTy P ty cs.length) (c : Array Value) (hc : cs.toArray = c)
    (h : wpListIn F d P ops Q rest (a.put o.dst (.agg c)) w) : wpListIn F d P ops Q (o :: rest) a w := by
  subst hc
  obtain ⟨e, hu, hd, hi⟩ := hT
  refine wpListIn_plain hgd fun _ hK => ?_
  unfold Oper.wpIn
  refine ⟨by simp [Oper.about, ho], ?_⟩
  rw [Oper.semAt_plain F _ _ (by rw [ho]; intro c hc; cases hc)]
  unfold execOp
  simp only [ho, hx, Instr.loadAt, Instr.sureAddr, Sem.run_bind, Sem.run_pure, Result.andThen_ok, run_loadVar_mid w b off ty cs e hr hu hd hi]
  exact hK _ _ h
theorem store_rowIn (ty : TypeId) (x y : Operand) (ho : o.op = .store ty x y) (hgd : o.guard = none) {B : Nat} {c c' : Array Value} {t : TypeId} (hx : a.eval x = .pointer (some ⟨B, 0, none⟩)) (hy : a.eval y = .agg c') (hb : Box w B c t)
    (hs : c.size = c'.size) (hT : RowTy P ty c'.size) (h1 : c'.all (·.oneCell') = true) (h : wpListIn F d P ops Q rest (a.put o.dst undef) (w.setRow B c')) : wpListIn F d P ops Q (o :: rest) a w := by
  obtain ⟨e, hu, hd, hi⟩ := hT
  refine wpListIn_plain hgd fun _ hK => ?_
  unfold Oper.wpIn
  refine ⟨by simp [Oper.about, ho], ?_⟩
  rw [Oper.semAt_plain F _ _ (by rw [ho]; intro c hc; cases hc)]
  unfold execOp
  simp only [ho, hx, hy, Instr.storeAt, Instr.sureAddr, Sem.run_bind, Sem.run_pure, Result.andThen_ok, run_storeVar_row w B t ty c c' hb hi hs h1]
  exact hK _ _ h
theorem store_newIn (ty : TypeId) (x y : Operand) (ho : o.op = .store ty x y) (hgd : o.guard = none) {c c' : Array Value} {t : TypeId} (hx : a.eval x = .pointer (some ⟨w.heap.size, 0, none⟩)) (hy : a.eval y = .agg c')
    (hs : c.size = c'.size) (hT : RowTy P ty c'.size) (h1 : c'.all (·.oneCell') = true) (h : wpListIn F d P ops Q rest (a.put o.dst undef) (w.alloc (.cells c' t))) : wpListIn F d P ops Q (o :: rest) a (w.alloc (.cells c t)) := by
  refine store_rowIn ty x y ho hgd hx hy (Box.new w c t) hs hT h1 ?_
  rw [World.setRow_alloc_new]
  exact h
end
theorem box_own {β : Type} (B : Nat) (f : β → Array Value) (t : TypeId) : Own (fun s W => Box W B (f s) t) := fun s X Y row hs hg hrow => by
  have hb : Box X B (f s) t := hs
  refine (hg.block B hb.lt (fun e => ?_)).trans hb
  obtain ⟨o, ho, hc⟩ := hrow B e.symm
  rw [show X.heap[B]? = _ from hb] at ho
  cases ho
  cases hc
theorem keeps_setRow {W : World} {B : Nat} {c : Array Value} {t : TypeId} (h : Box W B c t) (c' : Array Value) : KeepsOthers W (W.setRow B c') :=
  ⟨by simp, fun k o hk ho => by
    by_cases e : k = B
    · subst e
      rw [show W.heap[k]? = _ from h] at hk
      cases hk
      cases ho
    · exact (setRow_other W B k c' e).trans hk⟩
theorem box_put {W : World} {B D : Nat} {c : Array Value} {t : TypeId} {o : Obj} (h : Box W B c t) (hD : W.heap[D]? = some o) (ho : o.isCells = false) (o' : Obj) : Box (W.putObj D o') B c t :=
  box_own (β := Unit) B (fun _ => c) t () W _ (some D) h (grownBy_putObj' W D o') (fun r e => by cases e; exact ⟨_, hD, ho⟩)
section
variable {P : Program} {l n : Nat}
theorem callsIn_round {f : FuncId} {args : Array Value} {w : World} {R : Ending → World → Prop} (h : Calls P f args w R) : CallsIn (Fence.wide.inRound l) n P f args w R :=
  (callsIn_wide (n := n)).2 h
theorem rowsIn_round {row : String} {args : Array Value} {w : World} {R : Value → World → Prop} (h : Rows P row args w R) : RowsIn (Fence.wide.inRound l) n P row args w R :=
  fun c cs _ => let ⟨v, w', r, s⟩ := h c cs; ⟨v, w', r, stepsIn_wide.2 s⟩
def noDefer (o : Oper) : Bool := match o.op with
  | .defer _ => false
  | _ => true
theorem Oper.wpIn_round {o : Oper} {a : Act} {w : World} {K : Act → World → Prop} {Q : Exit → Act → World → Prop} (hd : noDefer o = true) (h : o.wp P a w K Q) : o.wpIn (Fence.wide.inRound l) n P a w K Q := by
  refine ⟨fun _ _ => trivial, ?_⟩
  have hs : o.semAt (Fence.wide.inRound l).round a.eval = execOp a.eval o := Oper.semAt_some l a.eval o fun c hc => by
    unfold noDefer at hd
    rw [hc] at hd
    cases hd
  rw [hs]
  unfold Oper.wp at h
  generalize (execOp a.eval o).run P w = r at *
  cases r with
  | ok n w' =>
    cases n <;> simp only [Oper.upon, Oper.uponIn] at h ⊢ <;>
      first
        | exact h
        | exact ⟨fun h => (by cases h), callsIn_round (Calls.mono h fun e w'' he => by cases e <;> exact he)⟩
        | exact ⟨fun h => (by cases h), rowsIn_round h⟩
        | exact h.elim
  | halt x w' => cases x <;> simp only [Oper.upon, Oper.uponIn] at h ⊢ <;> exact h
theorem wpAnyIn_round {md : Region.Mode} {ops : Array Oper} {Q : Exit → Act → World → Prop} (hd : ops.all noDefer = true) (hQ : ¬ LetsOut Q) :
    ∀ (f : Nat) (listed : Array Bool) (a : Act) (w : World), wpAny P md ops Q f listed a w → wpAnyIn (Fence.wide.inRound l) n P md ops Q f listed a w
  | 0, _, _, _, h => h
  | f + 1, _, a, w, h => ⟨h.1, fun i hi => by
    have h1 := h.2 i hi
    unfold wpOp at h1
    unfold wpOpIn
    cases ho : ops[i]? with
    | none => rw [ho] at h1; exact wpAnyIn_round hd hQ f _ a w h1
    | some o =>
      rw [ho] at h1
      dsimp only at h1 ⊢
      have hdo : noDefer o = true := by
        have := Array.all_eq_true.1 hd i (Array.getElem?_eq_some_iff.1 ho).1
        rw [(Array.getElem?_eq_some_iff.1 ho).2] at this
        exact this
      split
      · rename_i hw
        rw [if_pos hw] at h1
        rcases h1 with h1 | h1
        · exact Oper.wpIn_mono (fun a' w' h' => wpAnyIn_round hd hQ f _ a' w' h') (Oper.wpIn_round hdo h1)
        · exact absurd h1.2 hQ
      · rename_i hw
        rw [if_neg hw] at h1
        exact ⟨fun _ _ => trivial, wpAnyIn_round hd hQ f _ _ w h1⟩⟩
variable {ops : Array Oper} {Q : Exit → Act → World → Prop} {id : Nat} {a : Act} {w : World}
theorem region_any_round (hm : P.follows .mixedOrders = true) (hd : ops.all noDefer = true) (hQ : ¬ LetsOut Q)
    (h : wpAny P .any ops Q ops.size (Array.replicate ops.size false) a w.drew) : (Code.region id ops true).wpIn (Fence.wide.inRound l) n P Q a w :=
  wpIn_region_any hm (wpAnyIn_round hd hQ _ _ _ _ h)
theorem region_growT_round (L : Nat) (hm : P.follows .mixedOrders = true) (hd : ops.all noDefer = true) (hQ : ¬ LetsOut Q)
    (h : wpT P .any ops Q w.heap.size L ops.size (Array.replicate ops.size false) a w) : (Code.region id ops true).wpIn (Fence.wide.inRound l) n P Q a w :=
  region_any_round hm hd hQ (wpAny_of_growT _ _ _ _ (h.world (w1 := w.drew) (Bel.refl w).drew))
end
end Go.Proofs.Ytjddahidkodieaa

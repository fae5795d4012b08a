import Derived.RangeFuncNested
import Derived.RangeFuncBound
import Derived.RangeFuncCalls
import Derived.RangeFuncLeaves
import Derived.OrdersIn
import Derived.Shelf.Abstract
import Derived.Shelf.RegionOpen
import Derived.WalkKit
import Derived.OwnWalkIn
import Derived.TacticsInMore
import Derived.LoopNIn
import Derived.LoopIn
import Derived.Test.YtbcohpkeljjhbaaZOpen
import Derived.Test.YtbcohpkeljjhbaaZGrow
import Derived.Test.YtbcohpkeljjhbaaZGs
import Derived.Test.YtbcohpkeljjhbaaZAppend
import Derived.Test.YtbcohpkeljjhbaaZCi
set_option linter.all false
set_option maxRecDepth 100000
namespace Go.Proofs.Ytbcohpkeljjhbaa
open Go Go.RowKit Go.Shelf
attribute [local go_sem] Oper.semAt_some

section
variable {F : Fence} {d : Nat} {P : Program} {ops : Array Oper} {rest : List Oper} {o : Oper} {a : Act} {w : World} {Q : Exit → Act → World → Prop}
theorem load_rowIn (ty : TypeId) (x : Operand) (ho : o.op = .load ty x) (hgd : o.guard = none) {b off : Nat} {cs : List Value} (hx : a.eval x = .pointer (some ⟨b, off, none⟩)) (hr : w.rangeAt b off cs) (hT : RowTy P ty cs.length) (c : Array Value) (hc : cs.toArray = c)
    (h : wpListIn F d P ops Q rest (a.put o.dst (.agg c)) w) : wpListIn F d P ops Q (o :: rest) a w := by
  subst hc
  obtain ⟨e, hu, hd, hi⟩ := hT
  refine wpListIn_plain hgd fun _ hK => ?_
  unfold Oper.wpIn
  refine ⟨by simp [Oper.about, ho], ?_⟩
  rw [Oper.semAt_plain F _ _ (by rw [ho]; intro c hc; cases hc)]
  unfold execOp
  simp only [ho, hx, Instr.loadAt, Instr.sureAddr, Sem.run_bind, Sem.run_pure, Result.andThen_ok, run_loadVar_mid w b off ty cs e hr hu hd hi]
  exact hK _ _ h
theorem store_rowIn (ty : TypeId) (x y : Operand) (ho : o.op = .store ty x y) (hgd : o.guard = none) {B : Nat} {c c' : Array Value} {t : TypeId} (hx : a.eval x = .pointer (some ⟨B, 0, none⟩)) (hy : a.eval y = .agg c') (hb : Box w B c t)
    (hs : c.size = c'.size) (hT : RowTy P ty c'.size) (h1 : c'.all (·.oneCell') = true) (h : wpListIn F d P ops Q rest (a.put o.dst undef) (w.setRow B c')) : wpListIn F d P ops Q (o :: rest) a w := by
  obtain ⟨e, hu, hd, hi⟩ := hT
  refine wpListIn_plain hgd fun _ hK => ?_
  unfold Oper.wpIn
  refine ⟨by simp [Oper.about, ho], ?_⟩
  rw [Oper.semAt_plain F _ _ (by rw [ho]; intro c hc; cases hc)]
  unfold execOp
  simp only [ho, hx, hy, Instr.storeAt, Instr.sureAddr, Sem.run_bind, Sem.run_pure, Result.andThen_ok, run_storeVar_row w B t ty c c' hb hi hs h1]
  exact hK _ _ h
theorem store_newIn (ty : TypeId) (x y : Operand) (ho : o.op = .store ty x y) (hgd : o.guard = none) {c c' : Array Value} {t : TypeId} (hx : a.eval x = .pointer (some ⟨w.heap.size, 0, none⟩)) (hy : a.eval y = .agg c')
    (hs : c.size = c'.size) (hT : RowTy P ty c'.size) (h1 : c'.all (·.oneCell') = true) (h : wpListIn F d P ops Q rest (a.put o.dst undef) (w.alloc (.cells c' t))) : wpListIn F d P ops Q (o :: rest) a (w.alloc (.cells c t)) := by
  refine store_rowIn ty x y ho hgd hx hy (Box.new w c t) hs hT h1 ?_
  rw [World.setRow_alloc_new]
  exact h
end
theorem box_own {β : Type} (B : Nat) (f : β → Array Value) (t : TypeId) : Own (fun s W => Box W B (f s) t) := fun s X Y row hs hg hrow => by
  have hb : Box X B (f s) t := hs
  refine (hg.block B hb.lt (fun e => ?_)).trans hb
  obtain ⟨o, ho, hc⟩ := hrow B e.symm
  rw [show X.heap[B]? = _ from hb] at ho
  cases ho
  cases hc
theorem keeps_setRow {W : World} {B : Nat} {c : Array Value} {t : TypeId} (h : Box W B c t) (c' : Array Value) : KeepsOthers W (W.setRow B c') :=
  ⟨by simp, fun k o hk ho => by
    by_cases e : k = B
    · subst e
      rw [show W.heap[k]? = _ from h] at hk
      cases hk
      cases ho
    · exact (setRow_other W B k c' e).trans hk⟩
theorem box_put {W : World} {B D : Nat} {c : Array Value} {t : TypeId} {o : Obj} (h : Box W B c t) (hD : W.heap[D]? = some o) (ho : o.isCells = false) (o' : Obj) : Box (W.putObj D o') B c t :=
  box_own (β := Unit) B (fun _ => c) t () W _ (some D) h (grownBy_putObj' W D o') (fun r e => by cases e; exact ⟨_, hD, ho⟩)
section
variable {P : Program} {l n : Nat}
theorem callsIn_round {f : FuncId} {args : Array Value} {w : World} {R : Ending → World → Prop} (h : Calls P f args w R) : CallsIn (Fence.wide.inRound l) n P f args w R :=
  (callsIn_wide (n := n)).2 h
theorem rowsIn_round {row : String} {args : Array Value} {w : World} {R : Value → World → Prop} (h : Rows P row args w R) : RowsIn (Fence.wide.inRound l) n P row args w R :=
  fun c cs _ => let ⟨v, w', r, s⟩ := h c cs; ⟨v, w', r, stepsIn_wide.2 s⟩
def noDefer (o : Oper) : Bool := match o.op with
  | .defer _ => false
  | _ => true
theorem Oper.wpIn_round {o : Oper} {a : Act} {w : World} {K : Act → World → Prop} {Q : Exit → Act → World → Prop} (hd : noDefer o = true) (h : o.wp P a w K Q) : o.wpIn (Fence.wide.inRound l) n P a w K Q := by
  refine ⟨fun _ _ => trivial, ?_⟩
  have hs : o.semAt (Fence.wide.inRound l).round a.eval = execOp a.eval o := Oper.semAt_some l a.eval o fun c hc => by
    unfold noDefer at hd
    rw [hc] at hd
    cases hd
  rw [hs]
  unfold Oper.wp at h
  generalize (execOp a.eval o).run P w = r at *
  cases r with
  | ok n w' =>
    cases n <;> simp only [Oper.upon, Oper.uponIn] at h ⊢ <;>
      first
        | exact h
        | exact ⟨fun h => (by cases h), callsIn_round (Calls.mono h fun e w'' he => by cases e <;> exact he)⟩
        | exact ⟨fun h => (by cases h), rowsIn_round h⟩
        | exact h.elim
  | halt x w' => cases x <;> simp only [Oper.upon, Oper.uponIn] at h ⊢ <;> exact h
theorem wpAnyIn_round {md : Region.Mode} {ops : Array Oper} {Q : Exit → Act → World → Prop} (hd : ops.all noDefer = true) (hQ : ¬ LetsOut Q) :
    ∀ (f : Nat) (listed : Array Bool) (a : Act) (w : World), wpAny P md ops Q f listed a w → wpAnyIn (Fence.wide.inRound l) n P md ops Q f listed a w
  | 0, _, _, _, h => h
  | f + 1, _, a, w, h => ⟨h.1, fun i hi => by
    have h1 := h.2 i hi
    unfold wpOp at h1
    unfold wpOpIn
    cases ho : ops[i]? with
    | none => rw [ho] at h1; exact wpAnyIn_round hd hQ f _ a w h1
    | some o =>
      rw [ho] at h1
      dsimp only at h1 ⊢
      have hdo : noDefer o = true := by
        have := Array.all_eq_true.1 hd i (Array.getElem?_eq_some_iff.1 ho).1
        rw [(Array.getElem?_eq_some_iff.1 ho).2] at this
        exact this
      split
      · rename_i hw
        rw [if_pos hw] at h1
        rcases h1 with h1 | h1
        · exact Oper.wpIn_mono (fun a' w' h' => wpAnyIn_round hd hQ f _ a' w' h') (Oper.wpIn_round hdo h1)
        · exact absurd h1.2 hQ
      · rename_i hw
        rw [if_neg hw] at h1
        exact ⟨fun _ _ => trivial, wpAnyIn_round hd hQ f _ _ w h1⟩⟩
variable {ops : Array Oper} {Q : Exit → Act → World → Prop} {id : Nat} {a : Act} {w : World}
theorem region_any_round (hm : P.follows .mixedOrders = true) (hd : ops.all noDefer = true) (hQ : ¬ LetsOut Q)
    (h : wpAny P .any ops Q ops.size (Array.replicate ops.size false) a w.drew) : (Code.region id ops true).wpIn (Fence.wide.inRound l) n P Q a w :=
  wpIn_region_any hm (wpAnyIn_round hd hQ _ _ _ _ h)
theorem region_growT_round (L : Nat) (hm : P.follows .mixedOrders = true) (hd : ops.all noDefer = true) (hQ : ¬ LetsOut Q)
    (h : wpT P .any ops Q w.heap.size L ops.size (Array.replicate ops.size false) a w) : (Code.region id ops true).wpIn (Fence.wide.inRound l) n P Q a w :=
  region_any_round hm hd hQ (wpAny_of_growT _ _ _ _ (h.world (w1 := w.drew) (Bel.refl w).drew))
end
end Go.Proofs.Ytbcohpkeljjhbaa
set_option linter.all false
set_option maxRecDepth 100000
namespace Go.Proofs.Ytbcohpkeljjhbaa
open Go Go.RowKit

theorem gns_all (n : Nat) (g : Nat → Nat) : (ns n g).all (·.oneCell') = true := all_oneCell_toArray (nsl_one n g)
theorem gand_sets (f g : Nat → Bool) : bits .and .i64 (hset f) (hset g) = hset fun k => f k && g k := by
  have D : ∀ a b c d e a' b' c' d' e' : Bool, bits .and .i64 (hs5 a b c d e) (hs5 a' b' c' d' e') = hs5 (a && a') (b && b') (c && c') (d && d') (e && e') := by decide +kernel
  exact D ..
def lkN (p : Nat → Bool) : Nat := (hset p).toNat
theorem lkN_eq (p : Nat → Bool) : ((lkN p : Nat) : Int) = hset p := by unfold lkN; have := (hset_range p).1; omega
theorem hset_emp (p : Nat → Bool) : hset p = 0 ↔ emp p = true := by
  unfold emp hset hs5
  simp only [List.range, List.range.loop, List.all_cons, List.all_nil]
  cases p 0 <;> cases p 1 <;> cases p 2 <;> cases p 3 <;> cases p 4 <;> simp
def gev (g : Gd) : Ev := ⟨(g.st : Nat), (g.th : Nat), (lkN g.lk : Nat)⟩
def gG (f : Nat → Gd) : Nat → Nat := fun i => if i % 3 = 0 then (f (i / 3)).st else if i % 3 = 1 then (f (i / 3)).th else lkN (f (i / 3)).lk
theorem gG_0 (f : Nat → Gd) (x : Nat) : gG f (x * 3) = (f x).st := by unfold gG; rw [if_pos (by omega), show x * 3 / 3 = x by omega]
theorem gG_1 (f : Nat → Gd) (x : Nat) : gG f (x * 3 + 1) = (f x).th := by unfold gG; rw [if_neg (by omega), if_pos (by omega), show (x * 3 + 1) / 3 = x by omega]
theorem gG_2 (f : Nat → Gd) (x : Nat) : gG f (x * 3 + 2) = lkN (f x).lk := by unfold gG; rw [if_neg (by omega), if_neg (by omega), show (x * 3 + 2) / 3 = x by omega]
theorem gG_row {w : World} {B : Nat} {f : Nat → Gd} {t : TypeId} (h : Box w B (ns 24 (gG f)) t) {x : Nat} (hx : x < 8) : w.rangeAt B (x * 3) (evl (gev (f x))) := fun k v hv => by
  have h0 := h.cell (x * 3) (ns_get (gG f) (by omega))
  have h1 := h.cell (x * 3 + 1) (ns_get (gG f) (by omega))
  have h2 := h.cell (x * 3 + 2) (ns_get (gG f) (by omega))
  rw [gG_0] at h0
  rw [gG_1] at h1
  rw [gG_2] at h2
  match k, hv with
  | 0, hv => cases hv; exact h0
  | 1, hv => cases hv; exact h1
  | 2, hv => cases hv; exact h2
  | k + 3, hv => simp [evl] at hv
def upG (f : Nat → Gd) (x : Nat) (g : Gd) : Nat → Gd := fun y => if y = x then g else f y
theorem upG_at (f : Nat → Gd) (x : Nat) (g : Gd) : upG f x g x = g := if_pos rfl
theorem setCells_three (w : World) (B o : Nat) (e : Ev) : w.setCells B o (evl e) = (((w.setCell ⟨B, o, none⟩ (.int .i64 e.k)).setCell ⟨B, o + 1, none⟩ (.int .i64 e.t)).setCell ⟨B, o + 2, none⟩ (.int .i64 e.o)) := rfl
theorem box_three {w : World} {B : Nat} {f : Nat → Gd} {t : TypeId} (h : Box w B (ns 24 (gG f)) t) (x : Nat) (g : Gd) : Box (w.setCells B (x * 3) (evl (gev g))) B (ns 24 (gG (upG f x g))) t := by
  rw [setCells_three]
  have h0 := h.set (x * 3) (.int .i64 ((g.st : Nat) : Int)); rw [ns_set] at h0
  have h1 := h0.set (x * 3 + 1) (.int .i64 ((g.th : Nat) : Int)); rw [ns_set] at h1
  have h2 := h1.set (x * 3 + 2) (.int .i64 ((lkN g.lk : Nat) : Int)); rw [ns_set] at h2
  have e : ns 24 (gG (upG f x g)) = ns 24 (updN (updN (updN (gG f) (x * 3) g.st) (x * 3 + 1) g.th) (x * 3 + 2) (lkN g.lk)) := ns_congr fun i _ => by
    unfold updN
    by_cases h2 : i = x * 3 + 2
    · rw [if_pos h2, h2, gG_2, upG_at]
    · rw [if_neg h2]
      by_cases h1 : i = x * 3 + 1
      · rw [if_pos h1, h1, gG_1, upG_at]
      · rw [if_neg h1]
        by_cases h0 : i = x * 3
        · rw [if_pos h0, h0, gG_0, upG_at]
        · rw [if_neg h0]
          unfold gG upG
          rw [if_neg (show ¬ i / 3 = x by omega)]
  rw [e]
  exact h2
theorem there_three {w : World} {B : Nat} {g : Nat → Nat} {t : TypeId} (h : Box w B (ns 24 g) t) {o : Nat} (ho : o + 3 ≤ 24) : w.there B o 3 := fun j hj => ⟨by rw [h.cell (o + j) (ns_get g (by omega))]; rfl, h.frozen _⟩
structure GdOk (g : Gd) : Prop where
  st : g.st ≤ 3
  lk : g.st ≤ 1 → g.lk = fun _ => true
theorem GdOk.start : GdOk gdStart := ⟨Nat.zero_le _, fun _ => rfl⟩
theorem GdOk.step {g : Gd} (h : GdOk g) (k : Int) (t : Nat) (p : Nat → Bool) : GdOk (gdStep g k t p) := by
  unfold gdStep
  split
  · exact ⟨by dsimp only; omega, fun _ => h.lk (by omega)⟩
  · split
    · exact h
    · exact ⟨by dsimp only; split <;> omega, fun h9 => (by dsimp only at h9; split at h9 <;> omega)⟩
def acs (l : List Ev) (k : Nat) : List Nat := (List.range k).filter (acB l)
theorem acs_yes {l : List Ev} {k : Nat} (h : acB l k = true) : acs l (k + 1) = acs l k ++ [k] := by unfold acs; rw [List.range_succ, List.filter_append, List.filter_cons_of_pos h]; rfl
theorem acs_no {l : List Ev} {k : Nat} (h : acB l k = false) : acs l (k + 1) = acs l k := by unfold acs; rw [List.range_succ, List.filter_append, List.filter_cons_of_neg (by rw [h]; simp)]; simp
theorem acs_len (l : List Ev) : ∀ k, (acs l k).length ≤ k := fun k => by unfold acs; exact Nat.le_trans (List.length_filter_le _ _) (by simp)
def gdF (l : List Ev) (pre : List Nat) : Nat → Gd := pre.foldl (fun f x => upG f (oZ l x) (gdStep (f (oZ l x)) (kZ l x) (tZ l x) (hB l x))) fun _ => gdStart
def wnF (l : List Ev) (pre : List Nat) (x : Nat) : Bool := decide ((gdF l (pre ++ [x]) (oZ l x)).st = 3) && emp (gdF l (pre ++ [x]) (oZ l x)).lk
def wlS (l : List Ev) (s : List Nat × List Ev) (x : Nat) : List Nat × List Ev := (s.1 ++ [x], if wnF l s.1 x = true then s.2 ++ [⟨(x : Nat), (eZ l x).o, 0⟩] else s.2)
def wlF (l : List Ev) (pre : List Nat) : List Ev := (pre.foldl (wlS l) ([], [])).2
theorem gdF_snoc (l : List Ev) (pre : List Nat) (x : Nat) : gdF l (pre ++ [x]) = upG (gdF l pre) (oZ l x) (gdStep (gdF l pre (oZ l x)) (kZ l x) (tZ l x) (hB l x)) := by unfold gdF; rw [List.foldl_append]; rfl
theorem gdF_ok (l : List Ev) (y : Nat) (pre : List Nat) : GdOk (gdF l pre y) := by
  suffices H : ∀ (pre : List Nat) (f : Nat → Gd), (∀ y, GdOk (f y)) → ∀ y, GdOk (pre.foldl (fun f x => upG f (oZ l x) (gdStep (f (oZ l x)) (kZ l x) (tZ l x) (hB l x))) f y) from H pre _ (fun _ => GdOk.start) y
  intro pre
  induction pre with
  | nil => exact fun f h => h
  | cons x r ih =>
    intro f h
    refine ih _ fun y => ?_
    show GdOk (upG f (oZ l x) _ y)
    unfold upG
    split
    · exact (h _).step _ _ _
    · exact h y
theorem wl_fst (l : List Ev) : ∀ (pre : List Nat) (s : List Nat × List Ev), (pre.foldl (wlS l) s).1 = s.1 ++ pre
  | [], s => by simp
  | x :: r, s => by rw [List.foldl_cons, wl_fst l r]; simp [wlS]
theorem wlF_snoc (l : List Ev) (pre : List Nat) (x : Nat) : wlF l (pre ++ [x]) = if wnF l pre x = true then wlF l pre ++ [⟨(x : Nat), (eZ l x).o, 0⟩] else wlF l pre := by
  unfold wlF
  rw [List.foldl_append, List.foldl_cons, List.foldl_nil]
  have := wl_fst l pre ([], [])
  generalize pre.foldl (wlS l) ([], []) = s at *
  unfold wlS
  rw [show s.1 = pre by simpa using this]
theorem wlF_len (l : List Ev) (pre : List Nat) : (wlF l pre).length ≤ pre.length := by
  suffices H : ∀ (pre : List Nat) (s : List Nat × List Ev), (pre.foldl (wlS l) s).2.length ≤ s.2.length + pre.length by have := H pre ([], []); simpa [wlF] using this
  intro pre
  induction pre with
  | nil => intro s; simp
  | cons x r ih =>
    intro s
    have h := ih (wlS l s x)
    rw [List.foldl_cons, List.length_cons]
    have : (wlS l s x).2.length ≤ s.2.length + 1 := by
      unfold wlS
      dsimp only
      split
      · simp
      · omega
    omega
def gdT (l : List Ev) (k : Nat) : Nat → Gd := fun x => gdTo l x k
theorem gdF_acs (l : List Ev) : ∀ k, gdF l (acs l k) = gdT l k
  | 0 => rfl
  | k + 1 => by
    cases h : acB l k
    · rw [acs_no h, gdF_acs l k]
      funext x
      unfold gdT
      rw [gdTo, if_neg (fun h9 => by rw [h] at h9; cases h9.1)]
    · rw [acs_yes h, gdF_snoc, gdF_acs l k]
      funext x
      unfold gdT upG
      rw [gdTo]
      by_cases e : x = oZ l k
      · rw [if_pos e, if_pos ⟨h, e.symm⟩, e]
      · rw [if_neg e, if_neg (fun h9 => e h9.2.symm)]
theorem wlF_acs (l : List Ev) : ∀ k, wlF l (acs l k) = wl l k
  | 0 => rfl
  | k + 1 => by
    cases h : acB l k
    · rw [acs_no h, wlF_acs l k, wl_no (by unfold wn; rw [h]; rfl)]
    · have hw : wnF l (acs l k) k = wn l k := by
        unfold wnF wn
        rw [← acs_yes h, gdF_acs, h, Bool.true_and]
        rfl
      rw [acs_yes h, wlF_snoc, hw, wlF_acs l k, wl]
def hN (l : List Ev) (k : Nat) : Int := held (l.take k) (eZ l k).t
theorem acB_k {l : List Ev} {k : Nat} (h : acB l k = true) : (eZ l k).k = 1 ∨ (eZ l k).k = 2 := of_decide_eq_true h
end Go.Proofs.Ytbcohpkeljjhbaa

import Derived.Test.YtjddahidkodieaaYGu
set_option linter.all false
set_option maxRecDepth 100000
namespace Go.Proofs.Ytjddahidkodieaa
open Go Go.RowKit Go.Shelf
attribute [local go_sem] Oper.semAt_some

set_option maxHeartbeats 1000000 in
theorem acs_in (d : Nat) (A : Option Addr) (n c : Nat) (w : World) :
    CallsIn Fence.wide d Try.prog 75 #[.slice A n c] w fun e w' => e = .returned (.func (.func 95) #[] #[.pointer (some ⟨w.heap.size, 0, none⟩)]) ∧ w' = w.alloc (.cells #[.slice A n c] 22) := by
  refine callsIn_of_wp Try.func75 rfl trivial ?_ rfl
  simp only [Try.ntmps75, List.size_toArray, List.length_cons, List.length_nil, Nat.reduceAdd, Nat.reduceSub, Array.replicate_succ, Array.replicate_zero, List.push_toArray, List.append_toArray, List.nil_append, List.cons_append]
  gi_wp2
  go_ret
  exact ⟨rfl, rfl⟩
theorem acs_stops (d : Nat) (hd : 1 ≤ d) (Bs : Nat) (N : Nat → Prop) (A : Option Addr) (n c : Nat) (l : List Ev) (hm : may l = 0) (hnc : n ≤ c) (w : World) (hBs : Box w Bs #[.slice A n c] 22) (hN : N Bs) (hl : Sl w A n l) (hA : 0 < n → ∀ b off, A = some ⟨b, off, none⟩ → N b) :
    SeqStopsK Fence.wide d Try.prog 95 #[.pointer (some ⟨Bs, 0, none⟩)] (accE l) (Ks N) (fun ys => ys.map Acc.i = acs l n) (fun _ => True) n w := fun lp J Jx W hW hJ _ hY h0 =>
  acc1_in d hd lp Bs W.heap.size N A n c l hm hnc J Jx hJ hY W ((Bel.of hW).box hBs) hN (hl.bel hW) hA h0
theorem ks_put {N : Nat → Prop} {M : Nat} (hN : ∀ b, N b → b < M) (W : World) (l : Nat) (o' : Obj) (hl : M ≤ l) : Ks N W (W.putObj l o') := by
  refine ⟨(grownBy_putObj' W l o').size, fun b hb hlt => (grownBy_putObj' W l o').block b hlt (fun e => ?_)⟩
  have := hN b hb
  have := Option.some.inj e
  omega
theorem own_ks {β : Type} {N : Nat → Prop} {w2 : World} (hN : ∀ b, N b → b < w2.heap.size) : OwnFrom w2.heap.size (fun (_ : β) W => Ks N w2 W) := fun s X Y row hs hg hr =>
  ⟨Nat.le_trans hs.1 hg.size, fun b hb hlt => (hg.block b (Nat.lt_of_lt_of_le hlt hs.1) (fun e => by have h1 := (hr b e.symm).1; have := hN b hb; omega)).trans (hs.2 b hb hlt)⟩
theorem ks_cell {N : Nat → Prop} {B : Nat} (hB : ¬ N B) (w : World) (k : Nat) (v : Value) : Ks N w (w.setCell ⟨B, k, none⟩ v) := Ks.grown (chg_cell w k v) (fun b hb e => hB (Option.some.inj e ▸ hb))

theorem kf_bel {B : Nat} {W W' : World} (h : Bel W W') : KeepsFrom B W W' := ⟨h.size, fun k o _ hk _ => (h.out.block k (Array.getElem?_eq_some_iff.1 hk).1).trans hk⟩
theorem range_upd {n : Nat} {P : Program} {α : Type} {g : Operand} {ps : Array Tmp} {assign body : Code} {Q : Exit → Act → World → Prop} {a : Act} {w : World} (upd : Array Value → α → Array Value)
    (h1 : 1 ≤ n) {gf : Nat} {lb : Array Value} (hg : a.eval g = .func (.func gf) #[] lb) (eg : ∀ args w, (callFunc gf args).run P w = .ok (.enter gf args) w)
    {encs : α → Array Value} {N : Nat → Prop} {S Sp : List α → Prop} {M : Nat} (hseq : SeqStopsK Fence.wide (n - 1) P gf lb encs (Ks N) S Sp M w) (hN : ∀ b, N b → b < w.heap.size) (hps : ∀ x, (encs x).size = ps.size)
    (I : List α → World → Prop) (hI : OwnFrom w.heap.size I) (h0 : I [] w)
    (hassign : ∀ (l : Nat) (x : α) (W : World) (K : Act → World → Prop), K { tmps := upd a.tmps x, defers := [] } W →
      assign.wpIn (Fence.wide.inRound l) (n - 1 - 1) P (Exit.then K (fun _ _ _ => False)) { tmps := (ps.zip (encs x)).foldl (fun t (p, v) => t.setIfInBounds p v) a.tmps, defers := [] } W)
    (hbody : ∀ (l : Nat) (pre : List α) (x : α) (W : World), I pre W → pre.length < M → body.wpIn (Fence.wide.inRound l) (n - 1 - 1) P (ownPostG w.heap.size (Ks N) I (fun _ _ _ => False) (pre ++ [x]) W) { tmps := upd a.tmps x, defers := [] } W)
    (hdone : ∀ (D : Nat) (xs : List α) (W : World), w.heap.size ≤ D → S xs → I xs W → W.heap[D]? = some (.deferred (some [])) → Q .normal { a with defers := { target := .collected D, args := #[] } :: a.defers } W) :
    (Code.rangeFunc g ps assign body).wpIn Fence.wide n P Q a w :=
  wpIn_rangeFunc_ownH rfl h1 hg trivial eg hseq (fun h k => Ks.trans h k) (fun W l o o' hl _ _ _ => ks_put hN W l o' hl) (Below.refl _ _) hps I (fun _ _ _ => False) hI (fun _ _ _ _ _ h _ _ => h) h0 (fun x a' _ => a' = { tmps := upd a.tmps x, defers := [] }) (fun _ _ _ _ _ _ h _ _ => h)
    (fun l pre x W K hi hK => hassign l x W K (hK _ _ (KeepsFrom.refl _ _) (Ks.of (Bel.refl W)) hi rfl))
    (fun l pre x a' W _ _ hi ha hlen => by subst ha; exact hbody l pre x W hi hlen) hdone (fun _ _ _ _ _ _ h _ => h.elim)
end Go.Proofs.Ytjddahidkodieaa

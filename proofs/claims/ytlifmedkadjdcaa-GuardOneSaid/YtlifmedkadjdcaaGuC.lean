/- Contracts of package guard: accesses as an iterator; Common. -/
import Derived.Test.YtlifmedkadjdcaaGuA
import Derived.Test.YtlifmedkadjdcaaGu
set_option linter.all false
set_option maxRecDepth 100000
namespace Go.Proofs.Ytlifmedkadjdcaa
open Go Go.RowKit Go.Shelf
attribute [local go_sem] Oper.semAt_some

set_option maxHeartbeats 1000000 in
theorem acs_in (d : Nat) (A : Option Addr) (n c : Nat) (w : World) :
    CallsIn Fence.wide d Try.prog 28 #[.slice A n c] w fun e w' => e = .returned (.func (.func 38) #[] #[.pointer (some ⟨w.heap.size, 0, none⟩)]) ∧ w' = w.alloc (.cells #[.slice A n c] 22) := by
  refine callsIn_of_wp Try.func28 rfl trivial ?_ rfl
  simp only [Try.ntmps28, List.size_toArray, List.length_cons, List.length_nil, Nat.reduceAdd, Nat.reduceSub, Array.replicate_succ, Array.replicate_zero, List.push_toArray, List.append_toArray, List.nil_append, List.cons_append]
  gi_wp2
  go_ret
  exact ⟨rfl, rfl⟩
theorem acs_stops (d : Nat) (hd : 1 ≤ d) (Bs : Nat) (N : Nat → Prop) (A : Option Addr) (n c : Nat) (l : List Ev) (hm : may l = 0) (hnc : n ≤ c) (w : World) (hBs : Box w Bs #[.slice A n c] 22) (hN : N Bs) (hl : Sl w A n l) (hA : 0 < n → ∀ b off, A = some ⟨b, off, none⟩ → N b) :
    SeqStopsK Fence.wide d Try.prog 38 #[.pointer (some ⟨Bs, 0, none⟩)] (accE l) (Ks N) (fun ys => ys.map Acc.i = acs l n) (fun _ => True) n w := fun lp J Jx W hW hJ _ hY h0 =>
  acc1_in d hd lp Bs W.heap.size N A n c l hm hnc J Jx hJ hY W ((Bel.of hW).box hBs) hN (hl.bel hW) hA h0
theorem ks_put {N : Nat → Prop} {M : Nat} (hN : ∀ b, N b → b < M) (W : World) (l : Nat) (o' : Obj) (hl : M ≤ l) : Ks N W (W.putObj l o') := by
  refine ⟨(grownBy_putObj' W l o').size, fun b hb hlt => (grownBy_putObj' W l o').block b hlt (fun e => ?_)⟩
  have := hN b hb
  have := Option.some.inj e
  omega
theorem own_ks {β : Type} {N : Nat → Prop} {w2 : World} (hN : ∀ b, N b → b < w2.heap.size) : OwnFrom w2.heap.size (fun (_ : β) W => Ks N w2 W) := fun s X Y row hs hg hr =>
  ⟨Nat.le_trans hs.1 hg.size, fun b hb hlt => (hg.block b (Nat.lt_of_lt_of_le hlt hs.1) (fun e => by have h1 := (hr b e.symm).1; have := hN b hb; omega)).trans (hs.2 b hb hlt)⟩
theorem ks_cell {N : Nat → Prop} {B : Nat} (hB : ¬ N B) (w : World) (k : Nat) (v : Value) : Ks N w (w.setCell ⟨B, k, none⟩ v) := Ks.grown (chg_cell w k v) (fun b hb e => hB (Option.some.inj e ▸ hb))

theorem kf_bel {B : Nat} {W W' : World} (h : Bel W W') : KeepsFrom B W W' := ⟨h.size, fun k o _ hk _ => (h.out.block k (Array.getElem?_eq_some_iff.1 hk).1).trans hk⟩
/-- What Common answers. -/
def comR (l : List Ev) (x : Int) : Int := if may l = 0 ∧ 0 ≤ x ∧ x < 8 then hset (comTo l x.toNat l.length) else 0
def comE (l : List Ev) (x : Int) : Int := if may l = 0 then (if 0 ≤ x ∧ x < 8 then 0 else 1) else may l
def ComPost (w : World) (l : List Ev) (x : Int) (e : Ending) (w' : World) : Prop := e = .returned (.tuple #[.int .i64 (comR l x), .int .i64 (comE l x)]) ∧ Below w.heap.size w w'
/-- A range over an iterator whose loop variables are no boxes: the round begins with the activation turned by upd. -/
theorem range_upd {n : Nat} {P : Program} {α : Type} {g : Operand} {ps : Array Tmp} {assign body : Code} {Q : Exit → Act → World → Prop} {a : Act} {w : World} (upd : Array Value → α → Array Value)
    (h1 : 1 ≤ n) {gf : Nat} {lb : Array Value} (hg : a.eval g = .func (.func gf) #[] lb) (eg : ∀ args w, (callFunc gf args).run P w = .ok (.enter gf args) w)
    {encs : α → Array Value} {N : Nat → Prop} {S Sp : List α → Prop} {M : Nat} (hseq : SeqStopsK Fence.wide (n - 1) P gf lb encs (Ks N) S Sp M w) (hN : ∀ b, N b → b < w.heap.size) (hps : ∀ x, (encs x).size = ps.size)
    (I : List α → World → Prop) (hI : OwnFrom w.heap.size I) (h0 : I [] w)
    (hassign : ∀ (l : Nat) (x : α) (W : World) (K : Act → World → Prop), K { tmps := upd a.tmps x, defers := [] } W →
      assign.wpIn (Fence.wide.inRound l) (n - 1 - 1) P (Exit.then K (fun _ _ _ => False)) { tmps := (ps.zip (encs x)).foldl (fun t (p, v) => t.setIfInBounds p v) a.tmps, defers := [] } W)
    (hbody : ∀ (l : Nat) (pre : List α) (x : α) (W : World), I pre W → pre.length < M → body.wpIn (Fence.wide.inRound l) (n - 1 - 1) P (ownPostG w.heap.size (Ks N) I (fun _ _ _ => False) (pre ++ [x]) W) { tmps := upd a.tmps x, defers := [] } W)
    (hdone : ∀ (D : Nat) (xs : List α) (W : World), w.heap.size ≤ D → S xs → I xs W → W.heap[D]? = some (.deferred (some [])) → Q .normal { a with defers := { target := .collected D, args := #[] } :: a.defers } W) :
    (Code.rangeFunc g ps assign body).wpIn Fence.wide n P Q a w :=
  wpIn_rangeFunc_ownH rfl h1 hg trivial eg hseq (fun h k => Ks.trans h k) (fun W l o o' hl _ _ _ => ks_put hN W l o' hl) (Below.refl _ _) hps I (fun _ _ _ => False) hI (fun _ _ _ _ _ h _ _ => h) h0 (fun x a' _ => a' = { tmps := upd a.tmps x, defers := [] }) (fun _ _ _ _ _ _ h _ _ => h)
    (fun l pre x W K hi hK => hassign l x W K (hK _ _ (KeepsFrom.refl _ _) (Ks.of (Bel.refl W)) hi rfl))
    (fun l pre x a' W _ _ hi ha hlen => by subst ha; exact hbody l pre x W hi hlen) hdone (fun _ _ _ _ _ _ h _ => h.elim)
def CI (l : List Ev) (x G : Nat) (N : Nat → Prop) (w w2 : World) (pre : List (Acc l)) (W : World) : Prop := Box W G #[.int .i64 (hset (comF l x (pre.map Acc.i)))] 3 ∧ Ks N w2 W ∧ Below w.heap.size w W
theorem CI_own (l : List Ev) (x G : Nat) (N : Nat → Prop) (w w2 : World) (hN : ∀ b, N b → b < w2.heap.size) (hw : w.heap.size ≤ w2.heap.size) : OwnFrom w2.heap.size (CI l x G N w w2) :=
  OwnFrom.and ((box_own (β := List (Acc l)) G (fun pre => #[.int .i64 (hset (comF l x (pre.map Acc.i)))]) 3).from _) (OwnFrom.and (own_ks hN) (ownFrom_below (Nat.le_refl _) hw))
set_option maxHeartbeats 8000000 in
theorem common_ok (A : Option Addr) (n c : Nat) (l : List Ev) (x : Nat) (w : World) (hl : Sl w A n l) (hnc : n ≤ c) (hm : may l = 0) (hx : x < 8) :
    Calls Try.prog 17 #[.slice A n c, .int .i64 (x : Int)] w fun e w' => e = .returned (.tuple #[.int .i64 (hset (comTo l x n)), .int .i64 0]) ∧ Below w.heap.size w w' := by
  obtain ⟨b1, b2, hB, hs⟩ := boxes2 w #[.slice A n c] #[.int .i64 (x : Int)] 22 3
  generalize hW : ((w.alloc (.cells #[.slice A n c] 22)).alloc (.cells #[.int .i64 (x : Int)] 3)) = W at *
  have HL := Lib.hid (hl.bel hB)
  have HM := Lib.hid hm
  have HB := Lib.hid hB
  have HB1 := Lib.hid b1
  have HB2 := Lib.hid b2
  have c1 := b1.cell 0 (v := .slice A n c) rfl
  have hx0 : (0 : Int) ≤ (x : Int) := by omega
  have hx8 : (x : Int) < 8 := by omega
  clear hl hm hB b1 b2
  refine (callsIn_wide (n := 4)).1 ?_
  refine callsIn_of_wp_marks Try.func17 rfl trivial ?_ rfl
  simp only [Try.ntmps17, List.size_toArray, List.length_cons, List.length_nil, Nat.reduceAdd, Nat.reduceSub, Array.replicate_succ, Array.replicate_zero, List.push_toArray, List.append_toArray, List.nil_append, List.cons_append]
  gi_wp2_with fail
  refine ⟨trivial, ?_⟩
  refine (callsIn_wide.2 (check_any A n c l _ HL.out)).mono ?_
  rintro e1 w1 ⟨rfl, hb1⟩
  have HX1 := Lib.hid (Bel.of hb1)
  have h0 : (check l).2 = 0 := HM.out
  have cl := ((HX1.out.box HB1.out).old (.cells #[.int .i64 31] 3)).cell 0 (v := .slice A n c) rfl
  have cx := (HX1.out.box HB2.out).cell 0 (v := .int .i64 (x : Int)) rfl
  clear hb1 c1 hW
  gi_wp2_with fail
  refine ⟨trivial, ?_⟩
  refine (acs_in 3 A n c _).mono ?_
  rintro e2 w2 ⟨rfl, hw2⟩
  gi_wp2_with fail
  have hs2 : w2.heap.size = w1.heap.size + 2 := by rw [hw2]; simp
  have hbG : Box w2 w1.heap.size #[.int .i64 31] 3 := by rw [hw2]; exact (Box.new w1 _ _).old _
  have hbS : Box w2 (w1.heap.size + 1) #[.slice A n c] 22 := by
    have := Box.new (w1.alloc (.cells #[.int .i64 31] 3)) #[.slice A n c] 22
    rw [hw2]; simpa using this
  have hB2 : Bel w1 w2 := by rw [hw2]; exact ((Bel.refl w1).alloc _).alloc _
  have HW2 := Lib.hid (HX1.out.trans hB2)
  have HCL := Lib.hid (HW2.out.box HB1.out)
  have HCX := Lib.hid (HW2.out.box HB2.out)
  have HL2 := Lib.hid (HL.out.bel HW2.out)
  have HSZ := Lib.hid (show w.heap.size + 1 < w1.heap.size from (HX1.out.box HB2.out).lt)
  have HWB := Lib.hid (HB.out.trans ((HW2.out.out).mono HB.out.size))
  have HS2 := Lib.hid hs2
  have hA2 : 0 < n → ∀ b off, A = some ⟨b, off, none⟩ → b < w2.heap.size ∧ b ≠ w1.heap.size := fun hn0 b off e => by
    obtain ⟨b', off', e', hlt, _⟩ := (HL.out.bel HX1.out).2 hn0
    rw [e] at e'
    cases e'
    exact ⟨by omega, by omega⟩
  have HNN := Lib.hid hnc
  rw [← hw2]
  clear hw2 cl cx hs2 h0
  obtain ⟨N, hN⟩ : ∃ N : Nat → Prop, N = fun b => b < w2.heap.size ∧ b ≠ w1.heap.size := ⟨_, rfl⟩
  have HN := Lib.hid (show ∀ b, N b ↔ b < w2.heap.size ∧ b ≠ w1.heap.size from fun b => by rw [hN])
  clear hN
  refine range_upd (fun t (x : Acc l) => (((t.setIfInBounds 27 (.int .i64 (x.i : Nat))).setIfInBounds 28 (.int .i64 (hN l x.i))).setIfInBounds 9 (.int .i64 (x.i : Nat))).setIfInBounds 10 (.int .i64 (hN l x.i)))
    (by omega) (gf := 38) (lb := #[.pointer (some ⟨w1.heap.size + 1, 0, none⟩)]) rfl (enters_of Try.func38 (by kernel_rfl) rfl)
    (acs_stops 3 (by omega) (w1.heap.size + 1) N A n c l HM.out HNN.out w2 hbS ((HN.out _).2 ⟨by have := HS2.out; omega, by omega⟩) HL2.out (fun h0 b off e => (HN.out b).2 (hA2 h0 b off e)))
    (fun b hb => ((HN.out b).1 hb).1) (fun _ => rfl) (CI l x w1.heap.size N w w2) (CI_own l x _ N w w2 (fun b hb => ((HN.out b).1 hb).1) HWB.out.size) ⟨hbG, Ks.of (Bel.refl _), HWB.out⟩ ?assign ?body ?done
  case assign =>
    rintro lp y W' K hK
    unfold accE
    gi_wp2_with fail
    exact hK
  case body =>
    rintro lp pre y W' ⟨hbx, hks, hbel⟩ hlen
    gi_wp2_with fail
    have hkl := y.lt
    have hac := y.ac
    generalize hky : y.i = k at hkl hac ⊢
    have HKY := Lib.hid hky
    clear hky
    have hkn : k < n := by rw [← HL.out.1]; exact hkl
    have hkn' : (k : Int) < n := by omega
    have hk0 : (0 : Int) ≤ (k : Int) := by omega
    obtain ⟨bb, off, e, hAe, hbb, he, hrg⟩ := (HL2.out.ks hks (fun h0 b off e => (HN.out b).2 (hA2 h0 b off e))).at_ hkn
    subst hAe
    obtain rfl : e = eZ l k := (eZ_at he).symm
    have heo := isEv_o (eZ_ok HM.out hkl)
    obtain ⟨o, ho⟩ := Int.eq_ofNat_of_zero_le heo.1
    have HOZ := Lib.hid (show oZ l k = o by unfold oZ; rw [ho]; rfl)
    have HX3 := Lib.hid (Bel.refl W')
    have F1 := Lib.hid (fun (w' : World) (h : Below W'.heap.size W' w') => ((hks.box ((HN.out _).2 ⟨by have := HS2.out; have := HSZ.out; omega, by have := HSZ.out; omega⟩) HCL.out).below h (by have := hks.1; have := HS2.out; have := HSZ.out; omega)).cell 0 (v := .slice (some ⟨bb, off, none⟩) n c) rfl)
    have F2 := Lib.hid (fun (w' : World) (h : Below W'.heap.size W' w') => ((hks.box ((HN.out _).2 ⟨by have := HS2.out; have := HSZ.out; omega, by have := HSZ.out; omega⟩) HCX.out).below h (by have := hks.1; have := HS2.out; have := HSZ.out; omega)).cell 0 (v := .int .i64 (x : Int)) rfl)
    have F3 := Lib.hid (fun (w' : World) (h : Below W'.heap.size W' w') => show w'.cell? ⟨bb, off + k * 3 + 2, none⟩ = some (.int .i64 (o : Int)) by
      have := rangeAt_below h hbb hrg 2 (.int .i64 (eZ l k).o) rfl
      rw [ho] at this
      exact this)
    have HKS := Lib.hid hks
    have HBX := Lib.hid hbx
    have HBE := Lib.hid hbel
    have HNG := Lib.hid (show ¬ N w1.heap.size from fun h => ((HN.out _).1 h).2 rfl)
    have HWS := Lib.hid (HWB.out.size)
    clear hkl hrg he hbb heo ho hks hbx hbel hA2 hbG hbS hB2 hlen
    refine region_grow_round W'.heap.size (by kernel_rfl) (by kernel_rfl) (fun h => by obtain ⟨_, _, h⟩ := h; exact h) ?_
    (repeat (first | (refine wpG_go 0 (by simp only [List.getElem?_toArray, List.getElem?_cons_zero, List.getElem?_cons_succ] <;> rfl) (by decide +kernel) (by decide +kernel) (by kernel_rfl) (by rfl) (by exact fun _ _ _ _ h => h) (by omega) ?_; apply Exists.intro; refine ⟨fun w1 h1 => ?_, ?_⟩; (first | exact g_move _ rfl | exact g_assign _ rfl | (have fct0 := F1.out w1 h1; have fct1 := F2.out w1 h1; have fct2 := F3.out w1 h1; go_simp; first | exact ⟨rfl, rfl⟩ | rfl)); simp only [Act.put, Act.eval, List.setIfInBounds_toArray, List.set_cons_zero, List.set_cons_succ, Array.getD_eq_getD_getElem?, List.getElem?_toArray, List.getElem?_cons_zero, List.getElem?_cons_succ, Option.getD_some]) | (refine wpG_go 1 (by simp only [List.getElem?_toArray, List.getElem?_cons_zero, List.getElem?_cons_succ] <;> rfl) (by decide +kernel) (by decide +kernel) (by kernel_rfl) (by rfl) (by exact fun _ _ _ _ h => h) (by omega) ?_; apply Exists.intro; refine ⟨fun w1 h1 => ?_, ?_⟩; (first | exact g_move _ rfl | exact g_assign _ rfl | (have fct0 := F1.out w1 h1; have fct1 := F2.out w1 h1; have fct2 := F3.out w1 h1; go_simp; first | exact ⟨rfl, rfl⟩ | rfl)); simp only [Act.put, Act.eval, List.setIfInBounds_toArray, List.set_cons_zero, List.set_cons_succ, Array.getD_eq_getD_getElem?, List.getElem?_toArray, List.getElem?_cons_zero, List.getElem?_cons_succ, Option.getD_some]) | (refine wpG_go 2 (by simp only [List.getElem?_toArray, List.getElem?_cons_zero, List.getElem?_cons_succ] <;> rfl) (by decide +kernel) (by decide +kernel) (by kernel_rfl) (by rfl) (by exact fun _ _ _ _ h => h) (by omega) ?_; apply Exists.intro; refine ⟨fun w1 h1 => ?_, ?_⟩; (first | exact g_move _ rfl | exact g_assign _ rfl | (have fct0 := F1.out w1 h1; have fct1 := F2.out w1 h1; have fct2 := F3.out w1 h1; go_simp; first | exact ⟨rfl, rfl⟩ | rfl)); simp only [Act.put, Act.eval, List.setIfInBounds_toArray, List.set_cons_zero, List.set_cons_succ, Array.getD_eq_getD_getElem?, List.getElem?_toArray, List.getElem?_cons_zero, List.getElem?_cons_succ, Option.getD_some]) | (refine wpG_go 3 (by simp only [List.getElem?_toArray, List.getElem?_cons_zero, List.getElem?_cons_succ] <;> rfl) (by decide +kernel) (by decide +kernel) (by kernel_rfl) (by rfl) (by exact fun _ _ _ _ h => h) (by omega) ?_; apply Exists.intro; refine ⟨fun w1 h1 => ?_, ?_⟩; (first | exact g_move _ rfl | exact g_assign _ rfl | (have fct0 := F1.out w1 h1; have fct1 := F2.out w1 h1; have fct2 := F3.out w1 h1; go_simp; first | exact ⟨rfl, rfl⟩ | rfl)); simp only [Act.put, Act.eval, List.setIfInBounds_toArray, List.set_cons_zero, List.set_cons_succ, Array.getD_eq_getD_getElem?, List.getElem?_toArray, List.getElem?_cons_zero, List.getElem?_cons_succ, Option.getD_some]) | (refine wpG_go 4 (by simp only [List.getElem?_toArray, List.getElem?_cons_zero, List.getElem?_cons_succ] <;> rfl) (by decide +kernel) (by decide +kernel) (by kernel_rfl) (by rfl) (by exact fun _ _ _ _ h => h) (by omega) ?_; apply Exists.intro; refine ⟨fun w1 h1 => ?_, ?_⟩; (first | exact g_move _ rfl | exact g_assign _ rfl | (have fct0 := F1.out w1 h1; have fct1 := F2.out w1 h1; have fct2 := F3.out w1 h1; go_simp; first | exact ⟨rfl, rfl⟩ | rfl)); simp only [Act.put, Act.eval, List.setIfInBounds_toArray, List.set_cons_zero, List.set_cons_succ, Array.getD_eq_getD_getElem?, List.getElem?_toArray, List.getElem?_cons_zero, List.getElem?_cons_succ, Option.getD_some]) | (refine wpG_go 5 (by simp only [List.getElem?_toArray, List.getElem?_cons_zero, List.getElem?_cons_succ] <;> rfl) (by decide +kernel) (by decide +kernel) (by kernel_rfl) (by rfl) (by exact fun _ _ _ _ h => h) (by omega) ?_; apply Exists.intro; refine ⟨fun w1 h1 => ?_, ?_⟩; (first | exact g_move _ rfl | exact g_assign _ rfl | (have fct0 := F1.out w1 h1; have fct1 := F2.out w1 h1; have fct2 := F3.out w1 h1; go_simp; first | exact ⟨rfl, rfl⟩ | rfl)); simp only [Act.put, Act.eval, List.setIfInBounds_toArray, List.set_cons_zero, List.set_cons_succ, Array.getD_eq_getD_getElem?, List.getElem?_toArray, List.getElem?_cons_zero, List.getElem?_cons_succ, Option.getD_some]) | (refine wpG_go 6 (by simp only [List.getElem?_toArray, List.getElem?_cons_zero, List.getElem?_cons_succ] <;> rfl) (by decide +kernel) (by decide +kernel) (by kernel_rfl) (by rfl) (by exact fun _ _ _ _ h => h) (by omega) ?_; apply Exists.intro; refine ⟨fun w1 h1 => ?_, ?_⟩; (first | exact g_move _ rfl | exact g_assign _ rfl | (have fct0 := F1.out w1 h1; have fct1 := F2.out w1 h1; have fct2 := F3.out w1 h1; go_simp; first | exact ⟨rfl, rfl⟩ | rfl)); simp only [Act.put, Act.eval, List.setIfInBounds_toArray, List.set_cons_zero, List.set_cons_succ, Array.getD_eq_getD_getElem?, List.getElem?_toArray, List.getElem?_cons_zero, List.getElem?_cons_succ, Option.getD_some]) | (refine wpG_skip 0 (by simp only [List.getElem?_toArray, List.getElem?_cons_zero, List.getElem?_cons_succ] <;> rfl) (by decide +kernel) (by decide +kernel) (by kernel_rfl) (by rfl) (by exact fun _ _ _ _ h => h) (by omega) ?_; simp only [Act.put, Act.eval, List.setIfInBounds_toArray, List.set_cons_zero, List.set_cons_succ, Array.getD_eq_getD_getElem?, List.getElem?_toArray, List.getElem?_cons_zero, List.getElem?_cons_succ, Option.getD_some]) | (refine wpG_skip 1 (by simp only [List.getElem?_toArray, List.getElem?_cons_zero, List.getElem?_cons_succ] <;> rfl) (by decide +kernel) (by decide +kernel) (by kernel_rfl) (by rfl) (by exact fun _ _ _ _ h => h) (by omega) ?_; simp only [Act.put, Act.eval, List.setIfInBounds_toArray, List.set_cons_zero, List.set_cons_succ, Array.getD_eq_getD_getElem?, List.getElem?_toArray, List.getElem?_cons_zero, List.getElem?_cons_succ, Option.getD_some]) | (refine wpG_skip 2 (by simp only [List.getElem?_toArray, List.getElem?_cons_zero, List.getElem?_cons_succ] <;> rfl) (by decide +kernel) (by decide +kernel) (by kernel_rfl) (by rfl) (by exact fun _ _ _ _ h => h) (by omega) ?_; simp only [Act.put, Act.eval, List.setIfInBounds_toArray, List.set_cons_zero, List.set_cons_succ, Array.getD_eq_getD_getElem?, List.getElem?_toArray, List.getElem?_cons_zero, List.getElem?_cons_succ, Option.getD_some]) | (refine wpG_skip 3 (by simp only [List.getElem?_toArray, List.getElem?_cons_zero, List.getElem?_cons_succ] <;> rfl) (by decide +kernel) (by decide +kernel) (by kernel_rfl) (by rfl) (by exact fun _ _ _ _ h => h) (by omega) ?_; simp only [Act.put, Act.eval, List.setIfInBounds_toArray, List.set_cons_zero, List.set_cons_succ, Array.getD_eq_getD_getElem?, List.getElem?_toArray, List.getElem?_cons_zero, List.getElem?_cons_succ, Option.getD_some]) | (refine wpG_skip 4 (by simp only [List.getElem?_toArray, List.getElem?_cons_zero, List.getElem?_cons_succ] <;> rfl) (by decide +kernel) (by decide +kernel) (by kernel_rfl) (by rfl) (by exact fun _ _ _ _ h => h) (by omega) ?_; simp only [Act.put, Act.eval, List.setIfInBounds_toArray, List.set_cons_zero, List.set_cons_succ, Array.getD_eq_getD_getElem?, List.getElem?_toArray, List.getElem?_cons_zero, List.getElem?_cons_succ, Option.getD_some]) | (refine wpG_skip 5 (by simp only [List.getElem?_toArray, List.getElem?_cons_zero, List.getElem?_cons_succ] <;> rfl) (by decide +kernel) (by decide +kernel) (by kernel_rfl) (by rfl) (by exact fun _ _ _ _ h => h) (by omega) ?_; simp only [Act.put, Act.eval, List.setIfInBounds_toArray, List.set_cons_zero, List.set_cons_succ, Array.getD_eq_getD_getElem?, List.getElem?_toArray, List.getElem?_cons_zero, List.getElem?_cons_succ, Option.getD_some]) | (refine wpG_skip 6 (by simp only [List.getElem?_toArray, List.getElem?_cons_zero, List.getElem?_cons_succ] <;> rfl) (by decide +kernel) (by decide +kernel) (by kernel_rfl) (by rfl) (by exact fun _ _ _ _ h => h) (by omega) ?_; simp only [Act.put, Act.eval, List.setIfInBounds_toArray, List.set_cons_zero, List.set_cons_succ, Array.getD_eq_getD_getElem?, List.getElem?_toArray, List.getElem?_cons_zero, List.getElem?_cons_succ, Option.getD_some])))
    (refine wpG_done (by decide +kernel) ?_ _; intro w3 hw3; try simp only [Act.put, Act.eval, List.setIfInBounds_toArray, List.set_cons_zero, List.set_cons_succ, Array.getD_eq_getD_getElem?, List.getElem?_toArray, List.getElem?_cons_zero, List.getElem?_cons_succ, Option.getD_some])
    have HB3 := Lib.hid (hw3.box HBX.out)
    have HW3 := Lib.hid hw3
    have c8 := HB3.out.cell 0 (v := .int .i64 (hset (comF l x (pre.map Acc.i)))) rfl
    have f8 := HB3.out.frozen 0
    clear hw3
    by_cases hox : o = x
    · have hb : ((o : Int) == (x : Int)) = true := by simp [hox]
      obtain ⟨cq, hcq⟩ : ∃ cq, cq = comF l x ((pre ++ [y]).map Acc.i) := ⟨_, rfl⟩
      have fa : bits .and .i64 (hset (comF l x (pre.map Acc.i))) (hN l k) = hset cq := by
        rw [hcq, hN_eq, gand_sets, List.map_append, List.map_singleton, comF_snoc, HKY.out, if_pos (by rw [HOZ.out, hox])]
      have HCQ := Lib.hid hcq
      clear hox hcq
      gi_wp2
      exact ⟨(kf_bel HW3.out).trans ((KeepsOthers.setCell _ _ _).from _), (Ks.of HW3.out).trans (ks_cell HNG.out _ _ _), by rw [← HCQ.out]; exact HB3.out.set 0 _, (HKS.out.trans (Ks.of HW3.out)).trans (ks_cell HNG.out _ _ _), (HBE.out.trans (HW3.out.out.mono HBE.out.size)).setCell (by have := HSZ.out; dsimp only; omega) _⟩
    · have hb : ((o : Int) == (x : Int)) = false := by simp; omega
      have fa : comF l x ((pre ++ [y]).map Acc.i) = comF l x (pre.map Acc.i) := by
        rw [List.map_append, List.map_singleton, comF_snoc, HKY.out, if_neg (by rw [HOZ.out]; exact hox)]
      clear hox
      have HFA := Lib.hid fa
      clear fa
      gi_wp2
      exact ⟨kf_bel HW3.out, Ks.of HW3.out, by rw [HFA.out]; exact HB3.out, HKS.out.trans (Ks.of HW3.out), HBE.out.trans (HW3.out.out.mono HBE.out.size)⟩
  case done =>
    rintro D ys W' hD hys ⟨hbx, hks, hbel⟩ hK
    rw [hys, comF_acs] at hbx
    have c8 := hbx.cell 0 (v := .int .i64 (hset (comTo l x n))) rfl
    have f8 := hbx.frozen 0
    have HBE := Lib.hid hbel
    have HKK := Lib.hid hK
    have HSD := Lib.hid (show w.heap.size ≤ D by have := HWB.out.size; omega)
    clear hbx hks hbel hys hK hA2 hbG hbS hB2
    gi_wp2
    refine ⟨by simp, .inl ⟨_, _, rfl, run_takeDeferred HKK.out, ?_⟩⟩
    refine ⟨.tuple #[.int .i64 (hset (comTo l x n)), .int .i64 0], results_tmp2 Try.results17 _ _ _, rfl, ?_⟩
    exact HBE.out.trans (belowK_b (w := w) (Nat.le_refl _) _ D _ _ HSD.out HKK.out rfl rfl)
end Go.Proofs.Ytlifmedkadjdcaa

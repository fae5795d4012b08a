/- Contracts of the package stamp: Knows where it goes through the events. -/
import Derived.Test.YtfmkbjgkicipcaaKnows
set_option linter.all false
set_option maxRecDepth 100000
namespace Go.Proofs.Ytfmkbjgkicipcaa
open Go Go.RowKit Go.Shelf
attribute [local go_sem] Oper.semAt_some

theorem box_own {β : Type} (B : Nat) (f : β → Array Value) (t : TypeId) : Own (fun s W => Box W B (f s) t) := fun s X Y row hs hg hrow => by
  have hb : Box X B (f s) t := hs
  refine (hg.block B hb.lt (fun e => ?_)).trans hb
  obtain ⟨o, ho, hc⟩ := hrow B e.symm
  rw [show X.heap[B]? = _ from hb] at ho
  cases ho
  cases hc
theorem keeps_setRow {W : World} {B : Nat} {c : Array Value} {t : TypeId} (h : Box W B c t) (c' : Array Value) : KeepsOthers W (W.setRow B c') :=
  ⟨by simp, fun k o hk ho => by
    by_cases e : k = B
    · subst e
      rw [show W.heap[k]? = _ from h] at hk
      cases hk
      cases ho
    · exact (setRow_other W B k c' e).trans hk⟩
theorem store_newIn {F : Fence} {d : Nat} {P : Program} {ops : Array Oper} {rest : List Oper} {o : Oper} {a : Act} {w : World} {Q : Exit → Act → World → Prop} (ty : TypeId) (x y : Operand) (ho : o.op = .store ty x y) (hgd : o.guard = none) {c c' : Array Value} {t : TypeId} (hx : a.eval x = .pointer (some ⟨w.heap.size, 0, none⟩)) (hy : a.eval y = .agg c')
    (hs : c.size = c'.size) (hT : RowTy P ty c'.size) (h1 : c'.all (·.oneCell') = true) (h : wpListIn F d P ops Q rest (a.put o.dst undef) (w.alloc (.cells c' t))) : wpListIn F d P ops Q (o :: rest) a (w.alloc (.cells c t)) := by
  refine store_rowIn ty x y ho hgd hx hy (Box.new w c t) hs hT h1 ?_
  rw [World.setRow_alloc_new]
  exact h
theorem box_put {W : World} {B D : Nat} {c : Array Value} {t : TypeId} {o : Obj} (h : Box W B c t) (hD : W.heap[D]? = some o) (ho : o.isCells = false) (o' : Obj) : Box (W.putObj D o') B c t :=
  box_own (β := Unit) B (fun _ => c) t () W _ (some D) h (grownBy_putObj' W D o') (fun r e => by cases e; exact ⟨_, hD, ho⟩)
/-- What the round is told of its variables. -/
def KAx (l : List Ev) (N : Nat) (A : Option Addr) (n c t B p0 p1 p2 p3 p4 : Nat) (x : Nat) (a' : Act) (W' : World) : Prop :=
  ∃ Bx, N ≤ Bx ∧ Box W' Bx (evv (evD l x)) 37 ∧ a' = { tmps := #[.slice A n c, .int .i64 (t : Int), undef, .pointer (some ⟨p0, 0, none⟩), .pointer (some ⟨p1, 0, none⟩), .pointer (some ⟨p2, 0, none⟩), .pointer (some ⟨p3, 0, none⟩), .int .i64 0, .int .i64 (x : Int), .pointer (some ⟨Bx, 0, none⟩),
    .tuple #[.slice (some ⟨B, 0, none⟩) n n, .int .i64 0], .slice A n c, .tuple #[.slice (some ⟨B, 0, none⟩) n n, .int .i64 0], .slice (some ⟨B, 0, none⟩) n n, .int .i64 0, .int .i64 0, .bool false, undef, undef, .int .i64 (t : Int), .bool (decide ((t : Int) < 0)), .bool (decide ((t : Int) < 0)), .int .i64 (t : Int), .bool (decide (6 ≤ (t : Int))),
    .bool (decide ((t : Int) < 0) || decide (6 ≤ (t : Int))), undef, .slice A n c, .func (.func 35) #[] #[.pointer (some ⟨p4, 0, none⟩)], .int .i64 (x : Int), .agg (evv (evD l x)), undef, undef, undef, undef, undef, undef, undef, undef, undef], defers := [] }
def KI (l : List Ev) (t : Nat) (w2 : World) (pre : List Nat) (W' : World) : Prop := (∀ x ∈ pre, (evD l x).t ≠ t) ∧ Below w2.heap.size w2 W'
def KX (l : List Ev) (t p1 p2 : Nat) (w : World) (c : Code) (pre : List Nat) (W' : World) : Prop :=
  (c = .ret ∧ ∃ ini last, pre = ini ++ [last] ∧ (∀ x ∈ ini, (evD l x).t ≠ t) ∧ (evD l last).t = t ∧ Box W' p1 (clk (kc l last)) 31 ∧ Box W' p2 #[.int .i64 0] 24) ∧ Below w.heap.size w W'
theorem KI_own (l : List Ev) (t : Nat) (w2 : World) : OwnFrom w2.heap.size (KI l t w2) := OwnFrom.and (ownFrom_pure _ (fun pre : List Nat => ∀ x ∈ pre, (evD l x).t ≠ t)) (ownFrom_below (Nat.le_refl _) (Nat.le_refl _))
theorem KX_own (l : List Ev) (t p1 p2 : Nat) (w : World) (N : Nat) (hN : w.heap.size ≤ N) (c : Code) : OwnFrom N (KX l t p1 p2 w c) :=
  OwnFrom.and (Own.from (fun s X Y row hs hg hr => by
    obtain ⟨hc, ini, last, e1, e2, e3, e4, e5⟩ := hs
    exact ⟨hc, ini, last, e1, e2, e3, box_own (β := Unit) p1 (fun _ => clk (kc l last)) 31 () X Y row e4 hg hr, box_own (β := Unit) p2 (fun _ => #[.int .i64 0]) 24 () X Y row e5 hg hr⟩) _) (ownFrom_below (Nat.le_refl _) hN)
theorem KAx_own (l : List Ev) (N : Nat) (A : Option Addr) (n c t B p0 p1 p2 p3 p4 : Nat) (x : Nat) (a' : Act) (M : Nat) : OwnFrom M (fun (_ : Unit) W' => KAx l N A n c t B p0 p1 p2 p3 p4 x a' W') :=
  Own.from (fun s X Y row hs hg hr => by
    obtain ⟨Bx, h1, h2, h3⟩ := hs
    exact ⟨Bx, h1, box_own (β := Unit) Bx (fun _ => evv (evD l x)) 37 () X Y row h2 hg hr, h3⟩) _
set_option maxHeartbeats 8000000 in
theorem knows_ok (A : Option Addr) (n c : Nat) (l : List Ev) (t : Nat) (w : World) (hl : Sl w A n l) (hm : may l = 0) (ht : t < 6) :
    Calls Try.prog 15 #[.slice A n c, .int .i64 (t : Int)] w fun e w' => e = .returned (.tuple #[.agg (clk (lastC l t n)), .int .i64 0]) ∧ Below w.heap.size w w' := by
  have hn80 : n ≤ 80 := by rw [← hl.1]; exact ((may_iff l).1 hm).1
  have hln := hl.1
  obtain ⟨b1, b2, b3, hB, hs⟩ := boxes3 w #[.int .i64 (t : Int)] #[.int .i64 0, .int .i64 0, .int .i64 0, .int .i64 0, .int .i64 0, .int .i64 0] #[.int .i64 0] 3 31 24
  generalize hW : (((w.alloc (.cells #[.int .i64 (t : Int)] 3)).alloc (.cells #[.int .i64 0, .int .i64 0, .int .i64 0, .int .i64 0, .int .i64 0, .int .i64 0] 31)).alloc (.cells #[.int .i64 0] 24)) = W at *
  have HL := Lib.hid (hl.bel hB)
  have HM := Lib.hid hm
  have HB := Lib.hid hB
  have L1 : w.heap.size < W.heap.size := by omega
  have L2 : w.heap.size + 1 < W.heap.size := by omega
  have L3 : w.heap.size + 1 + 1 < W.heap.size := by omega
  have HB1 := Lib.hid b1
  have HB2 := Lib.hid b2
  have HB3 := Lib.hid b3
  have ht' : (t : Int) < 6 := by omega
  clear hl hm hB b1 b2 b3
  refine (callsIn_wide (n := 4)).1 ?_
  refine callsIn_of_wp_marks Try.func15 rfl trivial ?_ rfl
  simp only [Try.ntmps15, List.size_toArray, List.length_cons, List.length_nil, Nat.reduceAdd, Nat.reduceSub, Array.replicate_succ, Array.replicate_zero, List.push_toArray, List.append_toArray, List.nil_append, List.cons_append]
  gi_wp2_with fail
  refine ⟨trivial, ?_⟩
  refine (callsIn_wide.2 (stamps_ok A n c l _ HL.out HM.out)).mono ?_
  rintro e1 w1 ⟨B, rfl, hck, hge, hb1⟩
  have HX := Lib.hid ((Bel.of HB.out).trans (Bel.of hb1))
  have c1 := ((HB1.out.below hb1 L1).old (.cells #[.slice (some ⟨B, 0, none⟩) n n] 23)).cell 0 (v := .int .i64 (t : Int)) rfl
  have HC2 := Lib.hid ((HB2.out.below hb1 L2).old (.cells #[.slice (some ⟨B, 0, none⟩) n n] 23))
  have HC3 := Lib.hid ((HB3.out.below hb1 L3).old (.cells #[.slice (some ⟨B, 0, none⟩) n n] 23))
  have HCK := Lib.hid hck
  have HB1' := Lib.hid hb1
  have hsz1 : W.heap.size ≤ w1.heap.size := hb1.size
  clear hck hge hb1
  gi_wp2_with fail
  refine ⟨trivial, ?_⟩
  refine (back_in Fence.wide _ trivial rfl A n c _).mono ?_
  rintro e2 w2 ⟨rfl, hw2⟩
  gi_wp2_with fail
  have hb02 : Below w1.heap.size w1 w2 := by rw [hw2]; exact ((Below.refl _ w1).alloc (Nat.le_refl _) _).alloc (by simp) _
  have hb12 : Bel (w1.alloc (.cells #[.slice (some ⟨B, 0, none⟩) n n] 23)) w2 := by rw [hw2]; exact (Bel.refl _).alloc _
  have c26 : Box w2 (w1.heap.size + 1) #[.slice A n c] 22 := by
    have := Box.new (w1.alloc (.cells #[.slice (some ⟨B, 0, none⟩) n n] 23)) #[.slice A n c] 22
    rw [hw2]; simpa using this
  have hsz2 : w2.heap.size = w1.heap.size + 2 := by rw [hw2]; simp
  have C1 := hb12.cell c1
  have C6 : Box w2 w1.heap.size #[.slice (some ⟨B, 0, none⟩) n n] 23 := hb12.box (Box.new w1 _ _)
  have D2 := hb12.box HC2.out
  have D3 := hb12.box HC3.out
  have HCK2 := Lib.hid (HCK.out.bel (Bel.of hb02))
  have hl2 : Sl w2 A n l := (HL.out.bel (Bel.of HB1'.out)).bel (Bel.of hb02)
  have hA2 : 0 < n → ∀ b off, A = some ⟨b, off, none⟩ → b < w2.heap.size := fun h0 b off e => by
    obtain ⟨b', off', e', hlt, _⟩ := hl2.2 h0
    rw [e] at e'
    cases e'
    exact hlt
  have hszw : w.heap.size ≤ w2.heap.size := by have := HX.out.size; omega
  clear c1
  rw [← hw2]
  clear hw2
  refine wpIn_rangeFunc_ownH rfl (by omega) (gf := 35) (lb := #[.pointer (some ⟨w1.heap.size + 1, 0, none⟩)]) rfl trivial (enters_of Try.func35 (by kernel_rfl) rfl)
    (back_stops Fence.wide _ trivial rfl (by omega) (w1.heap.size + 1) w2.heap.size A n c l hn80 w2 (c26.cell 0 rfl) (by omega) hl2 hA2 (Nat.le_refl _)) belowK_t (belowK_b (Nat.le_refl _)) (Below.refl _ _) (fun _ => rfl)
    (KI l t w2) (KX l t (w.heap.size + 1) (w.heap.size + 1 + 1) w) (KI_own l t w2) (KX_own l t _ _ w _ hszw) ⟨by simp, Below.refl _ _⟩
    (KAx l w2.heap.size A n c t B w.heap.size (w.heap.size + 1) (w.heap.size + 1 + 1) w1.heap.size (w1.heap.size + 1)) (fun x a' => KAx_own l _ A n c t B _ _ _ _ _ x a' _) ?assign ?body ?done ?stop
  case assign =>
    rintro lp pre x W' K ⟨hp, hBW⟩ hK
    gi_wp2_with (refine store_newIn 37 _ _ rfl rfl (c := #[.int .i64 0, .int .i64 0, .int .i64 0]) (c' := evv (evD l x)) (t := 37) rfl rfl rfl T36 (evv_all _) ?_)
    exact hK _ _ ((KeepsOthers.alloc _ _).from _) ((Below.refl _ W').alloc hBW.size _) ⟨hp, hBW.alloc hBW.size _⟩ ⟨W'.heap.size, hBW.size, Box.new W' _ _, rfl⟩
  case body =>
    rintro lp pre x a' W' hlp ⟨r, hr⟩ ⟨hp, hBW⟩ ⟨Bx, hBx, bX, rfl⟩ hlt
    have k1 := (Bel.of hBW).cell C1
    have k6 := ((Bel.of hBW).box C6).cell 0 (v := .slice (some ⟨B, 0, none⟩) n n) rfl
    have kx := bX.cell 1 (v := .int .i64 (evD l x).t) rfl
    have HD2 := Lib.hid ((Bel.of hBW).box D2)
    have HD3 := Lib.hid ((Bel.of hBW).box D3)
    have HBW := Lib.hid hBW
    have HP := Lib.hid hp
    have HCK3 := Lib.hid (HCK2.out.bel (Bel.of hBW))
    clear hBW hp C1 C6 D2 D3 hr bX
    by_cases hx : (evD l x).t = (t : Int)
    · have hxn : x < n := by have := evD_lt (l := l) (x := x) (by omega); omega
      have hxn' : (x : Int) < n := by omega
      have hb : ((evD l x).t == (t : Int)) = true := by rw [hx]; simp
      have HR := Lib.hid (HCK3.out.row hxn)
      have s3 : Box (W'.setRow (w.heap.size + 1) (clk (kc l x))) (w.heap.size + 1 + 1) #[.int .i64 0] 24 := HD3.out.setRow_ne _ _ (by omega)
      have HS2 := Lib.hid (HD2.out.setRow (clk (kc l x)))
      have HS3 := Lib.hid s3
      have e3 := s3.cell 0 (v := .int .i64 0) rfl
      have f3 := s3.frozen 0
      have HXX := Lib.hid hx
      clear s3 hx
      gi_wp2_with (first | (refine load_rowIn _ _ rfl rfl rfl HR.out ty28 (clk (kc l x)) rfl ?_) | (refine store_rowIn _ _ _ rfl rfl rfl rfl HD2.out rfl ty28 (clk_all (kc l x)) ?_))
      refine ⟨((keeps_setRow HD2.out _).trans (KeepsOthers.setCell _ _ _)).from _, ⟨rfl, pre, x, rfl, HP.out, HXX.out, HS2.out.set_ne _ _ (by simp), HS3.out.set 0 _⟩, ?_⟩
      exact ((((HX.out.trans (Bel.of hb02)).trans (Bel.of HBW.out)).setRow _ (by omega) _).setCell _ (by simp; omega) _)
    · have hb : ((evD l x).t == (t : Int)) = false := by simpa using hx
      have HXX := Lib.hid hx
      clear hx
      gi_wp2
      exact ⟨KeepsFrom.refl _ _, Below.refl _ _, ⟨fun y hy => (List.mem_append.1 hy).elim (HP.out y) (fun e => by simp at e; subst e; exact HXX.out), HBW.out⟩⟩
  case done =>
    rintro D ys W' hD rfl ⟨hp, hBW⟩ hK
    have HD2 := Lib.hid ((Bel.of hBW).box D2)
    have HD3 := Lib.hid ((Bel.of hBW).box D3)
    have s3 : Box (W'.setRow (w.heap.size + 1) #[.int .i64 0, .int .i64 0, .int .i64 0, .int .i64 0, .int .i64 0, .int .i64 0]) (w.heap.size + 1 + 1) #[.int .i64 0] 24 := HD3.out.setRow_ne _ _ (by omega)
    have HS2 := Lib.hid (HD2.out.setRow #[.int .i64 0, .int .i64 0, .int .i64 0, .int .i64 0, .int .i64 0, .int .i64 0])
    have HS3 := Lib.hid s3
    have e3 := s3.cell 0 (v := .int .i64 0) rfl
    have f3 := s3.frozen 0
    have HBW := Lib.hid hBW
    have HLC := Lib.hid (show lastC l t n = fun _ => 0 by rw [lastC_skip (Nat.le_refl n) hp, Nat.sub_self]; rfl)
    have HKK := Lib.hid (((keeps_setRow HD2.out #[.int .i64 0, .int .i64 0, .int .i64 0, .int .i64 0, .int .i64 0, .int .i64 0]).trans (KeepsOthers.setCell _ ⟨w.heap.size + 1 + 1, 0, none⟩ (.int .i64 0))).same D _ hK rfl)
    clear s3 hBW hp C1 C6 D2 D3 hK
    gi_wp2_with (first | (refine store_rowIn _ _ _ rfl rfl rfl rfl HD2.out rfl ty28 z_all ?_))
    refine ⟨by simp, .inl ⟨_, _, rfl, run_takeDeferred HKK.out, ?_⟩⟩
    have hx1 := box_put (HS2.out.set_ne ⟨w.heap.size + 1 + 1, 0, none⟩ (.int .i64 0) (by simp)) HKK.out rfl (.deferred none)
    have hx2 := box_put (HS3.out.set 0 (.int .i64 0)) HKK.out rfl (.deferred none)
    refine ⟨.tuple #[.agg (clk fun _ => 0), .int .i64 0], res_cc Try.results15 rfl rfl hx1 ty28 (load_int hx2), by rw [HLC.out], ?_⟩
    exact ((((HX.out.trans (Bel.of hb02)).trans (Bel.of HBW.out)).setRow _ (by omega) _).setCell _ (by simp; omega) _).out.trans (belowK_b (w := w) (Nat.le_refl _) _ D _ _ (by omega) HKK.out rfl rfl)
  case stop =>
    rintro D c pre W' hD ⟨k, hk, rfl⟩ ⟨⟨rfl, ini, last, e1, e2, e3, hbx, hby⟩, hBW⟩ hK
    obtain ⟨k', rfl⟩ : ∃ k', k = k' + 1 := by
      cases k with
      | zero => simp [dn] at e1
      | succ k' => exact ⟨k', rfl⟩
    rw [dn_succ] at e1
    obtain ⟨rfl, e5⟩ := List.append_inj' e1 rfl
    obtain rfl : n - 1 - k' = last := by simpa using e5
    have HLC := Lib.hid (show lastC l t n = kc l (n - 1 - k') by rw [lastC_skip (k := k') (by omega) e2, show n - k' = (n - 1 - k') + 1 by omega, lastC_yes e3])
    have HBX := Lib.hid hbx
    have HBY := Lib.hid hby
    have HKK := Lib.hid hK
    have HBW := Lib.hid hBW
    clear e1 e2 e3 e5 hbx hby hBW hK
    gi_wp2
    refine ⟨by simp, .inl ⟨_, _, rfl, run_takeDeferred HKK.out, ?_⟩⟩
    have hx1 := box_put HBX.out HKK.out rfl (.deferred none)
    have hx2 := box_put HBY.out HKK.out rfl (.deferred none)
    refine ⟨.tuple #[.agg (clk (kc l (n - 1 - k'))), .int .i64 0], res_cc Try.results15 rfl rfl hx1 ty28 (load_int hx2), by rw [HLC.out], ?_⟩
    exact HBW.out.trans (belowK_b (w := w) (Nat.le_refl _) _ D _ _ (by omega) HKK.out rfl rfl)
end Go.Proofs.Ytfmkbjgkicipcaa

import Derived.Test.YtnklpifnknmdgaaGreatDoorRows
import Derived.Test.YtnklpifnknmdgaaGreatDoorZTrace4
import Derived.Test.YtnklpifnknmdgaaGreatDoorZOr
import Derived.Laws.MakeOwn
import Derived.IntWalk
import Derived.Test.YtnklpifnknmdgaaGreatDoorZBs
import Derived.Test.YtnklpifnknmdgaaGreatDoorZTrace
import Derived.Test.YtnklpifnknmdgaaGreatDoorZKeepTw
set_option linter.all false
set_option maxRecDepth 100000
namespace Go.Proofs.YtnklpifnknmdgaaGreatDoor
open Go Go.RowKit

theorem aw_else {a b : Int} (h3 : (b == 3) = false) (h6 : (b == 6) = false) (h7 : (b == 7) = false) : awaited a b = false := by
  simp only [beq_eq_false_iff_ne] at h3 h6 h7
  unfold awaited; rw [if_neg h3, if_neg h6, if_neg h7]
theorem isAwaited_any (a b : Int) (w : World) : Calls Tryz.prog 191 #[.int .i64 a, .int .i64 b] w fun e w' => e = .returned (.bool (awaited a b)) ∧ w = w' := by
  cases h3 : (b == 3)
  · cases h6 : (b == 6)
    · cases h7 : (b == 7)
      · have HV := Lib.hid (aw_else (a := a) h3 h6 h7)
        go_enter Tryz.func191, Tryz.ntmps191
        go_wp2
        go_ret
        exact ⟨by rw [HV.out]; rfl, rfl⟩
      · obtain rfl := eq_of_beq h7
        go_enter Tryz.func191, Tryz.ntmps191
        go_wp2
        go_ret
        exact ⟨rfl, rfl⟩
    · obtain rfl := eq_of_beq h6
      go_enter Tryz.func191, Tryz.ntmps191
      go_wp2
      go_ret
      exact ⟨rfl, rfl⟩
  · obtain rfl := eq_of_beq h3
    go_enter Tryz.func191, Tryz.ntmps191
    go_wp2
    go_ret
    exact ⟨rfl, rfl⟩
theorem isIndex_any (i : Int) (A : Option Addr) (n c : Nat) (w : World) : Calls Tryz.prog 142 #[.int .i64 i, .slice A n c] w fun e w' => e = .returned (.bool (inB i n)) ∧ w = w' := by
  by_cases h0 : 0 ≤ i
  · by_cases h1 : i < n
    · have HV := Lib.hid (inB_yes h0 h1)
      go_enter Tryz.func142, Tryz.ntmps142
      go_wp2
      go_ret
      exact ⟨by rw [HV.out]; rfl, rfl⟩
    · have HV := Lib.hid (inB_no (n := i) (m := n) (by omega))
      go_enter Tryz.func142, Tryz.ntmps142
      go_wp2
      go_ret
      exact ⟨by rw [HV.out]; rfl, rfl⟩
  · have HV := Lib.hid (inB_no (n := i) (m := n) (by omega))
    go_enter Tryz.func142, Tryz.ntmps142
    go_wp2
    go_ret
    exact ⟨by rw [HV.out]; rfl, rfl⟩
set_option maxHeartbeats 4000000 in
theorem precedes_any (a b : Ev) (w : World) : Calls Tryz.prog 173 #[.agg (evv a), .agg (evv b)] w fun e w' => e = .returned (.bool (directly a b)) ∧ Below w.heap.size w w' := by
  have HD := Lib.hid (directly_eq a b)
  obtain ⟨b1, b2, hB, hs⟩ := boxes2 w (evv a) (evv b) 45 45
  generalize hW : ((w.alloc (.cells (evv a) 45)).alloc (.cells (evv b) 45)) = W at *
  have HB := Lib.hid hB
  clear hB hs
  have c0 := b1.cell 0 (v := .int .i64 a.k) rfl
  have c1 := b1.cell 1 (v := .int .i64 a.t) rfl
  have c2 := b1.cell 2 (v := .int .i64 a.o) rfl
  have d0 := b2.cell 0 (v := .int .i64 b.k) rfl
  have d1 := b2.cell 1 (v := .int .i64 b.t) rfl
  have d2 := b2.cell 2 (v := .int .i64 b.o) rfl
  clear b1 b2
  cases h1 : (a.t == b.t)
  · cases h2 : (a.k == 5)
    · cases h4 : (b.k == 6)
      · cases h6 : (a.o == b.o)
        · go_enter Tryz.func173, Tryz.ntmps173
          go_wp2_with (first | (go_at_call 191; (with_reducible refine (isAwaited_any _ _ _).mono ?_); rintro e w' ⟨rfl, rfl⟩))
          go_ret
          exact ⟨by rw [HD.out]; simp [h1, h2, h4, h6], HB.out⟩
        · go_enter Tryz.func173, Tryz.ntmps173
          go_wp2_with (first | (go_at_call 191; (with_reducible refine (isAwaited_any _ _ _).mono ?_); rintro e w' ⟨rfl, rfl⟩))
          go_ret
          exact ⟨by rw [HD.out]; simp [h1, h2, h4, h6], HB.out⟩
      · cases h5 : (b.o == a.t)
        · cases h6 : (a.o == b.o)
          · go_enter Tryz.func173, Tryz.ntmps173
            go_wp2_with (first | (go_at_call 191; (with_reducible refine (isAwaited_any _ _ _).mono ?_); rintro e w' ⟨rfl, rfl⟩))
            go_ret
            exact ⟨by rw [HD.out]; simp [h1, h2, h4, h5, h6], HB.out⟩
          · go_enter Tryz.func173, Tryz.ntmps173
            go_wp2_with (first | (go_at_call 191; (with_reducible refine (isAwaited_any _ _ _).mono ?_); rintro e w' ⟨rfl, rfl⟩))
            go_ret
            exact ⟨by rw [HD.out]; simp [h1, h2, h4, h5, h6], HB.out⟩
        · go_enter Tryz.func173, Tryz.ntmps173
          go_wp2_with (first | (go_at_call 191; (with_reducible refine (isAwaited_any _ _ _).mono ?_); rintro e w' ⟨rfl, rfl⟩))
          go_ret
          exact ⟨by rw [HD.out]; simp [h1, h2, h4, h5], HB.out⟩
    · cases h3 : (a.o == b.t)
      · cases h4 : (b.k == 6)
        · cases h6 : (a.o == b.o)
          · go_enter Tryz.func173, Tryz.ntmps173
            go_wp2_with (first | (go_at_call 191; (with_reducible refine (isAwaited_any _ _ _).mono ?_); rintro e w' ⟨rfl, rfl⟩))
            go_ret
            exact ⟨by rw [HD.out]; simp [h1, h2, h3, h4, h6], HB.out⟩
          · go_enter Tryz.func173, Tryz.ntmps173
            go_wp2_with (first | (go_at_call 191; (with_reducible refine (isAwaited_any _ _ _).mono ?_); rintro e w' ⟨rfl, rfl⟩))
            go_ret
            exact ⟨by rw [HD.out]; simp [h1, h2, h3, h4, h6], HB.out⟩
        · cases h5 : (b.o == a.t)
          · cases h6 : (a.o == b.o)
            · go_enter Tryz.func173, Tryz.ntmps173
              go_wp2_with (first | (go_at_call 191; (with_reducible refine (isAwaited_any _ _ _).mono ?_); rintro e w' ⟨rfl, rfl⟩))
              go_ret
              exact ⟨by rw [HD.out]; simp [h1, h2, h3, h4, h5, h6], HB.out⟩
            · go_enter Tryz.func173, Tryz.ntmps173
              go_wp2_with (first | (go_at_call 191; (with_reducible refine (isAwaited_any _ _ _).mono ?_); rintro e w' ⟨rfl, rfl⟩))
              go_ret
              exact ⟨by rw [HD.out]; simp [h1, h2, h3, h4, h5, h6], HB.out⟩
          · go_enter Tryz.func173, Tryz.ntmps173
            go_wp2_with (first | (go_at_call 191; (with_reducible refine (isAwaited_any _ _ _).mono ?_); rintro e w' ⟨rfl, rfl⟩))
            go_ret
            exact ⟨by rw [HD.out]; simp [h1, h2, h3, h4, h5], HB.out⟩
      · go_enter Tryz.func173, Tryz.ntmps173
        go_wp2_with (first | (go_at_call 191; (with_reducible refine (isAwaited_any _ _ _).mono ?_); rintro e w' ⟨rfl, rfl⟩))
        go_ret
        exact ⟨by rw [HD.out]; simp [h1, h2, h3], HB.out⟩
  · go_enter Tryz.func173, Tryz.ntmps173
    go_wp2_with (first | (go_at_call 191; (with_reducible refine (isAwaited_any _ _ _).mono ?_); rintro e w' ⟨rfl, rfl⟩))
    go_ret
    exact ⟨by rw [HD.out]; simp [h1], HB.out⟩
end Go.Proofs.YtnklpifnknmdgaaGreatDoor
set_option linter.all false
set_option maxRecDepth 100000
namespace Go.Proofs.YtnklpifnknmdgaaGreatDoor
open Go Go.RowKit

theorem TIx : RowTy Tryz.prog 199 80 := ⟨_, Tryz.underlying199, rfl, by kernel_rfl⟩
def orTo (g : Nat → Bool) (o : Nat) (h : Nat → Bool) (i : Nat) : Nat → Bool := fun x => if o ≤ x ∧ x < o + i then g x || h (x - o) else g x
theorem orTo_zero (g : Nat → Bool) (o : Nat) (h : Nat → Bool) : orTo g o h 0 = g := by
  funext x; unfold orTo; rw [if_neg (by omega)]
theorem orTo_at (g : Nat → Bool) (o : Nat) (h : Nat → Bool) (i : Nat) : orTo g o h i (o + i) = g (o + i) := by unfold orTo; rw [if_neg (by omega)]
theorem orTo_step (g : Nat → Bool) (o : Nat) (h : Nat → Bool) (i : Nat) (v : Bool) (hv : v = (g (o + i) || h i)) : updB (orTo g o h i) (o + i) v = orTo g o h (i + 1) := by
  funext x
  unfold updB orTo
  by_cases hx : x = o + i
  · subst hx
    rw [if_pos rfl, if_pos (by omega), hv, Nat.add_sub_cancel_left]
  · rw [if_neg hx]
    by_cases h2 : o ≤ x ∧ x < o + i
    · rw [if_pos h2, if_pos (by omega)]
    · rw [if_neg h2, if_neg (by omega)]
structure AddR (w : World) (B o N : Nat) (g h : Nat → Bool) (t : TypeId) (i : Nat) (wr : World) : Prop where
  box : Box wr B (bs N (orTo g o h i)) t
  grown : w.grownBy wr (some B)
theorem AddR.step {w : World} {B o N : Nat} {g h : Nat → Bool} {t : TypeId} {i : Nat} {wr : World} (r : AddR w B o N g h t i wr) (v : Bool) (hv : v = (g (o + i) || h i)) : AddR w B o N g h t (i + 1) (wr.drew.setCell ⟨B, o + i, none⟩ (.bool v)) := by
  have h1 := turned_set (W := wr.drew) (c := bs N (orTo g o h i)) (t := t) ⟨r.grown.os, r.grown.tape, r.grown.output, r.grown.size, r.grown.block⟩ r.box.drew (o + i) (.bool v) _ (bs_set _ _ _ _)
  rw [orTo_step g o h i v hv] at h1
  exact ⟨h1.1, h1.2⟩
set_option maxHeartbeats 4000000 in
theorem add_any (B o N : Nat) (g h : Nat → Bool) (t : TypeId) (w : World) (hb : Box w B (bs N g) t) (ho : o + 80 ≤ N) :
    Calls Tryz.prog 174 #[.pointer (some ⟨B, o, none⟩), .agg (bs 80 h)] w fun e w' => e = .returned (.tuple #[]) ∧ Turned w B (bs N (orTo g o h 80)) t w' := by
  have b0 := hb.old (.cells (bs 80 h) 199)
  obtain ⟨b1, hB, hs⟩ := boxes1 w (bs 80 h) 199
  have H0 := Lib.hid (AddR.mk (by rw [orTo_zero]; exact b0) ⟨hB.os, hB.tape, hB.output, hB.size, fun b hb _ => hB.block b hb⟩ : AddR w B o N g h t 0 (w.alloc (.cells (bs 80 h) 199)))
  generalize hW : w.alloc (.cells (bs 80 h) 199) = W at *
  clear hB hs hb b0
  have HI := Lib.hid (fun (k : Nat) (hk : k < 80) (w : World) => index_bs (P := Tryz.prog) Tryz.underlying199 Tryz.underlying4 (by kernel_rfl) h k hk w)
  go_enter Tryz.func174, Tryz.ntmps174
  go_wp2_with (refine loadT TIx _ rfl rfl rfl b1 (bs_size _ _) ?_)
  go_loopw [7] (fun t7 wr => ∃ i : Nat, i ≤ 80 ∧ t7 = .int .i64 i ∧ AddR w B o N g h t i wr) (fun t7 _ => 80 - (intOf t7).toNat)
  case atStart => exact ⟨0, by omega, rfl, H0.out⟩
  case round =>
    obtain ⟨i, hi, rfl, hr⟩ := hrel
    have HR := Lib.hid hr
    clear hr b1
    by_cases hlt : i < 80
    · have hlt' : (i : Int) < 80 := by omega
      have hI := HI.out i hlt
      have c1 : wr.cell? ⟨B, o + i, none⟩ = some (.bool (g (o + i))) := by rw [← orTo_at g o h i]; exact HR.out.box.cell _ (bs_get _ (by omega))
      have f1 := HR.out.box.frozen (o + i)
      cases hg : g (o + i)
      · rw [hg] at c1
        go_wp2
        go_still_tail 11, (by kernel_rfl)
        change wpList _ _ _ _ _ wr.drew
        go_wp2
        go_roundw
        case rel => exact ⟨i + 1, by omega, by go_num, HR.out.step (h i) (by rw [hg]; simp)⟩
        case measure => simp [intOf]; omega
      · rw [hg] at c1
        go_wp2
        go_still_tail 11, (by kernel_rfl)
        change wpList _ _ _ _ _ wr.drew
        go_wp2
        go_roundw
        case rel => exact ⟨i + 1, by omega, by go_num, HR.out.step true (by rw [hg]; simp)⟩
        case measure => simp [intOf]; omega
    · obtain rfl : i = 80 := by omega
      go_wp2
      go_end0
      exact ⟨rfl, HR.out.box, HR.out.grown⟩
end Go.Proofs.YtnklpifnknmdgaaGreatDoor
namespace Go.Proofs.YtnklpifnknmdgaaGreatDoor
open Go Go.RowKit

def doneC (l : List Ev) (k x : Nat) : Bool := if x / 80 < k then false else bef l (x / 80) (x % 80)
def halfC (l : List Ev) (a b x : Nat) : Bool := if x / 80 < a then false else if x / 80 = a then fol1 l a b (x % 80) else bef l (x / 80) (x % 80)
theorem halfC_start (l : List Ev) (a x : Nat) : doneC l (a + 1) x = halfC l a (a + 1) x := by
  unfold doneC halfC
  by_cases h1 : x / 80 < a
  · rw [if_pos (by omega), if_pos h1]
  · by_cases h2 : x / 80 = a
    · rw [if_pos (by omega), if_neg h1, if_pos h2, fol1_low (by omega)]
    · rw [if_neg (by omega), if_neg h1, if_neg h2]
theorem halfC_at (l : List Ev) (a b : Nat) (hb : b < 80) : halfC l a b (a * 80 + b) = fol1 l a b b := by
  have h1 : (a * 80 + b) / 80 = a := by omega
  have h2 : (a * 80 + b) % 80 = b := by omega
  unfold halfC
  rw [h1, h2, if_neg (by omega), if_pos rfl]
theorem halfC_same {l : List Ev} {a b : Nat} (h : ∀ c, fol1 l a (b + 1) c = fol1 l a b c) (x : Nat) : halfC l a b x = halfC l a (b + 1) x := by
  unfold halfC; rw [h]
theorem halfC_end (l : List Ev) (a x : Nat) : halfC l a l.length x = doneC l a x := by
  unfold doneC halfC
  by_cases h1 : x / 80 < a
  · rw [if_pos h1, if_pos h1]
  · rw [if_neg h1, if_neg h1]
    by_cases h2 : x / 80 = a
    · rw [if_pos h2, fol1_all, h2]
    · rw [if_neg h2]
theorem halfC_row {l : List Ev} {a b : Nat} (hab : a < b) (hb : b < 80) {c : Nat} (hc : c < 80) : updB (halfC l a b) (a * 80 + b) true (b * 80 + c) = bef l b c := by
  unfold updB halfC
  by_cases h : b * 80 + c = a * 80 + b
  · omega
  · have h1 : (b * 80 + c) / 80 = b := by omega
    have h2 : (b * 80 + c) % 80 = c := by omega
    rw [if_neg h, h1, h2, if_neg (by omega), if_neg (by omega)]
theorem halfC_new {l : List Ev} {a b : Nat} (hab : a < b) (hb : b < 80) (hd : dirB l a b = true) (g : Nat → Bool) (hg : ∀ c, c < 80 → g c = bef l b c) (x : Nat) :
    orTo (updB (halfC l a b) (a * 80 + b) true) (a * 80) g 80 x = halfC l a (b + 1) x := by
  unfold orTo
  by_cases h : a * 80 ≤ x ∧ x < a * 80 + 80
  · rw [if_pos h]
    have h1 : x / 80 = a := by omega
    have h2 : x % 80 = x - a * 80 := by omega
    rw [hg _ (by omega)]
    by_cases h3 : x = a * 80 + b
    · unfold updB halfC
      rw [if_pos h3, h1, h2, if_neg (Nat.lt_irrefl a), if_pos rfl, fol1_new hd, if_pos (by omega)]
    · unfold updB halfC
      rw [if_neg h3, h1, h2, if_neg (Nat.lt_irrefl a), if_pos rfl, if_neg (Nat.lt_irrefl a), if_pos rfl, fol1_new hd, if_neg (by omega)]
  · rw [if_neg h]
    have h1 : x / 80 ≠ a := by omega
    unfold updB halfC
    rw [if_neg (by omega)]
    by_cases h2 : x / 80 < a
    · rw [if_pos h2, if_pos h2]
    · rw [if_neg h2, if_neg h2, if_neg h1, if_neg h1]
theorem ix_info : (Tryz.prog.info? 199).map (fun i => (i.zero, i.size, i.bytes)) = some (some (.agg (Array.replicate 80 (.bool false))), 80, 80) := by kernel_rfl
theorem made_bs (m n : Nat) (hn : 0 < n) : madeCells (Array.replicate n (Value.bool false)) m = bs m (fun _ => false) := by
  apply Array.ext
  · simp [madeCells, bs_size]
  · intro i h1 h2
    have h3 : i < m := by simpa [madeCells] using h1
    have h4 := bs_get (n := m) (fun _ => false) h3
    rw [Array.getElem?_eq_getElem h2] at h4
    rw [Option.some.inj h4]
    simp [madeCells, Nat.mod_lt _ hn]
section
variable {ops : Array Oper} {rest : List Oper} {o : Oper} {a : Act} {w : World} {Q : Exit → Act → World → Prop}
theorem makeIx (l c : Operand) (ho : o.op = .makeSlice 200 l c) (hg : o.guard = none) (n : Nat) (hn : n ≤ 1000000) (hl : a.eval l = .int .i64 n) (hc : a.eval c = .int .i64 n)
    (h : wpList Tryz.prog ops Q rest (a.put o.dst (.slice (some ⟨w.heap.size, 0, none⟩) n n)) (w.alloc (.cells (bs (n * 80) (fun _ => false)) 199))) : wpList Tryz.prog ops Q (o :: rest) a w := by
  obtain ⟨i, hi, hz, hs, hb⟩ := info_parts ix_info
  have hr := run_make (P := Tryz.prog) w 200 199 i _ Tryz.underlying200 hi hz .i64 .i64 n n (by omega) (by omega) (by rw [hb]; omega) (by omega)
  rw [hs, Int.toNat_natCast, show (Value.agg (Array.replicate 80 (Value.bool false))).cells = Array.replicate 80 (Value.bool false) from rfl, made_bs _ _ (by omega)] at hr
  refine wpList_plain hg fun _ hK => ?_
  unfold Oper.wp execOp
  simp only [ho, hl, hc, Sem.run_bind, hr, Result.andThen_ok, Sem.run_pure]
  exact hK _ _ h
end
theorem s_load_mid {P : Program} {ops : Array Oper} {w : World} {Q : Act → Prop} {a : Act} {o : Oper} {rest : List Oper} (ty : TypeId) (x : Operand) (ho : o.op = .load ty x) (hgd : o.guard = none) {b off : Nat} (hx : a.eval x = .pointer (some ⟨b, off, none⟩)) {cs : List Value} (hr : w.rangeAt b off cs)
    (hT : RowTy P ty cs.length) (c : Array Value) (hc : cs.toArray = c) (h : wpStill P ops w Q rest (a.put o.dst (.agg c))) : wpStill P ops w Q (o :: rest) a := by
  subst hc
  obtain ⟨d, hu, hd, hi⟩ := hT
  have hw : Region.wanted o (yielded ops a.tmps) = true := by unfold Region.wanted; rw [hgd]
  unfold wpStill
  rw [hw, if_pos rfl]
  unfold Oper.still execOp
  simp only [ho, hx, Instr.loadAt, Instr.sureAddr, Sem.run_bind, Sem.run_pure, Result.andThen_ok, run_loadVar_mid w b off ty cs d hr hu hd hi]
  exact ⟨rfl, h⟩
structure FolR (w : World) (n : Nat) (g : Nat → Bool) (wr : World) : Prop where
  box : Box wr w.heap.size (bs (n * 80) g) 199
  below : Below w.heap.size w wr
theorem FolR.congr {w : World} {n : Nat} {g g' : Nat → Bool} {wr : World} (h : FolR w n g wr) (e : ∀ x, g x = g' x) : FolR w n g' wr := by
  have : g = g' := funext e
  subst this; exact h
theorem FolR.bel {w : World} {n : Nat} {g : Nat → Bool} {wr w' : World} (h : FolR w n g wr) (hb : Bel wr w') : FolR w n g w' := ⟨hb.box h.box, h.below.trans (hb.out.mono h.below.size)⟩
theorem FolR.turned {w : World} {n : Nat} {g g' : Nat → Bool} {wr w' : World} (h : FolR w n g wr) (ht : Turned wr w.heap.size (bs (n * 80) g') 199 w') : FolR w n g' w' :=
  ⟨ht.1, h.below.grown ht.2 h.below.size (by intro k hk; cases hk; exact Nat.le_refl _)⟩
theorem FolR.set {w : World} {n : Nat} {g : Nat → Bool} {wr : World} (h : FolR w n g wr) (j : Nat) (v : Bool) : FolR w n (updB g j v) (wr.setCell ⟨w.heap.size, j, none⟩ (.bool v)) :=
  ⟨by have := h.box.set j (.bool v); rwa [bs_set] at this, h.below.setCell (Nat.le_refl _) _⟩
theorem doneC_none {l : List Ev} {n : Nat} (hn : l.length = n) (x : Nat) : false = doneC l n x := by
  unfold doneC
  split
  · rfl
  · rename_i h
    symm
    rw [← Bool.not_eq_true]; intro hb; have := bef_lt hb; omega
def FolPost (w : World) (l : List Ev) (n : Nat) (e : Ending) (w' : World) : Prop := e = .returned (.slice (some ⟨w.heap.size, 0, none⟩) n n) ∧ FolR w n (doneC l 0) w'
set_option maxHeartbeats 8000000 in
theorem followers_any (A : Option Addr) (n c : Nat) (l : List Ev) (w : World) (hl : Sl w A n l) (hn : n ≤ 80) : Calls Tryz.prog 143 #[.slice A n c] w (FolPost w l n) := by
  have HL := Lib.hid hl
  have hw0 := Bel.refl w
  have H0 := Lib.hid (FolR.congr (g' := doneC l n) (FolR.mk (Box.new w _ _) (hw0.alloc _).out : FolR w n (fun _ => false) (w.alloc (.cells (bs (n * 80) (fun _ => false)) 199))) (doneC_none hl.1))
  have f0 : IntKind.i64.wrap ((n : Int) - 1) = n - 1 := IntWalk.i64_in _ (by omega)
  clear hl hw0
  generalize hW : w.alloc (.cells (bs (n * 80) (fun _ => false)) 199) = w1 at *
  go_enter Tryz.func143, Tryz.ntmps143
  go_wp2_with (refine makeIx _ _ rfl rfl n (by omega) rfl rfl ?_)
  go_loopw [4] (fun t4 wr => ∃ (k : Nat) (z : Int), k ≤ n ∧ z = (k : Int) - 1 ∧ t4 = .int .i64 z ∧ FolR w n (doneC l k) wr) (fun t4 _ => (intOf t4 + 1).toNat)
  case atStart => exact ⟨n, _, Nat.le_refl _, rfl, rfl, H0.out⟩
  case round =>
    obtain ⟨k, z, hk, hz, rfl, hr⟩ := hrel
    have HR := Lib.hid hr
    clear hr H0 hW f0
    by_cases h0 : k = 0
    · subst h0
      obtain rfl : z = -1 := by omega
      clear hz hk
      go_wp2
      go_ret
      exact ⟨rfl, HR.out⟩
    · obtain ⟨a, rfl⟩ : ∃ a, k = a + 1 := ⟨k - 1, by omega⟩
      obtain rfl : z = a := by omega
      clear hz h0
      have ha : (a : Int) < n := by omega
      have ha0 : (0 : Int) ≤ (a : Int) := by omega
      obtain ⟨bb, off, ea, rfl, hbb, hea, hra⟩ := HL.out.at_ (show a < n by omega)
      have HEA := Lib.hid hea
      have HRA := Lib.hid (fun (w' : World) (h : Bel w w') => rangeAt_below h.out hbb hra)
      have HI := Lib.hid (FolR.congr HR.out (halfC_start l a))
      have f1 : IntKind.i64.wrap ((a : Int) - 1) = a - 1 := IntWalk.i64_in _ (by omega)
      have F1 := Lib.hid f1
      clear hea hra f1
      go_wp2
      go_loopw [5] (fun t5 wr => ∃ b : Nat, a < b ∧ b ≤ n ∧ t5 = .int .i64 b ∧ FolR w n (halfC l a b) wr) (fun t5 _ => n - (intOf t5).toNat)
      case atStart => exact ⟨a + 1, by omega, by omega, by go_num, HI.out⟩
      case round =>
        obtain ⟨b, hab, hb, rfl, hr⟩ := hrel
        have HR2 := Lib.hid hr
        clear hr HI HR
        by_cases hlt : b < n
        · have hb' : (b : Int) < n := by omega
          have hb0 : (0 : Int) ≤ (b : Int) := by omega
          have hb80 : (b : Int) < 80 := by omega
          obtain ⟨eb, heb⟩ : ∃ eb, l[b]? = some eb := ⟨_, List.getElem?_eq_getElem (by rw [HL.out.1]; exact hlt)⟩
          have hdir := dirB_at HEA.out heb
          rw [decide_eq_true hab, Bool.true_and] at hdir
          have hbw := Bel.of HR2.out.below
          have HRA2 := Lib.hid (fun (w' : World) (h : Bel wr w') => HRA.out w' (hbw.trans h))
          have HRB2 := Lib.hid (fun (w' : World) (h : Bel wr w') => rangeAt_below (hbw.trans h).out hbb (HL.out.rng hlt heb).2)
          have c1 : wr.cell? ⟨w.heap.size, a * 80 + b, none⟩ = some (.bool (fol1 l a b b)) := by rw [← halfC_at l a b (by omega)]; exact HR2.out.box.cell _ (bs_get _ (by omega))
          have HF := Lib.hid (fun (w' : World) (h : Bel wr w') => h.cell c1)
          clear heb hbw c1
          cases hin : fol1 l a b b
          · rw [hin] at HF
            have F := HF.out
            cases hd : directly ea eb
            · have HS := Lib.hid (fol1_out (hdir.trans hd))
              clear hdir
              go_wp2
              (refine region_bel (by kernel_rfl) (by kernel_rfl) ?_; (repeat (first | ((with_reducible refine BigFrame.wpQuiet_skip ?_ ?_); exact rfl; simp only [Act.put, Act.eval, List.setIfInBounds_toArray, List.set_cons_zero, List.set_cons_succ, Array.getD_eq_getD_getElem?, List.getElem?_toArray, List.getElem?_cons_zero, List.getElem?_cons_succ, Option.getD_some]) | (refine q_move _ rfl rfl ?_; simp only [Act.put, Act.eval, List.setIfInBounds_toArray, List.set_cons_zero, List.set_cons_succ, Array.getD_eq_getD_getElem?, List.getElem?_toArray, List.getElem?_cons_zero, List.getElem?_cons_succ, Option.getD_some]) | (refine q_assign _ rfl rfl ?_; simp only [Act.put, Act.eval, List.setIfInBounds_toArray, List.set_cons_zero, List.set_cons_succ, Array.getD_eq_getD_getElem?, List.getElem?_toArray, List.getElem?_cons_zero, List.getElem?_cons_succ, Option.getD_some]) | (refine q_load_mid _ _ rfl rfl rfl HRA2.out T36 (evv ea) rfl ?_; simp only [Act.put, Act.eval, List.setIfInBounds_toArray, List.set_cons_zero, List.set_cons_succ, Array.getD_eq_getD_getElem?, List.getElem?_toArray, List.getElem?_cons_zero, List.getElem?_cons_succ, Option.getD_some]) | (refine q_load_mid _ _ rfl rfl rfl HRB2.out T36 (evv eb) rfl ?_; simp only [Act.put, Act.eval, List.setIfInBounds_toArray, List.set_cons_zero, List.set_cons_succ, Array.getD_eq_getD_getElem?, List.getElem?_toArray, List.getElem?_cons_zero, List.getElem?_cons_succ, Option.getD_some]) | (refine q_any rfl ?_; apply Exists.intro; refine ⟨fun w hw => ?_, ?_⟩; (have fct0 := F w hw; go_simp; first | exact ⟨rfl, rfl⟩ | rfl | (go_at_call 173; (with_reducible refine (precedes_any ea eb _).mono ?_); rintro e w' ⟨rfl, hb⟩; exact ⟨rfl, hw.call hb⟩)); simp only [Act.put, Act.eval, List.setIfInBounds_toArray, List.set_cons_zero, List.set_cons_succ, Array.getD_eq_getD_getElem?, List.getElem?_toArray, List.getElem?_cons_zero, List.getElem?_cons_succ, Option.getD_some]))); refine wpQuiet_nil ?_; intro w2 hw2)
              have HW2 := Lib.hid hw2
              clear hw2
              go_wp2
              go_roundw
              case rel => exact ⟨b + 1, by omega, by omega, by go_num, (HR2.out.bel HW2.out).congr (halfC_same HS.out)⟩
              case measure => simp [intOf]; omega
            · have HDR := Lib.hid (hdir.trans hd)
              clear hdir
              go_wp2
              (refine region_bel (by kernel_rfl) (by kernel_rfl) ?_; (repeat (first | ((with_reducible refine BigFrame.wpQuiet_skip ?_ ?_); exact rfl; simp only [Act.put, Act.eval, List.setIfInBounds_toArray, List.set_cons_zero, List.set_cons_succ, Array.getD_eq_getD_getElem?, List.getElem?_toArray, List.getElem?_cons_zero, List.getElem?_cons_succ, Option.getD_some]) | (refine q_move _ rfl rfl ?_; simp only [Act.put, Act.eval, List.setIfInBounds_toArray, List.set_cons_zero, List.set_cons_succ, Array.getD_eq_getD_getElem?, List.getElem?_toArray, List.getElem?_cons_zero, List.getElem?_cons_succ, Option.getD_some]) | (refine q_assign _ rfl rfl ?_; simp only [Act.put, Act.eval, List.setIfInBounds_toArray, List.set_cons_zero, List.set_cons_succ, Array.getD_eq_getD_getElem?, List.getElem?_toArray, List.getElem?_cons_zero, List.getElem?_cons_succ, Option.getD_some]) | (refine q_load_mid _ _ rfl rfl rfl HRA2.out T36 (evv ea) rfl ?_; simp only [Act.put, Act.eval, List.setIfInBounds_toArray, List.set_cons_zero, List.set_cons_succ, Array.getD_eq_getD_getElem?, List.getElem?_toArray, List.getElem?_cons_zero, List.getElem?_cons_succ, Option.getD_some]) | (refine q_load_mid _ _ rfl rfl rfl HRB2.out T36 (evv eb) rfl ?_; simp only [Act.put, Act.eval, List.setIfInBounds_toArray, List.set_cons_zero, List.set_cons_succ, Array.getD_eq_getD_getElem?, List.getElem?_toArray, List.getElem?_cons_zero, List.getElem?_cons_succ, Option.getD_some]) | (refine q_any rfl ?_; apply Exists.intro; refine ⟨fun w hw => ?_, ?_⟩; (have fct0 := F w hw; go_simp; first | exact ⟨rfl, rfl⟩ | rfl | (go_at_call 173; (with_reducible refine (precedes_any ea eb _).mono ?_); rintro e w' ⟨rfl, hb⟩; exact ⟨rfl, hw.call hb⟩)); simp only [Act.put, Act.eval, List.setIfInBounds_toArray, List.set_cons_zero, List.set_cons_succ, Array.getD_eq_getD_getElem?, List.getElem?_toArray, List.getElem?_cons_zero, List.getElem?_cons_succ, Option.getD_some]))); refine wpQuiet_nil ?_; intro w2 hw2)
              have HR3 := Lib.hid (HR2.out.bel hw2)
              have f3 := HR3.out.box.frozen (a * 80 + b)
              have n3 : (w2.cell? ⟨w.heap.size, a * 80 + b, none⟩) = some (.bool (halfC l a b (a * 80 + b))) := HR3.out.box.cell _ (bs_get _ (by omega))
              have HR4 := Lib.hid (HR3.out.set (a * 80 + b) true)
              clear hw2
              have HP := Lib.hid (HR4.out.box.drew.part (b * 80) 80 (by omega))
              go_wp2
              refine wp_region_still_tail 7 (by kernel_rfl) (by kernel_rfl) ?_
              simp only [List.take_succ_cons, List.take_zero, List.drop_succ_cons, List.drop_zero]
              still_step
              still_step
              still_step
              still_step
              still_step
              still_step
              refine s_load_mid _ _ rfl rfl rfl HP.out (by rw [bsl_length]; exact TIx) (bs 80 _) rfl ?_
              refine wpStill_nil ?_
              simp only [Act.put, Act.eval, List.setIfInBounds_toArray, List.set_cons_zero, List.set_cons_succ, Array.getD_eq_getD_getElem?, List.getElem?_toArray, List.getElem?_cons_zero, List.getElem?_cons_succ, Option.getD_some]
              have HR5 := Lib.hid (HR4.out.bel (Bel.refl _).drew)
              change wpList _ _ _ _ _ (World.drew _)
              go_wp2_with fail
              refine (add_any w.heap.size (a * 80) (n * 80) _ _ _ _ HR5.out.box (by omega)).mono ?_
              rintro e w3 ⟨rfl, ht⟩
              have HX := Lib.hid ((HR5.out.turned ht).congr (halfC_new hab (by omega) HDR.out _ (fun c hc => halfC_row hab (by omega) hc)))
              clear ht
              go_wp2
              go_roundw
              case rel => exact ⟨b + 1, by omega, by omega, by go_num, HX.out⟩
              case measure => simp [intOf]; omega
          · have HS := Lib.hid (fol1_in hin)
            clear hdir
            rw [hin] at HF
            have F := HF.out
            go_wp2
            (refine region_bel (by kernel_rfl) (by kernel_rfl) ?_; (repeat (first | ((with_reducible refine BigFrame.wpQuiet_skip ?_ ?_); exact rfl; simp only [Act.put, Act.eval, List.setIfInBounds_toArray, List.set_cons_zero, List.set_cons_succ, Array.getD_eq_getD_getElem?, List.getElem?_toArray, List.getElem?_cons_zero, List.getElem?_cons_succ, Option.getD_some]) | (refine q_move _ rfl rfl ?_; simp only [Act.put, Act.eval, List.setIfInBounds_toArray, List.set_cons_zero, List.set_cons_succ, Array.getD_eq_getD_getElem?, List.getElem?_toArray, List.getElem?_cons_zero, List.getElem?_cons_succ, Option.getD_some]) | (refine q_assign _ rfl rfl ?_; simp only [Act.put, Act.eval, List.setIfInBounds_toArray, List.set_cons_zero, List.set_cons_succ, Array.getD_eq_getD_getElem?, List.getElem?_toArray, List.getElem?_cons_zero, List.getElem?_cons_succ, Option.getD_some]) | (refine q_any rfl ?_; apply Exists.intro; refine ⟨fun w hw => ?_, ?_⟩; (have fct0 := F w hw; go_simp; first | exact ⟨rfl, rfl⟩ | rfl); simp only [Act.put, Act.eval, List.setIfInBounds_toArray, List.set_cons_zero, List.set_cons_succ, Array.getD_eq_getD_getElem?, List.getElem?_toArray, List.getElem?_cons_zero, List.getElem?_cons_succ, Option.getD_some]))); refine wpQuiet_nil ?_; intro w2 hw2)
            have HW2 := Lib.hid hw2
            clear hw2
            go_wp2
            go_roundw
            case rel => exact ⟨b + 1, by omega, by omega, by go_num, (HR2.out.bel HW2.out).congr (halfC_same HS.out)⟩
            case measure => simp [intOf]; omega
        · obtain rfl : b = n := by omega
          have HE := Lib.hid (HR2.out.congr (g' := doneC l a) (fun x => by have := halfC_end l a x; rw [HL.out.1] at this; exact this))
          have f1 := F1.out
          go_wp2
          go_roundw
          case rel => exact ⟨a, _, by omega, rfl, rfl, HE.out⟩
          case measure => simp [intOf]
end Go.Proofs.YtnklpifnknmdgaaGreatDoor

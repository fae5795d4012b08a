/- Contract of the reference's Rank. -/
import Derived.Test.YtoaehoildnanpaaRfR
import Derived.Test.YtoaehoildnanpaaGrow
set_option linter.all false
set_option maxRecDepth 100000
namespace Go.Proofs.Ytoaehoildnanpaa
open Go Go.RowKit

def five (f : Nat → Nat) : Array Value := #[.int .i64 (f 0), .int .i64 (f 1), .int .i64 (f 2), .int .i64 (f 3), .int .i64 (f 4)]
theorem five_zero : #[Value.int .i64 0, .int .i64 0, .int .i64 0, .int .i64 0, .int .i64 0] = five fun _ => 0 := rfl
theorem five_get (f : Nat → Nat) (k : Nat) (h : k < 5) : (five f)[k]? = some (.int .i64 (f k)) := by
  match k, h with
  | 0, _ => rfl
  | 1, _ => rfl
  | 2, _ => rfl
  | 3, _ => rfl
  | 4, _ => rfl
def upd5 (f : Nat → Nat) (k x : Nat) : Nat → Nat := fun j => if j = k then x else f j
theorem five_set (f : Nat → Nat) (k x : Nat) (h : k < 5) : (five f).setIfInBounds k (.int .i64 x) = five (upd5 f k x) := by
  match k, h with
  | 0, _ => rfl
  | 1, _ => rfl
  | 2, _ => rfl
  | 3, _ => rfl
  | 4, _ => rfl
theorem five_list (f : Nat → Nat) : (five f).toList = intq (toI ((List.range 5).map f)) := rfl
def isC (P : Nat → Nat → Bool) (r : List Nat) (k : Nat) : Bool := (List.range k).all fun i => P (at0 r i) (at0 r (i + 1))
theorem isC_succ (P : Nat → Nat → Bool) (r : List Nat) (k : Nat) : isC P r (k + 1) = (isC P r k && P (at0 r k) (at0 r (k + 1))) := by
  unfold isC; rw [List.range_succ, List.all_append]; simp
def isCh (P : Nat → Nat → Bool) (r : List Nat) : Bool := isC P r (r.length - 1)
def lastL (r : List Nat) : Nat := at0 r (r.length - 1)
structure RkR (P : Nat → Nat → Bool) (D : List (List Nat)) (f : Nat → Nat) : Prop where
  some : ∀ k, f k = 0 ∨ ∃ s ∈ D, isCh P s = true ∧ lastL s = k ∧ s.length = f k + 1
  all : ∀ s ∈ D, isCh P s = true → s.length ≤ f (lastL s) + 1
theorem RkR.zero (P : Nat → Nat → Bool) : RkR P [] fun _ => 0 := ⟨fun _ => .inl rfl, fun s h => by cases h⟩
theorem RkR.no {P : Nat → Nat → Bool} {D : List (List Nat)} {f : Nat → Nat} {r : List Nat} (h : RkR P D f) (hr : isCh P r = false) : RkR P (D ++ [r]) f := by
  refine ⟨fun k => (h.some k).imp id fun ⟨s, h1, h2⟩ => ⟨s, List.mem_append.2 (.inl h1), h2⟩, fun s hs hc => ?_⟩
  rcases List.mem_append.1 hs with hs | hs
  · exact h.all s hs hc
  · obtain rfl := List.mem_singleton.1 hs
    rw [hr] at hc; cases hc
theorem RkR.yes {P : Nat → Nat → Bool} {D : List (List Nat)} {f : Nat → Nat} {r : List Nat} {m x : Nat} (h : RkR P D f) (hr : isCh P r = true) (hl : r.length = m + 1) (hx : x = max (f (lastL r)) m) : RkR P (D ++ [r]) (upd5 f (lastL r) x) := by
  refine ⟨fun k => ?_, fun s hs hc => ?_⟩
  · unfold upd5
    split
    · rename_i hk
      subst hk
      rcases Nat.le_total m (f (lastL r)) with hm | hm
      · rw [hx, Nat.max_eq_left hm]
        exact (h.some _).imp id fun ⟨s, h1, h2⟩ => ⟨s, List.mem_append.2 (.inl h1), h2⟩
      · rw [hx, Nat.max_eq_right hm]
        exact .inr ⟨r, List.mem_append.2 (.inr (List.mem_singleton.2 rfl)), hr, rfl, hl⟩
    · exact (h.some _).imp id fun ⟨s, h1, h2⟩ => ⟨s, List.mem_append.2 (.inl h1), h2⟩
  · unfold upd5
    rcases List.mem_append.1 hs with hs | hs
    · have h1 := h.all s hs hc
      split
      · rename_i hk
        rw [hk] at h1; rw [hx]
        have := Nat.le_max_left (f (lastL r)) m
        omega
      · exact h1
    · obtain rfl := List.mem_singleton.1 hs
      rw [if_pos rfl, hl, hx]
      have := Nat.le_max_right (f (lastL s)) m
      omega
/-- The rows that have been looked at: all of up to m locks, and i of the next. -/
def allL (m i : Nat) : List (List Nat) := ((List.range m).flatMap fun j => rowsL (j + 1)) ++ (rowsL (m + 1)).take i
theorem allL_succ {m i : Nat} {r : List Nat} (h : (rowsL (m + 1))[i]? = some r) : allL m (i + 1) = allL m i ++ [r] := by
  obtain ⟨hi, h⟩ := List.getElem?_eq_some_iff.1 h
  unfold allL; rw [List.take_succ_eq_append_getElem hi, h, List.append_assoc]
theorem allL_next {m n : Nat} (h : (rowsL (m + 1)).length = n) : allL m n = allL (m + 1) 0 := by
  unfold allL; rw [← h, List.take_length, List.range_succ, List.flatMap_append]; simp
theorem Rws.at_ {w : World} {base N c : Nat} {A : Option Addr} {L : List (List Nat)} {xs : List Value} (h : Rws w base (.slice A N c) L xs) {i : Nat} {x : Value} (hx : xs[i]? = some x) : ∃ b o, A = some ⟨b, o, none⟩ ∧ w.cell? ⟨b, o + i, none⟩ = some x := by
  obtain ⟨A', c', e, h'⟩ := h.sl
  obtain ⟨rfl, _, _⟩ : A = A' ∧ N = L.length ∧ c = c' := by simpa using e
  exact h' i x hx
theorem own_set {w : World} {base : Nat} {t : TypeId} {size n : Nat} {v : Value} {xs : List Value} (h : w.ownsRow base t size v n xs) {B : Nat} (hB : B < base) (k : Nat) (u : Value) : (w.setCell ⟨B, k, none⟩ u).ownsRow base t size v n xs :=
  own_keep h fun g hg hlt => by
    have := own_block_ge h g hg
    exact heap_setCell_other w ⟨B, k, none⟩ g u (by show g ≠ B; omega)
theorem Rws.set {w : World} {base : Nat} {v : Value} {L : List (List Nat)} {xs : List Value} (h : Rws w base v L xs) {B : Nat} (hB : B < base) (k : Nat) (u : Value) : Rws (w.setCell ⟨B, k, none⟩ u) base v L xs :=
  ⟨h.len, own_set h.own hB k u, h.one, fun i r x h1 h2 => own_set (h.row i r x h1 h2) hB k u⟩
def RankA (l : List (Int × Int)) (q : List Nat) (c : Int) : Prop :=
  (l.any qbad = true ∧ q = [] ∧ c = 1) ∨ (l.any qbad = false ∧ (∃ r, RingR (Pq l) r ∧ r ≠ []) ∧ q = [] ∧ c = 5) ∨
    (l.any qbad = false ∧ RingR (Pq l) [] ∧ c = 0 ∧ ∃ f, RkR (Pq l) (allL 5 0) f ∧ q = (List.range 5).map f)
def RfKPost (w : World) (l : List (Int × Int)) (e : Ending) (w' : World) : Prop :=
  ∃ v q c, e = .returned (.tuple #[v, .int .i64 c]) ∧ RankA l q c ∧ w'.ownsRow w.heap.size 3 1 v q.length (intq (toI q)) ∧ Below w.heap.size w w'
theorem made_five : madeCells #[Value.int .i64 0] 5 = five fun _ => 0 := by
  apply Array.ext
  · simp [madeCells, five]
  · intro i h1 h2
    have h3 : i < 5 := by simpa [five] using h2
    match i, h3 with
    | 0, _ => simp [madeCells, five]
    | 1, _ => simp [madeCells, five]
    | 2, _ => simp [madeCells, five]
    | 3, _ => simp [madeCells, five]
    | 4, _ => simp [madeCells, five]
theorem makeFive {ops : Array Oper} {rest : List Oper} {o : Oper} {a : Act} {w : World} {Q : Exit → Act → World → Prop} (l c : Operand) (ho : o.op = .makeSlice 34 l c) (hg : o.guard = none) (hl : a.eval l = .int .i64 5) (hc : a.eval c = .int .i64 5)
    (h : wpList Try.prog ops Q rest (a.put o.dst (.slice (some ⟨w.heap.size, 0, none⟩) 5 5)) (w.alloc (.cells (five fun _ => 0) 3))) : wpList Try.prog ops Q (o :: rest) a w := by
  obtain ⟨i, hi, hz, hs, hb⟩ := info_parts qint_info
  have hr := run_make (P := Try.prog) w 34 3 i _ Try.underlying34 hi hz .i64 .i64 5 5 (by omega) (by omega) (by rw [hb]; omega) (by omega)
  rw [hs, show Int.toNat 5 * 1 = 5 from rfl, show (Value.int .i64 0).cells = #[Value.int .i64 0] from rfl, made_five] at hr
  refine wpList_plain hg fun _ hK => ?_
  unfold Oper.wp execOp
  simp only [ho, hl, hc, Sem.run_bind, hr, Result.andThen_ok, Sem.run_pure]
  exact hK _ _ h
theorem hasp_two (A : Option Addr) (n c : Nat) (l : List (Int × Int)) (a b : Int) (w : World) (h : SlQ w A n l) (hm : n ≤ 9223372036854775807) :
    Calls Try.prog 24 #[.slice A n c, .agg #[.int .i64 a, .int .i64 b]] w fun e w' => e = .returned (.bool (decide ((a, b) ∈ l))) ∧ Below w.heap.size w w' := hasp_any A n c l (a, b) w h hm
set_option maxHeartbeats 16000000 in
theorem refrank_any (A : Option Addr) (n c : Nat) (l : List (Int × Int)) (w : World) (h : SlQ w A n l) (hm : n ≤ maxLen) : Calls Try.prog 21 #[.slice A n c] w (RfKPost w l) := by
  have HM := Lib.hid hm
  have HL := Lib.hid h
  clear h hm
  go_enter Try.func21, Try.ntmps21
  go_wp2_with fail
  refine (refring_any A n c l w HL.out HM.out).mono ?_
  rintro e w1 ⟨v1, r0, c0, rfl, hra, hr0, hb1⟩
  have HB1 := Lib.hid (Bel.of hb1)
  clear hb1
  obtain ⟨A1, c1, rfl⟩ := own_form hr0
  clear hr0
  rcases hra with ⟨g1, rfl, rfl⟩ | ⟨g1, rfl, g2⟩
  · have HA := Lib.hid (show RankA l [] 1 from .inl ⟨g1, rfl, rfl⟩)
    clear g1
    go_wp2
    go_ret2
    exact ⟨_, [], 1, rfl, HA.out, World.ownsRow_nil _ _ _ _, HB1.out⟩
  · by_cases h0 : 0 < r0.length
    · have HA := Lib.hid (show RankA l [] 5 from .inr (.inl ⟨g1, ⟨r0, g2, fun hh => by subst hh; simp at h0⟩, rfl, rfl⟩))
      clear g1 g2
      have h0' : (0 : Int) < r0.length := by omega
      go_wp2
      go_ret2
      exact ⟨_, [], 5, rfl, HA.out, World.ownsRow_nil _ _ _ _, HB1.out⟩
    · have hr : r0 = [] := List.eq_nil_of_length_eq_zero (by omega)
      subst hr
      have G1 := Lib.hid g1
      have G2 := Lib.hid g2
      clear g1 g2 h0
      have HX0 := Lib.hid (Box.new w1 (five fun _ => 0) 3)
      have HW0 := Lib.hid (HB1.out.alloc (.cells (five fun _ => 0) 3))
      have HK0 := Lib.hid (show RkR (Pq l) (allL 0 0) fun _ => 0 from RkR.zero _)
      have HGE := Lib.hid (Bel.size HB1.out)
      go_wp2_with (refine makeFive _ _ rfl rfl rfl rfl ?_)
      generalize hB : w1.heap.size = B at *
      have hm' := HM.out
      unfold maxLen at hm'
      clear hB
      go_loopw [7] (fun t wq => ∃ (m : Nat) (f : Nat → Nat), m ≤ 5 ∧ t = .int .i64 ((m : Int) + 1) ∧ RkR (Pq l) (allL m 0) f ∧ Box wq B (five f) 3 ∧ Bel w wq) (fun t _ => 6 - (intOf t).toNat)
      case atStart => exact ⟨0, fun _ => 0, by omega, rfl, HK0.out, HX0.out, HW0.out⟩
      case round =>
        obtain ⟨m, f, hm5, rfl, hk, hx, hbq⟩ := hrel
        have HK := Lib.hid hk
        have HX := Lib.hid hx
        have HBQ := Lib.hid hbq
        clear hk hbq HK0
        by_cases hlm : m < 5
        · have hlm' : (m : Int) + 1 ≤ 5 := by omega
          have HLN := Lib.hid (rowsL_len (m + 1) (by omega))
          obtain ⟨base, hbase⟩ : ∃ b, b = wr.heap.size := ⟨_, rfl⟩
          have HBB := Lib.hid (show B < base by rw [hbase]; exact hx.lt)
          clear hx
          go_wp2_with fail
          refine (rows_any (m + 1) _ _ (by omega) (by push_cast; rfl)).mono ?_
          rintro e w2 ⟨v2, xs2, rfl, hr2, hb2⟩
          rw [← hbase] at hr2
          have HR2 := Lib.hid hr2
          have HX2 := Lib.hid (HX.out.bel (Bel.of hb2))
          have HB2 := Lib.hid (HBQ.out.call hb2)
          obtain ⟨A2, c2, rfl, _⟩ := hr2.sl
          clear hr2 hb2 hbase
          generalize hN : (rowsL (m + 1)).length = N at *
          have HN := Lib.hid hN
          have hn120 := HLN.out
          clear hN
          go_wp2
          go_loopw [31] (fun t wq => ∃ (i : Nat) (f : Nat → Nat), i ≤ N ∧ t = .int .i64 i ∧ RkR (Pq l) (allL m i) f ∧ Box wq B (five f) 3 ∧ Rws wq base (.slice A2 N c2) (rowsL (m + 1)) xs2 ∧ Bel w wq) (fun t _ => N - (intOf t).toNat)
          case atStart => exact ⟨0, f, by omega, rfl, HK.out, HX2.out, HR2.out, HB2.out⟩
          case round =>
            clear HK HX HX2 HR2 HB2 HBQ
            obtain ⟨i, f, hi, rfl, hk, hx, hr, hb⟩ := hrel
            have HK := Lib.hid hk
            have HX := Lib.hid hx
            have HR := Lib.hid hr
            have HBW := Lib.hid hb
            clear hk hx hr hb
            by_cases hlt : i < N
            · have hlt' : (i : Int) < N := by omega
              have hiL : i < (rowsL (m + 1)).length := by rw [HN.out]; exact hlt
              have hix : i < xs2.length := by rw [HR.out.len]; exact hiL
              have hq : (rowsL (m + 1))[i]? = some ((rowsL (m + 1))[i]) := List.getElem?_eq_getElem hiL
              have hqx : xs2[i]? = some (xs2[i]) := List.getElem?_eq_getElem hix
              generalize (rowsL (m + 1))[i] = r at *
              generalize xs2[i] = x at *
              have hrx := HR.out.row i r x hq hqx
              obtain ⟨b1, o1, rfl, hcell⟩ := HR.out.at_ hqx
              obtain ⟨hrl, _, hr5⟩ := rows_mem.1 (List.mem_of_getElem? hq)
              obtain ⟨Ax, nx, cx, rfl, hsx, hmx⟩ := (own_int hrx).form
              obtain rfl : nx = m + 1 := by rw [← hsx.1]; simp [toI, hrl]
              obtain ⟨g, o, rfl, hce⟩ := hsx.2 (by omega)
              have HCE := Lib.hid hce
              have HQ := Lib.hid hq
              have HRL := Lib.hid hrl
              have HR5 := Lib.hid hr5
              clear hq hqx hrx hsx hmx hrl hce hr5
              go_wp2
              generalize hws : wr = wS at *
              clear hws hcell
              go_loopw [10, 11] (fun u t wq => ∃ k : Nat, k ≤ m ∧ t = .int .i64 ((k : Int) + 1) ∧ u = .bool (isC (Pq l) r k) ∧ Bel wS wq) (fun _ t _ => m + 1 - (intOf t).toNat)
              case atStart => exact ⟨0, by omega, rfl, rfl, Bel.refl _⟩
              case round =>
                obtain ⟨k, hk, rfl, rfl, hbk⟩ := hrel
                have HBK := Lib.hid hbk
                clear hbk
                by_cases hkm : k < m
                · have hkm' : (k : Int) + 1 < (m : Int) + 1 := by omega
                  have hk1 : (k : Int) + 1 - 1 = k := by omega
                  have hk2 : (k : Int) < (m : Int) + 1 := by omega
                  have hk3 : IntKind.i64.wrap (k : Int) = k := IntWalk.i64_in _ (by omega)
                  have hk4 : IntKind.i64.wrap ((k : Int) + 1) = k + 1 := IntWalk.i64_in _ (by omega)
                  have hk5 : ((k : Int) + 1).toNat = k + 1 := by omega
                  have F0 := fun (w' : World) (hw : Bel wr w') => (show w'.cell? ⟨g, o + k, none⟩ = some (.int .i64 (at0 r k)) by
                    have := HCE.out k (by omega); rw [toI_at] at this; exact hw.cell (HBK.out.cell this))
                  have F1 := fun (w' : World) (hw : Bel wr w') => (show w'.cell? ⟨g, o + (k + 1), none⟩ = some (.int .i64 (at0 r (k + 1))) by
                    have := HCE.out (k + 1) (by omega); rw [toI_at] at this; exact hw.cell (HBK.out.cell this))
                  have HF0 := Lib.hid F0
                  have HF1 := Lib.hid F1
                  have HSL := Lib.hid (HL.out.bel (HBW.out.trans HBK.out))
                  have SC := Lib.hid (isC_succ (Pq l) r k)
                  clear F0 F1
                  cases hres : isC (Pq l) r k
                  · have SF := Lib.hid (show isC (Pq l) r (k + 1) = false by rw [SC.out, hres]; rfl)
                    clear hres
                    go_wp2_with fail
                    (refine region_bel (by kernel_rfl) (by kernel_rfl) ?_; (repeat (first | ((with_reducible refine BigFrame.wpQuiet_skip ?_ ?_); exact rfl; simp only [Act.put, Act.eval, List.setIfInBounds_toArray, List.set_cons_zero, List.set_cons_succ, Array.getD_eq_getD_getElem?, List.getElem?_toArray, List.getElem?_cons_zero, List.getElem?_cons_succ, Option.getD_some]) | (refine q_move _ rfl rfl ?_; simp only [Act.put, Act.eval, List.setIfInBounds_toArray, List.set_cons_zero, List.set_cons_succ, Array.getD_eq_getD_getElem?, List.getElem?_toArray, List.getElem?_cons_zero, List.getElem?_cons_succ, Option.getD_some]) | (refine q_assign _ rfl rfl ?_; simp only [Act.put, Act.eval, List.setIfInBounds_toArray, List.set_cons_zero, List.set_cons_succ, Array.getD_eq_getD_getElem?, List.getElem?_toArray, List.getElem?_cons_zero, List.getElem?_cons_succ, Option.getD_some]) | (refine q_any rfl ?_; apply Exists.intro; refine ⟨fun w hw => ?_, ?_⟩; (go_simp; first | exact ⟨rfl, rfl⟩ | rfl); simp only [Act.put, Act.eval, List.setIfInBounds_toArray, List.set_cons_zero, List.set_cons_succ, Array.getD_eq_getD_getElem?, List.getElem?_toArray, List.getElem?_cons_zero, List.getElem?_cons_succ, Option.getD_some]))); refine wpQuiet_nil ?_; intro w2 hw2)
                    have HW2 := Lib.hid (HBK.out.trans hw2)
                    clear hw2
                    go_wp2
                    go_roundw
                    case rel => exact ⟨k + 1, by omega, by go_num, by rw [SF.out], HW2.out⟩
                    case measure => simp [intOf]; omega
                  · have SF := Lib.hid (show isC (Pq l) r (k + 1) = decide ((((at0 r k : Nat) : Int), ((at0 r (k + 1) : Nat) : Int)) ∈ l) by rw [SC.out, hres]; rfl)
                    clear hres
                    go_wp2_with fail
                    (refine region_bel (by kernel_rfl) (by kernel_rfl) ?_; (repeat (first | ((with_reducible refine BigFrame.wpQuiet_skip ?_ ?_); exact rfl; simp only [Act.put, Act.eval, List.setIfInBounds_toArray, List.set_cons_zero, List.set_cons_succ, Array.getD_eq_getD_getElem?, List.getElem?_toArray, List.getElem?_cons_zero, List.getElem?_cons_succ, Option.getD_some]) | (refine q_move _ rfl rfl ?_; simp only [Act.put, Act.eval, List.setIfInBounds_toArray, List.set_cons_zero, List.set_cons_succ, Array.getD_eq_getD_getElem?, List.getElem?_toArray, List.getElem?_cons_zero, List.getElem?_cons_succ, Option.getD_some]) | (refine q_assign _ rfl rfl ?_; simp only [Act.put, Act.eval, List.setIfInBounds_toArray, List.set_cons_zero, List.set_cons_succ, Array.getD_eq_getD_getElem?, List.getElem?_toArray, List.getElem?_cons_zero, List.getElem?_cons_succ, Option.getD_some]) | (refine q_any rfl ?_; apply Exists.intro; refine ⟨fun w hw => ?_, ?_⟩; (have fct0 := HF0.out w hw; have fct1 := HF1.out w hw; go_simp; first | exact ⟨rfl, rfl⟩ | rfl | (go_at_call 24; (with_reducible refine (hasp_two _ _ c l _ _ _ (HSL.out.bel hw) hm').mono ?_); rintro e w' ⟨rfl, hb⟩; exact ⟨rfl, hw.call hb⟩)); simp only [Act.put, Act.eval, List.setIfInBounds_toArray, List.set_cons_zero, List.set_cons_succ, Array.getD_eq_getD_getElem?, List.getElem?_toArray, List.getElem?_cons_zero, List.getElem?_cons_succ, Option.getD_some]))); refine wpQuiet_nil ?_; intro w2 hw2)
                    have HW2 := Lib.hid (HBK.out.trans hw2)
                    clear hw2
                    go_wp2
                    go_roundw
                    case rel => exact ⟨k + 1, by omega, by go_num, by rw [SF.out], HW2.out⟩
                    case measure => simp [intOf]; omega
                · obtain rfl : k = m := by omega
                  cases hres : isC (Pq l) r k
                  · have HNK := Lib.hid (HK.out.no (r := r) (by unfold isCh; rw [HRL.out]; exact hres))
                    clear hres
                    go_wp2
                    go_roundw
                    case rel => exact ⟨i + 1, f, by omega, by go_num, by rw [allL_succ HQ.out]; exact HNK.out, HX.out.bel HBK.out, HR.out.bel HBK.out, HBW.out.trans HBK.out⟩
                    case measure => simp [intOf]; omega
                  · have e0 : wr.cell? ⟨g, o + k, none⟩ = some (.int .i64 (at0 r k)) := by
                      have := HCE.out k (by omega); rw [toI_at] at this; exact HBK.out.cell this
                    have hq5 : at0 r k < 5 := by
                      unfold at0
                      rw [List.getElem?_eq_getElem (by rw [HRL.out]; omega), Option.getD_some]
                      exact HR5.out _ (List.getElem_mem _)
                    have e1 := (HX.out.bel HBK.out).cell (at0 r k) (five_get f _ hq5)
                    have e2 := (HX.out.bel HBK.out).frozen (at0 r k)
                    have HYES := Lib.hid (fun (x : Nat) (hx : x = max (f (at0 r k)) k) => (show RkR (Pq l) (allL k (i + 1)) (upd5 f (at0 r k) x) by
                      have hl : lastL r = at0 r k := by unfold lastL; rw [HRL.out]; rfl
                      rw [allL_succ HQ.out, ← hl]
                      exact HK.out.yes (by unfold isCh; rw [HRL.out]; exact hres) HRL.out (by rw [hl]; exact hx)))
                    have HXS := Lib.hid (fun (x : Nat) => (show Box ((wr.drew).setCell ⟨B, at0 r k, none⟩ (.int .i64 x)) B (five (upd5 f (at0 r k) x)) 3 by
                      rw [← five_set f _ x hq5]; exact (((Bel.refl wr).drew).box (HX.out.bel HBK.out)).set _ _))
                    have HRS := Lib.hid (fun (x : Nat) => (HR.out.bel (HBK.out.trans (Bel.refl wr).drew)).set HBB.out (at0 r k) (.int .i64 (x : Nat)))
                    have HBS := Lib.hid (fun (x : Nat) => ((HBW.out.trans (HBK.out.trans (Bel.refl wr).drew)).setCell ⟨B, at0 r k, none⟩ (by exact HGE.out) (.int .i64 (x : Nat))))
                    clear hres
                    generalize at0 r k = q at *
                    generalize f q = y at *
                    have hq5' : (q : Int) < 5 := by omega
                    have hk1 : (k : Int) + 1 - 1 = k := by omega
                    have hk2 : (k : Int) < (k : Int) + 1 := by omega
                    have hk3 : IntKind.i64.wrap (k : Int) = k := IntWalk.i64_in _ (by omega)
                    have HFL := Lib.hid (five_list f)
                    rcases Nat.lt_or_ge y k with hy | hy
                    · have hy' : (y : Int) < k := by omega
                      have hy2 : max (y : Int) k = k := by omega
                      have HY2 := Lib.hid (HYES.out k (by omega))
                      go_wp2_with fail
                      (refine wp_region_still_tail 18 (by kernel_rfl) (by kernel_rfl) ?_; simp only [List.take_succ_cons, List.take_zero, List.drop_succ_cons, List.drop_zero]; (repeat (first | ((with_reducible refine s_skip ?_ ?_); exact rfl; simp only [Act.put, Act.eval, List.setIfInBounds_toArray, List.set_cons_zero, List.set_cons_succ, Array.getD_eq_getD_getElem?, List.getElem?_toArray, List.getElem?_cons_zero, List.getElem?_cons_succ, Option.getD_some]) | ((with_reducible refine wpStill_step ?_); intro K hK; go_simp; (with_reducible refine hK _ ?_); clear hK K))); (with_reducible refine wpStill_nil ?_))
                      change wpList _ _ _ _ _ wr.drew
                      go_wp2
                      go_roundw
                      case rel => exact ⟨i + 1, _, by omega, by go_num, HY2.out, HXS.out k, HRS.out k, HBS.out k⟩
                      case measure => simp [intOf]; omega
                    · have hy' : ¬ (y : Int) < k := by omega
                      have hy2 : max (y : Int) k = y := by omega
                      have HY2 := Lib.hid (HYES.out y (by omega))
                      go_wp2_with fail
                      (refine wp_region_still_tail 18 (by kernel_rfl) (by kernel_rfl) ?_; simp only [List.take_succ_cons, List.take_zero, List.drop_succ_cons, List.drop_zero]; (repeat (first | ((with_reducible refine s_skip ?_ ?_); exact rfl; simp only [Act.put, Act.eval, List.setIfInBounds_toArray, List.set_cons_zero, List.set_cons_succ, Array.getD_eq_getD_getElem?, List.getElem?_toArray, List.getElem?_cons_zero, List.getElem?_cons_succ, Option.getD_some]) | ((with_reducible refine wpStill_step ?_); intro K hK; go_simp; (with_reducible refine hK _ ?_); clear hK K))); (with_reducible refine wpStill_nil ?_))
                      change wpList _ _ _ _ _ wr.drew
                      go_wp2
                      go_roundw
                      case rel => exact ⟨i + 1, _, by omega, by go_num, HY2.out, HXS.out y, HRS.out y, HBS.out y⟩
                      case measure => simp [intOf]; omega
            · obtain rfl : i = N := by omega
              have HS := Lib.hid (show RkR (Pq l) (allL (m + 1) 0) f by rw [← allL_next HN.out]; exact HK.out)
              go_wp2
              go_roundw
              case rel => exact ⟨m + 1, f, by omega, by go_num, HS.out, HX.out, HBW.out⟩
              case measure => simp [intOf]; omega
        · obtain rfl : m = 5 := by omega
          have HA := Lib.hid (show RankA l ((List.range 5).map f) 0 from .inr (.inr ⟨G1.out, G2.out, rfl, f, HK.out, rfl⟩))
          have HO := Lib.hid (own_lit HX.out HGE.out 5 1 (by simp [maxLen]) rfl)
          go_wp2
          go_ret2
          exact ⟨_, (List.range 5).map f, 0, rfl, HA.out, by rw [← five_list]; exact HO.out, HBQ.out⟩
end Go.Proofs.Ytoaehoildnanpaa

/- Pairs of whatever numbers: rows of pairs, '==' on them, the reference's Has over them. -/
import Derived.Test.YtjindfkomnjceaaPr
set_option linter.all false
set_option maxRecDepth 100000
namespace Go.Proofs.Ytjindfkomnjceaa
open Go Go.RowKit

def qrl (p : Int × Int) : List Value := [.int .i64 p.1, .int .i64 p.2]
def qrv (p : Int × Int) : Array Value := #[.int .i64 p.1, .int .i64 p.2]
theorem qrv_all (p : Int × Int) : (qrv p).all (·.oneCell') = true := by simp [qrv, Value.oneCell']
def qrc : List (Int × Int) → List Value
  | [] => []
  | p :: l => .int .i64 p.1 :: .int .i64 p.2 :: qrc l
theorem qrc_length (l : List (Int × Int)) : (qrc l).length = l.length * 2 := by
  induction l with
  | nil => rfl
  | cons e l ih => simp only [qrc, List.length_cons, ih]; omega
theorem qrc_append (l m : List (Int × Int)) : qrc (l ++ m) = qrc l ++ qrc m := by
  induction l with
  | nil => rfl
  | cons e l ih => simp only [List.cons_append, qrc, ih]
theorem qrc_get (l : List (Int × Int)) (i : Nat) (p : Int × Int) (h : l[i]? = some p) : (qrc l)[i * 2]? = some (.int .i64 p.1) ∧ (qrc l)[i * 2 + 1]? = some (.int .i64 p.2) := by
  induction l generalizing i with
  | nil => simp at h
  | cons x l ih =>
    cases i with
    | zero => simp at h; subst h; exact ⟨rfl, rfl⟩
    | succ i =>
      have := ih i (by simpa using h)
      simp only [qrc]
      rw [show (i + 1) * 2 = i * 2 + 1 + 1 by omega]
      simpa using this
theorem qrc_at {l : List (Int × Int)} {i : Nat} {p : Int × Int} (h : l[i]? = some p) (j : Nat) (v : Value) (hv : (qrl p)[j]? = some v) : (qrc l)[i * 2 + j]? = some v := by
  obtain ⟨h0, h1⟩ := qrc_get l i p h
  match j, hv with
  | 0, hv => simp [qrl] at hv; subst hv; simpa using h0
  | 1, hv => simp [qrl] at hv; subst hv; exact h1
  | j + 2, hv => simp [qrl] at hv
/-- A slice of pairs, nil let in. -/
def SlQ (w : World) (A : Option Addr) (n : Nat) (l : List (Int × Int)) : Prop :=
  l.length = n ∧ (0 < n → ∃ b off, A = some ⟨b, off, none⟩ ∧ b < w.heap.size ∧ w.rangeAt b off (qrc l))
theorem SlQ.bel {w w' : World} {A : Option Addr} {n : Nat} {l : List (Int × Int)} (h : SlQ w A n l) (hb : Bel w w') : SlQ w' A n l :=
  ⟨h.1, fun hn => by
    obtain ⟨b, off, hA, hlt, hr⟩ := h.2 hn
    exact ⟨b, off, hA, Nat.lt_of_lt_of_le hlt hb.size, rangeAt_below hb.out hlt hr⟩⟩
theorem SlQ.at_ {w : World} {A : Option Addr} {n : Nat} {l : List (Int × Int)} (h : SlQ w A n l) {i : Nat} (hi : i < n) :
    ∃ b off p, A = some ⟨b, off, none⟩ ∧ b < w.heap.size ∧ l[i]? = some p ∧ w.rangeAt b (off + i * 2) (qrl p) := by
  obtain ⟨b, off, hA, hlt, hr⟩ := h.2 (by omega)
  have hl : i < l.length := by rw [h.1]; exact hi
  exact ⟨b, off, l[i], hA, hlt, List.getElem?_eq_getElem hl, range_part hr fun j v hv => qrc_at (List.getElem?_eq_getElem hl) j v hv⟩
theorem SlQ.own {w : World} {base : Nat} {t : TypeId} {v : Value} {n : Nat} {l : List (Int × Int)} (h : w.ownsRow base t 2 v n (qrc l)) : ∃ A c, v = .slice A n c ∧ SlQ w A n l ∧ n ≤ c ∧ c ≤ maxLen := by
  have hl : l.length = n := by have := h.1; rw [qrc_length] at this; omega
  rcases h.2 with ⟨rfl, rfl⟩ | ⟨g, cap, cur, rfl, hg, hh, hn, hc, hs, ht⟩
  · exact ⟨none, 0, rfl, ⟨hl, fun h => absurd h (by omega)⟩, by omega, by omega⟩
  · have hb : Box w g cur t := hh
    refine ⟨_, cap, rfl, ⟨hl, fun _ => ⟨g, 0, rfl, hb.lt, fun j v hv => ?_⟩⟩, hn, hc⟩
    rw [Nat.zero_add]
    refine hb.cell j ?_
    rw [← ht, List.getElem?_take] at hv
    split at hv
    · simpa using hv
    · cases hv
theorem SlQ.box {w : World} {B : Nat} {l : List (Int × Int)} {t : TypeId} (h : Box w B (qrc l).toArray t) (n : Nat) (hn : l.length = n) : SlQ w (some ⟨B, 0, none⟩) n l := ⟨hn, fun _ => ⟨B, 0, rfl, h.lt, h.range⟩⟩
theorem SlQ.nil (w : World) : SlQ w none 0 [] := ⟨rfl, fun h => absurd h (by omega)⟩
theorem qr_dec (a b : Int × Int) : decide (a = b) = (a.1 == b.1 && a.2 == b.2) := by
  obtain ⟨a1, a2⟩ := a; obtain ⟨b1, b2⟩ := b
  rw [Bool.eq_iff_iff]; simp
theorem run_equal_qr (a b : Int × Int) (w : World) : (Op.equal 43 (.agg (qrv a)) (.agg (qrv b))).run Try.prog w = .ok (decide (a = b)) w := by
  rw [qr_dec]
  show (Op.equalIn 10000 _ _ _).run _ _ = _
  unfold qrv
  obtain ⟨a1, a2⟩ := a; obtain ⟨b1, b2⟩ := b
  by_cases h1 : a1 = b1 <;> by_cases h2 : a2 = b2 <;> simp [go_sem, h1, h2]
theorem eql_qr (a b : Int × Int) (w : World) : (binOp .eql 43 (.agg (qrv a)) (.agg (qrv b))).run Try.prog w = .ok (.bool (decide (a = b))) w := by
  rw [qr_dec]
  unfold qrv
  obtain ⟨a1, a2⟩ := a; obtain ⟨b1, b2⟩ := b
  by_cases h1 : a1 = b1 <;> by_cases h2 : a2 = b2 <;> simp [go_sem, h1, h2]
theorem neq_qr (a b : Int × Int) (w : World) : (binOp .neq 43 (.agg (qrv a)) (.agg (qrv b))).run Try.prog w = .ok (.bool (!decide (a = b))) w := by
  rw [qr_dec]
  unfold qrv
  obtain ⟨a1, a2⟩ := a; obtain ⟨b1, b2⟩ := b
  by_cases h1 : a1 = b1 <;> by_cases h2 : a2 = b2 <;> simp [go_sem, h1, h2]
/-- The world behind 'for .. := range l' over pairs, that has taken its next pair. -/
def qwld (w : World) (p : Int × Int) (t : TypeId) : World := (w.alloc (.cells #[.int .i64 0, .int .i64 0] t)).setRow w.heap.size (qrv p)
theorem qwld_box (w : World) (p : Int × Int) (t : TypeId) : Box (qwld w p t) w.heap.size (qrv p) t := (Box.new w _ t).setRow _
theorem qwld_below (w : World) (p : Int × Int) (t : TypeId) : Bel w (qwld w p t) := below_setRow' ((Below.refl _ _).alloc (Nat.le_refl _) _) _ _ (Nat.le_refl _)
theorem qwld_store {P : Program} {ops : Array Oper} {rest : List Oper} {o : Oper} {a : Act} {w' w : World} {Q : Exit → Act → World → Prop} {ty : TypeId} (hT : RowTy P ty 2) (x y : Operand) (ho : o.op = .store ty x y) (hgd : o.guard = none) {p : Int × Int} (t : TypeId)
    (hy : a.eval y = .agg (qrv p)) (hw : w' = w.alloc (.cells #[.int .i64 0, .int .i64 0] t)) (hx : a.eval x = .pointer (some ⟨w.heap.size, 0, none⟩))
    (h : wpList P ops Q rest (a.put o.dst undef) (qwld w p t)) : wpList P ops Q (o :: rest) a w' := by
  subst hw
  exact storeB ty x y ho hgd hx hy (Box.new w _ t) rfl hT (qrv_all p) h
theorem load_qr {P : Program} {ops : Array Oper} {rest : List Oper} {o : Oper} {a : Act} {w : World} {Q : Exit → Act → World → Prop} {ty : TypeId} (hT : RowTy P ty 2) (x : Operand) (ho : o.op = .load ty x) (hgd : o.guard = none) {b off : Nat} {p : Int × Int}
    (hx : a.eval x = .pointer (some ⟨b, off, none⟩)) (hr : w.rangeAt b off (qrl p))
    (h : wpList P ops Q rest (a.put o.dst (.agg (qrv p))) w) : wpList P ops Q (o :: rest) a w := by
  obtain ⟨d, hu, hd, hi⟩ := hT
  exact wpList_load_mid hgd ty x ho b off hx (qrl p) d hr hu hd hi h
theorem fill2q {n : Nat} (hn : n = 2) (f : Fin n → Value) (a b : Value) : ((Array.ofFn f).setIfInBounds 0 a).setIfInBounds 1 b = #[a, b] := by
  subst hn
  apply Array.ext
  · simp
  · intro i h1 h2
    have hi : i < 2 := by simpa using h2
    match i, hi with
    | 0, _ => simp [Array.getElem_setIfInBounds]
    | 1, _ => simp [Array.getElem_setIfInBounds]
theorem run_buildq (t e : TypeId) {P : Program} (i : TypeInfo) (ht : P.underlying t = some (.slice e)) (hi : P.info? e = some i) (hz : i.zero = some (.agg #[.int .i64 0, .int .i64 0])) (hs : i.size = 2) (p : Int × Int) (w : World) :
    (Instr.buildSlice t 1 #[(0, .agg (qrv p))]).run P w = .ok (.slice (some ⟨w.heap.size, 0, none⟩) 1 1) (w.alloc (.cells (qrv p) e)) := by
  simp [Instr.buildSlice, Sem.run_bind, run_underlying ht, sizeOf, typeInfo, hi, hs, zeroValue, hz, Instr.fill, Value.cells, qrv, newRow, newObj, List.zipIdx, Array.range, Result.andThen, go_sem]
  rw [fill2q (by rw [hs])]
  rfl
/-- A slice of one pair that is no literal. -/
theorem buildq {P : Program} {ops : Array Oper} {rest : List Oper} {o : Oper} {a : Act} {w : World} {Q : Exit → Act → World → Prop} (t : TypeId) (x : Operand) (ho : o.op = .buildSlice t 1 #[(0, x)]) (hgd : o.guard = none) (e : TypeId) (i : TypeInfo) (ht : P.underlying t = some (.slice e)) (hi : P.info? e = some i)
    (hz : i.zero = some (.agg #[.int .i64 0, .int .i64 0])) (hs : i.size = 2) (p : Int × Int) (hx : a.eval x = .agg (qrv p))
    (h : wpList P ops Q rest (a.put o.dst (.slice (some ⟨w.heap.size, 0, none⟩) 1 1)) (w.alloc (.cells (qrv p) e))) : wpList P ops Q (o :: rest) a w := by
  refine wpList_plain hgd fun _ hK' => ?_
  unfold Oper.wp execOp
  simp only [ho, Sem.run_bind, Sem.run_pure, Result.andThen_ok, List.map_toArray, List.map_cons, List.map_nil, hx, run_buildq t e i ht hi hz hs p w]
  exact hK' _ _ h
theorem qtake_snoc {l : List (Int × Int)} {i : Nat} {e : Int × Int} (h : l[i]? = some e) : l.take (i + 1) = l.take i ++ [e] := by
  have hi' := List.getElem?_eq_some_iff.1 h
  rw [List.take_succ_eq_append_getElem hi'.1, hi'.2]
theorem qtake_all {l : List (Int × Int)} {A : Option Addr} {w : World} {n : Nat} (h : SlQ w A n l) : l.take n = l := by rw [← h.1, List.take_length]
def intp (p : Nat × Nat) : Int × Int := (p.1, p.2)
theorem prc_qrc (l : List (Nat × Nat)) : prc l = qrc (l.map intp) := by
  induction l with
  | nil => rfl
  | cons p l ih => simp only [prc, List.map_cons, qrc, ih]; rfl
theorem SlP.q {w : World} {A : Option Addr} {n : Nat} {l : List (Nat × Nat)} (h : SlP w A n l) : SlQ w A n (l.map intp) :=
  ⟨by rw [List.length_map]; exact h.1, fun hn => by rw [← prc_qrc]; exact h.2 hn⟩
theorem qmem_take_succ {l : List (Int × Int)} {k : Nat} {e : Int × Int} (h : l[k]? = some e) (x : Int × Int) : x ∈ l.take (k + 1) ↔ x ∈ l.take k ∨ x = e := by
  rw [qtake_snoc h, List.mem_append, List.mem_singleton]
set_option maxHeartbeats 4000000 in
theorem hasp_any (A : Option Addr) (n c : Nat) (l : List (Int × Int)) (x : Int × Int) (w : World) (h : SlQ w A n l) (hm : n ≤ 9223372036854775807) :
    Calls Try.prog 16 #[.slice A n c, .agg (qrv x)] w fun e w' => e = .returned (.bool (decide (x ∈ l))) ∧ Below w.heap.size w w' := by
  have HL := Lib.hid h
  have HX := Lib.hid (Box.new w (qrv x) 43)
  have HB0 := Lib.hid ((Bel.refl w).alloc (.cells (qrv x) 43))
  clear h
  go_enter Try.func16, Try.ntmps16
  go_wp2
  go_loopw [9] (fun t wr => ∃ k : Nat, k ≤ n ∧ t = .int .i64 k ∧ x ∉ l.take k ∧ Bel (w.alloc (.cells (qrv x) 43)) wr) (fun t _ => n - (intOf t).toNat)
  case atStart => exact ⟨0, by omega, rfl, by simp, Bel.refl _⟩
  case round =>
    obtain ⟨k, hk, rfl, hd, hbr⟩ := hrel
    have HD := Lib.hid hd
    have HB := Lib.hid hbr
    clear hd hbr
    by_cases hlt : k < n
    · obtain ⟨b, off, e, rfl, hb, he, hrg⟩ := (HL.out.bel HB0.out |>.bel HB.out).at_ hlt
      have hlt' : (k : Int) < n := by omega
      have HR := Lib.hid hrg
      have HE := Lib.hid he
      have hx0 := (Bel.of (w := w.alloc (.cells (qrv x) 43)) HB.out).box HX.out
      have HX1 := Lib.hid ((qwld_below wr e 43).box hx0)
      have HE1 := Lib.hid (qwld_box wr e 43)
      have HB1 := Lib.hid (HB.out.trans (qwld_below wr e 43))
      have EQ := eql_qr x e
      have GR := grd_pr
      clear hrg he hb hx0
      cases hq : decide (x = e)
      · rw [hq] at EQ
        have hne : x ≠ e := of_decide_eq_false hq
        have HN := Lib.hid (fun hh : x ∈ l.take (k + 1) => ((qmem_take_succ HE.out x).1 hh).elim HD.out hne)
        clear hne hq
        go_wp2_with (first | (refine load_qr TPr _ rfl rfl rfl HR.out ?_) | (refine qwld_store TPr _ _ rfl rfl _ rfl rfl rfl ?_) | (refine loadB _ _ rfl rfl rfl HX1.out TPr ?_) | (refine loadB _ _ rfl rfl rfl HE1.out TPr ?_))
        go_roundw
        case rel => exact ⟨k + 1, by omega, by go_num, HN.out, HB1.out⟩
        case measure => simp [intOf]; omega
      · rw [hq] at EQ
        have heq : x = e := of_decide_eq_true hq
        have HM := Lib.hid (show decide (x ∈ l) = true by rw [decide_eq_true_iff, heq]; exact List.mem_of_getElem? HE.out)
        clear heq hq
        go_wp2_with (first | (refine load_qr TPr _ rfl rfl rfl HR.out ?_) | (refine qwld_store TPr _ _ rfl rfl _ rfl rfl rfl ?_) | (refine loadB _ _ rfl rfl rfl HX1.out TPr ?_) | (refine loadB _ _ rfl rfl rfl HE1.out TPr ?_))
        go_ret
        exact ⟨by rw [HM.out]; rfl, HB0.out.trans HB1.out⟩
    · obtain rfl : k = n := by omega
      have HF := Lib.hid (show decide (x ∈ l) = false by rw [decide_eq_false_iff_not]; have := HD.out; rwa [qtake_all HL.out] at this)
      go_wp2
      go_ret
      exact ⟨by rw [HF.out]; rfl, HB0.out.trans HB.out⟩
end Go.Proofs.Ytjindfkomnjceaa

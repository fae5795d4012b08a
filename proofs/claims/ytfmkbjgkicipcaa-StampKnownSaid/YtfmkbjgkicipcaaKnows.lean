/- Contracts of the package stamp: Knows. -/
import Derived.Test.YtfmkbjgkicipcaaBack
set_option linter.all false
set_option maxRecDepth 100000
namespace Go.Proofs.Ytfmkbjgkicipcaa
open Go Go.RowKit Go.Shelf
attribute [local go_sem] Oper.semAt_some

/-- The clock of the last event of thread t among the first k, or the zero clock. -/
def lastC (l : List Ev) (t : Int) : Nat → Nat → Int
  | 0 => fun _ => 0
  | k + 1 => if (evD l k).t = t then kc l k else lastC l t k
theorem lastC_yes {l : List Ev} {t : Int} {k : Nat} (h : (evD l k).t = t) : lastC l t (k + 1) = kc l k := by rw [lastC, if_pos h]
theorem lastC_no {l : List Ev} {t : Int} {k : Nat} (h : (evD l k).t ≠ t) : lastC l t (k + 1) = lastC l t k := by rw [lastC, if_neg h]
theorem lastC_skip {l : List Ev} {t : Int} {n : Nat} : ∀ {k : Nat}, k ≤ n → (∀ x ∈ dn n k, (evD l x).t ≠ t) → lastC l t n = lastC l t (n - k)
  | 0, _, _ => rfl
  | k + 1, hk, h => by
    rw [dn_succ] at h
    rw [lastC_skip (k := k) (by omega) (fun x hx => h x (List.mem_append.2 (.inl hx)))]
    have := h (n - 1 - k) (List.mem_append.2 (.inr (by simp)))
    rw [show n - k = (n - 1 - k) + 1 by omega, lastC_no this, show n - (k + 1) = n - 1 - k by omega]
theorem results_cc {fn : Func} {p q : Tmp} {ty u : TypeId} (h : fn.results = #[.cell p ty, .cell q u]) (tmps : Array Value) (P : Program) (w : World) :
    (results fn tmps).run P w = ((asAddr (tmps.getD p undef)).run P w).andThen fun a w₁ => ((loadVar ty a).run P w₁).andThen fun v w₂ =>
      ((asAddr (tmps.getD q undef)).run P w₂).andThen fun b w₃ => ((loadVar u b).run P w₃).andThen fun x w₄ => .ok (.tuple #[v, x]) w₄ := by
  simp only [results, h]
  simp [Sem.run_bind, Result.andThen]
theorem res_cc {P : Program} {w : World} {fn : Func} {p q : Tmp} {ty u : TypeId} (h : fn.results = #[.cell p ty, .cell q u]) {tmps : Array Value} {B C : Nat} {c : Array Value} {t : TypeId} {v : Value} (hp : tmps.getD p undef = .pointer (some ⟨B, 0, none⟩)) (hq : tmps.getD q undef = .pointer (some ⟨C, 0, none⟩)) (hb : Box w B c t) (hT : RowTy P ty c.size)
    (hv : (loadVar u ⟨C, 0, none⟩).run P w = .ok v w) : (results fn tmps).run P w = .ok (.tuple #[.agg c, v]) w := by
  obtain ⟨d, hu, hd, hi⟩ := hT
  rw [results_cc h, hp, hq]
  simp only [asAddr, Sem.run_pure, Result.andThen_ok, run_loadVar_row w B t ty c (0, 0) d hb hu (by cases d <;> simp_all [TypeDesc.isRow]) hi, hv]
theorem load_int {w : World} {C : Nat} {v : Int} {t : TypeId} (h : Box w C #[.int .i64 v] t) : (loadVar 24 ⟨C, 0, none⟩).run Try.prog w = .ok (.int .i64 v) w := by
  have h0 := h.cell 0 (v := .int .i64 v) rfl
  simp [go_sem, h0]
set_option maxHeartbeats 4000000 in
theorem knows_bad (A : Option Addr) (n c : Nat) (l : List Ev) (t : Int) (w : World) (hl : Sl w A n l) (hm : may l ≠ 0) :
    Calls Try.prog 15 #[.slice A n c, .int .i64 t] w fun e w' => e = .returned (.tuple #[.agg (clk fun _ => 0), .int .i64 (may l)]) ∧ Below w.heap.size w w' := by
  obtain ⟨b1, b2, b3, hB, hs⟩ := boxes3 w #[.int .i64 t] #[.int .i64 0, .int .i64 0, .int .i64 0, .int .i64 0, .int .i64 0, .int .i64 0] #[.int .i64 0] 3 31 24
  generalize hW : (((w.alloc (.cells #[.int .i64 t] 3)).alloc (.cells #[.int .i64 0, .int .i64 0, .int .i64 0, .int .i64 0, .int .i64 0, .int .i64 0] 31)).alloc (.cells #[.int .i64 0] 24)) = W at *
  have h1 : (may l != 0) = true := by simpa using hm
  have HL := Lib.hid (hl.bel hB)
  have HM := Lib.hid hm
  have HB := Lib.hid hB
  have L2 : w.heap.size + 1 < W.heap.size := by omega
  have L3 : w.heap.size + 1 + 1 < W.heap.size := by omega
  have HB2 := Lib.hid b2
  have HB3 := Lib.hid b3
  clear hl hm hB b1 b2 b3
  go_enter Try.func15, Try.ntmps15
  go_wp2_with fail
  refine (stamps_bad A n c l _ HL.out HM.out).mono ?_
  rintro e1 w1 ⟨rfl, hb1⟩
  have c2 := HB2.out.below hb1 L2
  have c3 := HB3.out.below hb1 L3
  have HX := Lib.hid ((Bel.of HB.out).trans (Bel.of hb1))
  have s2 := c2.old (.cells #[.slice none 0 0] 23)
  have s3 : Box ((w1.alloc (.cells #[.slice none 0 0] 23)).setRow (w.heap.size + 1) #[.int .i64 0, .int .i64 0, .int .i64 0, .int .i64 0, .int .i64 0, .int .i64 0]) (w.heap.size + 1 + 1) #[.int .i64 0] 24 := (c3.old _).setRow_ne _ _ (by omega)
  have HS2 := Lib.hid (s2.setRow #[.int .i64 0, .int .i64 0, .int .i64 0, .int .i64 0, .int .i64 0, .int .i64 0])
  have HS3 := Lib.hid s3
  have e3 := s3.cell 0 (v := .int .i64 0) rfl
  have f3 := s3.frozen 0
  clear c2 c3 s3 hb1
  go_wp2_with (first | (refine storeB _ _ _ rfl rfl rfl rfl s2 rfl ty28 z_all ?_))
  refine bodyPost_ret (res_cc Try.results15 rfl rfl (B := w.heap.size + 1) (C := w.heap.size + 1 + 1) (c := clk fun _ => 0) (t := 31) (v := .int .i64 (may l)) ?_ ty28 ?_) rfl ⟨rfl, ?_⟩
  · exact HS2.out.set_ne _ _ (by simp)
  · exact load_int (HS3.out.set 0 _)
  · exact ((HX.out.alloc _).setRow _ (by omega) _).setCell _ (by simp; omega) _
set_option maxHeartbeats 4000000 in
theorem knows_arg (A : Option Addr) (n c : Nat) (l : List Ev) (t : Int) (w : World) (hl : Sl w A n l) (hm : may l = 0) (ht : ¬ (0 ≤ t ∧ t < 6)) :
    Calls Try.prog 15 #[.slice A n c, .int .i64 t] w fun e w' => e = .returned (.tuple #[.agg (clk fun _ => 0), .int .i64 1]) ∧ Below w.heap.size w w' := by
  obtain ⟨b1, b2, b3, hB, hs⟩ := boxes3 w #[.int .i64 t] #[.int .i64 0, .int .i64 0, .int .i64 0, .int .i64 0, .int .i64 0, .int .i64 0] #[.int .i64 0] 3 31 24
  generalize hW : (((w.alloc (.cells #[.int .i64 t] 3)).alloc (.cells #[.int .i64 0, .int .i64 0, .int .i64 0, .int .i64 0, .int .i64 0, .int .i64 0] 31)).alloc (.cells #[.int .i64 0] 24)) = W at *
  have HL := Lib.hid (hl.bel hB)
  have HM := Lib.hid hm
  have HB := Lib.hid hB
  have L1 : w.heap.size < W.heap.size := by omega
  have L2 : w.heap.size + 1 < W.heap.size := by omega
  have L3 : w.heap.size + 1 + 1 < W.heap.size := by omega
  have HB1 := Lib.hid b1
  have HB2 := Lib.hid b2
  have HB3 := Lib.hid b3
  have HT := Lib.hid ht
  clear hl hm hB b1 b2 b3 ht
  by_cases h0 : t < 0
  · go_enter Try.func15, Try.ntmps15
    go_wp2_with fail
    refine (stamps_ok A n c l _ HL.out HM.out).mono ?_
    rintro e1 w1 ⟨B, rfl, hck, hge, hb1⟩
    have HX := Lib.hid ((Bel.of HB.out).trans (Bel.of hb1))
    have c1 := ((HB1.out.below hb1 L1).old (.cells #[.slice (some ⟨B, 0, none⟩) n n] 23)).cell 0 (v := .int .i64 t) rfl
    have s2 := (HB2.out.below hb1 L2).old (.cells #[.slice (some ⟨B, 0, none⟩) n n] 23)
    have s3 : Box ((w1.alloc (.cells #[.slice (some ⟨B, 0, none⟩) n n] 23)).setRow (w.heap.size + 1) #[.int .i64 0, .int .i64 0, .int .i64 0, .int .i64 0, .int .i64 0, .int .i64 0]) (w.heap.size + 1 + 1) #[.int .i64 0] 24 := ((HB3.out.below hb1 L3).old _).setRow_ne _ _ (by omega)
    have HS2 := Lib.hid (s2.setRow #[.int .i64 0, .int .i64 0, .int .i64 0, .int .i64 0, .int .i64 0, .int .i64 0])
    have HS3 := Lib.hid s3
    have e3 := s3.cell 0 (v := .int .i64 0) rfl
    have f3 := s3.frozen 0
    clear s3 hb1 hck hge
    go_wp2_with (first | (refine storeB _ _ _ rfl rfl rfl rfl s2 rfl ty28 z_all ?_))
    refine bodyPost_ret (res_cc Try.results15 rfl rfl (B := w.heap.size + 1) (C := w.heap.size + 1 + 1) (c := clk fun _ => 0) (t := 31) (v := .int .i64 1) ?_ ty28 ?_) rfl ⟨rfl, ?_⟩
    · exact HS2.out.set_ne _ _ (by simp)
    · exact load_int (HS3.out.set 0 _)
    · exact ((HX.out.alloc _).setRow _ (by omega) _).setCell _ (by simp; omega) _
  · have h6 : 6 ≤ t := by have := HT.out; omega
    go_enter Try.func15, Try.ntmps15
    go_wp2_with fail
    refine (stamps_ok A n c l _ HL.out HM.out).mono ?_
    rintro e1 w1 ⟨B, rfl, hck, hge, hb1⟩
    have HX := Lib.hid ((Bel.of HB.out).trans (Bel.of hb1))
    have c1 := ((HB1.out.below hb1 L1).old (.cells #[.slice (some ⟨B, 0, none⟩) n n] 23)).cell 0 (v := .int .i64 t) rfl
    have s2 := (HB2.out.below hb1 L2).old (.cells #[.slice (some ⟨B, 0, none⟩) n n] 23)
    have s3 : Box ((w1.alloc (.cells #[.slice (some ⟨B, 0, none⟩) n n] 23)).setRow (w.heap.size + 1) #[.int .i64 0, .int .i64 0, .int .i64 0, .int .i64 0, .int .i64 0, .int .i64 0]) (w.heap.size + 1 + 1) #[.int .i64 0] 24 := ((HB3.out.below hb1 L3).old _).setRow_ne _ _ (by omega)
    have HS2 := Lib.hid (s2.setRow #[.int .i64 0, .int .i64 0, .int .i64 0, .int .i64 0, .int .i64 0, .int .i64 0])
    have HS3 := Lib.hid s3
    have e3 := s3.cell 0 (v := .int .i64 0) rfl
    have f3 := s3.frozen 0
    clear s3 hb1 hck hge
    go_wp2_with (first | (refine storeB _ _ _ rfl rfl rfl rfl s2 rfl ty28 z_all ?_))
    refine bodyPost_ret (res_cc Try.results15 rfl rfl (B := w.heap.size + 1) (C := w.heap.size + 1 + 1) (c := clk fun _ => 0) (t := 31) (v := .int .i64 1) ?_ ty28 ?_) rfl ⟨rfl, ?_⟩
    · exact HS2.out.set_ne _ _ (by simp)
    · exact load_int (HS3.out.set 0 _)
    · exact ((HX.out.alloc _).setRow _ (by omega) _).setCell _ (by simp; omega) _
end Go.Proofs.Ytfmkbjgkicipcaa

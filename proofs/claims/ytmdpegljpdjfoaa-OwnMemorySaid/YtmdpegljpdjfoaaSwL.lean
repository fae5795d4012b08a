/- The package swap: which events can come first, and the lowest of them. -/
import Derived.Test.YtmdpegljpdjfoaaSwA
import Derived.Test.YtmdpegljpdjfoaaSwP
set_option linter.all false
set_option maxRecDepth 100000
namespace Go.Proofs.Ytmdpegljpdjfoaa
open Go Go.RowKit

/-- What the function literal of canComeFirst sees: the events and an index, in variables. -/
structure Cap (w : World) (L I : Nat) (A : Option Addr) (n c : Nat) (l : List Ev) (i : Nat) : Prop where
  sl : Box w L #[.slice A n c] 22
  ix : Box w I #[.int .i64 i] 3
  evs : Sl w A n l
theorem Cap.bel {w w' : World} {L I : Nat} {A : Option Addr} {n c : Nat} {l : List Ev} {i : Nat} (h : Cap w L I A n c l i) (hb : Bel w w') : Cap w' L I A n c l i := ⟨hb.box h.sl, hb.box h.ix, h.evs.bel hb.out⟩
set_option maxHeartbeats 2000000 in
theorem clo_any (L I : Nat) (A : Option Addr) (n c : Nat) (l : List Ev) (i : Nat) (x e : Ev) (w : World) (h : Cap w L I A n c l i) (hi : i < n) (he : l[i]? = some e) :
    Calls Try.prog 58 #[.agg (evv x), .pointer (some ⟨L, 0, none⟩), .pointer (some ⟨I, 0, none⟩)] w fun e' w' => e' = .returned (.bool (dep x e)) ∧ Below w.heap.size w w' := by
  have HA := apart_any
  unfold ApartC at HA
  obtain ⟨b, off, e', rfl, hb, he', hrg⟩ := h.evs.at_ hi
  rw [he] at he'
  cases he'
  obtain ⟨b1, hB, hs⟩ := boxes1 w (evv x) 29
  generalize hW : w.alloc (.cells (evv x) 29) = W at *
  have HBE := Lib.hid hB
  have HB1 := b1
  have h2 := h.bel (Bel.of hB)
  have F1 := fun (w' : World) (k : Bel W w') => (k.box h2.sl).cell 0 (v := .slice (some ⟨b, off, none⟩) n c) rfl
  have F2 := fun (w' : World) (k : Bel W w') => (k.box h2.ix).cell 0 (v := .int .i64 i) rfl
  have F3 := Lib.hid (fun (w' : World) (k : Bel W w') => rangeAt_below k.out (Nat.lt_of_lt_of_le hb hB.size) (rangeAt_below hB hb hrg))
  have hi' : (i : Int) < n := by omega
  clear hB hs b1 h h2 hrg hb he
  go_enter Try.func58, Try.ntmps58
  go_wp2
  (refine region_bel (by kernel_rfl) (by kernel_rfl) ?_; (repeat (first | ((with_reducible refine BigFrame.wpQuiet_skip ?_ ?_); exact rfl; simp only [Act.put, Act.eval, List.setIfInBounds_toArray, List.set_cons_zero, List.set_cons_succ, Array.getD_eq_getD_getElem?, List.getElem?_toArray, List.getElem?_cons_zero, List.getElem?_cons_succ, Option.getD_some]) | (refine q_move _ rfl rfl ?_; simp only [Act.put, Act.eval, List.setIfInBounds_toArray, List.set_cons_zero, List.set_cons_succ, Array.getD_eq_getD_getElem?, List.getElem?_toArray, List.getElem?_cons_zero, List.getElem?_cons_succ, Option.getD_some]) | (refine q_assign _ rfl rfl ?_; simp only [Act.put, Act.eval, List.setIfInBounds_toArray, List.set_cons_zero, List.set_cons_succ, Array.getD_eq_getD_getElem?, List.getElem?_toArray, List.getElem?_cons_zero, List.getElem?_cons_succ, Option.getD_some]) | (refine q_load _ _ rfl rfl rfl HB1 T36 ?_; simp only [Act.put, Act.eval, List.setIfInBounds_toArray, List.set_cons_zero, List.set_cons_succ, Array.getD_eq_getD_getElem?, List.getElem?_toArray, List.getElem?_cons_zero, List.getElem?_cons_succ, Option.getD_some]) | (refine q_load_mid _ _ rfl rfl rfl F3.out T36 (evv e) rfl ?_; simp only [Act.put, Act.eval, List.setIfInBounds_toArray, List.set_cons_zero, List.set_cons_succ, Array.getD_eq_getD_getElem?, List.getElem?_toArray, List.getElem?_cons_zero, List.getElem?_cons_succ, Option.getD_some]) | (refine q_any rfl ?_; apply Exists.intro; refine ⟨fun w hw => ?_, ?_⟩; (have fct0 := F1 w hw; have fct1 := F2 w hw; go_simp; first | exact ⟨rfl, rfl⟩ | rfl | (go_at_call 35; (with_reducible refine (HA x e _).mono ?_); rintro e w' ⟨rfl, hb⟩; exact ⟨rfl, hw.call hb⟩)); simp only [Act.put, Act.eval, List.setIfInBounds_toArray, List.set_cons_zero, List.set_cons_succ, Array.getD_eq_getD_getElem?, List.getElem?_toArray, List.getElem?_cons_zero, List.getElem?_cons_succ, Option.getD_some]))); refine wpQuiet_nil ?_; intro w2 hw2)
  go_wp2
  go_ret
  exact ⟨by simp, HBE.out.trans (hw2.out.mono HBE.out.size)⟩
def IdxPost (w : World) (b : Bool) (e : Ending) (w' : World) : Prop := ∃ r : Int, e = .returned (.int .i64 r) ∧ decide (0 ≤ r) = b ∧ Below w.heap.size w w'
theorem any_snoc {p : Ev → Bool} {l : List Ev} {i : Nat} {x : Ev} (h : l[i]? = some x) : (l.take (i + 1)).any p = ((l.take i).any p || p x) := by rw [take_snoc h, List.any_append]; simp
set_option maxHeartbeats 4000000 in
theorem indexF_any (L I : Nat) (A : Option Addr) (n c : Nat) (l : List Ev) (i : Nat) (e : Ev) (B : Option Addr) (m d : Nat) (p : List Ev) (w : World) (h : Cap w L I A n c l i) (hi : i < n) (he : l[i]? = some e) (hp : Sl w B m p) (hm : m ≤ 1000) :
    Calls Try.prog 65 #[.slice B m d, .func (.func 58) #[] #[.pointer (some ⟨L, 0, none⟩), .pointer (some ⟨I, 0, none⟩)]] w (IdxPost w (p.any fun x => dep x e)) := by
  have HC := Lib.hid h
  have HI := Lib.hid (And.intro hi he)
  have HP := Lib.hid hp
  have hw0 := Lib.hid (Below.refl w.heap.size w)
  clear h hi he hp
  go_enter Try.func65, Try.ntmps65
  go_wp2
  go_loopw [8] (fun t wr => ∃ j : Nat, j ≤ m ∧ t = .int .i64 j ∧ (p.take j).any (fun x => dep x e) = false ∧ Below w.heap.size w wr) (fun t _ => m - (intOf t).toNat)
  case atStart => exact ⟨0, by omega, rfl, rfl, hw0.out⟩
  case round =>
    obtain ⟨j, hj, rfl, hno, hbr⟩ := hrel
    have HB := Lib.hid hbr
    have HN := Lib.hid hno
    clear hbr hno
    by_cases hlt : j < m
    · have hlt' : (j : Int) < m := by omega
      obtain ⟨b, off, x, rfl, hb, hx, hrg⟩ := HP.out.at_ hlt
      have HX := Lib.hid hx
      have hR := Lib.hid (rangeAt_below HB.out hb hrg)
      have HC1 := Lib.hid (HC.out.bel (Bel.of HB.out))
      clear hx hrg hb
      go_wp2_with (first | (refine load_ev T36 _ rfl rfl rfl hR.out ?_) | (refine ewld_store T36 _ _ rfl rfl _ rfl rfl rfl ?_))
      refine (clo_any L I A n c l i x e _ HC1.out HI.out.1 HI.out.2).mono ?_
      rintro e6 w6 ⟨rfl, hb6⟩
      have HB6 := Lib.hid hb6
      clear hb6
      cases hd : dep x e
      · go_wp2
        go_roundw
        case rel => exact ⟨j + 1, by omega, by go_num, by rw [any_snoc HX.out, HN.out, hd]; rfl, HB.out.trans (HB6.out.mono HB.out.size)⟩
        case measure => simp [intOf]; omega
      · go_wp2
        go_ret
        refine ⟨_, rfl, ?_, HB.out.trans (HB6.out.mono HB.out.size)⟩
        rw [decide_eq_true (by omega)]
        symm
        rw [List.any_eq_true]
        exact ⟨x, List.mem_of_getElem? HX.out, hd⟩
    · obtain rfl : j = m := by omega
      go_wp2
      go_ret
      refine ⟨_, rfl, ?_, HB.out⟩
      have h1 := HN.out
      rw [take_all HP.out] at h1
      rw [h1]
      decide
theorem containsF_any (L I : Nat) (A : Option Addr) (n c : Nat) (l : List Ev) (i : Nat) (e : Ev) (B : Option Addr) (m d : Nat) (p : List Ev) (w : World) (h : Cap w L I A n c l i) (hi : i < n) (he : l[i]? = some e) (hp : Sl w B m p) (hm : m ≤ 1000) :
    Calls Try.prog 57 #[.slice B m d, .func (.func 58) #[] #[.pointer (some ⟨L, 0, none⟩), .pointer (some ⟨I, 0, none⟩)]] w fun e' w' => e' = .returned (.bool (p.any fun x => dep x e)) ∧ Below w.heap.size w w' := by
  go_enter Try.func57, Try.ntmps57
  go_wp2_with fail
  refine (indexF_any L I A n c l i e B m d p w h hi he hp hm).mono ?_
  rintro e1 w1 ⟨r, rfl, hr, hb⟩
  have HB := Lib.hid hb
  have HR := Lib.hid hr
  clear hr hb h hp
  go_wp2
  go_ret
  exact ⟨by rw [← HR.out]; rfl, HB.out⟩
set_option maxHeartbeats 2000000 in
theorem can_any (A : Option Addr) (n c : Nat) (l : List Ev) (i : Nat) (e : Ev) (w : World) (h : Sl w A n l) (hi : i < n) (he : l[i]? = some e) (hnc : n ≤ c) (hn : n ≤ 1000) :
    Calls Try.prog 48 #[.slice A n c, .int .i64 i] w fun e' w' => e' = .returned (.bool (!((l.take i).any fun x => dep x e))) ∧ Below w.heap.size w w' := by
  obtain ⟨b1, b2, hB, hs⟩ := boxes2 w #[.slice A n c] #[.int .i64 i] 22 3
  have HC := Lib.hid (Cap.mk b1 b2 (h.bel hB) : Cap _ w.heap.size (w.heap.size + 1) A n c l i)
  have HT := Lib.hid ((h.bel hB).take (Nat.le_of_lt hi))
  have HB := Lib.hid hB
  have c1 := b1.cell 0 (v := .slice A n c) rfl
  have c2 := b2.cell 0 (v := .int .i64 i) rfl
  have hi' : (i : Int) ≤ n := by omega
  have hic : i ≤ c := by omega
  clear hs b1 b2 hB h
  go_enter Try.func48, Try.ntmps48
  go_wp2_with fail
  refine (containsF_any w.heap.size (w.heap.size + 1) A n c l i e A i c (l.take i) _ HC.out hi he HT.out (by omega)).mono ?_
  rintro e1 w1 ⟨rfl, hb⟩
  have HB1 := Lib.hid hb
  clear hb
  go_wp2
  go_ret
  exact ⟨rfl, HB.out.trans (HB1.out.mono HB.out.size)⟩
end Go.Proofs.Ytmdpegljpdjfoaa

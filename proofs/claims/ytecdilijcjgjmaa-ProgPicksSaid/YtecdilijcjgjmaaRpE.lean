/- The reference's Prog: Ended. -/
import Derived.Test.YtecdilijcjgjmaaRpN
import Derived.Deep.DeepCutAuto
set_option linter.all false
set_option maxRecDepth 100000
namespace Go.Proofs.Ytecdilijcjgjmaa
open Go Go.RowKit

variable {w w' : World} {A : Option Addr} {n c : Nat} {s : Ps} {LV QV : Value} {d k : Bool}
def leftTo (P : List (List Ev)) (s : Ps) (i : Nat) : Bool := (List.range i).any fun t => begun s.L (t : Nat) && !decide (s.a t = (opsP P t).length)
def goesTo (P : List (List Ev)) (s : Ps) (i : Nat) : Bool := (List.range i).any fun t => canP P s t
theorem leftTo_succ (P : List (List Ev)) (s : Ps) (i : Nat) : leftTo P s (i + 1) = (leftTo P s i || (begun s.L (i : Nat) && !decide (s.a i = (opsP P i).length))) := by unfold leftTo; rw [List.range_succ, List.any_append]; simp
theorem goesTo_succ (P : List (List Ev)) (s : Ps) (i : Nat) : goesTo P s (i + 1) = (goesTo P s i || canP P s i) := by unfold goesTo; rw [List.range_succ, List.any_append]; simp
theorem done_left (P : List (List Ev)) (s : Ps) : doneP P s = !leftTo P s P.length := by
  unfold doneP leftTo
  rw [Bool.eq_iff_iff, Bool.not_eq_true', List.all_eq_true, List.any_eq_false]
  constructor
  · intro h t ht
    have := h t ht
    revert this
    cases begun s.L (t : Nat) <;> simp
  · intro h t ht
    have := h t ht
    revert this
    cases begun s.L (t : Nat) <;> simp
theorem stuck_left (P : List (List Ev)) (s : Ps) : stuckP P s = (leftTo P s P.length && !goesTo P s P.length) := by
  unfold stuckP
  rw [done_left, Bool.not_not]
  rfl
theorem end_vs (m v h : Nat → Int) (d k : Bool) : vs 20 (endF m v h d k) = (endc m v h d k).toArray := by kernel_rfl
theorem TEv (g : Nat → Value) : RowTy Try.prog 31 (vs 20 g).size := by rw [vs_size]; exact TEnd
theorem endF_one {m v h : Nat → Int} {d k : Bool} (i : Nat) : (endF m v h d k i).oneCell' = true := by
  unfold endF
  repeat' split
  all_goals rfl
/-- The end within a Prog's block. -/
theorem GBx.endr {w : World} {B : Nat} (h : GBx w B A n c s LV QV d k) : w.rangeAt B 8 (endc (nat s.mem) (nat s.vol) s.has d k) := fun j v hj => by
  have h20 : j < 20 := by have := (List.getElem?_eq_some_iff.1 hj).1; simpa [endc] using this
  rw [h.cell (i := 8 + j) (by omega)]
  have h1 : (vs 20 (endF (nat s.mem) (nat s.vol) s.has d k))[j]? = some v := by rw [end_vs]; simpa using hj
  rw [vs_get _ h20] at h1
  unfold gP
  rw [if_neg (by omega), if_neg (by omega), if_neg (by omega), if_pos (by omega), Nat.add_sub_cancel_left]
  exact h1
def z20 : Array Value := #[.int .i64 0, .int .i64 0, .int .i64 0, .int .i64 0, .int .i64 0, .int .i64 0, .int .i64 0, .int .i64 0, .int .i64 0, .int .i64 0, .int .i64 0, .int .i64 0, .int .i64 0, .int .i64 0, .int .i64 0, .int .i64 0, .int .i64 0, .int .i64 0, .bool false, .bool false]
theorem load_row {P : Program} {ops : Array Oper} {rest : List Oper} {o : Oper} {a : Act} {w : World} {Q : Exit → Act → World → Prop} {ty : TypeId} {l : List Value} (hT : RowTy P ty l.length) (x : Operand) (ho : o.op = .load ty x) (hgd : o.guard = none) {b off : Nat}
    (hx : a.eval x = .pointer (some ⟨b, off, none⟩)) (hr : w.rangeAt b off l) (h : wpList P ops Q rest (a.put o.dst (.agg l.toArray)) w) : wpList P ops Q (o :: rest) a w := by
  obtain ⟨d, hu, hd, hi⟩ := hT
  exact wpList_load_mid hgd ty x ho b off hx l d hr hu hd hi h
theorem end_two {m v h : Nat → Int} {d k x y : Bool} (j : Nat) (_ : j < 20) : updC (updC (endF m v h d k) 18 (.bool x)) 19 (.bool y) j = endF m v h x y j := by
  unfold updC
  by_cases h9 : j = 19
  · subst h9; rfl
  · rw [if_neg h9]
    by_cases h8 : j = 18
    · subst h8; rfl
    · rw [if_neg h8]
      unfold endF
      by_cases h1 : j < 8
      · rw [if_pos h1, if_pos h1]
      · rw [if_neg h1, if_neg h1]
        by_cases h2 : j < 12
        · rw [if_pos h2, if_pos h2]
        · rw [if_neg h2, if_neg h2, if_pos (by omega), if_pos (by omega)]
/-- The memory of Ended: the end that it makes. -/
structure EnB (w : World) (E : Nat) (f : Nat → Value) : Prop where
  box : Box w E (vs 20 f) 31
set_option maxHeartbeats 16000000 in
theorem endr_any {P : List (List Ev)} (hP : Prg w A n P) (hnc : n ≤ c) (hcm : c ≤ maxLen) (hO : OkP P) (hR : PsR P s) (hL : LVal w LV s.L) :
    Calls Try.prog 51 #[.agg (vs 29 (gP A n c s LV QV d k))] w fun e w' => e = .returned (.agg (endP P s)) ∧ Below w.heap.size w w' := by
  obtain ⟨hb, hw⟩ := boxG w A n c s LV QV d k
  obtain ⟨B, m, e, rfl, hsl, hme, hem⟩ := hL.ex
  have h6 : n ≤ 6 := by rw [← hP.1]; exact hO.six
  have h1 : 1 ≤ n := by rw [← hP.1]; exact hO.one
  have HLN := Lib.hid hP.1
  have hm63 : m ≤ 9223372036854775807 := by unfold maxLen at hem; omega
  have HG := Lib.hid hb
  have HW := Lib.hid hw
  have HP0 := Lib.hid (hP.bel hw)
  have HS0 := Lib.hid (hsl.bel hw)
  have HM := Lib.hid (And.intro hnc hcm)
  have HLV := Lib.hid hL
  have HOK := Lib.hid hO
  have HPR := Lib.hid hR
  have HPW := Lib.hid hP
  clear hb hw hP hsl hL hnc hcm hO hR hem hme
  go_enter Try.func51, Try.ntmps51
  go_upto_region 1 with fail
  change Code.wp _ _ _ _ ((w.alloc (.cells (vs 29 (gP A n c s (.slice B m e) QV d k)) 93)).alloc (.cells z20 31))
  have HA2 := Lib.hid ((Bel.refl (w.alloc (.cells (vs 29 (gP A n c s (.slice B m e) QV d k)) 93))).alloc (.cells z20 31))
  have HR2 := Lib.hid (show Box ((w.alloc (.cells (vs 29 (gP A n c s (.slice B m e) QV d k)) 93)).alloc (.cells z20 31)) (w.heap.size + 1) z20 31 by simpa using Box.new (w.alloc (.cells (vs 29 (gP A n c s (.slice B m e) QV d k)) 93)) z20 31)
  have HW2 := Lib.hid (HW.out.trans HA2.out)
  have HG2 := Lib.hid (HG.out.bel HA2.out)
  have HP2 := Lib.hid (HP0.out.bel HA2.out)
  have HS2 := Lib.hid (HS0.out.bel HA2.out.out)
  clear HG HP0 HS0 HW HA2
  generalize ((w.alloc (.cells (vs 29 (gP A n c s (.slice B m e) QV d k)) 93)).alloc (.cells z20 31)) = w2 at *
  have HX3 := Lib.hid (Box.new w2 z20 31)
  have hlt2 := HR2.out.lt
  have hrr := HG2.out.endr
  go_upto_region 3 with (first | (refine load_row (show RowTy Try.prog 31 (endc (nat s.mem) (nat s.vol) s.has d k).length from TEnd) _ rfl rfl rfl hrr ?_) | (refine storeB 31 _ _ rfl rfl rfl rfl (Box.new w2 z20 31) rfl (by exact TEnd) (by rw [← end_vs]; exact vs_all endF_one) ?_))
  change Code.wp _ _ _ _ ((w2.alloc (.cells z20 31)).setRow w2.heap.size (endc (nat s.mem) (nat s.vol) s.has d k).toArray)
  have HB3 := Lib.hid (show Bel w2 ((w2.alloc (.cells z20 31)).setRow w2.heap.size (endc (nat s.mem) (nat s.vol) s.has d k).toArray) from ((Bel.refl w2).alloc (.cells z20 31)).setRow w2.heap.size (Nat.le_refl _) _)
  have HX3 := Lib.hid (show Box ((w2.alloc (.cells z20 31)).setRow w2.heap.size (endc (nat s.mem) (nat s.vol) s.has d k).toArray) w2.heap.size (vs 20 (endF (nat s.mem) (nat s.vol) s.has d k)) 31 by rw [end_vs]; exact (Box.new w2 z20 31).setRow _)
  have HW3 := Lib.hid (HW2.out.trans HB3.out)
  have HG3 := Lib.hid (HG2.out.bel HB3.out)
  have HP3 := Lib.hid (HP2.out.bel HB3.out)
  have HS3 := Lib.hid (HS2.out.bel HB3.out.out)
  have HR3 := Lib.hid (HB3.out.box HR2.out)
  have hle2 : w.heap.size + 2 ≤ w2.heap.size := by omega
  clear HG2 HP2 HS2 HR2 HW2 hrr HB3 hlt2
  generalize ((w2.alloc (.cells z20 31)).setRow w2.heap.size (endc (nat s.mem) (nat s.vol) s.has d k).toArray) = w3 at *
  generalize w2.heap.size = E at *
  have g0 := HG3.out.p
  have F0 := Lib.hid (show leftTo P s 0 = false from rfl)
  have F1 := Lib.hid (show goesTo P s 0 = false from rfl)
  go_wp2
  go_loopw [4, 5, 12] (fun q r t wr => ∃ i : Nat, i ≤ n ∧ t = .int .i64 i ∧ q = .bool (leftTo P s i) ∧ r = .bool (goesTo P s i) ∧ Bel w3 wr) (fun _ _ t _ => n - (intOf t).toNat)
  case atStart => exact ⟨0, by omega, rfl, by rw [F0.out], by rw [F1.out], Bel.refl _⟩
  case round =>
    obtain ⟨i, hi, rfl, rfl, rfl, hbr⟩ := hrel
    have HBR := Lib.hid hbr
    clear hbr g0
    by_cases hi1 : i < n
    · have hi2 : (i : Int) < n := by omega
      have hi64 : In64 (i : Nat) := by unfold In64; omega
      have HSr := Lib.hid (HS3.out.bel HBR.out.out)
      have HPr := Lib.hid (HP3.out.bel HBR.out)
      have HGr := Lib.hid (HG3.out.bel HBR.out)
      have HXr := Lib.hid HGr.out.box
      have HFr := Lib.hid (fun (w1 : World) (h1 : Bel wr w1) => (HGr.out.bel h1).l)
      have HLS := Lib.hid (leftTo_succ P s i)
      have HGS := Lib.hid (goesTo_succ P s i)
      generalize leftTo P s i = lf at *
      generalize goesTo P s i = gs at *
      cases lf
      · cases o2 : begun s.L (i : Nat)
        · go_upto_region 7 with (first | (refine list_bel 11 rfl ?_; (repeat (first | ((with_reducible refine BigFrame.wpQuiet_skip ?_ ?_); exact rfl; simp only [Act.put, Act.eval, List.setIfInBounds_toArray, List.set_cons_zero, List.set_cons_succ, Array.getD_eq_getD_getElem?, List.getElem?_toArray, List.getElem?_cons_zero, List.getElem?_cons_succ, Option.getD_some]) | (refine q_move _ rfl rfl ?_; simp only [Act.put, Act.eval, List.setIfInBounds_toArray, List.set_cons_zero, List.set_cons_succ, Array.getD_eq_getD_getElem?, List.getElem?_toArray, List.getElem?_cons_zero, List.getElem?_cons_succ, Option.getD_some]) | (refine q_assign _ rfl rfl ?_; simp only [Act.put, Act.eval, List.setIfInBounds_toArray, List.set_cons_zero, List.set_cons_succ, Array.getD_eq_getD_getElem?, List.getElem?_toArray, List.getElem?_cons_zero, List.getElem?_cons_succ, Option.getD_some]) | (refine q_any rfl ?_; apply Exists.intro; refine ⟨fun w hw => ?_, ?_⟩; (have fct0 := HFr.out w hw; go_simp; first | exact ⟨rfl, rfl⟩ | rfl | (go_at_call 76; (with_reducible refine (begv_any _ _ _ _ _ _ _ o2 (HSr.out.bel hw.out) hm63).mono ?_); rintro e w' ⟨rfl, hb⟩; exact ⟨rfl, hw.call hb⟩)); simp only [Act.put, Act.eval, List.setIfInBounds_toArray, List.set_cons_zero, List.set_cons_succ, Array.getD_eq_getD_getElem?, List.getElem?_toArray, List.getElem?_cons_zero, List.getElem?_cons_succ, Option.getD_some]))); refine wpQuiet_nil ?_; intro w2 hw2))
          have hwq := hw2
          clear hw2
          have HWQ := Lib.hid hwq
          have HPq := Lib.hid (HPr.out.bel HWQ.out)
          have HLq := Lib.hid (HLV.out.bel (HW3.out.trans (HBR.out.trans HWQ.out)))
          have HGq := Lib.hid (HGr.out.bel HWQ.out).box
          cases gs
          · go_wp2_with (first | (refine list_bel 5 rfl ?_; (repeat (first | ((with_reducible refine BigFrame.wpQuiet_skip ?_ ?_); exact rfl; simp only [Act.put, Act.eval, List.setIfInBounds_toArray, List.set_cons_zero, List.set_cons_succ, Array.getD_eq_getD_getElem?, List.getElem?_toArray, List.getElem?_cons_zero, List.getElem?_cons_succ, Option.getD_some]) | (refine q_move _ rfl rfl ?_; simp only [Act.put, Act.eval, List.setIfInBounds_toArray, List.set_cons_zero, List.set_cons_succ, Array.getD_eq_getD_getElem?, List.getElem?_toArray, List.getElem?_cons_zero, List.getElem?_cons_succ, Option.getD_some]) | (refine q_assign _ rfl rfl ?_; simp only [Act.put, Act.eval, List.setIfInBounds_toArray, List.set_cons_zero, List.set_cons_succ, Array.getD_eq_getD_getElem?, List.getElem?_toArray, List.getElem?_cons_zero, List.getElem?_cons_succ, Option.getD_some]) | (refine q_load _ _ rfl rfl rfl HGq.out (TGv _) ?_; simp only [Act.put, Act.eval, List.setIfInBounds_toArray, List.set_cons_zero, List.set_cons_succ, Array.getD_eq_getD_getElem?, List.getElem?_toArray, List.getElem?_cons_zero, List.getElem?_cons_succ, Option.getD_some]) | (refine q_any rfl ?_; apply Exists.intro; refine ⟨fun w hw => ?_, ?_⟩; (go_simp; first | exact ⟨rfl, rfl⟩ | rfl | (go_at_call 49; (with_reducible refine (canr_any (i : Nat) (HPq.out.bel hw) HM.out.1 HM.out.2 HOK.out HPR.out (HLq.out.bel hw) hi64).mono ?_); rintro e w' ⟨rfl, hb⟩; exact ⟨rfl, hw.call hb⟩)); simp only [Act.put, Act.eval, List.setIfInBounds_toArray, List.set_cons_zero, List.set_cons_succ, Array.getD_eq_getD_getElem?, List.getElem?_toArray, List.getElem?_cons_zero, List.getElem?_cons_succ, Option.getD_some]))); refine wpQuiet_nil ?_; intro w2 hw2))
            go_roundw
            case rel => exact ⟨i + 1, by omega, by go_num, by rw [HLS.out]; simp [o2], by rw [HGS.out]; simp, HBR.out.trans (HWQ.out.trans hw2)⟩
            case measure => simp [intOf]; omega
          · go_wp2
            go_roundw
            case rel => exact ⟨i + 1, by omega, by go_num, by rw [HLS.out]; simp [o2], by rw [HGS.out]; rfl, HBR.out.trans HWQ.out⟩
            case measure => simp [intOf]; omega
        · go_upto_region 7 with (first | (refine list_bel 11 rfl ?_; (repeat (first | ((with_reducible refine BigFrame.wpQuiet_skip ?_ ?_); exact rfl; simp only [Act.put, Act.eval, List.setIfInBounds_toArray, List.set_cons_zero, List.set_cons_succ, Array.getD_eq_getD_getElem?, List.getElem?_toArray, List.getElem?_cons_zero, List.getElem?_cons_succ, Option.getD_some]) | (refine q_move _ rfl rfl ?_; simp only [Act.put, Act.eval, List.setIfInBounds_toArray, List.set_cons_zero, List.set_cons_succ, Array.getD_eq_getD_getElem?, List.getElem?_toArray, List.getElem?_cons_zero, List.getElem?_cons_succ, Option.getD_some]) | (refine q_assign _ rfl rfl ?_; simp only [Act.put, Act.eval, List.setIfInBounds_toArray, List.set_cons_zero, List.set_cons_succ, Array.getD_eq_getD_getElem?, List.getElem?_toArray, List.getElem?_cons_zero, List.getElem?_cons_succ, Option.getD_some]) | (refine q_load _ _ rfl rfl rfl HXr.out (TGv _) ?_; simp only [Act.put, Act.eval, List.setIfInBounds_toArray, List.set_cons_zero, List.set_cons_succ, Array.getD_eq_getD_getElem?, List.getElem?_toArray, List.getElem?_cons_zero, List.getElem?_cons_succ, Option.getD_some]) | (refine q_any rfl ?_; apply Exists.intro; refine ⟨fun w hw => ?_, ?_⟩; (have fct0 := HFr.out w hw; go_simp; first | exact ⟨rfl, rfl⟩ | rfl | (go_at_call 76; (with_reducible refine (begv_any _ _ _ _ _ _ _ o2 (HSr.out.bel hw.out) hm63).mono ?_); rintro e w' ⟨rfl, hb⟩; exact ⟨rfl, hw.call hb⟩) | (go_at_call 77; (with_reducible refine (overv_any i _ _ rfl (HPr.out.bel hw) HM.out.1 HM.out.2 hi1 h6).mono ?_); rintro e w' ⟨rfl, hb⟩; exact ⟨rfl, hw.call hb⟩)); simp only [Act.put, Act.eval, List.setIfInBounds_toArray, List.set_cons_zero, List.set_cons_succ, Array.getD_eq_getD_getElem?, List.getElem?_toArray, List.getElem?_cons_zero, List.getElem?_cons_succ, Option.getD_some]))); refine wpQuiet_nil ?_; intro w2 hw2))
          have hwq := hw2
          clear hw2
          have HWQ := Lib.hid hwq
          have HPq := Lib.hid (HPr.out.bel HWQ.out)
          have HLq := Lib.hid (HLV.out.bel (HW3.out.trans (HBR.out.trans HWQ.out)))
          have HGq := Lib.hid (HGr.out.bel HWQ.out).box
          cases gs
          · go_wp2_with (first | (refine list_bel 5 rfl ?_; (repeat (first | ((with_reducible refine BigFrame.wpQuiet_skip ?_ ?_); exact rfl; simp only [Act.put, Act.eval, List.setIfInBounds_toArray, List.set_cons_zero, List.set_cons_succ, Array.getD_eq_getD_getElem?, List.getElem?_toArray, List.getElem?_cons_zero, List.getElem?_cons_succ, Option.getD_some]) | (refine q_move _ rfl rfl ?_; simp only [Act.put, Act.eval, List.setIfInBounds_toArray, List.set_cons_zero, List.set_cons_succ, Array.getD_eq_getD_getElem?, List.getElem?_toArray, List.getElem?_cons_zero, List.getElem?_cons_succ, Option.getD_some]) | (refine q_assign _ rfl rfl ?_; simp only [Act.put, Act.eval, List.setIfInBounds_toArray, List.set_cons_zero, List.set_cons_succ, Array.getD_eq_getD_getElem?, List.getElem?_toArray, List.getElem?_cons_zero, List.getElem?_cons_succ, Option.getD_some]) | (refine q_load _ _ rfl rfl rfl HGq.out (TGv _) ?_; simp only [Act.put, Act.eval, List.setIfInBounds_toArray, List.set_cons_zero, List.set_cons_succ, Array.getD_eq_getD_getElem?, List.getElem?_toArray, List.getElem?_cons_zero, List.getElem?_cons_succ, Option.getD_some]) | (refine q_any rfl ?_; apply Exists.intro; refine ⟨fun w hw => ?_, ?_⟩; (go_simp; first | exact ⟨rfl, rfl⟩ | rfl | (go_at_call 49; (with_reducible refine (canr_any (i : Nat) (HPq.out.bel hw) HM.out.1 HM.out.2 HOK.out HPR.out (HLq.out.bel hw) hi64).mono ?_); rintro e w' ⟨rfl, hb⟩; exact ⟨rfl, hw.call hb⟩)); simp only [Act.put, Act.eval, List.setIfInBounds_toArray, List.set_cons_zero, List.set_cons_succ, Array.getD_eq_getD_getElem?, List.getElem?_toArray, List.getElem?_cons_zero, List.getElem?_cons_succ, Option.getD_some]))); refine wpQuiet_nil ?_; intro w2 hw2))
            go_roundw
            case rel => exact ⟨i + 1, by omega, by go_num, by rw [HLS.out]; simp [o2], by rw [HGS.out]; simp, HBR.out.trans (HWQ.out.trans hw2)⟩
            case measure => simp [intOf]; omega
          · go_wp2
            go_roundw
            case rel => exact ⟨i + 1, by omega, by go_num, by rw [HLS.out]; simp [o2], by rw [HGS.out]; rfl, HBR.out.trans HWQ.out⟩
            case measure => simp [intOf]; omega
      · go_upto_region 7 with fail
        have HWQ := Lib.hid (Bel.refl wr)
        have HPq := Lib.hid (HPr.out.bel HWQ.out)
        have HLq := Lib.hid (HLV.out.bel (HW3.out.trans (HBR.out.trans HWQ.out)))
        have HGq := Lib.hid (HGr.out.bel HWQ.out).box
        cases gs
        · go_wp2_with (first | (refine list_bel 5 rfl ?_; (repeat (first | ((with_reducible refine BigFrame.wpQuiet_skip ?_ ?_); exact rfl; simp only [Act.put, Act.eval, List.setIfInBounds_toArray, List.set_cons_zero, List.set_cons_succ, Array.getD_eq_getD_getElem?, List.getElem?_toArray, List.getElem?_cons_zero, List.getElem?_cons_succ, Option.getD_some]) | (refine q_move _ rfl rfl ?_; simp only [Act.put, Act.eval, List.setIfInBounds_toArray, List.set_cons_zero, List.set_cons_succ, Array.getD_eq_getD_getElem?, List.getElem?_toArray, List.getElem?_cons_zero, List.getElem?_cons_succ, Option.getD_some]) | (refine q_assign _ rfl rfl ?_; simp only [Act.put, Act.eval, List.setIfInBounds_toArray, List.set_cons_zero, List.set_cons_succ, Array.getD_eq_getD_getElem?, List.getElem?_toArray, List.getElem?_cons_zero, List.getElem?_cons_succ, Option.getD_some]) | (refine q_load _ _ rfl rfl rfl HGq.out (TGv _) ?_; simp only [Act.put, Act.eval, List.setIfInBounds_toArray, List.set_cons_zero, List.set_cons_succ, Array.getD_eq_getD_getElem?, List.getElem?_toArray, List.getElem?_cons_zero, List.getElem?_cons_succ, Option.getD_some]) | (refine q_any rfl ?_; apply Exists.intro; refine ⟨fun w hw => ?_, ?_⟩; (go_simp; first | exact ⟨rfl, rfl⟩ | rfl | (go_at_call 49; (with_reducible refine (canr_any (i : Nat) (HPq.out.bel hw) HM.out.1 HM.out.2 HOK.out HPR.out (HLq.out.bel hw) hi64).mono ?_); rintro e w' ⟨rfl, hb⟩; exact ⟨rfl, hw.call hb⟩)); simp only [Act.put, Act.eval, List.setIfInBounds_toArray, List.set_cons_zero, List.set_cons_succ, Array.getD_eq_getD_getElem?, List.getElem?_toArray, List.getElem?_cons_zero, List.getElem?_cons_succ, Option.getD_some]))); refine wpQuiet_nil ?_; intro w2 hw2))
          go_roundw
          case rel => exact ⟨i + 1, by omega, by go_num, by rw [HLS.out]; simp [], by rw [HGS.out]; simp, HBR.out.trans (HWQ.out.trans hw2)⟩
          case measure => simp [intOf]; omega
        · go_wp2
          go_roundw
          case rel => exact ⟨i + 1, by omega, by go_num, by rw [HLS.out]; simp [], by rw [HGS.out]; rfl, HBR.out.trans HWQ.out⟩
          case measure => simp [intOf]; omega
    · obtain rfl : n = i := by omega
      have HD := Lib.hid (show doneP P s = !leftTo P s n by rw [done_left, HLN.out])
      have HK := Lib.hid (show stuckP P s = (leftTo P s n && !goesTo P s n) by rw [stuck_left, HLN.out])
      have HXn := Lib.hid (HBR.out.box HX3.out)
      have HRn := Lib.hid (HBR.out.box HR3.out)
      have HWn := Lib.hid (HW3.out.trans HBR.out)
      have e18 := HXn.out.cell 18 (vs_get _ (by omega))
      have z18 := HXn.out.frozen 18
      generalize leftTo P s n = lf at *
      generalize goesTo P s n = gs at *
      have hne1 : w.heap.size + 1 ≠ E := by omega
      cases lf
      · cases gs
        · have hb1 := HXn.out.set 18 (.bool true)
          have e19 := hb1.cell 19 (v := .bool k) (by simp [vs]; rfl)
          have z19 := hb1.frozen 19
          have hb2 : Box ((wr.setCell ⟨E, 18, none⟩ (.bool true)).setCell ⟨E, 19, none⟩ (.bool false)) E (vs 20 (endF (nat s.mem) (nat s.vol) s.has true false)) 31 := by have h := hb1.set 19 (.bool false); rw [vs_set, vs_set, vs_congr (g' := endF (nat s.mem) (nat s.vol) s.has true false) end_two] at h; exact h
          have hr2 : Box ((wr.setCell ⟨E, 18, none⟩ (.bool true)).setCell ⟨E, 19, none⟩ (.bool false)) (w.heap.size + 1) z20 31 := (HRn.out.set_ne ⟨E, 18, none⟩ _ hne1).set_ne ⟨E, 19, none⟩ _ hne1
          have hw2 : Bel w ((wr.setCell ⟨E, 18, none⟩ (.bool true)).setCell ⟨E, 19, none⟩ (.bool false)) := (HWn.out.setCell ⟨E, 18, none⟩ (by dsimp only; omega) _).setCell ⟨E, 19, none⟩ (by dsimp only; omega) _
          have HW9 := Lib.hid hw2
          clear hw2 hb1
          go_wp2_with (first | (refine loadB 31 _ rfl rfl rfl hb2 (TEv _) ?_) | (refine storeB 31 _ _ rfl rfl rfl rfl hr2 (by rw [vs_size]; rfl) (TEv _) (vs_all endF_one) ?_))
          refine bodyPost_ret (res_c Try.results51 rfl (B := w.heap.size + 1) (c := (vs 20 (endF (nat s.mem) (nat s.vol) s.has true false))) (t := 31) (hr2.setRow _) (TEv _)) rfl ⟨?_, (HW9.out.setRow (w.heap.size + 1) (by omega) _).out⟩
          unfold endP
          rw [end_vs, HD.out, HK.out]
          rfl
        · have hb1 := HXn.out.set 18 (.bool true)
          have e19 := hb1.cell 19 (v := .bool k) (by simp [vs]; rfl)
          have z19 := hb1.frozen 19
          have hb2 : Box ((wr.setCell ⟨E, 18, none⟩ (.bool true)).setCell ⟨E, 19, none⟩ (.bool false)) E (vs 20 (endF (nat s.mem) (nat s.vol) s.has true false)) 31 := by have h := hb1.set 19 (.bool false); rw [vs_set, vs_set, vs_congr (g' := endF (nat s.mem) (nat s.vol) s.has true false) end_two] at h; exact h
          have hr2 : Box ((wr.setCell ⟨E, 18, none⟩ (.bool true)).setCell ⟨E, 19, none⟩ (.bool false)) (w.heap.size + 1) z20 31 := (HRn.out.set_ne ⟨E, 18, none⟩ _ hne1).set_ne ⟨E, 19, none⟩ _ hne1
          have hw2 : Bel w ((wr.setCell ⟨E, 18, none⟩ (.bool true)).setCell ⟨E, 19, none⟩ (.bool false)) := (HWn.out.setCell ⟨E, 18, none⟩ (by dsimp only; omega) _).setCell ⟨E, 19, none⟩ (by dsimp only; omega) _
          have HW9 := Lib.hid hw2
          clear hw2 hb1
          go_wp2_with (first | (refine loadB 31 _ rfl rfl rfl hb2 (TEv _) ?_) | (refine storeB 31 _ _ rfl rfl rfl rfl hr2 (by rw [vs_size]; rfl) (TEv _) (vs_all endF_one) ?_))
          refine bodyPost_ret (res_c Try.results51 rfl (B := w.heap.size + 1) (c := (vs 20 (endF (nat s.mem) (nat s.vol) s.has true false))) (t := 31) (hr2.setRow _) (TEv _)) rfl ⟨?_, (HW9.out.setRow (w.heap.size + 1) (by omega) _).out⟩
          unfold endP
          rw [end_vs, HD.out, HK.out]
          rfl
      · cases gs
        · have hb1 := HXn.out.set 18 (.bool false)
          have e19 := hb1.cell 19 (v := .bool k) (by simp [vs]; rfl)
          have z19 := hb1.frozen 19
          have hb2 : Box ((wr.setCell ⟨E, 18, none⟩ (.bool false)).setCell ⟨E, 19, none⟩ (.bool true)) E (vs 20 (endF (nat s.mem) (nat s.vol) s.has false true)) 31 := by have h := hb1.set 19 (.bool true); rw [vs_set, vs_set, vs_congr (g' := endF (nat s.mem) (nat s.vol) s.has false true) end_two] at h; exact h
          have hr2 : Box ((wr.setCell ⟨E, 18, none⟩ (.bool false)).setCell ⟨E, 19, none⟩ (.bool true)) (w.heap.size + 1) z20 31 := (HRn.out.set_ne ⟨E, 18, none⟩ _ hne1).set_ne ⟨E, 19, none⟩ _ hne1
          have hw2 : Bel w ((wr.setCell ⟨E, 18, none⟩ (.bool false)).setCell ⟨E, 19, none⟩ (.bool true)) := (HWn.out.setCell ⟨E, 18, none⟩ (by dsimp only; omega) _).setCell ⟨E, 19, none⟩ (by dsimp only; omega) _
          have HW9 := Lib.hid hw2
          clear hw2 hb1
          go_wp2_with (first | (refine loadB 31 _ rfl rfl rfl hb2 (TEv _) ?_) | (refine storeB 31 _ _ rfl rfl rfl rfl hr2 (by rw [vs_size]; rfl) (TEv _) (vs_all endF_one) ?_))
          refine bodyPost_ret (res_c Try.results51 rfl (B := w.heap.size + 1) (c := (vs 20 (endF (nat s.mem) (nat s.vol) s.has false true))) (t := 31) (hr2.setRow _) (TEv _)) rfl ⟨?_, (HW9.out.setRow (w.heap.size + 1) (by omega) _).out⟩
          unfold endP
          rw [end_vs, HD.out, HK.out]
          rfl
        · have hb1 := HXn.out.set 18 (.bool false)
          have e19 := hb1.cell 19 (v := .bool k) (by simp [vs]; rfl)
          have z19 := hb1.frozen 19
          have hb2 : Box ((wr.setCell ⟨E, 18, none⟩ (.bool false)).setCell ⟨E, 19, none⟩ (.bool false)) E (vs 20 (endF (nat s.mem) (nat s.vol) s.has false false)) 31 := by have h := hb1.set 19 (.bool false); rw [vs_set, vs_set, vs_congr (g' := endF (nat s.mem) (nat s.vol) s.has false false) end_two] at h; exact h
          have hr2 : Box ((wr.setCell ⟨E, 18, none⟩ (.bool false)).setCell ⟨E, 19, none⟩ (.bool false)) (w.heap.size + 1) z20 31 := (HRn.out.set_ne ⟨E, 18, none⟩ _ hne1).set_ne ⟨E, 19, none⟩ _ hne1
          have hw2 : Bel w ((wr.setCell ⟨E, 18, none⟩ (.bool false)).setCell ⟨E, 19, none⟩ (.bool false)) := (HWn.out.setCell ⟨E, 18, none⟩ (by dsimp only; omega) _).setCell ⟨E, 19, none⟩ (by dsimp only; omega) _
          have HW9 := Lib.hid hw2
          clear hw2 hb1
          go_wp2_with (first | (refine loadB 31 _ rfl rfl rfl hb2 (TEv _) ?_) | (refine storeB 31 _ _ rfl rfl rfl rfl hr2 (by rw [vs_size]; rfl) (TEv _) (vs_all endF_one) ?_))
          refine bodyPost_ret (res_c Try.results51 rfl (B := w.heap.size + 1) (c := (vs 20 (endF (nat s.mem) (nat s.vol) s.has false false))) (t := 31) (hr2.setRow _) (TEv _)) rfl ⟨?_, (HW9.out.setRow (w.heap.size + 1) (by omega) _).out⟩
          unfold endP
          rw [end_vs, HD.out, HK.out]
          rfl
end Go.Proofs.Ytecdilijcjgjmaa

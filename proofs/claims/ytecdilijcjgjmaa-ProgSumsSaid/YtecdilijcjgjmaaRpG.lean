/- The reference's Prog as a block of 29 cells; its method over. -/
import Derived.Test.YtecdilijcjgjmaaPp
import Derived.Test.YtecdilijcjgjmaaRefTr
import Derived.Test.YtecdilijcjgjmaaAppend
import Derived.Test.YtecdilijcjgjmaaMid
import Derived.Test.YtecdilijcjgjmaaVs
set_option linter.all false
set_option maxRecDepth 100000
namespace Go.Proofs.Ytecdilijcjgjmaa
open Go Go.RowKit

def endF (m v h : Nat → Int) (d k : Bool) (i : Nat) : Value := if i < 8 then .int .i64 (m i) else if i < 12 then .int .i64 (v (i - 8)) else if i < 18 then .int .i64 (h (i - 12)) else if i = 18 then .bool d else .bool k
def gP (A : Option Addr) (n c : Nat) (s : Ps) (LV QV : Value) (d k : Bool) (i : Nat) : Value :=
  if i = 0 then .slice A n c else if i < 7 then .int .i64 (s.a (i - 1)) else if i = 7 then LV else if i < 28 then endF (nat s.mem) (nat s.vol) s.has d k (i - 8) else QV
theorem TG : RowTy Try.prog 93 29 := ⟨_, Try.underlying93, rfl, by kernel_rfl⟩
theorem TEnd : RowTy Try.prog 31 20 := ⟨_, Try.underlying31, rfl, by kernel_rfl⟩
theorem TOp' : RowTy Try.prog 55 3 := ⟨_, Try.underlying55, rfl, by kernel_rfl⟩
structure GBx (w : World) (B : Nat) (A : Option Addr) (n c : Nat) (s : Ps) (LV QV : Value) (d k : Bool) : Prop where
  box : Box w B (vs 29 (gP A n c s LV QV d k)) 93
variable {w w' : World} {B : Nat} {A : Option Addr} {n c : Nat} {s : Ps} {LV QV : Value} {d k : Bool}
theorem GBx.bel (h : GBx w B A n c s LV QV d k) (hb : Bel w w') : GBx w' B A n c s LV QV d k := ⟨hb.box h.box⟩
theorem GBx.cell (h : GBx w B A n c s LV QV d k) {i : Nat} (hi : i < 29) : w.cell? ⟨B, i, none⟩ = some (gP A n c s LV QV d k i) := h.box.cell i (vs_get _ hi)
theorem GBx.p (h : GBx w B A n c s LV QV d k) : w.cell? ⟨B, 0, none⟩ = some (.slice A n c) := h.cell (i := 0) (by omega)
theorem GBx.l (h : GBx w B A n c s LV QV d k) : w.cell? ⟨B, 7, none⟩ = some LV := h.cell (i := 7) (by omega)
theorem GBx.q (h : GBx w B A n c s LV QV d k) : w.cell? ⟨B, 28, none⟩ = some QV := h.cell (i := 28) (by omega)
theorem GBx.at_ (h : GBx w B A n c s LV QV d k) {t : Nat} (ht : t < 6) : w.cell? ⟨B, 1 + t, none⟩ = some (.int .i64 (s.a t)) := by
  rw [h.cell (i := 1 + t) (by omega)]
  unfold gP
  rw [if_neg (by omega), if_pos (by omega), Nat.add_sub_cancel_left]
theorem GBx.mem (h : GBx w B A n c s LV QV d k) {t : Nat} (ht : t < 8) : w.cell? ⟨B, 8 + t, none⟩ = some (.int .i64 (s.mem (t : Nat))) := by
  rw [h.cell (i := 8 + t) (by omega)]
  unfold gP endF nat
  rw [if_neg (by omega), if_neg (by omega), if_neg (by omega), if_pos (by omega), if_pos (by omega), Nat.add_sub_cancel_left]
theorem GBx.vol (h : GBx w B A n c s LV QV d k) {t : Nat} (ht : t < 4) : w.cell? ⟨B, 16 + t, none⟩ = some (.int .i64 (s.vol (t : Nat))) := by
  rw [h.cell (i := 16 + t) (by omega)]
  unfold gP endF nat
  rw [if_neg (by omega), if_neg (by omega), if_neg (by omega), if_pos (by omega), if_neg (by omega), if_pos (by omega), show 16 + t - 8 - 8 = t by omega]
theorem GBx.has (h : GBx w B A n c s LV QV d k) {t : Nat} (ht : t < 6) : w.cell? ⟨B, 20 + t, none⟩ = some (.int .i64 (s.has t)) := by
  rw [h.cell (i := 20 + t) (by omega)]
  unfold gP endF nat
  rw [if_neg (by omega), if_neg (by omega), if_neg (by omega), if_pos (by omega), if_neg (by omega), if_neg (by omega), if_pos (by omega), show 20 + t - 8 - 12 = t by omega]
theorem upF_off {β : Type} (f : Nat → β) {k j : Nat} (x : β) (h : j ≠ k) : upF f k x j = f j := upF_ne f x h
theorem gP_a {t x : Nat} (ht : t < 6) (j : Nat) (_hj : j < 29) : updC (gP A n c s LV QV d k) (1 + t) (.int .i64 (x : Nat)) j = gP A n c { s with a := upF s.a t x } LV QV d k j := by
  unfold updC
  by_cases h0 : j = 1 + t
  · rw [if_pos h0]; unfold gP; rw [if_neg (by omega), if_pos (by omega), show j - 1 = t by omega]; simp [upF]
  · rw [if_neg h0]; unfold gP
    by_cases h1 : j = 0
    · rw [if_pos h1, if_pos h1]
    · rw [if_neg h1, if_neg h1]
      by_cases h2 : j < 7
      · rw [if_pos h2, if_pos h2]; show _ = Value.int .i64 ((upF s.a t x (j - 1) : Nat) : Int); rw [upF_off _ _ (by omega)]
      · rw [if_neg h2, if_neg h2]
theorem endF_has {m v h : Nat → Int} {t : Nat} {x : Int} (ht : t < 6) (j : Nat) : (if j = 12 + t then Value.int .i64 x else endF m v h d k j) = endF m v (upF h t x) d k j := by
  unfold endF
  by_cases h0 : j = 12 + t
  · rw [if_pos h0, if_neg (by omega), if_neg (by omega), if_pos (by omega), show j - 12 = t by omega]; simp [upF]
  · rw [if_neg h0]
    by_cases h1 : j < 8
    · rw [if_pos h1, if_pos h1]
    · rw [if_neg h1, if_neg h1]
      by_cases h2 : j < 12
      · rw [if_pos h2, if_pos h2]
      · rw [if_neg h2, if_neg h2]
        by_cases h3 : j < 18
        · rw [if_pos h3, if_pos h3, upF_off _ _ (by omega)]
        · rw [if_neg h3, if_neg h3]
theorem endF_mem {m v h : Nat → Int} {t : Nat} {x : Int} (ht : t < 8) (j : Nat) : (if j = t then Value.int .i64 x else endF m v h d k j) = endF (upF m t x) v h d k j := by
  unfold endF
  by_cases h0 : j = t
  · rw [if_pos h0, if_pos (by omega), h0]; simp [upF]
  · rw [if_neg h0]
    by_cases h1 : j < 8
    · rw [if_pos h1, if_pos h1, upF_off _ _ h0]
    · rw [if_neg h1, if_neg h1]
theorem endF_vol {m v h : Nat → Int} {t : Nat} {x : Int} (ht : t < 4) (j : Nat) : (if j = 8 + t then Value.int .i64 x else endF m v h d k j) = endF m (upF v t x) h d k j := by
  unfold endF
  by_cases h0 : j = 8 + t
  · rw [if_pos h0, if_neg (by omega), if_pos (by omega), show j - 8 = t by omega]; simp [upF]
  · rw [if_neg h0]
    by_cases h1 : j < 8
    · rw [if_pos h1, if_pos h1]
    · rw [if_neg h1, if_neg h1]
      by_cases h2 : j < 12
      · rw [if_pos h2, if_pos h2, upF_off _ _ (by omega)]
      · rw [if_neg h2, if_neg h2]
theorem gP_end {v : Value} {t : Nat} (ht : t < 20) {e e' : Nat → Value} (he : ∀ j, (if j = t then v else e j) = e' j) (j : Nat) (P0 P7 P28 : Nat → Value) :
    (if j = 8 + t then v else (if j < 7 then P0 j else if j = 7 then P7 j else if j < 28 then e (j - 8) else P28 j)) = (if j < 7 then P0 j else if j = 7 then P7 j else if j < 28 then e' (j - 8) else P28 j) := by
  by_cases h0 : j = 8 + t
  · rw [if_pos h0, if_neg (by omega), if_neg (by omega), if_pos (by omega), ← he, if_pos (by omega)]
  · rw [if_neg h0]
    by_cases h1 : j < 7
    · rw [if_pos h1, if_pos h1]
    · rw [if_neg h1, if_neg h1]
      by_cases h2 : j = 7
      · rw [if_pos h2, if_pos h2]
      · rw [if_neg h2, if_neg h2]
        by_cases h3 : j < 28
        · rw [if_pos h3, if_pos h3, ← he, if_neg (by omega)]
        · rw [if_neg h3, if_neg h3]
theorem gP_form (j : Nat) : gP A n c s LV QV d k j = (if j < 7 then (if j = 0 then .slice A n c else .int .i64 (s.a (j - 1))) else if j = 7 then LV else if j < 28 then endF (nat s.mem) (nat s.vol) s.has d k (j - 8) else QV) := by
  unfold gP
  by_cases h0 : j = 0
  · subst h0; rfl
  · rw [if_neg h0]
    by_cases h1 : j < 7
    · rw [if_pos h1, if_pos h1, if_neg h0]
    · rw [if_neg h1, if_neg h1]
theorem gP_upd {v : Value} {t : Nat} (ht : t < 20) {s' : Ps} {d' k' : Bool} (ha : s'.a = s.a) (he : ∀ j, (if j = t then v else endF (nat s.mem) (nat s.vol) s.has d k j) = endF (nat s'.mem) (nat s'.vol) s'.has d' k' j) (j : Nat) (_hj : j < 29) :
    updC (gP A n c s LV QV d k) (8 + t) v j = gP A n c s' LV QV d' k' j := by
  unfold updC
  rw [gP_form, gP_form, gP_end ht he j (fun j => if j = 0 then .slice A n c else .int .i64 (s.a (j - 1))) (fun _ => LV) (fun _ => QV), ha]
theorem GBx.put (h : GBx w B A n c s LV QV d k) {i : Nat} {v : Value} {s' : Ps} {LV' QV' : Value} {d' k' : Bool} (he : ∀ j, j < 29 → updC (gP A n c s LV QV d k) i v j = gP A n c s' LV' QV' d' k' j) : GBx (w.setCell ⟨B, i, none⟩ v) B A n c s' LV' QV' d' k' := by
  have := h.box.set i v
  rw [vs_set, vs_congr he] at this
  exact ⟨this⟩
theorem GBx.setA (h : GBx w B A n c s LV QV d k) {t x : Nat} (ht : t < 6) : GBx (w.setCell ⟨B, 1 + t, none⟩ (.int .i64 (x : Nat))) B A n c { s with a := upF s.a t x } LV QV d k := h.put (gP_a ht)
theorem GBx.setHas (h : GBx w B A n c s LV QV d k) {t : Nat} {x : Int} (ht : t < 6) : GBx (w.setCell ⟨B, 20 + t, none⟩ (.int .i64 x)) B A n c { s with has := upF s.has t x } LV QV d k := by
  have := h.put (i := 8 + (12 + t)) (v := .int .i64 x) (s' := { s with has := upF s.has t x }) (gP_upd (by omega) rfl fun j => endF_has ht j)
  rwa [show 8 + (12 + t) = 20 + t by omega] at this
theorem nat_upd (f : Int → Int) (t : Nat) (x : Int) : nat (updI f t x) = upF (nat f) t x := by
  funext j
  unfold nat updI upF
  by_cases h : j = t
  · subst h; simp
  · rw [if_neg h, if_neg (by omega)]
theorem GBx.setMem (h : GBx w B A n c s LV QV d k) {t : Nat} {x : Int} (ht : t < 8) : GBx (w.setCell ⟨B, 8 + t, none⟩ (.int .i64 x)) B A n c { s with mem := updI s.mem t x } LV QV d k :=
  h.put (gP_upd (by omega) rfl fun j => by show _ = endF (nat (updI s.mem t x)) _ _ _ _ _; rw [nat_upd]; exact endF_mem ht j)
theorem GBx.setVol (h : GBx w B A n c s LV QV d k) {t : Nat} {x : Int} (ht : t < 4) : GBx (w.setCell ⟨B, 16 + t, none⟩ (.int .i64 x)) B A n c { s with vol := updI s.vol t x } LV QV d k := by
  have := h.put (i := 8 + (8 + t)) (v := .int .i64 x) (s' := { s with vol := updI s.vol t x }) (gP_upd (by omega) rfl fun j => by show _ = endF _ (nat (updI s.vol t x)) _ _ _ _; rw [nat_upd]; exact endF_vol ht j)
  rwa [show 8 + (8 + t) = 16 + t by omega] at this
theorem GBx.setL (h : GBx w B A n c s LV QV d k) {LV' : Value} : GBx (w.setCell ⟨B, 7, none⟩ LV') B A n c s LV' QV d k :=
  h.put fun j _ => by
    unfold updC gP
    by_cases h0 : j = 7
    · subst h0; rfl
    · rw [if_neg h0]
      by_cases h1 : j = 0
      · rw [if_pos h1, if_pos h1]
      · rw [if_neg h1, if_neg h1]
        by_cases h2 : j < 7
        · rw [if_pos h2, if_pos h2]
        · rw [if_neg h2, if_neg h2, if_neg h0, if_neg h0]
theorem GBx.setQ (h : GBx w B A n c s LV QV d k) {QV' : Value} : GBx (w.setCell ⟨B, 28, none⟩ QV') B A n c s LV QV' d k :=
  h.put fun j hj => by
    unfold updC gP
    by_cases h0 : j = 28
    · subst h0; rfl
    · rw [if_neg h0]
      by_cases h1 : j = 0
      · rw [if_pos h1, if_pos h1]
      · rw [if_neg h1, if_neg h1]
        by_cases h2 : j < 7
        · rw [if_pos h2, if_pos h2]
        · rw [if_neg h2, if_neg h2]
          by_cases h3 : j = 7
          · rw [if_pos h3, if_pos h3]
          · rw [if_neg h3, if_neg h3, if_pos (by omega), if_pos (by omega)]
theorem GBx.ps (h : GBx w B A n c s LV QV d k) {s' : Ps} (ha : s'.a = s.a) (hm : s'.mem = s.mem) (hv : s'.vol = s.vol) (hh : s'.has = s.has) : GBx w B A n c s' LV QV d k := by
  have e : gP A n c s' LV QV d k = gP A n c s LV QV d k := by funext j; unfold gP; rw [ha, hm, hv, hh]
  exact ⟨by rw [e]; exact h.box⟩
theorem boxG (w : World) (A : Option Addr) (n c : Nat) (s : Ps) (LV QV : Value) (d k : Bool) :
    GBx (w.alloc (.cells (vs 29 (gP A n c s LV QV d k)) 93)) w.heap.size A n c s LV QV d k ∧ Bel w (w.alloc (.cells (vs 29 (gP A n c s LV QV d k)) 93)) :=
  ⟨⟨Box.new w _ _⟩, (Bel.refl w).alloc _⟩
set_option maxHeartbeats 4000000 in
theorem over_any (t : Nat) {P : List (List Ev)} (hP : Prg w A n P) (hnc : n ≤ c) (hcm : c ≤ maxLen) (ht : t < n) (h6 : n ≤ 6) :
    Calls Try.prog 77 #[.agg (vs 29 (gP A n c s LV QV d k)), .int .i64 t] w fun e w' => e = .returned (.bool (decide (s.a t = (opsP P t).length))) ∧ Below w.heap.size w w' := by
  obtain ⟨hb, hw⟩ := boxG w A n c s LV QV d k
  obtain ⟨b, off, C, m, e, rfl, hlt, hc, hsl, hm, he⟩ := hP.at_ ht
  have F0 := fun (w1 : World) (h1 : Bel (w.alloc (.cells (vs 29 (gP (some ⟨b, off, none⟩) n c s LV QV d k)) 93)) w1) => And.intro (hb.bel h1).p (And.intro ((hb.bel h1).at_ (t := t) (by omega)) (h1.cell (hw.cell hc)))
  have HL := Lib.hid hsl.1
  have HF := Lib.hid F0
  have HW := Lib.hid hw
  have ht1 : (t : Int) < n := by omega
  have ht2 : (t : Int) < 6 := by omega
  have ht3 : t < 6 := by omega
  have htc : (t : Int) ≤ c := by omega
  clear hb hw hP hsl F0 hc hlt
  go_enter Try.func77, Try.ntmps77
  go_wp2
  (refine region_bel (by kernel_rfl) (by kernel_rfl) ?_; (repeat (first | ((with_reducible refine BigFrame.wpQuiet_skip ?_ ?_); exact rfl; simp only [Act.put, Act.eval, List.setIfInBounds_toArray, List.set_cons_zero, List.set_cons_succ, Array.getD_eq_getD_getElem?, List.getElem?_toArray, List.getElem?_cons_zero, List.getElem?_cons_succ, Option.getD_some]) | (refine q_move _ rfl rfl ?_; simp only [Act.put, Act.eval, List.setIfInBounds_toArray, List.set_cons_zero, List.set_cons_succ, Array.getD_eq_getD_getElem?, List.getElem?_toArray, List.getElem?_cons_zero, List.getElem?_cons_succ, Option.getD_some]) | (refine q_assign _ rfl rfl ?_; simp only [Act.put, Act.eval, List.setIfInBounds_toArray, List.set_cons_zero, List.set_cons_succ, Array.getD_eq_getD_getElem?, List.getElem?_toArray, List.getElem?_cons_zero, List.getElem?_cons_succ, Option.getD_some]) | (refine q_any rfl ?_; apply Exists.intro; refine ⟨fun w hw => ?_, ?_⟩; (have fct0 := HF.out w hw; go_simp; first | exact ⟨rfl, rfl⟩ | rfl); simp only [Act.put, Act.eval, List.setIfInBounds_toArray, List.set_cons_zero, List.set_cons_succ, Array.getD_eq_getD_getElem?, List.getElem?_toArray, List.getElem?_cons_zero, List.getElem?_cons_succ, Option.getD_some]))); refine wpQuiet_nil ?_; intro w2 hw2)
  go_wp2
  go_ret
  refine ⟨?_, (HW.out.trans hw2).out⟩
  refine ret_val (congrArg Value.bool ?_)
  rw [HL.out, Bool.eq_iff_iff]
  simp
  omega
/-- The list of events that a Prog holds. -/
structure LVal (w : World) (LV : Value) (l : List Ev) : Prop where
  ex : ∃ B m e, LV = .slice B m e ∧ Sl w B m l ∧ m ≤ e ∧ e ≤ maxLen
theorem LVal.bel {l : List Ev} (h : LVal w LV l) (hb : Bel w w') : LVal w' LV l := by
  obtain ⟨B, m, e, h1, h2, h3, h4⟩ := h.ex
  exact ⟨B, m, e, h1, h2.bel hb, h3, h4⟩
theorem can_out {P : List (List Ev)} {t : Int} (h : outs t 0 ((P.length : Int) - 1) = true) : (decide (0 ≤ t) && canP P s t.toNat) = false := by
  unfold outs at h
  have := of_decide_eq_true h
  by_cases h0 : 0 ≤ t
  · have h1 : ¬ t.toNat < P.length := by omega
    unfold canP
    rw [decide_eq_false h1, Bool.false_and, Bool.and_false]
  · rw [decide_eq_false h0, Bool.false_and]
theorem can_late {P : List (List Ev)} {t : Nat} (h : begun s.L t = false) : canP P s t = false := by unfold canP; rw [h, Bool.false_and, Bool.and_false]
theorem can_over {P : List (List Ev)} {t : Nat} (h : (opsP P t)[s.a t]? = none) : canP P s t = false := by unfold canP; rw [h, Bool.and_false, Bool.and_false]
theorem can_at {P : List (List Ev)} {t : Nat} {o : Ev} (ht : t < P.length) (hb : begun s.L t = true) (h : (opsP P t)[s.a t]? = some o) : canP P s t = canO P s t o := by unfold canP; rw [h, hb, decide_eq_true ht, Bool.true_and, Bool.true_and]
theorem outw_any (t a b : Int) (v : Bool) (h : outs t a b = v) (w : World) : Calls Try.prog 44 #[.int .i64 t, .int .i64 a, .int .i64 b] w fun e w' => e = .returned (.bool v) ∧ Below w.heap.size w w' :=
  (outside_any t a b w).mono fun e w' ⟨h1, h2⟩ => ⟨h ▸ h1, h2 ▸ Below.refl _ _⟩
end Go.Proofs.Ytecdilijcjgjmaa

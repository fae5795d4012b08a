/- The reference's Prog as a block of 29 cells; its method over. | The reference's Prog: Can. | The reference's Prog: Ended. -/
import Derived.Test.YtjddahidkodieaaPp
import Derived.Test.YtjddahidkodieaaRefTr
import Derived.Test.YtjddahidkodieaaAppend
import Derived.Test.YtjddahidkodieaaMid
import Derived.Test.YtjddahidkodieaaVs
import Derived.Deep.DeepCutAuto
set_option linter.all false
set_option maxRecDepth 100000
namespace Go.Proofs.Ytjddahidkodieaa
open Go Go.RowKit

def endF (m v h : Nat → Int) (d k : Bool) (i : Nat) : Value := if i < 8 then .int .i64 (m i) else if i < 12 then .int .i64 (v (i - 8)) else if i < 18 then .int .i64 (h (i - 12)) else if i = 18 then .bool d else .bool k
def gP (A : Option Addr) (n c : Nat) (s : Ps) (LV QV : Value) (d k : Bool) (i : Nat) : Value :=
  if i = 0 then .slice A n c else if i < 7 then .int .i64 (s.a (i - 1)) else if i = 7 then LV else if i < 28 then endF (nat s.mem) (nat s.vol) s.has d k (i - 8) else QV
theorem TG : RowTy Try.prog 95 29 := ⟨_, Try.underlying95, rfl, by kernel_rfl⟩
theorem TEnd : RowTy Try.prog 49 20 := ⟨_, Try.underlying49, rfl, by kernel_rfl⟩
theorem TOp' : RowTy Try.prog 63 3 := ⟨_, Try.underlying63, rfl, by kernel_rfl⟩
structure GBx (w : World) (B : Nat) (A : Option Addr) (n c : Nat) (s : Ps) (LV QV : Value) (d k : Bool) : Prop where
  box : Box w B (vs 29 (gP A n c s LV QV d k)) 95
variable {w w' : World} {B : Nat} {A : Option Addr} {n c : Nat} {s : Ps} {LV QV : Value} {d k : Bool}
theorem GBx.bel (h : GBx w B A n c s LV QV d k) (hb : Bel w w') : GBx w' B A n c s LV QV d k := ⟨hb.box h.box⟩
theorem GBx.cell (h : GBx w B A n c s LV QV d k) {i : Nat} (hi : i < 29) : w.cell? ⟨B, i, none⟩ = some (gP A n c s LV QV d k i) := h.box.cell i (vs_get _ hi)
theorem GBx.p (h : GBx w B A n c s LV QV d k) : w.cell? ⟨B, 0, none⟩ = some (.slice A n c) := h.cell (i := 0) (by omega)
theorem GBx.l (h : GBx w B A n c s LV QV d k) : w.cell? ⟨B, 7, none⟩ = some LV := h.cell (i := 7) (by omega)
theorem GBx.q (h : GBx w B A n c s LV QV d k) : w.cell? ⟨B, 28, none⟩ = some QV := h.cell (i := 28) (by omega)
theorem GBx.at_ (h : GBx w B A n c s LV QV d k) {t : Nat} (ht : t < 6) : w.cell? ⟨B, 1 + t, none⟩ = some (.int .i64 (s.a t)) := by
  rw [h.cell (i := 1 + t) (by omega)]
  unfold gP
  rw [if_neg (by omega), if_pos (by omega), Nat.add_sub_cancel_left]
theorem GBx.mem (h : GBx w B A n c s LV QV d k) {t : Nat} (ht : t < 8) : w.cell? ⟨B, 8 + t, none⟩ = some (.int .i64 (s.mem (t : Nat))) := by
  rw [h.cell (i := 8 + t) (by omega)]
  unfold gP endF nat
  rw [if_neg (by omega), if_neg (by omega), if_neg (by omega), if_pos (by omega), if_pos (by omega), Nat.add_sub_cancel_left]
theorem GBx.vol (h : GBx w B A n c s LV QV d k) {t : Nat} (ht : t < 4) : w.cell? ⟨B, 16 + t, none⟩ = some (.int .i64 (s.vol (t : Nat))) := by
  rw [h.cell (i := 16 + t) (by omega)]
  unfold gP endF nat
  rw [if_neg (by omega), if_neg (by omega), if_neg (by omega), if_pos (by omega), if_neg (by omega), if_pos (by omega), show 16 + t - 8 - 8 = t by omega]
theorem GBx.has (h : GBx w B A n c s LV QV d k) {t : Nat} (ht : t < 6) : w.cell? ⟨B, 20 + t, none⟩ = some (.int .i64 (s.has t)) := by
  rw [h.cell (i := 20 + t) (by omega)]
  unfold gP endF nat
  rw [if_neg (by omega), if_neg (by omega), if_neg (by omega), if_pos (by omega), if_neg (by omega), if_neg (by omega), if_pos (by omega), show 20 + t - 8 - 12 = t by omega]
theorem upF_off {β : Type} (f : Nat → β) {k j : Nat} (x : β) (h : j ≠ k) : upF f k x j = f j := upF_ne f x h
theorem gP_a {t x : Nat} (ht : t < 6) (j : Nat) (_hj : j < 29) : updC (gP A n c s LV QV d k) (1 + t) (.int .i64 (x : Nat)) j = gP A n c { s with a := upF s.a t x } LV QV d k j := by
  unfold updC
  by_cases h0 : j = 1 + t
  · rw [if_pos h0]; unfold gP; rw [if_neg (by omega), if_pos (by omega), show j - 1 = t by omega]; simp [upF]
  · rw [if_neg h0]; unfold gP
    by_cases h1 : j = 0
    · rw [if_pos h1, if_pos h1]
    · rw [if_neg h1, if_neg h1]
      by_cases h2 : j < 7
      · rw [if_pos h2, if_pos h2]; show _ = Value.int .i64 ((upF s.a t x (j - 1) : Nat) : Int); rw [upF_off _ _ (by omega)]
      · rw [if_neg h2, if_neg h2]
theorem endF_has {m v h : Nat → Int} {t : Nat} {x : Int} (ht : t < 6) (j : Nat) : (if j = 12 + t then Value.int .i64 x else endF m v h d k j) = endF m v (upF h t x) d k j := by
  unfold endF
  by_cases h0 : j = 12 + t
  · rw [if_pos h0, if_neg (by omega), if_neg (by omega), if_pos (by omega), show j - 12 = t by omega]; simp [upF]
  · rw [if_neg h0]
    by_cases h1 : j < 8
    · rw [if_pos h1, if_pos h1]
    · rw [if_neg h1, if_neg h1]
      by_cases h2 : j < 12
      · rw [if_pos h2, if_pos h2]
      · rw [if_neg h2, if_neg h2]
        by_cases h3 : j < 18
        · rw [if_pos h3, if_pos h3, upF_off _ _ (by omega)]
        · rw [if_neg h3, if_neg h3]
theorem endF_mem {m v h : Nat → Int} {t : Nat} {x : Int} (ht : t < 8) (j : Nat) : (if j = t then Value.int .i64 x else endF m v h d k j) = endF (upF m t x) v h d k j := by
  unfold endF
  by_cases h0 : j = t
  · rw [if_pos h0, if_pos (by omega), h0]; simp [upF]
  · rw [if_neg h0]
    by_cases h1 : j < 8
    · rw [if_pos h1, if_pos h1, upF_off _ _ h0]
    · rw [if_neg h1, if_neg h1]
theorem endF_vol {m v h : Nat → Int} {t : Nat} {x : Int} (ht : t < 4) (j : Nat) : (if j = 8 + t then Value.int .i64 x else endF m v h d k j) = endF m (upF v t x) h d k j := by
  unfold endF
  by_cases h0 : j = 8 + t
  · rw [if_pos h0, if_neg (by omega), if_pos (by omega), show j - 8 = t by omega]; simp [upF]
  · rw [if_neg h0]
    by_cases h1 : j < 8
    · rw [if_pos h1, if_pos h1]
    · rw [if_neg h1, if_neg h1]
      by_cases h2 : j < 12
      · rw [if_pos h2, if_pos h2, upF_off _ _ (by omega)]
      · rw [if_neg h2, if_neg h2]
theorem gP_end {v : Value} {t : Nat} (ht : t < 20) {e e' : Nat → Value} (he : ∀ j, (if j = t then v else e j) = e' j) (j : Nat) (P0 P7 P28 : Nat → Value) :
    (if j = 8 + t then v else (if j < 7 then P0 j else if j = 7 then P7 j else if j < 28 then e (j - 8) else P28 j)) = (if j < 7 then P0 j else if j = 7 then P7 j else if j < 28 then e' (j - 8) else P28 j) := by
  by_cases h0 : j = 8 + t
  · rw [if_pos h0, if_neg (by omega), if_neg (by omega), if_pos (by omega), ← he, if_pos (by omega)]
  · rw [if_neg h0]
    by_cases h1 : j < 7
    · rw [if_pos h1, if_pos h1]
    · rw [if_neg h1, if_neg h1]
      by_cases h2 : j = 7
      · rw [if_pos h2, if_pos h2]
      · rw [if_neg h2, if_neg h2]
        by_cases h3 : j < 28
        · rw [if_pos h3, if_pos h3, ← he, if_neg (by omega)]
        · rw [if_neg h3, if_neg h3]
theorem gP_form (j : Nat) : gP A n c s LV QV d k j = (if j < 7 then (if j = 0 then .slice A n c else .int .i64 (s.a (j - 1))) else if j = 7 then LV else if j < 28 then endF (nat s.mem) (nat s.vol) s.has d k (j - 8) else QV) := by
  unfold gP
  by_cases h0 : j = 0
  · subst h0; rfl
  · rw [if_neg h0]
    by_cases h1 : j < 7
    · rw [if_pos h1, if_pos h1, if_neg h0]
    · rw [if_neg h1, if_neg h1]
theorem gP_upd {v : Value} {t : Nat} (ht : t < 20) {s' : Ps} {d' k' : Bool} (ha : s'.a = s.a) (he : ∀ j, (if j = t then v else endF (nat s.mem) (nat s.vol) s.has d k j) = endF (nat s'.mem) (nat s'.vol) s'.has d' k' j) (j : Nat) (_hj : j < 29) :
    updC (gP A n c s LV QV d k) (8 + t) v j = gP A n c s' LV QV d' k' j := by
  unfold updC
  rw [gP_form, gP_form, gP_end ht he j (fun j => if j = 0 then .slice A n c else .int .i64 (s.a (j - 1))) (fun _ => LV) (fun _ => QV), ha]
theorem GBx.put (h : GBx w B A n c s LV QV d k) {i : Nat} {v : Value} {s' : Ps} {LV' QV' : Value} {d' k' : Bool} (he : ∀ j, j < 29 → updC (gP A n c s LV QV d k) i v j = gP A n c s' LV' QV' d' k' j) : GBx (w.setCell ⟨B, i, none⟩ v) B A n c s' LV' QV' d' k' := by
  have := h.box.set i v
  rw [vs_set, vs_congr he] at this
  exact ⟨this⟩
theorem GBx.setA (h : GBx w B A n c s LV QV d k) {t x : Nat} (ht : t < 6) : GBx (w.setCell ⟨B, 1 + t, none⟩ (.int .i64 (x : Nat))) B A n c { s with a := upF s.a t x } LV QV d k := h.put (gP_a ht)
theorem GBx.setHas (h : GBx w B A n c s LV QV d k) {t : Nat} {x : Int} (ht : t < 6) : GBx (w.setCell ⟨B, 20 + t, none⟩ (.int .i64 x)) B A n c { s with has := upF s.has t x } LV QV d k := by
  have := h.put (i := 8 + (12 + t)) (v := .int .i64 x) (s' := { s with has := upF s.has t x }) (gP_upd (by omega) rfl fun j => endF_has ht j)
  rwa [show 8 + (12 + t) = 20 + t by omega] at this
theorem nat_upd (f : Int → Int) (t : Nat) (x : Int) : nat (updI f t x) = upF (nat f) t x := by
  funext j
  unfold nat updI upF
  by_cases h : j = t
  · subst h; simp
  · rw [if_neg h, if_neg (by omega)]
theorem GBx.setMem (h : GBx w B A n c s LV QV d k) {t : Nat} {x : Int} (ht : t < 8) : GBx (w.setCell ⟨B, 8 + t, none⟩ (.int .i64 x)) B A n c { s with mem := updI s.mem t x } LV QV d k :=
  h.put (gP_upd (by omega) rfl fun j => by show _ = endF (nat (updI s.mem t x)) _ _ _ _ _; rw [nat_upd]; exact endF_mem ht j)
theorem GBx.setVol (h : GBx w B A n c s LV QV d k) {t : Nat} {x : Int} (ht : t < 4) : GBx (w.setCell ⟨B, 16 + t, none⟩ (.int .i64 x)) B A n c { s with vol := updI s.vol t x } LV QV d k := by
  have := h.put (i := 8 + (8 + t)) (v := .int .i64 x) (s' := { s with vol := updI s.vol t x }) (gP_upd (by omega) rfl fun j => by show _ = endF _ (nat (updI s.vol t x)) _ _ _ _; rw [nat_upd]; exact endF_vol ht j)
  rwa [show 8 + (8 + t) = 16 + t by omega] at this
theorem GBx.setL (h : GBx w B A n c s LV QV d k) {LV' : Value} : GBx (w.setCell ⟨B, 7, none⟩ LV') B A n c s LV' QV d k :=
  h.put fun j _ => by
    unfold updC gP
    by_cases h0 : j = 7
    · subst h0; rfl
    · rw [if_neg h0]
      by_cases h1 : j = 0
      · rw [if_pos h1, if_pos h1]
      · rw [if_neg h1, if_neg h1]
        by_cases h2 : j < 7
        · rw [if_pos h2, if_pos h2]
        · rw [if_neg h2, if_neg h2, if_neg h0, if_neg h0]
theorem GBx.setQ (h : GBx w B A n c s LV QV d k) {QV' : Value} : GBx (w.setCell ⟨B, 28, none⟩ QV') B A n c s LV QV' d k :=
  h.put fun j hj => by
    unfold updC gP
    by_cases h0 : j = 28
    · subst h0; rfl
    · rw [if_neg h0]
      by_cases h1 : j = 0
      · rw [if_pos h1, if_pos h1]
      · rw [if_neg h1, if_neg h1]
        by_cases h2 : j < 7
        · rw [if_pos h2, if_pos h2]
        · rw [if_neg h2, if_neg h2]
          by_cases h3 : j = 7
          · rw [if_pos h3, if_pos h3]
          · rw [if_neg h3, if_neg h3, if_pos (by omega), if_pos (by omega)]
theorem GBx.ps (h : GBx w B A n c s LV QV d k) {s' : Ps} (ha : s'.a = s.a) (hm : s'.mem = s.mem) (hv : s'.vol = s.vol) (hh : s'.has = s.has) : GBx w B A n c s' LV QV d k := by
  have e : gP A n c s' LV QV d k = gP A n c s LV QV d k := by funext j; unfold gP; rw [ha, hm, hv, hh]
  exact ⟨by rw [e]; exact h.box⟩
theorem boxG (w : World) (A : Option Addr) (n c : Nat) (s : Ps) (LV QV : Value) (d k : Bool) :
    GBx (w.alloc (.cells (vs 29 (gP A n c s LV QV d k)) 95)) w.heap.size A n c s LV QV d k ∧ Bel w (w.alloc (.cells (vs 29 (gP A n c s LV QV d k)) 95)) :=
  ⟨⟨Box.new w _ _⟩, (Bel.refl w).alloc _⟩
set_option maxHeartbeats 4000000 in
theorem over_any (t : Nat) {P : List (List Ev)} (hP : Prg w A n P) (hnc : n ≤ c) (hcm : c ≤ maxLen) (ht : t < n) (h6 : n ≤ 6) :
    Calls Try.prog 68 #[.agg (vs 29 (gP A n c s LV QV d k)), .int .i64 t] w fun e w' => e = .returned (.bool (decide (s.a t = (opsP P t).length))) ∧ Below w.heap.size w w' := by
  obtain ⟨hb, hw⟩ := boxG w A n c s LV QV d k
  obtain ⟨b, off, C, m, e, rfl, hlt, hc, hsl, hm, he⟩ := hP.at_ ht
  have F0 := fun (w1 : World) (h1 : Bel (w.alloc (.cells (vs 29 (gP (some ⟨b, off, none⟩) n c s LV QV d k)) 95)) w1) => And.intro (hb.bel h1).p (And.intro ((hb.bel h1).at_ (t := t) (by omega)) (h1.cell (hw.cell hc)))
  have HL := Lib.hid hsl.1
  have HF := Lib.hid F0
  have HW := Lib.hid hw
  have ht1 : (t : Int) < n := by omega
  have ht2 : (t : Int) < 6 := by omega
  have ht3 : t < 6 := by omega
  have htc : (t : Int) ≤ c := by omega
  clear hb hw hP hsl F0 hc hlt
  go_enter Try.func68, Try.ntmps68
  go_wp2
  (refine region_bel (by kernel_rfl) (by kernel_rfl) ?_; (repeat (first | ((with_reducible refine BigFrame.wpQuiet_skip ?_ ?_); exact rfl; simp only [Act.put, Act.eval, List.setIfInBounds_toArray, List.set_cons_zero, List.set_cons_succ, Array.getD_eq_getD_getElem?, List.getElem?_toArray, List.getElem?_cons_zero, List.getElem?_cons_succ, Option.getD_some]) | (refine q_move _ rfl rfl ?_; simp only [Act.put, Act.eval, List.setIfInBounds_toArray, List.set_cons_zero, List.set_cons_succ, Array.getD_eq_getD_getElem?, List.getElem?_toArray, List.getElem?_cons_zero, List.getElem?_cons_succ, Option.getD_some]) | (refine q_assign _ rfl rfl ?_; simp only [Act.put, Act.eval, List.setIfInBounds_toArray, List.set_cons_zero, List.set_cons_succ, Array.getD_eq_getD_getElem?, List.getElem?_toArray, List.getElem?_cons_zero, List.getElem?_cons_succ, Option.getD_some]) | (refine q_any rfl ?_; apply Exists.intro; refine ⟨fun w hw => ?_, ?_⟩; (have fct0 := HF.out w hw; go_simp; first | exact ⟨rfl, rfl⟩ | rfl); simp only [Act.put, Act.eval, List.setIfInBounds_toArray, List.set_cons_zero, List.set_cons_succ, Array.getD_eq_getD_getElem?, List.getElem?_toArray, List.getElem?_cons_zero, List.getElem?_cons_succ, Option.getD_some]))); refine wpQuiet_nil ?_; intro w2 hw2)
  go_wp2
  go_ret
  refine ⟨?_, (HW.out.trans hw2).out⟩
  refine ret_val (congrArg Value.bool ?_)
  rw [HL.out, Bool.eq_iff_iff]
  simp
  omega
/-- The list of events that a Prog holds. -/
structure LVal (w : World) (LV : Value) (l : List Ev) : Prop where
  ex : ∃ B m e, LV = .slice B m e ∧ Sl w B m l ∧ m ≤ e ∧ e ≤ maxLen
theorem LVal.bel {l : List Ev} (h : LVal w LV l) (hb : Bel w w') : LVal w' LV l := by
  obtain ⟨B, m, e, h1, h2, h3, h4⟩ := h.ex
  exact ⟨B, m, e, h1, h2.bel hb, h3, h4⟩
theorem can_out {P : List (List Ev)} {t : Int} (h : outs t 0 ((P.length : Int) - 1) = true) : (decide (0 ≤ t) && canP P s t.toNat) = false := by
  unfold outs at h
  have := of_decide_eq_true h
  by_cases h0 : 0 ≤ t
  · have h1 : ¬ t.toNat < P.length := by omega
    unfold canP
    rw [decide_eq_false h1, Bool.false_and, Bool.and_false]
  · rw [decide_eq_false h0, Bool.false_and]
theorem can_late {P : List (List Ev)} {t : Nat} (h : begun s.L t = false) : canP P s t = false := by unfold canP; rw [h, Bool.false_and, Bool.and_false]
theorem can_over {P : List (List Ev)} {t : Nat} (h : (opsP P t)[s.a t]? = none) : canP P s t = false := by unfold canP; rw [h, Bool.and_false, Bool.and_false]
theorem can_at {P : List (List Ev)} {t : Nat} {o : Ev} (ht : t < P.length) (hb : begun s.L t = true) (h : (opsP P t)[s.a t]? = some o) : canP P s t = canO P s t o := by unfold canP; rw [h, hb, decide_eq_true ht, Bool.true_and, Bool.true_and]
theorem outw_any (t a b : Int) (v : Bool) (h : outs t a b = v) (w : World) : Calls Try.prog 66 #[.int .i64 t, .int .i64 a, .int .i64 b] w fun e w' => e = .returned (.bool v) ∧ Below w.heap.size w w' :=
  (outside_any t a b w).mono fun e w' ⟨h1, h2⟩ => ⟨h ▸ h1, h2 ▸ Below.refl _ _⟩
end Go.Proofs.Ytjddahidkodieaa
namespace Go.Proofs.Ytjddahidkodieaa
open Go Go.RowKit

variable {w w' : World} {A : Option Addr} {n c : Nat} {s : Ps} {LV QV : Value} {d k : Bool}
theorem begv_any (B : Option Addr) (m e : Nat) (l : List Ev) (t : Int) (v : Bool) (w : World) (hv : begun l t = v) (hl : Sl w B m l) (hm : m ≤ 9223372036854775807) :
    Calls Try.prog 67 #[.slice B m e, .int .i64 t] w fun e w' => e = .returned (.bool v) ∧ Below w.heap.size w w' :=
  hv ▸ begun_any B m e l t w hl hm
theorem overv_any (t : Nat) {P : List (List Ev)} (v : Bool) (w : World) (hv : decide (s.a t = (opsP P t).length) = v) (hP : Prg w A n P) (hnc : n ≤ c) (hcm : c ≤ maxLen) (ht : t < n) (h6 : n ≤ 6) :
    Calls Try.prog 68 #[.agg (vs 29 (gP A n c s LV QV d k)), .int .i64 t] w fun e w' => e = .returned (.bool v) ∧ Below w.heap.size w w' :=
  hv ▸ over_any t hP hnc hcm ht h6
theorem TGv (g : Nat → Value) : RowTy Try.prog 95 (vs 29 g).size := by rw [vs_size]; exact TG
theorem info_op : (Try.prog.info? 63).map (fun i => (i.zero, i.size, i.bytes)) = some (some (.agg #[.int .i64 0, .int .i64 0, .int .i64 0]), 3, 24) := by kernel_rfl
set_option maxHeartbeats 16000000 in
theorem canr_any (t : Int) {P : List (List Ev)} (hP : Prg w A n P) (hnc : n ≤ c) (hcm : c ≤ maxLen) (hO : OkP P) (hR : PsR P s) (hL : LVal w LV s.L) (ht64 : In64 t) :
    Calls Try.prog 41 #[.agg (vs 29 (gP A n c s LV QV d k)), .int .i64 t] w fun e w' => e = .returned (.bool (decide (0 ≤ t) && canP P s t.toNat)) ∧ Below w.heap.size w w' := by
  obtain ⟨hb, hw⟩ := boxG w A n c s LV QV d k
  obtain ⟨B, m, e, rfl, hsl, hme, hem⟩ := hL.ex
  have h6 : n ≤ 6 := by rw [← hP.1]; exact hO.six
  have h1 : 1 ≤ n := by rw [← hP.1]; exact hO.one
  have HLN := Lib.hid hP.1
  have hm63 : m ≤ 9223372036854775807 := by unfold maxLen at hem; omega
  have HW := Lib.hid hw
  have HP1 := Lib.hid (hP.bel hw)
  have HS1 := Lib.hid (hsl.bel hw)
  have HG := Lib.hid hb
  have HB := Lib.hid hb.box
  have HM := Lib.hid (And.intro hnc hcm)
  have HOK := Lib.hid hO
  have HPR := Lib.hid hR
  clear hb hw hP hsl hL hnc hcm hO hR hem hme
  go_enter Try.func41, Try.ntmps41
  generalize hX : w.alloc (.cells (vs 29 (gP A n c s (.slice B m e) QV d k)) 95) = X at *
  have F0 := fun (w1 : World) (h1 : Bel X w1) => And.intro (HG.out.bel h1).p (HG.out.bel h1).l
  have HF := Lib.hid F0
  clear F0
  have hwn : IntKind.i64.wrap ((n : Int) - 1) = (n : Int) - 1 := IntWalk.i64_in _ (by omega)
  cases o1 : outs t 0 ((n : Int) - 1)
  · obtain ⟨u, rfl⟩ : ∃ u : Nat, t = u := ⟨t.toNat, by unfold outs at o1; have := of_decide_eq_false o1; omega⟩
    have hu : u < n := by unfold outs at o1; have := of_decide_eq_false o1; omega
    have hu6 : u < 6 := by omega
    cases o2 : begun s.L (u : Nat)
    · have HC := Lib.hid (can_late (P := P) o2)
      go_wp2_with (first | (refine list_bel 16 rfl ?_; (repeat (first | ((with_reducible refine BigFrame.wpQuiet_skip ?_ ?_); exact rfl; simp only [Act.put, Act.eval, List.setIfInBounds_toArray, List.set_cons_zero, List.set_cons_succ, Array.getD_eq_getD_getElem?, List.getElem?_toArray, List.getElem?_cons_zero, List.getElem?_cons_succ, Option.getD_some]) | (refine q_move _ rfl rfl ?_; simp only [Act.put, Act.eval, List.setIfInBounds_toArray, List.set_cons_zero, List.set_cons_succ, Array.getD_eq_getD_getElem?, List.getElem?_toArray, List.getElem?_cons_zero, List.getElem?_cons_succ, Option.getD_some]) | (refine q_assign _ rfl rfl ?_; simp only [Act.put, Act.eval, List.setIfInBounds_toArray, List.set_cons_zero, List.set_cons_succ, Array.getD_eq_getD_getElem?, List.getElem?_toArray, List.getElem?_cons_zero, List.getElem?_cons_succ, Option.getD_some]) | (refine q_any rfl ?_; apply Exists.intro; refine ⟨fun w hw => ?_, ?_⟩; (have fct0 := HF.out w hw; go_simp; first | exact ⟨rfl, rfl⟩ | rfl | (go_at_call 66; (with_reducible refine (outw_any _ _ _ _ o1 _).mono ?_); rintro e w' ⟨rfl, hb⟩; exact ⟨rfl, hw.call hb⟩) | (go_at_call 67; (with_reducible refine (begv_any _ _ _ _ _ _ _ o2 (HS1.out.bel hw.out) hm63).mono ?_); rintro e w' ⟨rfl, hb⟩; exact ⟨rfl, hw.call hb⟩)); simp only [Act.put, Act.eval, List.setIfInBounds_toArray, List.set_cons_zero, List.set_cons_succ, Array.getD_eq_getD_getElem?, List.getElem?_toArray, List.getElem?_cons_zero, List.getElem?_cons_succ, Option.getD_some]))); refine wpQuiet_nil ?_; intro w2 hw2))
      clear o1 o2
      go_ret
      exact ⟨by rw [Int.toNat_natCast, HC.out, Bool.and_false]; rfl, (HW.out.trans hw2).out⟩
    · cases o3 : decide (s.a u = (opsP P u).length)
      · have hlt : s.a u < (opsP P u).length := by have := HPR.out.le u; have := of_decide_eq_false o3; omega
        go_wp2_with (first | (refine list_bel 16 rfl ?_; (repeat (first | ((with_reducible refine BigFrame.wpQuiet_skip ?_ ?_); exact rfl; simp only [Act.put, Act.eval, List.setIfInBounds_toArray, List.set_cons_zero, List.set_cons_succ, Array.getD_eq_getD_getElem?, List.getElem?_toArray, List.getElem?_cons_zero, List.getElem?_cons_succ, Option.getD_some]) | (refine q_move _ rfl rfl ?_; simp only [Act.put, Act.eval, List.setIfInBounds_toArray, List.set_cons_zero, List.set_cons_succ, Array.getD_eq_getD_getElem?, List.getElem?_toArray, List.getElem?_cons_zero, List.getElem?_cons_succ, Option.getD_some]) | (refine q_assign _ rfl rfl ?_; simp only [Act.put, Act.eval, List.setIfInBounds_toArray, List.set_cons_zero, List.set_cons_succ, Array.getD_eq_getD_getElem?, List.getElem?_toArray, List.getElem?_cons_zero, List.getElem?_cons_succ, Option.getD_some]) | (refine q_load _ _ rfl rfl rfl HB.out (TGv _) ?_; simp only [Act.put, Act.eval, List.setIfInBounds_toArray, List.set_cons_zero, List.set_cons_succ, Array.getD_eq_getD_getElem?, List.getElem?_toArray, List.getElem?_cons_zero, List.getElem?_cons_succ, Option.getD_some]) | (refine q_any rfl ?_; apply Exists.intro; refine ⟨fun w hw => ?_, ?_⟩; (have fct0 := HF.out w hw; go_simp; first | exact ⟨rfl, rfl⟩ | rfl | (go_at_call 66; (with_reducible refine (outw_any _ _ _ _ o1 _).mono ?_); rintro e w' ⟨rfl, hb⟩; exact ⟨rfl, hw.call hb⟩) | (go_at_call 67; (with_reducible refine (begv_any _ _ _ _ _ _ _ o2 (HS1.out.bel hw.out) hm63).mono ?_); rintro e w' ⟨rfl, hb⟩; exact ⟨rfl, hw.call hb⟩) | (go_at_call 68; (with_reducible refine (overv_any u _ _ o3 (HP1.out.bel hw) HM.out.1 HM.out.2 hu h6).mono ?_); rintro e w' ⟨rfl, hb⟩; exact ⟨rfl, hw.call hb⟩)); simp only [Act.put, Act.eval, List.setIfInBounds_toArray, List.set_cons_zero, List.set_cons_succ, Array.getD_eq_getD_getElem?, List.getElem?_toArray, List.getElem?_cons_zero, List.getElem?_cons_succ, Option.getD_some]))); refine wpQuiet_nil ?_; intro w2 hw2))
        obtain ⟨b, off, C, mo, co, rfl, hbl, hrow, hops, hmo, hco⟩ := (HP1.out.bel hw2).at_ hu
        obtain ⟨bb, oo, o, rfl, hbb, ho, hrg⟩ := hops.at_ (show s.a u < mo by rw [← hops.1]; exact hlt)
        have hau : (s.a u : Int) < mo := by have := hops.1; omega
        have hac : (s.a u : Int) ≤ co := by omega
        have hun : (u : Int) < n := by omega
        have hun6 : (u : Int) < 6 := by omega
        have huc : (u : Int) ≤ c := by have := HM.out.1; omega
        have HO := Lib.hid ho
        have HROW := fun (w1 : World) (h1 : Below w2.heap.size w2 w1) => rangeAt_below h1 hbb hrg
        have HGB := Lib.hid (HG.out.bel hw2)
        have F := fun (w1 : World) (h1 : Below w2.heap.size w2 w1) => And.intro (HGB.out.bel (Bel.of h1)).p (And.intro ((HGB.out.bel (Bel.of h1)).at_ hu6) ((Bel.of h1).cell hrow))
        obtain ⟨j0, hj0, gz0, gz1, gz2⟩ := info_parts info_op
        refine region_grow (by kernel_rfl) ?_
        (repeat (first | ((first | refine wpG_go 0 (by simp only [List.getElem?_toArray, List.getElem?_cons_zero, List.getElem?_cons_succ] <;> rfl) (by decide +kernel) (by decide +kernel) (by kernel_rfl) (by rfl) (by exact fun _ _ _ _ h => h) (Nat.le_refl _) ?_ | refine wpG_go 1 (by simp only [List.getElem?_toArray, List.getElem?_cons_zero, List.getElem?_cons_succ] <;> rfl) (by decide +kernel) (by decide +kernel) (by kernel_rfl) (by rfl) (by exact fun _ _ _ _ h => h) (Nat.le_refl _) ?_ | refine wpG_go 2 (by simp only [List.getElem?_toArray, List.getElem?_cons_zero, List.getElem?_cons_succ] <;> rfl) (by decide +kernel) (by decide +kernel) (by kernel_rfl) (by rfl) (by exact fun _ _ _ _ h => h) (Nat.le_refl _) ?_ | refine wpG_go 3 (by simp only [List.getElem?_toArray, List.getElem?_cons_zero, List.getElem?_cons_succ] <;> rfl) (by decide +kernel) (by decide +kernel) (by kernel_rfl) (by rfl) (by exact fun _ _ _ _ h => h) (Nat.le_refl _) ?_ | refine wpG_go 4 (by simp only [List.getElem?_toArray, List.getElem?_cons_zero, List.getElem?_cons_succ] <;> rfl) (by decide +kernel) (by decide +kernel) (by kernel_rfl) (by rfl) (by exact fun _ _ _ _ h => h) (Nat.le_refl _) ?_ | refine wpG_go 5 (by simp only [List.getElem?_toArray, List.getElem?_cons_zero, List.getElem?_cons_succ] <;> rfl) (by decide +kernel) (by decide +kernel) (by kernel_rfl) (by rfl) (by exact fun _ _ _ _ h => h) (Nat.le_refl _) ?_ | refine wpG_go 6 (by simp only [List.getElem?_toArray, List.getElem?_cons_zero, List.getElem?_cons_succ] <;> rfl) (by decide +kernel) (by decide +kernel) (by kernel_rfl) (by rfl) (by exact fun _ _ _ _ h => h) (Nat.le_refl _) ?_ | refine wpG_go 7 (by simp only [List.getElem?_toArray, List.getElem?_cons_zero, List.getElem?_cons_succ] <;> rfl) (by decide +kernel) (by decide +kernel) (by kernel_rfl) (by rfl) (by exact fun _ _ _ _ h => h) (Nat.le_refl _) ?_ | refine wpG_go 8 (by simp only [List.getElem?_toArray, List.getElem?_cons_zero, List.getElem?_cons_succ] <;> rfl) (by decide +kernel) (by decide +kernel) (by kernel_rfl) (by rfl) (by exact fun _ _ _ _ h => h) (Nat.le_refl _) ?_ | refine wpG_go 9 (by simp only [List.getElem?_toArray, List.getElem?_cons_zero, List.getElem?_cons_succ] <;> rfl) (by decide +kernel) (by decide +kernel) (by kernel_rfl) (by rfl) (by exact fun _ _ _ _ h => h) (Nat.le_refl _) ?_ | refine wpG_go 10 (by simp only [List.getElem?_toArray, List.getElem?_cons_zero, List.getElem?_cons_succ] <;> rfl) (by decide +kernel) (by decide +kernel) (by kernel_rfl) (by rfl) (by exact fun _ _ _ _ h => h) (Nat.le_refl _) ?_); apply Exists.intro; refine ⟨fun w1 h1 => ?_, ?_⟩; (first | exact g_move _ rfl | exact g_assign _ rfl | exact g_load_mid _ _ rfl rfl (HROW w1 h1) TOp' (evv o) rfl | (have fct0 := F w1 h1; go_simp; first | exact ⟨rfl, rfl⟩ | rfl)); simp only [Act.put, Act.eval, List.setIfInBounds_toArray, List.set_cons_zero, List.set_cons_succ, Array.getD_eq_getD_getElem?, List.getElem?_toArray, List.getElem?_cons_zero, List.getElem?_cons_succ, Option.getD_some]) | ((first | refine wpG_skip 0 (by simp only [List.getElem?_toArray, List.getElem?_cons_zero, List.getElem?_cons_succ] <;> rfl) (by decide +kernel) (by decide +kernel) (by kernel_rfl) (by rfl) (by exact fun _ _ _ _ h => h) (Nat.le_refl _) ?_ | refine wpG_skip 1 (by simp only [List.getElem?_toArray, List.getElem?_cons_zero, List.getElem?_cons_succ] <;> rfl) (by decide +kernel) (by decide +kernel) (by kernel_rfl) (by rfl) (by exact fun _ _ _ _ h => h) (Nat.le_refl _) ?_ | refine wpG_skip 2 (by simp only [List.getElem?_toArray, List.getElem?_cons_zero, List.getElem?_cons_succ] <;> rfl) (by decide +kernel) (by decide +kernel) (by kernel_rfl) (by rfl) (by exact fun _ _ _ _ h => h) (Nat.le_refl _) ?_ | refine wpG_skip 3 (by simp only [List.getElem?_toArray, List.getElem?_cons_zero, List.getElem?_cons_succ] <;> rfl) (by decide +kernel) (by decide +kernel) (by kernel_rfl) (by rfl) (by exact fun _ _ _ _ h => h) (Nat.le_refl _) ?_ | refine wpG_skip 4 (by simp only [List.getElem?_toArray, List.getElem?_cons_zero, List.getElem?_cons_succ] <;> rfl) (by decide +kernel) (by decide +kernel) (by kernel_rfl) (by rfl) (by exact fun _ _ _ _ h => h) (Nat.le_refl _) ?_ | refine wpG_skip 5 (by simp only [List.getElem?_toArray, List.getElem?_cons_zero, List.getElem?_cons_succ] <;> rfl) (by decide +kernel) (by decide +kernel) (by kernel_rfl) (by rfl) (by exact fun _ _ _ _ h => h) (Nat.le_refl _) ?_ | refine wpG_skip 6 (by simp only [List.getElem?_toArray, List.getElem?_cons_zero, List.getElem?_cons_succ] <;> rfl) (by decide +kernel) (by decide +kernel) (by kernel_rfl) (by rfl) (by exact fun _ _ _ _ h => h) (Nat.le_refl _) ?_ | refine wpG_skip 7 (by simp only [List.getElem?_toArray, List.getElem?_cons_zero, List.getElem?_cons_succ] <;> rfl) (by decide +kernel) (by decide +kernel) (by kernel_rfl) (by rfl) (by exact fun _ _ _ _ h => h) (Nat.le_refl _) ?_ | refine wpG_skip 8 (by simp only [List.getElem?_toArray, List.getElem?_cons_zero, List.getElem?_cons_succ] <;> rfl) (by decide +kernel) (by decide +kernel) (by kernel_rfl) (by rfl) (by exact fun _ _ _ _ h => h) (Nat.le_refl _) ?_ | refine wpG_skip 9 (by simp only [List.getElem?_toArray, List.getElem?_cons_zero, List.getElem?_cons_succ] <;> rfl) (by decide +kernel) (by decide +kernel) (by kernel_rfl) (by rfl) (by exact fun _ _ _ _ h => h) (Nat.le_refl _) ?_ | refine wpG_skip 10 (by simp only [List.getElem?_toArray, List.getElem?_cons_zero, List.getElem?_cons_succ] <;> rfl) (by decide +kernel) (by decide +kernel) (by kernel_rfl) (by rfl) (by exact fun _ _ _ _ h => h) (Nat.le_refl _) ?_); simp only [Act.put, Act.eval, List.setIfInBounds_toArray, List.set_cons_zero, List.set_cons_succ, Array.getD_eq_getD_getElem?, List.getElem?_toArray, List.getElem?_cons_zero, List.getElem?_cons_succ, Option.getD_some])))
        (refine wpG_one 11 (by decide +kernel) ?_; intro w3 hw3; refine op_wanted (by simp only [List.getElem?_toArray, List.getElem?_cons_zero, List.getElem?_cons_succ] <;> rfl) rfl ?_)
        refine wp_new _ rfl j0 hj0 _ gz0 ⟨Below.alloc (Below.refl _ _) hw3.size _, ?_⟩
        simp only [Act.put, Act.eval, List.setIfInBounds_toArray, List.set_cons_zero, List.set_cons_succ, Array.getD_eq_getD_getElem?, List.getElem?_toArray, List.getElem?_cons_zero, List.getElem?_cons_succ, Option.getD_some]
        (refine wpG_one 12 (by decide +kernel) ?_; intro w4 hw4; refine op_wanted (by simp only [List.getElem?_toArray, List.getElem?_cons_zero, List.getElem?_cons_succ] <;> rfl) rfl ?_)
        have hbx := hw4.box (Box.new w3 #[.int .i64 0, .int .i64 0, .int .i64 0] 63)
        refine wp_storeB TOp' _ _ rfl rfl rfl rfl hbx rfl (evv_all o) ⟨below_setRow' (Below.refl _ _) _ _ hw3.size, ?_⟩
        simp only [Act.put, Act.eval, List.setIfInBounds_toArray, List.set_cons_zero, List.set_cons_succ, Array.getD_eq_getD_getElem?, List.getElem?_toArray, List.getElem?_cons_zero, List.getElem?_cons_succ, Option.getD_some]
        (refine wpG_done (by decide +kernel) ?_ _; intro w5 hw5; try simp only [Act.put, Act.eval, List.setIfInBounds_toArray, List.set_cons_zero, List.set_cons_succ, Array.getD_eq_getD_getElem?, List.getElem?_toArray, List.getElem?_cons_zero, List.getElem?_cons_succ, Option.getD_some])
        have hX5 := hw5.box (hbx.setRow (evv o))
        have hD := ((Bel.refl w2).trans hw3)
        have HW5 := Lib.hid ((HW.out.trans hw2).trans ((Bel.of (below_setRow' ((hD.alloc (.cells #[.int .i64 0, .int .i64 0, .int .i64 0] 63)).trans hw4).out w3.heap.size (evv o) hw3.size)).trans hw5))
        have HWX := Lib.hid (hw2.trans ((Bel.of (below_setRow' ((hD.alloc (.cells #[.int .i64 0, .int .i64 0, .int .i64 0] 63)).trans hw4).out w3.heap.size (evv o) hw3.size)).trans hw5))
        have HG5 := Lib.hid (HG.out.bel HWX.out)
        have HB5 := Lib.hid HG5.out.box
        have HP5 := Lib.hid (HP1.out.bel HWX.out)
        have HS5 := Lib.hid (HS1.out.bel HWX.out.out)
        have c0 := hX5.cell 0 (v := .int .i64 o.k) rfl
        have c1 := hX5.cell 1 (v := .int .i64 o.t) rfl
        have g0 := HG5.out.p
        have g7 := HG5.out.l
        have HCN := Lib.hid (can_at (P := P) (s := s) (by rw [HLN.out]; exact hu) o2 HO.out)
        generalize hx3 : w3.heap.size = x3 at *
        clear hw4 hbx hw3 hD hw5 hX5 hx3 F HROW HGB hrg hrow hops hbl hbb ho o1 o2 o3 hw2 HF hau hac gz0 gz1 gz2 hj0
        by_cases k4 : o.k = 4
        · have k4' : (o.k == 4) = true := by simpa using k4
          have HV := Lib.hid (show canO P s u o = decide (owner s.L o.t < 0) by unfold canO; rw [if_pos k4])
          clear k4
          go_wp2_with fail
          refine (owner_any B m e s.L o.t _ HS5.out hm63).mono ?_
          rintro e6 w6 ⟨rfl, hb6⟩
          have HW6 := Lib.hid (HW5.out.call hb6)
          clear hb6
          go_wp2
          go_ret
          exact ⟨by rw [Int.toNat_natCast, HCN.out, HV.out]; simp, HW6.out.out⟩
        · have k4' : (o.k == 4) = false := by simpa using k4
          by_cases k7 : o.k = 7
          · have k7' : (o.k == 7) = true := by simpa using k7
            have HV := Lib.hid (show canO P s u o = (decide (o.t < P.length) && (decide (o.t ≠ u) && (begun s.L o.t && decide (s.a o.t.toNat = (opsP P o.t.toNat).length)))) by unfold canO; rw [if_neg k4, if_pos k7])
            clear k4 k7
            obtain ⟨v, hv⟩ : ∃ v : Nat, o.t = v := ⟨o.t.toNat, by have := isOp_obj (HOK.out.op u o (List.mem_of_getElem? HO.out)); omega⟩
            rw [hv] at c1 HV
            have F5 := fun (w1 : World) (h1 : Bel w5 w1) => And.intro (HG5.out.bel h1).p (And.intro (HG5.out.bel h1).l (And.intro (h1.cell c0) (h1.cell c1)))
            have HLT := Lib.hid (show decide ((v : Int) < P.length) = decide (v < n) by rw [HLN.out, decide_eq_decide]; omega)
            rw [HLT.out, Int.toNat_natCast] at HV
            clear g0 g7
            by_cases hvn : v < n
            · have hvn' : (v : Int) < n := by omega
              by_cases hvu : v = u
              · have hne : ((v : Int) != u) = false := by subst hvu; simp
                have hvu' : (v : Int) = u := by omega
                go_wp2_with (first | (refine list_bel 25 rfl ?_; (repeat (first | ((with_reducible refine BigFrame.wpQuiet_skip ?_ ?_); exact rfl; simp only [Act.put, Act.eval, List.setIfInBounds_toArray, List.set_cons_zero, List.set_cons_succ, Array.getD_eq_getD_getElem?, List.getElem?_toArray, List.getElem?_cons_zero, List.getElem?_cons_succ, Option.getD_some]) | (refine q_move _ rfl rfl ?_; simp only [Act.put, Act.eval, List.setIfInBounds_toArray, List.set_cons_zero, List.set_cons_succ, Array.getD_eq_getD_getElem?, List.getElem?_toArray, List.getElem?_cons_zero, List.getElem?_cons_succ, Option.getD_some]) | (refine q_assign _ rfl rfl ?_; simp only [Act.put, Act.eval, List.setIfInBounds_toArray, List.set_cons_zero, List.set_cons_succ, Array.getD_eq_getD_getElem?, List.getElem?_toArray, List.getElem?_cons_zero, List.getElem?_cons_succ, Option.getD_some]) | (refine q_load _ _ rfl rfl rfl HB5.out (TGv _) ?_; simp only [Act.put, Act.eval, List.setIfInBounds_toArray, List.set_cons_zero, List.set_cons_succ, Array.getD_eq_getD_getElem?, List.getElem?_toArray, List.getElem?_cons_zero, List.getElem?_cons_succ, Option.getD_some]) | (refine q_any rfl ?_; apply Exists.intro; refine ⟨fun w hw => ?_, ?_⟩; (have fct0 := F5 w hw; go_simp; first | exact ⟨rfl, rfl⟩ | rfl); simp only [Act.put, Act.eval, List.setIfInBounds_toArray, List.set_cons_zero, List.set_cons_succ, Array.getD_eq_getD_getElem?, List.getElem?_toArray, List.getElem?_cons_zero, List.getElem?_cons_succ, Option.getD_some]))); refine wpQuiet_nil ?_; intro w2 hw2))
                go_ret
                exact ⟨by rw [Int.toNat_natCast, HCN.out, HV.out]; simp [hvn, hvu], (HW5.out.trans hw2).out⟩
              · have hne : ((v : Int) != u) = true := by simp; omega
                cases q3 : begun s.L (v : Nat)
                · go_wp2_with (first | (refine list_bel 25 rfl ?_; (repeat (first | ((with_reducible refine BigFrame.wpQuiet_skip ?_ ?_); exact rfl; simp only [Act.put, Act.eval, List.setIfInBounds_toArray, List.set_cons_zero, List.set_cons_succ, Array.getD_eq_getD_getElem?, List.getElem?_toArray, List.getElem?_cons_zero, List.getElem?_cons_succ, Option.getD_some]) | (refine q_move _ rfl rfl ?_; simp only [Act.put, Act.eval, List.setIfInBounds_toArray, List.set_cons_zero, List.set_cons_succ, Array.getD_eq_getD_getElem?, List.getElem?_toArray, List.getElem?_cons_zero, List.getElem?_cons_succ, Option.getD_some]) | (refine q_assign _ rfl rfl ?_; simp only [Act.put, Act.eval, List.setIfInBounds_toArray, List.set_cons_zero, List.set_cons_succ, Array.getD_eq_getD_getElem?, List.getElem?_toArray, List.getElem?_cons_zero, List.getElem?_cons_succ, Option.getD_some]) | (refine q_load _ _ rfl rfl rfl HB5.out (TGv _) ?_; simp only [Act.put, Act.eval, List.setIfInBounds_toArray, List.set_cons_zero, List.set_cons_succ, Array.getD_eq_getD_getElem?, List.getElem?_toArray, List.getElem?_cons_zero, List.getElem?_cons_succ, Option.getD_some]) | (refine q_any rfl ?_; apply Exists.intro; refine ⟨fun w hw => ?_, ?_⟩; (have fct0 := F5 w hw; go_simp; first | exact ⟨rfl, rfl⟩ | rfl | (go_at_call 67; (with_reducible refine (begv_any _ _ _ _ _ _ _ q3 (HS5.out.bel hw.out) hm63).mono ?_); rintro e w' ⟨rfl, hb⟩; exact ⟨rfl, hw.call hb⟩)); simp only [Act.put, Act.eval, List.setIfInBounds_toArray, List.set_cons_zero, List.set_cons_succ, Array.getD_eq_getD_getElem?, List.getElem?_toArray, List.getElem?_cons_zero, List.getElem?_cons_succ, Option.getD_some]))); refine wpQuiet_nil ?_; intro w2 hw2))
                  go_ret
                  exact ⟨by rw [Int.toNat_natCast, HCN.out, HV.out]; simp [hvn, q3], (HW5.out.trans hw2).out⟩
                · go_wp2_with (first | (refine list_bel 25 rfl ?_; (repeat (first | ((with_reducible refine BigFrame.wpQuiet_skip ?_ ?_); exact rfl; simp only [Act.put, Act.eval, List.setIfInBounds_toArray, List.set_cons_zero, List.set_cons_succ, Array.getD_eq_getD_getElem?, List.getElem?_toArray, List.getElem?_cons_zero, List.getElem?_cons_succ, Option.getD_some]) | (refine q_move _ rfl rfl ?_; simp only [Act.put, Act.eval, List.setIfInBounds_toArray, List.set_cons_zero, List.set_cons_succ, Array.getD_eq_getD_getElem?, List.getElem?_toArray, List.getElem?_cons_zero, List.getElem?_cons_succ, Option.getD_some]) | (refine q_assign _ rfl rfl ?_; simp only [Act.put, Act.eval, List.setIfInBounds_toArray, List.set_cons_zero, List.set_cons_succ, Array.getD_eq_getD_getElem?, List.getElem?_toArray, List.getElem?_cons_zero, List.getElem?_cons_succ, Option.getD_some]) | (refine q_load _ _ rfl rfl rfl HB5.out (TGv _) ?_; simp only [Act.put, Act.eval, List.setIfInBounds_toArray, List.set_cons_zero, List.set_cons_succ, Array.getD_eq_getD_getElem?, List.getElem?_toArray, List.getElem?_cons_zero, List.getElem?_cons_succ, Option.getD_some]) | (refine q_any rfl ?_; apply Exists.intro; refine ⟨fun w hw => ?_, ?_⟩; (have fct0 := F5 w hw; go_simp; first | exact ⟨rfl, rfl⟩ | rfl | (go_at_call 67; (with_reducible refine (begv_any _ _ _ _ _ _ _ q3 (HS5.out.bel hw.out) hm63).mono ?_); rintro e w' ⟨rfl, hb⟩; exact ⟨rfl, hw.call hb⟩) | (go_at_call 68; (with_reducible refine (overv_any v _ _ rfl (HP5.out.bel hw) HM.out.1 HM.out.2 hvn h6).mono ?_); rintro e w' ⟨rfl, hb⟩; exact ⟨rfl, hw.call hb⟩)); simp only [Act.put, Act.eval, List.setIfInBounds_toArray, List.set_cons_zero, List.set_cons_succ, Array.getD_eq_getD_getElem?, List.getElem?_toArray, List.getElem?_cons_zero, List.getElem?_cons_succ, Option.getD_some]))); refine wpQuiet_nil ?_; intro w2 hw2))
                  go_ret
                  exact ⟨by rw [Int.toNat_natCast, HCN.out, HV.out]; simp [hvn, hvu, q3]; omega, (HW5.out.trans hw2).out⟩
            · have hvn' : ¬ (v : Int) < n := by omega
              go_wp2_with (first | (refine list_bel 25 rfl ?_; (repeat (first | ((with_reducible refine BigFrame.wpQuiet_skip ?_ ?_); exact rfl; simp only [Act.put, Act.eval, List.setIfInBounds_toArray, List.set_cons_zero, List.set_cons_succ, Array.getD_eq_getD_getElem?, List.getElem?_toArray, List.getElem?_cons_zero, List.getElem?_cons_succ, Option.getD_some]) | (refine q_move _ rfl rfl ?_; simp only [Act.put, Act.eval, List.setIfInBounds_toArray, List.set_cons_zero, List.set_cons_succ, Array.getD_eq_getD_getElem?, List.getElem?_toArray, List.getElem?_cons_zero, List.getElem?_cons_succ, Option.getD_some]) | (refine q_assign _ rfl rfl ?_; simp only [Act.put, Act.eval, List.setIfInBounds_toArray, List.set_cons_zero, List.set_cons_succ, Array.getD_eq_getD_getElem?, List.getElem?_toArray, List.getElem?_cons_zero, List.getElem?_cons_succ, Option.getD_some]) | (refine q_load _ _ rfl rfl rfl HB5.out (TGv _) ?_; simp only [Act.put, Act.eval, List.setIfInBounds_toArray, List.set_cons_zero, List.set_cons_succ, Array.getD_eq_getD_getElem?, List.getElem?_toArray, List.getElem?_cons_zero, List.getElem?_cons_succ, Option.getD_some]) | (refine q_any rfl ?_; apply Exists.intro; refine ⟨fun w hw => ?_, ?_⟩; (have fct0 := F5 w hw; go_simp; first | exact ⟨rfl, rfl⟩ | rfl); simp only [Act.put, Act.eval, List.setIfInBounds_toArray, List.set_cons_zero, List.set_cons_succ, Array.getD_eq_getD_getElem?, List.getElem?_toArray, List.getElem?_cons_zero, List.getElem?_cons_succ, Option.getD_some]))); refine wpQuiet_nil ?_; intro w2 hw2))
              go_ret
              exact ⟨by rw [HCN.out, HV.out]; simp [hvn], (HW5.out.trans hw2).out⟩
          · have k7' : (o.k == 7) = false := by simpa using k7
            have HV := Lib.hid (show canO P s u o = true by unfold canO; rw [if_neg k4, if_neg k7])
            clear k4 k7
            go_wp2
            go_ret
            exact ⟨by rw [Int.toNat_natCast, HCN.out, HV.out]; simp, HW5.out.out⟩
      · have HC := Lib.hid (can_over (P := P) (s := s) (t := u) (by rw [of_decide_eq_true o3]; exact List.getElem?_eq_none (Nat.le_refl _)))
        go_wp2_with (first | (refine list_bel 16 rfl ?_; (repeat (first | ((with_reducible refine BigFrame.wpQuiet_skip ?_ ?_); exact rfl; simp only [Act.put, Act.eval, List.setIfInBounds_toArray, List.set_cons_zero, List.set_cons_succ, Array.getD_eq_getD_getElem?, List.getElem?_toArray, List.getElem?_cons_zero, List.getElem?_cons_succ, Option.getD_some]) | (refine q_move _ rfl rfl ?_; simp only [Act.put, Act.eval, List.setIfInBounds_toArray, List.set_cons_zero, List.set_cons_succ, Array.getD_eq_getD_getElem?, List.getElem?_toArray, List.getElem?_cons_zero, List.getElem?_cons_succ, Option.getD_some]) | (refine q_assign _ rfl rfl ?_; simp only [Act.put, Act.eval, List.setIfInBounds_toArray, List.set_cons_zero, List.set_cons_succ, Array.getD_eq_getD_getElem?, List.getElem?_toArray, List.getElem?_cons_zero, List.getElem?_cons_succ, Option.getD_some]) | (refine q_load _ _ rfl rfl rfl HB.out (TGv _) ?_; simp only [Act.put, Act.eval, List.setIfInBounds_toArray, List.set_cons_zero, List.set_cons_succ, Array.getD_eq_getD_getElem?, List.getElem?_toArray, List.getElem?_cons_zero, List.getElem?_cons_succ, Option.getD_some]) | (refine q_any rfl ?_; apply Exists.intro; refine ⟨fun w hw => ?_, ?_⟩; (have fct0 := HF.out w hw; go_simp; first | exact ⟨rfl, rfl⟩ | rfl | (go_at_call 66; (with_reducible refine (outw_any _ _ _ _ o1 _).mono ?_); rintro e w' ⟨rfl, hb⟩; exact ⟨rfl, hw.call hb⟩) | (go_at_call 67; (with_reducible refine (begv_any _ _ _ _ _ _ _ o2 (HS1.out.bel hw.out) hm63).mono ?_); rintro e w' ⟨rfl, hb⟩; exact ⟨rfl, hw.call hb⟩) | (go_at_call 68; (with_reducible refine (overv_any u _ _ o3 (HP1.out.bel hw) HM.out.1 HM.out.2 hu h6).mono ?_); rintro e w' ⟨rfl, hb⟩; exact ⟨rfl, hw.call hb⟩)); simp only [Act.put, Act.eval, List.setIfInBounds_toArray, List.set_cons_zero, List.set_cons_succ, Array.getD_eq_getD_getElem?, List.getElem?_toArray, List.getElem?_cons_zero, List.getElem?_cons_succ, Option.getD_some]))); refine wpQuiet_nil ?_; intro w2 hw2))
        clear o1 o2 o3
        go_ret
        exact ⟨by rw [Int.toNat_natCast, HC.out, Bool.and_false]; rfl, (HW.out.trans hw2).out⟩
  · have HC := Lib.hid (can_out (P := P) (s := s) (t := t) (by rw [HLN.out]; exact o1))
    go_wp2_with (first | (refine list_bel 16 rfl ?_; (repeat (first | ((with_reducible refine BigFrame.wpQuiet_skip ?_ ?_); exact rfl; simp only [Act.put, Act.eval, List.setIfInBounds_toArray, List.set_cons_zero, List.set_cons_succ, Array.getD_eq_getD_getElem?, List.getElem?_toArray, List.getElem?_cons_zero, List.getElem?_cons_succ, Option.getD_some]) | (refine q_move _ rfl rfl ?_; simp only [Act.put, Act.eval, List.setIfInBounds_toArray, List.set_cons_zero, List.set_cons_succ, Array.getD_eq_getD_getElem?, List.getElem?_toArray, List.getElem?_cons_zero, List.getElem?_cons_succ, Option.getD_some]) | (refine q_assign _ rfl rfl ?_; simp only [Act.put, Act.eval, List.setIfInBounds_toArray, List.set_cons_zero, List.set_cons_succ, Array.getD_eq_getD_getElem?, List.getElem?_toArray, List.getElem?_cons_zero, List.getElem?_cons_succ, Option.getD_some]) | (refine q_any rfl ?_; apply Exists.intro; refine ⟨fun w hw => ?_, ?_⟩; (have fct0 := HF.out w hw; go_simp; first | exact ⟨rfl, rfl⟩ | rfl | (go_at_call 66; (with_reducible refine (outw_any _ _ _ _ o1 _).mono ?_); rintro e w' ⟨rfl, hb⟩; exact ⟨rfl, hw.call hb⟩)); simp only [Act.put, Act.eval, List.setIfInBounds_toArray, List.set_cons_zero, List.set_cons_succ, Array.getD_eq_getD_getElem?, List.getElem?_toArray, List.getElem?_cons_zero, List.getElem?_cons_succ, Option.getD_some]))); refine wpQuiet_nil ?_; intro w2 hw2))
    clear o1
    go_ret
    exact ⟨by rw [HC.out]; rfl, (HW.out.trans hw2).out⟩
end Go.Proofs.Ytjddahidkodieaa
namespace Go.Proofs.Ytjddahidkodieaa
open Go Go.RowKit

variable {w w' : World} {A : Option Addr} {n c : Nat} {s : Ps} {LV QV : Value} {d k : Bool}
def leftTo (P : List (List Ev)) (s : Ps) (i : Nat) : Bool := (List.range i).any fun t => begun s.L (t : Nat) && !decide (s.a t = (opsP P t).length)
def goesTo (P : List (List Ev)) (s : Ps) (i : Nat) : Bool := (List.range i).any fun t => canP P s t
theorem leftTo_succ (P : List (List Ev)) (s : Ps) (i : Nat) : leftTo P s (i + 1) = (leftTo P s i || (begun s.L (i : Nat) && !decide (s.a i = (opsP P i).length))) := by unfold leftTo; rw [List.range_succ, List.any_append]; simp
theorem goesTo_succ (P : List (List Ev)) (s : Ps) (i : Nat) : goesTo P s (i + 1) = (goesTo P s i || canP P s i) := by unfold goesTo; rw [List.range_succ, List.any_append]; simp
theorem done_left (P : List (List Ev)) (s : Ps) : doneP P s = !leftTo P s P.length := by
  unfold doneP leftTo
  rw [Bool.eq_iff_iff, Bool.not_eq_true', List.all_eq_true, List.any_eq_false]
  constructor
  · intro h t ht
    have := h t ht
    revert this
    cases begun s.L (t : Nat) <;> simp
  · intro h t ht
    have := h t ht
    revert this
    cases begun s.L (t : Nat) <;> simp
theorem stuck_left (P : List (List Ev)) (s : Ps) : stuckP P s = (leftTo P s P.length && !goesTo P s P.length) := by
  unfold stuckP
  rw [done_left, Bool.not_not]
  rfl
theorem end_vs (m v h : Nat → Int) (d k : Bool) : vs 20 (endF m v h d k) = (endc m v h d k).toArray := by kernel_rfl
theorem TEv (g : Nat → Value) : RowTy Try.prog 49 (vs 20 g).size := by rw [vs_size]; exact TEnd
theorem endF_one {m v h : Nat → Int} {d k : Bool} (i : Nat) : (endF m v h d k i).oneCell' = true := by
  unfold endF
  repeat' split
  all_goals rfl
/-- The end within a Prog's block. -/
theorem GBx.endr {w : World} {B : Nat} (h : GBx w B A n c s LV QV d k) : w.rangeAt B 8 (endc (nat s.mem) (nat s.vol) s.has d k) := fun j v hj => by
  have h20 : j < 20 := by have := (List.getElem?_eq_some_iff.1 hj).1; simpa [endc] using this
  rw [h.cell (i := 8 + j) (by omega)]
  have h1 : (vs 20 (endF (nat s.mem) (nat s.vol) s.has d k))[j]? = some v := by rw [end_vs]; simpa using hj
  rw [vs_get _ h20] at h1
  unfold gP
  rw [if_neg (by omega), if_neg (by omega), if_neg (by omega), if_pos (by omega), Nat.add_sub_cancel_left]
  exact h1
def z20 : Array Value := #[.int .i64 0, .int .i64 0, .int .i64 0, .int .i64 0, .int .i64 0, .int .i64 0, .int .i64 0, .int .i64 0, .int .i64 0, .int .i64 0, .int .i64 0, .int .i64 0, .int .i64 0, .int .i64 0, .int .i64 0, .int .i64 0, .int .i64 0, .int .i64 0, .bool false, .bool false]
theorem load_row {P : Program} {ops : Array Oper} {rest : List Oper} {o : Oper} {a : Act} {w : World} {Q : Exit → Act → World → Prop} {ty : TypeId} {l : List Value} (hT : RowTy P ty l.length) (x : Operand) (ho : o.op = .load ty x) (hgd : o.guard = none) {b off : Nat}
    (hx : a.eval x = .pointer (some ⟨b, off, none⟩)) (hr : w.rangeAt b off l) (h : wpList P ops Q rest (a.put o.dst (.agg l.toArray)) w) : wpList P ops Q (o :: rest) a w := by
  obtain ⟨d, hu, hd, hi⟩ := hT
  exact wpList_load_mid hgd ty x ho b off hx l d hr hu hd hi h
theorem end_two {m v h : Nat → Int} {d k x y : Bool} (j : Nat) (_ : j < 20) : updC (updC (endF m v h d k) 18 (.bool x)) 19 (.bool y) j = endF m v h x y j := by
  unfold updC
  by_cases h9 : j = 19
  · subst h9; rfl
  · rw [if_neg h9]
    by_cases h8 : j = 18
    · subst h8; rfl
    · rw [if_neg h8]
      unfold endF
      by_cases h1 : j < 8
      · rw [if_pos h1, if_pos h1]
      · rw [if_neg h1, if_neg h1]
        by_cases h2 : j < 12
        · rw [if_pos h2, if_pos h2]
        · rw [if_neg h2, if_neg h2, if_pos (by omega), if_pos (by omega)]
/-- The memory of Ended: the end that it makes. -/
structure EnB (w : World) (E : Nat) (f : Nat → Value) : Prop where
  box : Box w E (vs 20 f) 49
set_option maxHeartbeats 16000000 in
theorem endr_any {P : List (List Ev)} (hP : Prg w A n P) (hnc : n ≤ c) (hcm : c ≤ maxLen) (hO : OkP P) (hR : PsR P s) (hL : LVal w LV s.L) :
    Calls Try.prog 43 #[.agg (vs 29 (gP A n c s LV QV d k))] w fun e w' => e = .returned (.agg (endP P s)) ∧ Below w.heap.size w w' := by
  obtain ⟨hb, hw⟩ := boxG w A n c s LV QV d k
  obtain ⟨B, m, e, rfl, hsl, hme, hem⟩ := hL.ex
  have h6 : n ≤ 6 := by rw [← hP.1]; exact hO.six
  have h1 : 1 ≤ n := by rw [← hP.1]; exact hO.one
  have HLN := Lib.hid hP.1
  have hm63 : m ≤ 9223372036854775807 := by unfold maxLen at hem; omega
  have HG := Lib.hid hb
  have HW := Lib.hid hw
  have HP0 := Lib.hid (hP.bel hw)
  have HS0 := Lib.hid (hsl.bel hw)
  have HM := Lib.hid (And.intro hnc hcm)
  have HLV := Lib.hid hL
  have HOK := Lib.hid hO
  have HPR := Lib.hid hR
  have HPW := Lib.hid hP
  clear hb hw hP hsl hL hnc hcm hO hR hem hme
  go_enter Try.func43, Try.ntmps43
  go_upto_region 1 with fail
  change Code.wp _ _ _ _ ((w.alloc (.cells (vs 29 (gP A n c s (.slice B m e) QV d k)) 95)).alloc (.cells z20 49))
  have HA2 := Lib.hid ((Bel.refl (w.alloc (.cells (vs 29 (gP A n c s (.slice B m e) QV d k)) 95))).alloc (.cells z20 49))
  have HR2 := Lib.hid (show Box ((w.alloc (.cells (vs 29 (gP A n c s (.slice B m e) QV d k)) 95)).alloc (.cells z20 49)) (w.heap.size + 1) z20 49 by simpa using Box.new (w.alloc (.cells (vs 29 (gP A n c s (.slice B m e) QV d k)) 95)) z20 49)
  have HW2 := Lib.hid (HW.out.trans HA2.out)
  have HG2 := Lib.hid (HG.out.bel HA2.out)
  have HP2 := Lib.hid (HP0.out.bel HA2.out)
  have HS2 := Lib.hid (HS0.out.bel HA2.out.out)
  clear HG HP0 HS0 HW HA2
  generalize ((w.alloc (.cells (vs 29 (gP A n c s (.slice B m e) QV d k)) 95)).alloc (.cells z20 49)) = w2 at *
  have HX3 := Lib.hid (Box.new w2 z20 49)
  have hlt2 := HR2.out.lt
  have hrr := HG2.out.endr
  go_upto_region 3 with (first | (refine load_row (show RowTy Try.prog 49 (endc (nat s.mem) (nat s.vol) s.has d k).length from TEnd) _ rfl rfl rfl hrr ?_) | (refine storeB 49 _ _ rfl rfl rfl rfl (Box.new w2 z20 49) rfl (by exact TEnd) (by rw [← end_vs]; exact vs_all endF_one) ?_))
  change Code.wp _ _ _ _ ((w2.alloc (.cells z20 49)).setRow w2.heap.size (endc (nat s.mem) (nat s.vol) s.has d k).toArray)
  have HB3 := Lib.hid (show Bel w2 ((w2.alloc (.cells z20 49)).setRow w2.heap.size (endc (nat s.mem) (nat s.vol) s.has d k).toArray) from ((Bel.refl w2).alloc (.cells z20 49)).setRow w2.heap.size (Nat.le_refl _) _)
  have HX3 := Lib.hid (show Box ((w2.alloc (.cells z20 49)).setRow w2.heap.size (endc (nat s.mem) (nat s.vol) s.has d k).toArray) w2.heap.size (vs 20 (endF (nat s.mem) (nat s.vol) s.has d k)) 49 by rw [end_vs]; exact (Box.new w2 z20 49).setRow _)
  have HW3 := Lib.hid (HW2.out.trans HB3.out)
  have HG3 := Lib.hid (HG2.out.bel HB3.out)
  have HP3 := Lib.hid (HP2.out.bel HB3.out)
  have HS3 := Lib.hid (HS2.out.bel HB3.out.out)
  have HR3 := Lib.hid (HB3.out.box HR2.out)
  have hle2 : w.heap.size + 2 ≤ w2.heap.size := by omega
  clear HG2 HP2 HS2 HR2 HW2 hrr HB3 hlt2
  generalize ((w2.alloc (.cells z20 49)).setRow w2.heap.size (endc (nat s.mem) (nat s.vol) s.has d k).toArray) = w3 at *
  generalize w2.heap.size = E at *
  have g0 := HG3.out.p
  have F0 := Lib.hid (show leftTo P s 0 = false from rfl)
  have F1 := Lib.hid (show goesTo P s 0 = false from rfl)
  go_wp2
  go_loopw [4, 5, 12] (fun q r t wr => ∃ i : Nat, i ≤ n ∧ t = .int .i64 i ∧ q = .bool (leftTo P s i) ∧ r = .bool (goesTo P s i) ∧ Bel w3 wr) (fun _ _ t _ => n - (intOf t).toNat)
  case atStart => exact ⟨0, by omega, rfl, by rw [F0.out], by rw [F1.out], Bel.refl _⟩
  case round =>
    obtain ⟨i, hi, rfl, rfl, rfl, hbr⟩ := hrel
    have HBR := Lib.hid hbr
    clear hbr g0
    by_cases hi1 : i < n
    · have hi2 : (i : Int) < n := by omega
      have hi64 : In64 (i : Nat) := by unfold In64; omega
      have HSr := Lib.hid (HS3.out.bel HBR.out.out)
      have HPr := Lib.hid (HP3.out.bel HBR.out)
      have HGr := Lib.hid (HG3.out.bel HBR.out)
      have HXr := Lib.hid HGr.out.box
      have HFr := Lib.hid (fun (w1 : World) (h1 : Bel wr w1) => (HGr.out.bel h1).l)
      have HLS := Lib.hid (leftTo_succ P s i)
      have HGS := Lib.hid (goesTo_succ P s i)
      generalize leftTo P s i = lf at *
      generalize goesTo P s i = gs at *
      cases lf
      · cases o2 : begun s.L (i : Nat)
        · go_upto_region 7 with (first | (refine list_bel 11 rfl ?_; (repeat (first | ((with_reducible refine BigFrame.wpQuiet_skip ?_ ?_); exact rfl; simp only [Act.put, Act.eval, List.setIfInBounds_toArray, List.set_cons_zero, List.set_cons_succ, Array.getD_eq_getD_getElem?, List.getElem?_toArray, List.getElem?_cons_zero, List.getElem?_cons_succ, Option.getD_some]) | (refine q_move _ rfl rfl ?_; simp only [Act.put, Act.eval, List.setIfInBounds_toArray, List.set_cons_zero, List.set_cons_succ, Array.getD_eq_getD_getElem?, List.getElem?_toArray, List.getElem?_cons_zero, List.getElem?_cons_succ, Option.getD_some]) | (refine q_assign _ rfl rfl ?_; simp only [Act.put, Act.eval, List.setIfInBounds_toArray, List.set_cons_zero, List.set_cons_succ, Array.getD_eq_getD_getElem?, List.getElem?_toArray, List.getElem?_cons_zero, List.getElem?_cons_succ, Option.getD_some]) | (refine q_any rfl ?_; apply Exists.intro; refine ⟨fun w hw => ?_, ?_⟩; (have fct0 := HFr.out w hw; go_simp; first | exact ⟨rfl, rfl⟩ | rfl | (go_at_call 67; (with_reducible refine (begv_any _ _ _ _ _ _ _ o2 (HSr.out.bel hw.out) hm63).mono ?_); rintro e w' ⟨rfl, hb⟩; exact ⟨rfl, hw.call hb⟩)); simp only [Act.put, Act.eval, List.setIfInBounds_toArray, List.set_cons_zero, List.set_cons_succ, Array.getD_eq_getD_getElem?, List.getElem?_toArray, List.getElem?_cons_zero, List.getElem?_cons_succ, Option.getD_some]))); refine wpQuiet_nil ?_; intro w2 hw2))
          have hwq := hw2
          clear hw2
          have HWQ := Lib.hid hwq
          have HPq := Lib.hid (HPr.out.bel HWQ.out)
          have HLq := Lib.hid (HLV.out.bel (HW3.out.trans (HBR.out.trans HWQ.out)))
          have HGq := Lib.hid (HGr.out.bel HWQ.out).box
          cases gs
          · go_wp2_with (first | (refine list_bel 5 rfl ?_; (repeat (first | ((with_reducible refine BigFrame.wpQuiet_skip ?_ ?_); exact rfl; simp only [Act.put, Act.eval, List.setIfInBounds_toArray, List.set_cons_zero, List.set_cons_succ, Array.getD_eq_getD_getElem?, List.getElem?_toArray, List.getElem?_cons_zero, List.getElem?_cons_succ, Option.getD_some]) | (refine q_move _ rfl rfl ?_; simp only [Act.put, Act.eval, List.setIfInBounds_toArray, List.set_cons_zero, List.set_cons_succ, Array.getD_eq_getD_getElem?, List.getElem?_toArray, List.getElem?_cons_zero, List.getElem?_cons_succ, Option.getD_some]) | (refine q_assign _ rfl rfl ?_; simp only [Act.put, Act.eval, List.setIfInBounds_toArray, List.set_cons_zero, List.set_cons_succ, Array.getD_eq_getD_getElem?, List.getElem?_toArray, List.getElem?_cons_zero, List.getElem?_cons_succ, Option.getD_some]) | (refine q_load _ _ rfl rfl rfl HGq.out (TGv _) ?_; simp only [Act.put, Act.eval, List.setIfInBounds_toArray, List.set_cons_zero, List.set_cons_succ, Array.getD_eq_getD_getElem?, List.getElem?_toArray, List.getElem?_cons_zero, List.getElem?_cons_succ, Option.getD_some]) | (refine q_any rfl ?_; apply Exists.intro; refine ⟨fun w hw => ?_, ?_⟩; (go_simp; first | exact ⟨rfl, rfl⟩ | rfl | (go_at_call 41; (with_reducible refine (canr_any (i : Nat) (HPq.out.bel hw) HM.out.1 HM.out.2 HOK.out HPR.out (HLq.out.bel hw) hi64).mono ?_); rintro e w' ⟨rfl, hb⟩; exact ⟨rfl, hw.call hb⟩)); simp only [Act.put, Act.eval, List.setIfInBounds_toArray, List.set_cons_zero, List.set_cons_succ, Array.getD_eq_getD_getElem?, List.getElem?_toArray, List.getElem?_cons_zero, List.getElem?_cons_succ, Option.getD_some]))); refine wpQuiet_nil ?_; intro w2 hw2))
            go_roundw
            case rel => exact ⟨i + 1, by omega, by go_num, by rw [HLS.out]; simp [o2], by rw [HGS.out]; simp, HBR.out.trans (HWQ.out.trans hw2)⟩
            case measure => simp [intOf]; omega
          · go_wp2
            go_roundw
            case rel => exact ⟨i + 1, by omega, by go_num, by rw [HLS.out]; simp [o2], by rw [HGS.out]; rfl, HBR.out.trans HWQ.out⟩
            case measure => simp [intOf]; omega
        · go_upto_region 7 with (first | (refine list_bel 11 rfl ?_; (repeat (first | ((with_reducible refine BigFrame.wpQuiet_skip ?_ ?_); exact rfl; simp only [Act.put, Act.eval, List.setIfInBounds_toArray, List.set_cons_zero, List.set_cons_succ, Array.getD_eq_getD_getElem?, List.getElem?_toArray, List.getElem?_cons_zero, List.getElem?_cons_succ, Option.getD_some]) | (refine q_move _ rfl rfl ?_; simp only [Act.put, Act.eval, List.setIfInBounds_toArray, List.set_cons_zero, List.set_cons_succ, Array.getD_eq_getD_getElem?, List.getElem?_toArray, List.getElem?_cons_zero, List.getElem?_cons_succ, Option.getD_some]) | (refine q_assign _ rfl rfl ?_; simp only [Act.put, Act.eval, List.setIfInBounds_toArray, List.set_cons_zero, List.set_cons_succ, Array.getD_eq_getD_getElem?, List.getElem?_toArray, List.getElem?_cons_zero, List.getElem?_cons_succ, Option.getD_some]) | (refine q_load _ _ rfl rfl rfl HXr.out (TGv _) ?_; simp only [Act.put, Act.eval, List.setIfInBounds_toArray, List.set_cons_zero, List.set_cons_succ, Array.getD_eq_getD_getElem?, List.getElem?_toArray, List.getElem?_cons_zero, List.getElem?_cons_succ, Option.getD_some]) | (refine q_any rfl ?_; apply Exists.intro; refine ⟨fun w hw => ?_, ?_⟩; (have fct0 := HFr.out w hw; go_simp; first | exact ⟨rfl, rfl⟩ | rfl | (go_at_call 67; (with_reducible refine (begv_any _ _ _ _ _ _ _ o2 (HSr.out.bel hw.out) hm63).mono ?_); rintro e w' ⟨rfl, hb⟩; exact ⟨rfl, hw.call hb⟩) | (go_at_call 68; (with_reducible refine (overv_any i _ _ rfl (HPr.out.bel hw) HM.out.1 HM.out.2 hi1 h6).mono ?_); rintro e w' ⟨rfl, hb⟩; exact ⟨rfl, hw.call hb⟩)); simp only [Act.put, Act.eval, List.setIfInBounds_toArray, List.set_cons_zero, List.set_cons_succ, Array.getD_eq_getD_getElem?, List.getElem?_toArray, List.getElem?_cons_zero, List.getElem?_cons_succ, Option.getD_some]))); refine wpQuiet_nil ?_; intro w2 hw2))
          have hwq := hw2
          clear hw2
          have HWQ := Lib.hid hwq
          have HPq := Lib.hid (HPr.out.bel HWQ.out)
          have HLq := Lib.hid (HLV.out.bel (HW3.out.trans (HBR.out.trans HWQ.out)))
          have HGq := Lib.hid (HGr.out.bel HWQ.out).box
          cases gs
          · go_wp2_with (first | (refine list_bel 5 rfl ?_; (repeat (first | ((with_reducible refine BigFrame.wpQuiet_skip ?_ ?_); exact rfl; simp only [Act.put, Act.eval, List.setIfInBounds_toArray, List.set_cons_zero, List.set_cons_succ, Array.getD_eq_getD_getElem?, List.getElem?_toArray, List.getElem?_cons_zero, List.getElem?_cons_succ, Option.getD_some]) | (refine q_move _ rfl rfl ?_; simp only [Act.put, Act.eval, List.setIfInBounds_toArray, List.set_cons_zero, List.set_cons_succ, Array.getD_eq_getD_getElem?, List.getElem?_toArray, List.getElem?_cons_zero, List.getElem?_cons_succ, Option.getD_some]) | (refine q_assign _ rfl rfl ?_; simp only [Act.put, Act.eval, List.setIfInBounds_toArray, List.set_cons_zero, List.set_cons_succ, Array.getD_eq_getD_getElem?, List.getElem?_toArray, List.getElem?_cons_zero, List.getElem?_cons_succ, Option.getD_some]) | (refine q_load _ _ rfl rfl rfl HGq.out (TGv _) ?_; simp only [Act.put, Act.eval, List.setIfInBounds_toArray, List.set_cons_zero, List.set_cons_succ, Array.getD_eq_getD_getElem?, List.getElem?_toArray, List.getElem?_cons_zero, List.getElem?_cons_succ, Option.getD_some]) | (refine q_any rfl ?_; apply Exists.intro; refine ⟨fun w hw => ?_, ?_⟩; (go_simp; first | exact ⟨rfl, rfl⟩ | rfl | (go_at_call 41; (with_reducible refine (canr_any (i : Nat) (HPq.out.bel hw) HM.out.1 HM.out.2 HOK.out HPR.out (HLq.out.bel hw) hi64).mono ?_); rintro e w' ⟨rfl, hb⟩; exact ⟨rfl, hw.call hb⟩)); simp only [Act.put, Act.eval, List.setIfInBounds_toArray, List.set_cons_zero, List.set_cons_succ, Array.getD_eq_getD_getElem?, List.getElem?_toArray, List.getElem?_cons_zero, List.getElem?_cons_succ, Option.getD_some]))); refine wpQuiet_nil ?_; intro w2 hw2))
            go_roundw
            case rel => exact ⟨i + 1, by omega, by go_num, by rw [HLS.out]; simp [o2], by rw [HGS.out]; simp, HBR.out.trans (HWQ.out.trans hw2)⟩
            case measure => simp [intOf]; omega
          · go_wp2
            go_roundw
            case rel => exact ⟨i + 1, by omega, by go_num, by rw [HLS.out]; simp [o2], by rw [HGS.out]; rfl, HBR.out.trans HWQ.out⟩
            case measure => simp [intOf]; omega
      · go_upto_region 7 with fail
        have HWQ := Lib.hid (Bel.refl wr)
        have HPq := Lib.hid (HPr.out.bel HWQ.out)
        have HLq := Lib.hid (HLV.out.bel (HW3.out.trans (HBR.out.trans HWQ.out)))
        have HGq := Lib.hid (HGr.out.bel HWQ.out).box
        cases gs
        · go_wp2_with (first | (refine list_bel 5 rfl ?_; (repeat (first | ((with_reducible refine BigFrame.wpQuiet_skip ?_ ?_); exact rfl; simp only [Act.put, Act.eval, List.setIfInBounds_toArray, List.set_cons_zero, List.set_cons_succ, Array.getD_eq_getD_getElem?, List.getElem?_toArray, List.getElem?_cons_zero, List.getElem?_cons_succ, Option.getD_some]) | (refine q_move _ rfl rfl ?_; simp only [Act.put, Act.eval, List.setIfInBounds_toArray, List.set_cons_zero, List.set_cons_succ, Array.getD_eq_getD_getElem?, List.getElem?_toArray, List.getElem?_cons_zero, List.getElem?_cons_succ, Option.getD_some]) | (refine q_assign _ rfl rfl ?_; simp only [Act.put, Act.eval, List.setIfInBounds_toArray, List.set_cons_zero, List.set_cons_succ, Array.getD_eq_getD_getElem?, List.getElem?_toArray, List.getElem?_cons_zero, List.getElem?_cons_succ, Option.getD_some]) | (refine q_load _ _ rfl rfl rfl HGq.out (TGv _) ?_; simp only [Act.put, Act.eval, List.setIfInBounds_toArray, List.set_cons_zero, List.set_cons_succ, Array.getD_eq_getD_getElem?, List.getElem?_toArray, List.getElem?_cons_zero, List.getElem?_cons_succ, Option.getD_some]) | (refine q_any rfl ?_; apply Exists.intro; refine ⟨fun w hw => ?_, ?_⟩; (go_simp; first | exact ⟨rfl, rfl⟩ | rfl | (go_at_call 41; (with_reducible refine (canr_any (i : Nat) (HPq.out.bel hw) HM.out.1 HM.out.2 HOK.out HPR.out (HLq.out.bel hw) hi64).mono ?_); rintro e w' ⟨rfl, hb⟩; exact ⟨rfl, hw.call hb⟩)); simp only [Act.put, Act.eval, List.setIfInBounds_toArray, List.set_cons_zero, List.set_cons_succ, Array.getD_eq_getD_getElem?, List.getElem?_toArray, List.getElem?_cons_zero, List.getElem?_cons_succ, Option.getD_some]))); refine wpQuiet_nil ?_; intro w2 hw2))
          go_roundw
          case rel => exact ⟨i + 1, by omega, by go_num, by rw [HLS.out]; simp [], by rw [HGS.out]; simp, HBR.out.trans (HWQ.out.trans hw2)⟩
          case measure => simp [intOf]; omega
        · go_wp2
          go_roundw
          case rel => exact ⟨i + 1, by omega, by go_num, by rw [HLS.out]; simp [], by rw [HGS.out]; rfl, HBR.out.trans HWQ.out⟩
          case measure => simp [intOf]; omega
    · obtain rfl : n = i := by omega
      have HD := Lib.hid (show doneP P s = !leftTo P s n by rw [done_left, HLN.out])
      have HK := Lib.hid (show stuckP P s = (leftTo P s n && !goesTo P s n) by rw [stuck_left, HLN.out])
      have HXn := Lib.hid (HBR.out.box HX3.out)
      have HRn := Lib.hid (HBR.out.box HR3.out)
      have HWn := Lib.hid (HW3.out.trans HBR.out)
      have e18 := HXn.out.cell 18 (vs_get _ (by omega))
      have z18 := HXn.out.frozen 18
      generalize leftTo P s n = lf at *
      generalize goesTo P s n = gs at *
      have hne1 : w.heap.size + 1 ≠ E := by omega
      cases lf
      · cases gs
        · have hb1 := HXn.out.set 18 (.bool true)
          have e19 := hb1.cell 19 (v := .bool k) (by simp [vs]; rfl)
          have z19 := hb1.frozen 19
          have hb2 : Box ((wr.setCell ⟨E, 18, none⟩ (.bool true)).setCell ⟨E, 19, none⟩ (.bool false)) E (vs 20 (endF (nat s.mem) (nat s.vol) s.has true false)) 49 := by have h := hb1.set 19 (.bool false); rw [vs_set, vs_set, vs_congr (g' := endF (nat s.mem) (nat s.vol) s.has true false) end_two] at h; exact h
          have hr2 : Box ((wr.setCell ⟨E, 18, none⟩ (.bool true)).setCell ⟨E, 19, none⟩ (.bool false)) (w.heap.size + 1) z20 49 := (HRn.out.set_ne ⟨E, 18, none⟩ _ hne1).set_ne ⟨E, 19, none⟩ _ hne1
          have hw2 : Bel w ((wr.setCell ⟨E, 18, none⟩ (.bool true)).setCell ⟨E, 19, none⟩ (.bool false)) := (HWn.out.setCell ⟨E, 18, none⟩ (by dsimp only; omega) _).setCell ⟨E, 19, none⟩ (by dsimp only; omega) _
          have HW9 := Lib.hid hw2
          clear hw2 hb1
          go_wp2_with (first | (refine loadB 49 _ rfl rfl rfl hb2 (TEv _) ?_) | (refine storeB 49 _ _ rfl rfl rfl rfl hr2 (by rw [vs_size]; rfl) (TEv _) (vs_all endF_one) ?_))
          refine bodyPost_ret (res_c Try.results43 rfl (B := w.heap.size + 1) (c := (vs 20 (endF (nat s.mem) (nat s.vol) s.has true false))) (t := 49) (hr2.setRow _) (TEv _)) rfl ⟨?_, (HW9.out.setRow (w.heap.size + 1) (by omega) _).out⟩
          unfold endP
          rw [end_vs, HD.out, HK.out]
          rfl
        · have hb1 := HXn.out.set 18 (.bool true)
          have e19 := hb1.cell 19 (v := .bool k) (by simp [vs]; rfl)
          have z19 := hb1.frozen 19
          have hb2 : Box ((wr.setCell ⟨E, 18, none⟩ (.bool true)).setCell ⟨E, 19, none⟩ (.bool false)) E (vs 20 (endF (nat s.mem) (nat s.vol) s.has true false)) 49 := by have h := hb1.set 19 (.bool false); rw [vs_set, vs_set, vs_congr (g' := endF (nat s.mem) (nat s.vol) s.has true false) end_two] at h; exact h
          have hr2 : Box ((wr.setCell ⟨E, 18, none⟩ (.bool true)).setCell ⟨E, 19, none⟩ (.bool false)) (w.heap.size + 1) z20 49 := (HRn.out.set_ne ⟨E, 18, none⟩ _ hne1).set_ne ⟨E, 19, none⟩ _ hne1
          have hw2 : Bel w ((wr.setCell ⟨E, 18, none⟩ (.bool true)).setCell ⟨E, 19, none⟩ (.bool false)) := (HWn.out.setCell ⟨E, 18, none⟩ (by dsimp only; omega) _).setCell ⟨E, 19, none⟩ (by dsimp only; omega) _
          have HW9 := Lib.hid hw2
          clear hw2 hb1
          go_wp2_with (first | (refine loadB 49 _ rfl rfl rfl hb2 (TEv _) ?_) | (refine storeB 49 _ _ rfl rfl rfl rfl hr2 (by rw [vs_size]; rfl) (TEv _) (vs_all endF_one) ?_))
          refine bodyPost_ret (res_c Try.results43 rfl (B := w.heap.size + 1) (c := (vs 20 (endF (nat s.mem) (nat s.vol) s.has true false))) (t := 49) (hr2.setRow _) (TEv _)) rfl ⟨?_, (HW9.out.setRow (w.heap.size + 1) (by omega) _).out⟩
          unfold endP
          rw [end_vs, HD.out, HK.out]
          rfl
      · cases gs
        · have hb1 := HXn.out.set 18 (.bool false)
          have e19 := hb1.cell 19 (v := .bool k) (by simp [vs]; rfl)
          have z19 := hb1.frozen 19
          have hb2 : Box ((wr.setCell ⟨E, 18, none⟩ (.bool false)).setCell ⟨E, 19, none⟩ (.bool true)) E (vs 20 (endF (nat s.mem) (nat s.vol) s.has false true)) 49 := by have h := hb1.set 19 (.bool true); rw [vs_set, vs_set, vs_congr (g' := endF (nat s.mem) (nat s.vol) s.has false true) end_two] at h; exact h
          have hr2 : Box ((wr.setCell ⟨E, 18, none⟩ (.bool false)).setCell ⟨E, 19, none⟩ (.bool true)) (w.heap.size + 1) z20 49 := (HRn.out.set_ne ⟨E, 18, none⟩ _ hne1).set_ne ⟨E, 19, none⟩ _ hne1
          have hw2 : Bel w ((wr.setCell ⟨E, 18, none⟩ (.bool false)).setCell ⟨E, 19, none⟩ (.bool true)) := (HWn.out.setCell ⟨E, 18, none⟩ (by dsimp only; omega) _).setCell ⟨E, 19, none⟩ (by dsimp only; omega) _
          have HW9 := Lib.hid hw2
          clear hw2 hb1
          go_wp2_with (first | (refine loadB 49 _ rfl rfl rfl hb2 (TEv _) ?_) | (refine storeB 49 _ _ rfl rfl rfl rfl hr2 (by rw [vs_size]; rfl) (TEv _) (vs_all endF_one) ?_))
          refine bodyPost_ret (res_c Try.results43 rfl (B := w.heap.size + 1) (c := (vs 20 (endF (nat s.mem) (nat s.vol) s.has false true))) (t := 49) (hr2.setRow _) (TEv _)) rfl ⟨?_, (HW9.out.setRow (w.heap.size + 1) (by omega) _).out⟩
          unfold endP
          rw [end_vs, HD.out, HK.out]
          rfl
        · have hb1 := HXn.out.set 18 (.bool false)
          have e19 := hb1.cell 19 (v := .bool k) (by simp [vs]; rfl)
          have z19 := hb1.frozen 19
          have hb2 : Box ((wr.setCell ⟨E, 18, none⟩ (.bool false)).setCell ⟨E, 19, none⟩ (.bool false)) E (vs 20 (endF (nat s.mem) (nat s.vol) s.has false false)) 49 := by have h := hb1.set 19 (.bool false); rw [vs_set, vs_set, vs_congr (g' := endF (nat s.mem) (nat s.vol) s.has false false) end_two] at h; exact h
          have hr2 : Box ((wr.setCell ⟨E, 18, none⟩ (.bool false)).setCell ⟨E, 19, none⟩ (.bool false)) (w.heap.size + 1) z20 49 := (HRn.out.set_ne ⟨E, 18, none⟩ _ hne1).set_ne ⟨E, 19, none⟩ _ hne1
          have hw2 : Bel w ((wr.setCell ⟨E, 18, none⟩ (.bool false)).setCell ⟨E, 19, none⟩ (.bool false)) := (HWn.out.setCell ⟨E, 18, none⟩ (by dsimp only; omega) _).setCell ⟨E, 19, none⟩ (by dsimp only; omega) _
          have HW9 := Lib.hid hw2
          clear hw2 hb1
          go_wp2_with (first | (refine loadB 49 _ rfl rfl rfl hb2 (TEv _) ?_) | (refine storeB 49 _ _ rfl rfl rfl rfl hr2 (by rw [vs_size]; rfl) (TEv _) (vs_all endF_one) ?_))
          refine bodyPost_ret (res_c Try.results43 rfl (B := w.heap.size + 1) (c := (vs 20 (endF (nat s.mem) (nat s.vol) s.has false false))) (t := 49) (hr2.setRow _) (TEv _)) rfl ⟨?_, (HW9.out.setRow (w.heap.size + 1) (by omega) _).out⟩
          unfold endP
          rw [end_vs, HD.out, HK.out]
          rfl
end Go.Proofs.Ytjddahidkodieaa

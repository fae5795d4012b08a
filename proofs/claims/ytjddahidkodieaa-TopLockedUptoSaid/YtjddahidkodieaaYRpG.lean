import Derived.Test.YtjddahidkodieaaYGuD
import Derived.Deep.DeepCutAuto
import Derived.Test.YtjddahidkodieaaYRest
import Derived.Test.YtjddahidkodieaaYKeepTw
set_option linter.all false
set_option maxRecDepth 100000
namespace Go.Proofs.Ytjddahidkodieaa
open Go Go.RowKit

def gfin (l : List Ev) : Nat → Nat := if may l = 0 then gG (gdT l l.length) else fun _ => 0
def warns (l : List Ev) : List Ev := if may l = 0 then wl l l.length else []
def GDet (w : World) (l : List Ev) (e : Ending) (w' : World) : Prop :=
  ∃ v, e = .returned (.tuple #[v, .agg (ns 24 (gfin l)), .int .i64 (may l)]) ∧ w'.ownsRow w.heap.size 72 3 v (warns l).length (evc (warns l)) ∧ Below w.heap.size w w'
set_option maxHeartbeats 4000000 in
theorem gdetect_bad (A : Option Addr) (n c : Nat) (l : List Ev) (w : World) (hl : Sl w A n l) (hm : may l ≠ 0) : Calls Try.prog 46 #[.slice A n c] w (GDet w l) := by
  obtain ⟨b1, b2, hB, hs⟩ := boxes2 w #[.slice A n c] (ns 24 fun _ => 0) 22 102
  have HL := Lib.hid (hl.bel hB)
  have h1 : ((check l).2 != 0) = true := by simpa [may] using hm
  have HM := Lib.hid hm
  have HB := Lib.hid hB
  have HB1 := Lib.hid b1
  have HB2 := Lib.hid b2
  clear hl hm hB b1 b2 hs
  go_enter Try.func46, Try.ntmps46
  go_wp2_with fail
  change Calls _ _ _ ((w.alloc (.cells #[.slice A n c] 22)).alloc (.cells (ns 24 fun _ => 0) 102)) _
  generalize ((w.alloc (.cells #[.slice A n c] 22)).alloc (.cells (ns 24 fun _ => 0) 102)) = W at *
  refine (check_any A n c l _ HL.out).mono ?_
  rintro e1 w1 ⟨rfl, hb1⟩
  have HX1 := Lib.hid (Bel.of hb1)
  have hr := HX1.out.box HB2.out
  have HR := Lib.hid hr
  clear hb1
  have HS := Lib.hid (hr.setRow (ns 24 fun _ => 0))
  have HBB := Lib.hid (below_setRow' (HB.out.trans (HX1.out.out.mono HB.out.size)) (w.heap.size + 1) (ns 24 fun _ => 0) (by omega))
  have HV := Lib.hid (show gfin l = (fun _ => 0) ∧ warns l = [] by unfold gfin warns; rw [if_neg HM.out, if_neg HM.out]; exact ⟨rfl, rfl⟩)
  go_wp2_with (first | (refine storeB _ _ _ rfl rfl rfl rfl hr (ns_size _ _) TGs (gns_all 24 fun _ => 0) ?_))
  refine bodyPost_ret (gres_tct Try.results46 rfl HS.out (TGz _)) rfl ⟨.slice none 0 0, ?_, ?_, HBB.out⟩
  · rw [HV.out.1]; rfl
  · rw [HV.out.2]; exact World.ownsRow_nil _ _ _ _
theorem gdetect_any (A : Option Addr) (n c : Nat) (l : List Ev) (w : World) (hl : Sl w A n l) (hnc : n ≤ c) : Calls Try.prog 46 #[.slice A n c] w (GDet w l) := by
  by_cases hm : may l = 0
  · refine (gdetect_ok A n c l w hl hnc hm).mono ?_
    rintro e w' ⟨v, rfl, h2, h3⟩
    refine ⟨v, ?_, ?_, h3⟩
    · unfold gfin; rw [if_pos hm, hm]
    · unfold warns; rw [if_pos hm]; exact h2
  · exact gdetect_bad A n c l w hl hm
def WarnsPost (w : World) (l : List Ev) (e : Ending) (w' : World) : Prop :=
  ∃ v, e = .returned (.tuple #[v, .int .i64 (may l)]) ∧ w'.ownsRow w.heap.size 72 3 v (warns l).length (evc (warns l)) ∧ Below w.heap.size w w'
set_option maxHeartbeats 4000000 in
theorem warns_any (A : Option Addr) (n c : Nat) (l : List Ev) (w : World) (hl : Sl w A n l) (hnc : n ≤ c) : Calls Try.prog 23 #[.slice A n c] w (WarnsPost w l) := by
  have HL := Lib.hid hl
  clear hl
  go_enter Try.func23, Try.ntmps23
  go_wp2_with fail
  refine (gdetect_any A n c l _ HL.out hnc).mono ?_
  rintro e1 w1 ⟨v, rfl, hown, hb1⟩
  have HO := Lib.hid hown
  have HB := Lib.hid hb1
  clear hown hb1
  have hbn := Box.new w1 (ns 24 fun _ => 0) 102
  go_wp2_with (refine storeB _ _ _ rfl rfl rfl rfl hbn (by rw [ns_size, ns_size]) (TGz _) (gns_all _ _) ?_)
  go_ret2
  exact ⟨_, rfl, (own_alloc HO.out (.cells (ns 24 fun _ => 0) 102)).kept (chg_setRow _ _ _) (.inr fun e => by have := (own_lt HO.out e).2; omega), below_setRow' (HB.out.alloc HB.out.size _) _ _ HB.out.size⟩
end Go.Proofs.Ytjddahidkodieaa
set_option linter.all false
set_option maxRecDepth 100000
namespace Go.Proofs.Ytjddahidkodieaa
open Go Go.RowKit

def endF (m v h : Nat → Int) (d k : Bool) (i : Nat) : Value := if i < 8 then .int .i64 (m i) else if i < 12 then .int .i64 (v (i - 8)) else if i < 18 then .int .i64 (h (i - 12)) else if i = 18 then .bool d else .bool k
theorem TEnd : RowTy Try.prog 49 20 := ⟨_, Try.underlying49, rfl, by kernel_rfl⟩
theorem TOp' : RowTy Try.prog 63 3 := ⟨_, Try.underlying63, rfl, by kernel_rfl⟩
variable {w w' : World} {B : Nat} {A : Option Addr} {n c : Nat} {s : Ps} {LV QV : Value} {d k : Bool}
theorem upF_off {β : Type} (f : Nat → β) {k j : Nat} (x : β) (h : j ≠ k) : upF f k x j = f j := upF_ne f x h
theorem endF_has {m v h : Nat → Int} {t : Nat} {x : Int} (ht : t < 6) (j : Nat) : (if j = 12 + t then Value.int .i64 x else endF m v h d k j) = endF m v (upF h t x) d k j := by
  unfold endF
  by_cases h0 : j = 12 + t
  · rw [if_pos h0, if_neg (by omega), if_neg (by omega), if_pos (by omega), show j - 12 = t by omega]; simp [upF]
  · rw [if_neg h0]
    by_cases h1 : j < 8
    · rw [if_pos h1, if_pos h1]
    · rw [if_neg h1, if_neg h1]
      by_cases h2 : j < 12
      · rw [if_pos h2, if_pos h2]
      · rw [if_neg h2, if_neg h2]
        by_cases h3 : j < 18
        · rw [if_pos h3, if_pos h3, upF_off _ _ (by omega)]
        · rw [if_neg h3, if_neg h3]
theorem endF_mem {m v h : Nat → Int} {t : Nat} {x : Int} (ht : t < 8) (j : Nat) : (if j = t then Value.int .i64 x else endF m v h d k j) = endF (upF m t x) v h d k j := by
  unfold endF
  by_cases h0 : j = t
  · rw [if_pos h0, if_pos (by omega), h0]; simp [upF]
  · rw [if_neg h0]
    by_cases h1 : j < 8
    · rw [if_pos h1, if_pos h1, upF_off _ _ h0]
    · rw [if_neg h1, if_neg h1]
theorem endF_vol {m v h : Nat → Int} {t : Nat} {x : Int} (ht : t < 4) (j : Nat) : (if j = 8 + t then Value.int .i64 x else endF m v h d k j) = endF m (upF v t x) h d k j := by
  unfold endF
  by_cases h0 : j = 8 + t
  · rw [if_pos h0, if_neg (by omega), if_pos (by omega), show j - 8 = t by omega]; simp [upF]
  · rw [if_neg h0]
    by_cases h1 : j < 8
    · rw [if_pos h1, if_pos h1]
    · rw [if_neg h1, if_neg h1]
      by_cases h2 : j < 12
      · rw [if_pos h2, if_pos h2, upF_off _ _ (by omega)]
      · rw [if_neg h2, if_neg h2]
theorem nat_upd (f : Int → Int) (t : Nat) (x : Int) : nat (updI f t x) = upF (nat f) t x := by
  funext j
  unfold nat updI upF
  by_cases h : j = t
  · subst h; simp
  · rw [if_neg h, if_neg (by omega)]
theorem can_late {P : List (List Ev)} {t : Nat} (h : begun s.L t = false) : canP P s t = false := by unfold canP; rw [h, Bool.false_and, Bool.and_false]
theorem can_over {P : List (List Ev)} {t : Nat} (h : (opsP P t)[s.a t]? = none) : canP P s t = false := by unfold canP; rw [h, Bool.and_false, Bool.and_false]
theorem can_at {P : List (List Ev)} {t : Nat} {o : Ev} (ht : t < P.length) (hb : begun s.L t = true) (h : (opsP P t)[s.a t]? = some o) : canP P s t = canO P s t o := by unfold canP; rw [h, hb, decide_eq_true ht, Bool.true_and, Bool.true_and]
end Go.Proofs.Ytjddahidkodieaa
namespace Go.Proofs.Ytjddahidkodieaa
open Go Go.RowKit

variable {w w' : World} {A : Option Addr} {n c : Nat} {s : Ps} {LV QV : Value} {d k : Bool}
end Go.Proofs.Ytjddahidkodieaa
namespace Go.Proofs.Ytjddahidkodieaa
open Go Go.RowKit

variable {w w' : World} {A : Option Addr} {n c : Nat} {s : Ps} {LV QV : Value} {d k : Bool}
def leftTo (P : List (List Ev)) (s : Ps) (i : Nat) : Bool := (List.range i).any fun t => begun s.L (t : Nat) && !decide (s.a t = (opsP P t).length)
def goesTo (P : List (List Ev)) (s : Ps) (i : Nat) : Bool := (List.range i).any fun t => canP P s t
theorem leftTo_succ (P : List (List Ev)) (s : Ps) (i : Nat) : leftTo P s (i + 1) = (leftTo P s i || (begun s.L (i : Nat) && !decide (s.a i = (opsP P i).length))) := by unfold leftTo; rw [List.range_succ, List.any_append]; simp
theorem goesTo_succ (P : List (List Ev)) (s : Ps) (i : Nat) : goesTo P s (i + 1) = (goesTo P s i || canP P s i) := by unfold goesTo; rw [List.range_succ, List.any_append]; simp
theorem done_left (P : List (List Ev)) (s : Ps) : doneP P s = !leftTo P s P.length := by
  unfold doneP leftTo
  rw [Bool.eq_iff_iff, Bool.not_eq_true', List.all_eq_true, List.any_eq_false]
  constructor
  · intro h t ht
    have := h t ht
    revert this
    cases begun s.L (t : Nat) <;> simp
  · intro h t ht
    have := h t ht
    revert this
    cases begun s.L (t : Nat) <;> simp
theorem stuck_left (P : List (List Ev)) (s : Ps) : stuckP P s = (leftTo P s P.length && !goesTo P s P.length) := by
  unfold stuckP
  rw [done_left, Bool.not_not]
  rfl
theorem end_vs (m v h : Nat → Int) (d k : Bool) : vs 20 (endF m v h d k) = (endc m v h d k).toArray := by kernel_rfl
theorem TEv (g : Nat → Value) : RowTy Try.prog 49 (vs 20 g).size := by rw [vs_size]; exact TEnd
theorem endF_one {m v h : Nat → Int} {d k : Bool} (i : Nat) : (endF m v h d k i).oneCell' = true := by
  unfold endF
  repeat' split
  all_goals rfl
def z20 : Array Value := #[.int .i64 0, .int .i64 0, .int .i64 0, .int .i64 0, .int .i64 0, .int .i64 0, .int .i64 0, .int .i64 0, .int .i64 0, .int .i64 0, .int .i64 0, .int .i64 0, .int .i64 0, .int .i64 0, .int .i64 0, .int .i64 0, .int .i64 0, .int .i64 0, .bool false, .bool false]
theorem load_row {P : Program} {ops : Array Oper} {rest : List Oper} {o : Oper} {a : Act} {w : World} {Q : Exit → Act → World → Prop} {ty : TypeId} {l : List Value} (hT : RowTy P ty l.length) (x : Operand) (ho : o.op = .load ty x) (hgd : o.guard = none) {b off : Nat}
    (hx : a.eval x = .pointer (some ⟨b, off, none⟩)) (hr : w.rangeAt b off l) (h : wpList P ops Q rest (a.put o.dst (.agg l.toArray)) w) : wpList P ops Q (o :: rest) a w := by
  obtain ⟨d, hu, hd, hi⟩ := hT
  exact wpList_load_mid hgd ty x ho b off hx l d hr hu hd hi h
theorem end_two {m v h : Nat → Int} {d k x y : Bool} (j : Nat) (_ : j < 20) : updC (updC (endF m v h d k) 18 (.bool x)) 19 (.bool y) j = endF m v h x y j := by
  unfold updC
  by_cases h9 : j = 19
  · subst h9; rfl
  · rw [if_neg h9]
    by_cases h8 : j = 18
    · subst h8; rfl
    · rw [if_neg h8]
      unfold endF
      by_cases h1 : j < 8
      · rw [if_pos h1, if_pos h1]
      · rw [if_neg h1, if_neg h1]
        by_cases h2 : j < 12
        · rw [if_pos h2, if_pos h2]
        · rw [if_neg h2, if_neg h2, if_pos (by omega), if_pos (by omega)]
end Go.Proofs.Ytjddahidkodieaa

import Derived.Test.YtjddahidkodieaaZEqEv
import Derived.Test.YtjddahidkodieaaZAppend
import Derived.Deep.DeepCutAuto
import Derived.Test.YtjddahidkodieaaZOpen
import Derived.Test.YtjddahidkodieaaZCp
import Derived.Test.YtjddahidkodieaaZGrow
set_option linter.all false
set_option maxRecDepth 100000
namespace Go.Proofs.Ytjddahidkodieaa
open Go Go.RowKit

theorem eq_evs (a b : Ev) (w : World) : (binOp .eql 54 (.agg (evv a)) (.agg (evv b))).run Try.prog w = .ok (.bool (decide (a = b))) w := by
  rw [ev_dec]
  unfold evv
  by_cases h1 : a.k = b.k <;> by_cases h2 : a.t = b.t <;> by_cases h3 : a.o = b.o <;> simp [go_sem, h1, h2, h3]
set_option maxHeartbeats 4000000 in
theorem hasev_any (A : Option Addr) (n c : Nat) (l : List Ev) (e : Ev) (w : World) (hl : Sl w A n l) (hn : n ≤ 1000) :
    Calls Try.prog 22 #[.slice A n c, .agg (evv e)] w fun r w' => r = .returned (.bool (decide (e ∈ l))) ∧ Below w.heap.size w w' := by
  have HB := Lib.hid (show Bel w (w.alloc (.cells (evv e) 54)) from (Bel.refl w).alloc _)
  have HX := Lib.hid (Box.new w (evv e) 54)
  have HL := Lib.hid (hl.bel HB.out)
  clear hl
  go_enter Try.func22, Try.ntmps22
  go_wp2
  generalize w.alloc (.cells (evv e) 54) = W at *
  go_loopw [9] (fun t wr => ∃ k : Nat, k ≤ n ∧ t = .int .i64 k ∧ e ∉ l.take k ∧ Bel W wr) (fun t _ => n - (intOf t).toNat)
  case atStart => exact ⟨0, by omega, rfl, by simp, Bel.refl _⟩
  case round =>
    obtain ⟨k, hk, rfl, hd, hr⟩ := hrel
    have HD := Lib.hid hd
    have HR := Lib.hid hr
    clear hd hr
    by_cases hlt : k < n
    · have hlt' : (k : Int) < n := by omega
      obtain ⟨bb, off, f, rfl, hbb, hf, hrg⟩ := (HL.out.bel HR.out).at_ hlt
      have hR := Lib.hid hrg
      have HY := Lib.hid (ewld_box wr f 54)
      have HRY := Lib.hid (HR.out.trans (Bel.of (ewld_below wr f 54)))
      have HF := Lib.hid hf
      have hx := HRY.out.box HX.out
      clear hrg hbb hf
      have NE := eq_evs e f
      cases hq : decide (e = f)
      · rw [hq] at NE
        have HNI := Lib.hid (show e ∉ l.take (k + 1) by
          rw [take_snoc HF.out, List.mem_append, List.mem_singleton]
          exact fun h => h.elim HD.out (of_decide_eq_false hq))
        go_wp2_with (first | (refine load_ev T36 _ rfl rfl rfl hR.out ?_) | (refine ewld_store T36 _ _ rfl rfl _ rfl rfl rfl ?_) | (refine loadB _ _ rfl rfl rfl hx T36 ?_) | (refine loadB _ _ rfl rfl rfl HY.out T36 ?_))
        go_roundw
        case rel => exact ⟨k + 1, by omega, by go_num, HNI.out, HRY.out⟩
        case measure => simp [intOf]; omega
      · rw [hq] at NE
        have HV := Lib.hid (show decide (e ∈ l) = true by rw [decide_eq_true_iff, of_decide_eq_true hq]; exact List.mem_of_getElem? HF.out)
        go_wp2_with (first | (refine load_ev T36 _ rfl rfl rfl hR.out ?_) | (refine ewld_store T36 _ _ rfl rfl _ rfl rfl rfl ?_) | (refine loadB _ _ rfl rfl rfl hx T36 ?_) | (refine loadB _ _ rfl rfl rfl HY.out T36 ?_))
        go_ret
        exact ⟨by rw [HV.out]; rfl, HB.out.trans HRY.out⟩
    · obtain rfl : k = n := by omega
      have HV := Lib.hid (show decide (e ∈ l) = false by rw [decide_eq_false_iff_not]; have := HD.out; rwa [← HL.out.1, List.take_length] at this)
      go_wp2
      go_ret
      exact ⟨by rw [HV.out]; rfl, HB.out.trans HR.out⟩
end Go.Proofs.Ytjddahidkodieaa
set_option linter.all false
set_option maxRecDepth 100000
namespace Go.Proofs.Ytjddahidkodieaa
open Go Go.RowKit

def endF (m v h : Nat → Int) (d k : Bool) (i : Nat) : Value := if i < 8 then .int .i64 (m i) else if i < 12 then .int .i64 (v (i - 8)) else if i < 18 then .int .i64 (h (i - 12)) else if i = 18 then .bool d else .bool k
theorem TEnd : RowTy Try.prog 49 20 := ⟨_, Try.underlying49, rfl, by kernel_rfl⟩
theorem TOp' : RowTy Try.prog 63 3 := ⟨_, Try.underlying63, rfl, by kernel_rfl⟩
variable {w w' : World} {B : Nat} {A : Option Addr} {n c : Nat} {s : Ps} {LV QV : Value} {d k : Bool}
theorem upF_off {β : Type} (f : Nat → β) {k j : Nat} (x : β) (h : j ≠ k) : upF f k x j = f j := upF_ne f x h
theorem endF_has {m v h : Nat → Int} {t : Nat} {x : Int} (ht : t < 6) (j : Nat) : (if j = 12 + t then Value.int .i64 x else endF m v h d k j) = endF m v (upF h t x) d k j := by
  unfold endF
  by_cases h0 : j = 12 + t
  · rw [if_pos h0, if_neg (by omega), if_neg (by omega), if_pos (by omega), show j - 12 = t by omega]; simp [upF]
  · rw [if_neg h0]
    by_cases h1 : j < 8
    · rw [if_pos h1, if_pos h1]
    · rw [if_neg h1, if_neg h1]
      by_cases h2 : j < 12
      · rw [if_pos h2, if_pos h2]
      · rw [if_neg h2, if_neg h2]
        by_cases h3 : j < 18
        · rw [if_pos h3, if_pos h3, upF_off _ _ (by omega)]
        · rw [if_neg h3, if_neg h3]
theorem endF_mem {m v h : Nat → Int} {t : Nat} {x : Int} (ht : t < 8) (j : Nat) : (if j = t then Value.int .i64 x else endF m v h d k j) = endF (upF m t x) v h d k j := by
  unfold endF
  by_cases h0 : j = t
  · rw [if_pos h0, if_pos (by omega), h0]; simp [upF]
  · rw [if_neg h0]
    by_cases h1 : j < 8
    · rw [if_pos h1, if_pos h1, upF_off _ _ h0]
    · rw [if_neg h1, if_neg h1]
theorem endF_vol {m v h : Nat → Int} {t : Nat} {x : Int} (ht : t < 4) (j : Nat) : (if j = 8 + t then Value.int .i64 x else endF m v h d k j) = endF m (upF v t x) h d k j := by
  unfold endF
  by_cases h0 : j = 8 + t
  · rw [if_pos h0, if_neg (by omega), if_pos (by omega), show j - 8 = t by omega]; simp [upF]
  · rw [if_neg h0]
    by_cases h1 : j < 8
    · rw [if_pos h1, if_pos h1]
    · rw [if_neg h1, if_neg h1]
      by_cases h2 : j < 12
      · rw [if_pos h2, if_pos h2, upF_off _ _ (by omega)]
      · rw [if_neg h2, if_neg h2]
theorem nat_upd (f : Int → Int) (t : Nat) (x : Int) : nat (updI f t x) = upF (nat f) t x := by
  funext j
  unfold nat updI upF
  by_cases h : j = t
  · subst h; simp
  · rw [if_neg h, if_neg (by omega)]
theorem can_late {P : List (List Ev)} {t : Nat} (h : begun s.L t = false) : canP P s t = false := by unfold canP; rw [h, Bool.false_and, Bool.and_false]
theorem can_over {P : List (List Ev)} {t : Nat} (h : (opsP P t)[s.a t]? = none) : canP P s t = false := by unfold canP; rw [h, Bool.and_false, Bool.and_false]
theorem can_at {P : List (List Ev)} {t : Nat} {o : Ev} (ht : t < P.length) (hb : begun s.L t = true) (h : (opsP P t)[s.a t]? = some o) : canP P s t = canO P s t o := by unfold canP; rw [h, hb, decide_eq_true ht, Bool.true_and, Bool.true_and]
end Go.Proofs.Ytjddahidkodieaa
namespace Go.Proofs.Ytjddahidkodieaa
open Go Go.RowKit

variable {w w' : World} {A : Option Addr} {n c : Nat} {s : Ps} {LV QV : Value} {d k : Bool}
end Go.Proofs.Ytjddahidkodieaa
namespace Go.Proofs.Ytjddahidkodieaa
open Go Go.RowKit

variable {w w' : World} {A : Option Addr} {n c : Nat} {s : Ps} {LV QV : Value} {d k : Bool}
def leftTo (P : List (List Ev)) (s : Ps) (i : Nat) : Bool := (List.range i).any fun t => begun s.L (t : Nat) && !decide (s.a t = (opsP P t).length)
def goesTo (P : List (List Ev)) (s : Ps) (i : Nat) : Bool := (List.range i).any fun t => canP P s t
theorem leftTo_succ (P : List (List Ev)) (s : Ps) (i : Nat) : leftTo P s (i + 1) = (leftTo P s i || (begun s.L (i : Nat) && !decide (s.a i = (opsP P i).length))) := by unfold leftTo; rw [List.range_succ, List.any_append]; simp
theorem goesTo_succ (P : List (List Ev)) (s : Ps) (i : Nat) : goesTo P s (i + 1) = (goesTo P s i || canP P s i) := by unfold goesTo; rw [List.range_succ, List.any_append]; simp
theorem done_left (P : List (List Ev)) (s : Ps) : doneP P s = !leftTo P s P.length := by
  unfold doneP leftTo
  rw [Bool.eq_iff_iff, Bool.not_eq_true', List.all_eq_true, List.any_eq_false]
  constructor
  · intro h t ht
    have := h t ht
    revert this
    cases begun s.L (t : Nat) <;> simp
  · intro h t ht
    have := h t ht
    revert this
    cases begun s.L (t : Nat) <;> simp
theorem stuck_left (P : List (List Ev)) (s : Ps) : stuckP P s = (leftTo P s P.length && !goesTo P s P.length) := by
  unfold stuckP
  rw [done_left, Bool.not_not]
  rfl
theorem end_vs (m v h : Nat → Int) (d k : Bool) : vs 20 (endF m v h d k) = (endc m v h d k).toArray := by kernel_rfl
theorem TEv (g : Nat → Value) : RowTy Try.prog 49 (vs 20 g).size := by rw [vs_size]; exact TEnd
theorem endF_one {m v h : Nat → Int} {d k : Bool} (i : Nat) : (endF m v h d k i).oneCell' = true := by
  unfold endF
  repeat' split
  all_goals rfl
def z20 : Array Value := #[.int .i64 0, .int .i64 0, .int .i64 0, .int .i64 0, .int .i64 0, .int .i64 0, .int .i64 0, .int .i64 0, .int .i64 0, .int .i64 0, .int .i64 0, .int .i64 0, .int .i64 0, .int .i64 0, .int .i64 0, .int .i64 0, .int .i64 0, .int .i64 0, .bool false, .bool false]
theorem load_row {P : Program} {ops : Array Oper} {rest : List Oper} {o : Oper} {a : Act} {w : World} {Q : Exit → Act → World → Prop} {ty : TypeId} {l : List Value} (hT : RowTy P ty l.length) (x : Operand) (ho : o.op = .load ty x) (hgd : o.guard = none) {b off : Nat}
    (hx : a.eval x = .pointer (some ⟨b, off, none⟩)) (hr : w.rangeAt b off l) (h : wpList P ops Q rest (a.put o.dst (.agg l.toArray)) w) : wpList P ops Q (o :: rest) a w := by
  obtain ⟨d, hu, hd, hi⟩ := hT
  exact wpList_load_mid hgd ty x ho b off hx l d hr hu hd hi h
theorem end_two {m v h : Nat → Int} {d k x y : Bool} (j : Nat) (_ : j < 20) : updC (updC (endF m v h d k) 18 (.bool x)) 19 (.bool y) j = endF m v h x y j := by
  unfold updC
  by_cases h9 : j = 19
  · subst h9; rfl
  · rw [if_neg h9]
    by_cases h8 : j = 18
    · subst h8; rfl
    · rw [if_neg h8]
      unfold endF
      by_cases h1 : j < 8
      · rw [if_pos h1, if_pos h1]
      · rw [if_neg h1, if_neg h1]
        by_cases h2 : j < 12
        · rw [if_pos h2, if_pos h2]
        · rw [if_neg h2, if_neg h2, if_pos (by omega), if_pos (by omega)]
end Go.Proofs.Ytjddahidkodieaa
set_option linter.all false
set_option maxRecDepth 100000
namespace Go.Proofs.Ytjddahidkodieaa
open Go Go.RowKit

section
variable {P : Program} {ops : Array Oper} {md : Region.Mode} {Q : Exit → Act → World → Prop} {N L : Nat}
theorem wpT_one (i : Nat) {f : Nat} {listed : Array Bool} {a : Act} {w : World} (hr : Region.ready md ops listed = [i])
    (h : ∀ w1, Bel w w1 → wpOp P ops Q i (fun a' w' => Below N w1 w' ∧ wpT P md ops Q N L f (listed.setIfInBounds i true) a' w') a w1) : wpT P md ops Q N L (f + 1) listed a w := fun w1 hb =>
  ⟨fun h0 => (by rw [hr] at h0; cases h0), fun j hj => by
    rw [hr] at hj
    simp only [List.mem_singleton] at hj
    subst hj
    exact wpOp_mono (fun a' w' h' => ⟨.inr h'.1, h'.2⟩) (h w1 hb)⟩
theorem wpT_now {f : Nat} {listed : Array Bool} {a : Act} {w : World} (hr : Region.ready md ops listed = [L])
    (h : ∀ w1, Bel w w1 → wpOp P ops Q L (fun a' w' => wpT P md ops Q N L f (listed.setIfInBounds L true) a' w') a w1) : wpT P md ops Q N L (f + 1) listed a w := fun w1 hb =>
  ⟨fun h0 => (by rw [hr] at h0; cases h0), fun j hj => by
    rw [hr] at hj
    simp only [List.mem_singleton] at hj
    subst hj
    exact wpOp_mono (fun a' w' h' => ⟨.inl rfl, h'⟩) (h w1 hb)⟩
theorem wpT_orL (i : Nat) {f : Nat} {listed : Array Bool} {a : Act} {w : World} (hr : Region.ready md ops listed = [i, L])
    (h : ∀ w1, Bel w w1 → wpOp P ops Q i (fun a' w' => Below N w1 w' ∧ wpT P md ops Q N L f (listed.setIfInBounds i true) a' w') a w1)
    (h2 : ∀ w1, Bel w w1 → wpOp P ops Q L (fun a' w' => wpT P md ops Q N L f (listed.setIfInBounds L true) a' w') a w1) : wpT P md ops Q N L (f + 1) listed a w := fun w1 hb =>
  ⟨fun h0 => (by rw [hr] at h0; cases h0), fun j hj => by
    rw [hr] at hj
    simp only [List.mem_cons, List.not_mem_nil, or_false] at hj
    rcases hj with rfl | rfl
    · exact wpOp_mono (fun a' w' h' => ⟨.inr h'.1, h'.2⟩) (h w1 hb)
    · exact wpOp_mono (fun a' w' h' => ⟨.inl rfl, h'⟩) (h2 w1 hb)⟩
theorem wpT_done {listed : Array Bool} {a : Act} {w : World} (hr : Region.ready md ops listed = []) (h : ∀ w1, Bel w w1 → Q .normal a w1) : ∀ f, wpT P md ops Q N L f listed a w
  | 0 => fun w1 hb => ⟨hr, h w1 hb⟩
  | _ + 1 => fun w1 hb => ⟨fun _ => h w1 hb, by rw [hr]; simp⟩
end
end Go.Proofs.Ytjddahidkodieaa

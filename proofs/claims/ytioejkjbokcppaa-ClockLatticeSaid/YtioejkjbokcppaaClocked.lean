import Derived.Test.YtioejkjbokcppaaRows
import Derived.Test.YtioejkjbokcppaaBase
import Derived.Test.YtioejkjbokcppaaClock
import Derived.WalkKit
import Derived.WalkSpells
import Derived.WalkLawsBesides
import Derived.BigQuiet
import Derived.Deep.RegionHeld3
import Derived.Lib.Hide
set_option linter.all false
namespace Go.Proofs.Ytioejkjbokcppaa
open Go Go.RowKit
section
variable {P : Program} {ops : Array Oper} {C : World → Prop} {Q : Act → Prop} {Q' : Exit → Act → World → Prop}
theorem wpList_of_quiet (hQ : ∀ a w, C w → Q a → Q' .normal a w) : ∀ (l : List Oper) (a : Act) (w : World), C w → wpQuiet P ops C Q l a → wpList P ops Q' l a w
  | [], a, w, hw, h => hQ a w hw h
  | o :: l, a, w, hw, h => by
    unfold wpQuiet at h
    unfold wpList
    split
    · rename_i hwd
      rw [if_pos hwd] at h
      exact .inl (Oper.wp_of_quiet hw (fun a' w' hw' hK => wpList_of_quiet hQ l a' w' hw' hK) h)
    · rename_i hwd
      rw [if_neg hwd] at h
      exact wpList_of_quiet hQ l _ _ hw h
/-- A plain region whose callees make memory (n operations are left): one walk in every world that W has grown into. -/
theorem list_bel (n : Nat) {l : List Oper} {a : Act} {W : World} (_ : l.length = n) (h : wpQuiet P ops (Bel W) (fun a' => ∀ w', Bel W w' → Q' .normal a' w') l a) : wpList P ops Q' l a W :=
  wpList_of_quiet (C := Bel W) (fun a w hw h => h w hw) l a W (Bel.refl W) h
end

/-- A whole row read by an operation that a guard lets run. -/
theorem loadW {P : Program} {ops : Array Oper} {rest : List Oper} {o : Oper} {a : Act} {w : World} {Q : Exit → Act → World → Prop} (ty : TypeId) (x : Operand) (ho : o.op = .load ty x) (hw : Region.wanted o (yielded ops a.tmps) = true) {B : Nat} {c : Array Value} {t : TypeId}
    (hx : a.eval x = .pointer (some ⟨B, 0, none⟩)) (hb : Box w B c t) (hT : RowTy P ty c.size) (h : wpList P ops Q rest (a.put o.dst (.agg c)) w) : wpList P ops Q (o :: rest) a w := by
  obtain ⟨d, hu, hd, hi⟩ := hT
  unfold wpList
  rw [if_pos hw]
  exact .inl (wp_load_row ty x ho B hx t c (0, 0) d hb hu (by cases d <;> simp_all [TypeDesc.isRow]) hi h)

set_option maxHeartbeats 1000000 in
theorem clocked_any (w : World) : Calls Try.prog 25 #[] w fun e w' => e = .returned (.bool true) ∧ Below w.heap.size w w' := by
  have H1 : ∀ w, Calls Try.prog 35 #[.agg #[.int .i64 1, .int .i64 2, .int .i64 0, .int .i64 0, .int .i64 0, .int .i64 0], .agg #[.int .i64 2, .int .i64 1, .int .i64 0, .int .i64 0, .int .i64 0, .int .i64 0]] w fun e w' => e = .returned (.int .i64 3) ∧ Below w.heap.size w w' := fun w => compare_any (cf 1 2 0 0 0 0) (cf 2 1 0 0 0 0) w
  have H2 : ∀ w, Calls Try.prog 35 #[.agg #[.int .i64 1, .int .i64 2, .int .i64 0, .int .i64 0, .int .i64 0, .int .i64 0], .agg #[.int .i64 2, .int .i64 2, .int .i64 0, .int .i64 0, .int .i64 0, .int .i64 0]] w fun e w' => e = .returned (.int .i64 1) ∧ Below w.heap.size w w' := fun w => compare_any (cf 1 2 0 0 0 0) (cf 2 2 0 0 0 0) w
  have H1' := Lib.hid H1
  have H2' := Lib.hid H2
  clear H1 H2
  go_enter Try.func25, Try.ntmps25
  go_wp2_with fail
  refine (H1'.out _).mono ?_
  rintro e w1 ⟨rfl, hb1⟩
  have HB1 := Lib.hid hb1
  clear hb1
  go_wp2_with fail
  refine (H2'.out _).mono ?_
  rintro e w2 ⟨rfl, hb2⟩
  have HB2 := Lib.hid hb2
  clear hb2
  go_wp2
  go_ret
  exact ⟨rfl, HB1.out.trans (HB2.out.mono HB1.out.size)⟩
end Go.Proofs.Ytioejkjbokcppaa

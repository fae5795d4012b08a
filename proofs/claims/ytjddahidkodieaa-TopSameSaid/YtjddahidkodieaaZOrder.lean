import Derived.Test.YtjddahidkodieaaZPg
import Derived.Test.YtjddahidkodieaaZOpen
import Derived.Test.YtjddahidkodieaaZSl
import Derived.WalkKit
import Derived.WalkSpells
import Derived.Maps.RangeRun
import Derived.Maps.Range
import Derived.Maps.RangeWalk
import Derived.Test.YtjddahidkodieaaZBase
import Derived.IntWalk
import Derived.Test.YtjddahidkodieaaZEqInt
import Derived.Test.YtjddahidkodieaaZTrace
import Derived.Test.YtjddahidkodieaaRows
import Derived.Test.YtjddahidkodieaaZAppend
import Derived.Test.YtjddahidkodieaaZOr
set_option linter.all false
set_option maxRecDepth 100000
namespace Go.Proofs.Ytjddahidkodieaa
open Go Go.RowKit

theorem has_out_pick {P : List (List Ev)} {s : Ps} (h : ∀ t, P.length ≤ t → s.has t = 0) (x : Int) : ∀ t, P.length ≤ t → (pickP P s x).has t = 0 := fun t ht => by
  unfold pickP
  split
  · rename_i hc
    obtain ⟨hu, _, o, h3, _⟩ := can_op hc.2
    rw [step_op h3]
    show hasO s x.toNat o t = 0
    have hne : t ≠ x.toNat := by omega
    unfold hasO
    split
    · rw [upF_ne _ _ hne]; exact h t ht
    · split
      · rw [upF_ne _ _ hne]; exact h t ht
      · split
        · rw [upF_ne _ _ hne]; exact h t ht
        · exact h t ht
  · exact h t ht
theorem has_out_picks {P : List (List Ev)} : ∀ (ts : List Int) {s : Ps}, (∀ t, P.length ≤ t → s.has t = 0) → ∀ t, P.length ≤ t → (ts.foldl (pickP P) s).has t = 0
  | [], _, h => h
  | x :: ts, _, h => has_out_picks ts (has_out_pick h x)
theorem run_has_out (P : List (List Ev)) (ts : List Int) {t : Nat} (ht : P.length ≤ t) : (runP P ts).has t = 0 := has_out_picks ts (fun _ _ => rfl) t ht
theorem done_not_stuck {P : List (List Ev)} {s : Ps} (h : doneP P s = true) : stuckP P s = false := by unfold stuckP; rw [h]; rfl
theorem end_same {P : List (List Ev)} (hP : OkP P) {ts us : List Int} (hd1 : doneP P (runP P ts) = true) (hd2 : doneP P (runP P us) = true) (h : Eqv (runP P ts).L (runP P us).L) : endP P (runP P ts) = endP P (runP P us) := by
  obtain ⟨h1, h2, h3⟩ := same_end hP hd1 hd2 h
  have hh : (runP P ts).has = (runP P us).has := funext fun t => by
    rcases Nat.lt_or_ge t P.length with ht | ht
    · exact h3 t ht
    · rw [run_has_out P ts ht, run_has_out P us ht]
  unfold endP
  rw [h1, h2, hh, hd1, hd2, done_not_stuck hd1, done_not_stuck hd2]
end Go.Proofs.Ytjddahidkodieaa
set_option linter.all false
set_option maxRecDepth 100000
namespace Go.Proofs.Ytjddahidkodieaa
open Go Go.RowKit
section
variable {P : Program} {T K E : TypeId}
theorem run_checkKey_int (hK : P.underlying K = some (.int .i64)) (b : Bool) (k : Int) (w : World) : (Instr.checkKey b 10000 K (.int .i64 k)).run P w = .ok () w := by
  show (Instr.checkKey b (9999 + 1) K (.int .i64 k)).run P w = .ok () w
  unfold Instr.checkKey
  simp [Sem.run_bind, run_underlying hK]
end
end Go.Proofs.Ytjddahidkodieaa
namespace Go.Proofs.Ytjddahidkodieaa
open Go Go.RowKit

section
variable {P : Program} {ops : Array Oper} {rest : List Oper} {o : Oper} {a : Act} {w : World} {Q : Exit → Act → World → Prop}
end
end Go.Proofs.Ytjddahidkodieaa
set_option linter.all false
set_option maxRecDepth 100000
namespace Go.Proofs.Ytjddahidkodieaa
open Go Go.RowKit

def bsl (n : Nat) (g : Nat → Bool) : List Value := (List.range n).map fun j => .bool (g j)
def bs (n : Nat) (g : Nat → Bool) : Array Value := (bsl n g).toArray
theorem bsl_length (n : Nat) (g : Nat → Bool) : (bsl n g).length = n := by simp [bsl]
theorem bs_size (n : Nat) (g : Nat → Bool) : (bs n g).size = n := by simp [bs, bsl]
theorem bsl_get {n : Nat} (g : Nat → Bool) {j : Nat} (hj : j < n) : (bsl n g)[j]? = some (.bool (g j)) := by simp [bsl, hj]
theorem bs_get {n : Nat} (g : Nat → Bool) {j : Nat} (hj : j < n) : (bs n g)[j]? = some (.bool (g j)) := by simpa [bs] using bsl_get g hj
theorem bs_set (n : Nat) (g : Nat → Bool) (j : Nat) (v : Bool) : (bs n g).setIfInBounds j (.bool v) = bs n (updB g j v) := by
  apply Array.ext_getElem?
  intro i
  rw [Array.getElem?_setIfInBounds]
  by_cases hi : i < n
  · by_cases hij : j = i
    · subst hij; rw [if_pos rfl, if_pos (by rw [bs_size]; exact hi), bs_get _ hi]; simp [updB]
    · rw [if_neg hij, bs_get _ hi, bs_get _ hi]
      simp [updB, Ne.symm hij]
  · have h1 : (bs n g)[i]? = none := Array.getElem?_eq_none (by rw [bs_size]; omega)
    have h2 : (bs n (updB g j v))[i]? = none := Array.getElem?_eq_none (by rw [bs_size]; omega)
    rw [h1, h2]
    split
    · rename_i hij; subst hij; simp [bs_size, hi]
    · rfl
theorem Box.part {w : World} {B N : Nat} {g : Nat → Bool} {t : TypeId} (h : Box w B (bs N g) t) (o m : Nat) (hm : o + m ≤ N) : w.rangeAt B o (bsl m fun k => g (o + k)) := fun j v hv => by
  have hj : j < m := by have := (List.getElem?_eq_some_iff.1 hv).1; rwa [bsl_length] at this
  rw [bsl_get _ hj] at hv
  cases hv
  exact h.cell _ (bs_get g (by omega))
theorem part_bool {P : Program} {e : TypeId} (he : P.underlying e = some .bool) (cs : Array Value) (off : Nat) (v : Value) (h : cs[off]? = some v) (w : World) : (part e cs off).run P w = .ok v w := by
  unfold part isAgg
  simp [Sem.run_bind, run_underlying he, h]
theorem index_bs {P : Program} {t e : TypeId} {N : Nat} (hT : P.underlying t = some (.array N e)) (he : P.underlying e = some .bool) (hi : (P.info? e).map (·.size) = some 1) (g : Nat → Bool) (k : Nat) (hk : k < N) (w : World) :
    (Instr.index t (.agg (bs N g)) (.int .i64 k)).run P w = .ok (.bool (g k)) w := by
  cases hq : P.info? e with
  | none => simp [hq] at hi
  | some i =>
    have hs : i.size = 1 := by simpa [hq] using hi
    have := part_bool he (bs N g) k _ (bs_get g hk)
    simp [Instr.index, asIntOf, Sem.run_bind, run_underlying hT, sizeOf, typeInfo, hk, hq, hs, this]
end Go.Proofs.Ytjddahidkodieaa
set_option linter.all false
set_option maxRecDepth 100000
namespace Go.Proofs.Ytjddahidkodieaa
open Go Go.RowKit

theorem aw_else {a b : Int} (h3 : (b == 3) = false) (h6 : (b == 6) = false) (h7 : (b == 7) = false) : awaited a b = false := by
  simp only [beq_eq_false_iff_ne] at h3 h6 h7
  unfold awaited; rw [if_neg h3, if_neg h6, if_neg h7]
theorem isAwaited_any (a b : Int) (w : World) : Calls Try.prog 106 #[.int .i64 a, .int .i64 b] w fun e w' => e = .returned (.bool (awaited a b)) ∧ w = w' := by
  cases h3 : (b == 3)
  · cases h6 : (b == 6)
    · cases h7 : (b == 7)
      · have HV := Lib.hid (aw_else (a := a) h3 h6 h7)
        go_enter Try.func106, Try.ntmps106
        go_wp2
        go_ret
        exact ⟨by rw [HV.out]; rfl, rfl⟩
      · obtain rfl := eq_of_beq h7
        go_enter Try.func106, Try.ntmps106
        go_wp2
        go_ret
        exact ⟨rfl, rfl⟩
    · obtain rfl := eq_of_beq h6
      go_enter Try.func106, Try.ntmps106
      go_wp2
      go_ret
      exact ⟨rfl, rfl⟩
  · obtain rfl := eq_of_beq h3
    go_enter Try.func106, Try.ntmps106
    go_wp2
    go_ret
    exact ⟨rfl, rfl⟩
set_option maxHeartbeats 4000000 in
theorem precedes_any (a b : Ev) (w : World) : Calls Try.prog 89 #[.agg (evv a), .agg (evv b)] w fun e w' => e = .returned (.bool (directly a b)) ∧ Below w.heap.size w w' := by
  have HD := Lib.hid (directly_eq a b)
  obtain ⟨b1, b2, hB, hs⟩ := boxes2 w (evv a) (evv b) 54 54
  generalize hW : ((w.alloc (.cells (evv a) 54)).alloc (.cells (evv b) 54)) = W at *
  have HB := Lib.hid hB
  clear hB hs
  have c0 := b1.cell 0 (v := .int .i64 a.k) rfl
  have c1 := b1.cell 1 (v := .int .i64 a.t) rfl
  have c2 := b1.cell 2 (v := .int .i64 a.o) rfl
  have d0 := b2.cell 0 (v := .int .i64 b.k) rfl
  have d1 := b2.cell 1 (v := .int .i64 b.t) rfl
  have d2 := b2.cell 2 (v := .int .i64 b.o) rfl
  clear b1 b2
  cases h1 : (a.t == b.t)
  · cases h2 : (a.k == 5)
    · cases h4 : (b.k == 6)
      · cases h6 : (a.o == b.o)
        · go_enter Try.func89, Try.ntmps89
          go_wp2_with (first | (go_at_call 106; (with_reducible refine (isAwaited_any _ _ _).mono ?_); rintro e w' ⟨rfl, rfl⟩))
          go_ret
          exact ⟨by rw [HD.out]; simp [h1, h2, h4, h6], HB.out⟩
        · go_enter Try.func89, Try.ntmps89
          go_wp2_with (first | (go_at_call 106; (with_reducible refine (isAwaited_any _ _ _).mono ?_); rintro e w' ⟨rfl, rfl⟩))
          go_ret
          exact ⟨by rw [HD.out]; simp [h1, h2, h4, h6], HB.out⟩
      · cases h5 : (b.o == a.t)
        · cases h6 : (a.o == b.o)
          · go_enter Try.func89, Try.ntmps89
            go_wp2_with (first | (go_at_call 106; (with_reducible refine (isAwaited_any _ _ _).mono ?_); rintro e w' ⟨rfl, rfl⟩))
            go_ret
            exact ⟨by rw [HD.out]; simp [h1, h2, h4, h5, h6], HB.out⟩
          · go_enter Try.func89, Try.ntmps89
            go_wp2_with (first | (go_at_call 106; (with_reducible refine (isAwaited_any _ _ _).mono ?_); rintro e w' ⟨rfl, rfl⟩))
            go_ret
            exact ⟨by rw [HD.out]; simp [h1, h2, h4, h5, h6], HB.out⟩
        · go_enter Try.func89, Try.ntmps89
          go_wp2_with (first | (go_at_call 106; (with_reducible refine (isAwaited_any _ _ _).mono ?_); rintro e w' ⟨rfl, rfl⟩))
          go_ret
          exact ⟨by rw [HD.out]; simp [h1, h2, h4, h5], HB.out⟩
    · cases h3 : (a.o == b.t)
      · cases h4 : (b.k == 6)
        · cases h6 : (a.o == b.o)
          · go_enter Try.func89, Try.ntmps89
            go_wp2_with (first | (go_at_call 106; (with_reducible refine (isAwaited_any _ _ _).mono ?_); rintro e w' ⟨rfl, rfl⟩))
            go_ret
            exact ⟨by rw [HD.out]; simp [h1, h2, h3, h4, h6], HB.out⟩
          · go_enter Try.func89, Try.ntmps89
            go_wp2_with (first | (go_at_call 106; (with_reducible refine (isAwaited_any _ _ _).mono ?_); rintro e w' ⟨rfl, rfl⟩))
            go_ret
            exact ⟨by rw [HD.out]; simp [h1, h2, h3, h4, h6], HB.out⟩
        · cases h5 : (b.o == a.t)
          · cases h6 : (a.o == b.o)
            · go_enter Try.func89, Try.ntmps89
              go_wp2_with (first | (go_at_call 106; (with_reducible refine (isAwaited_any _ _ _).mono ?_); rintro e w' ⟨rfl, rfl⟩))
              go_ret
              exact ⟨by rw [HD.out]; simp [h1, h2, h3, h4, h5, h6], HB.out⟩
            · go_enter Try.func89, Try.ntmps89
              go_wp2_with (first | (go_at_call 106; (with_reducible refine (isAwaited_any _ _ _).mono ?_); rintro e w' ⟨rfl, rfl⟩))
              go_ret
              exact ⟨by rw [HD.out]; simp [h1, h2, h3, h4, h5, h6], HB.out⟩
          · go_enter Try.func89, Try.ntmps89
            go_wp2_with (first | (go_at_call 106; (with_reducible refine (isAwaited_any _ _ _).mono ?_); rintro e w' ⟨rfl, rfl⟩))
            go_ret
            exact ⟨by rw [HD.out]; simp [h1, h2, h3, h4, h5], HB.out⟩
      · go_enter Try.func89, Try.ntmps89
        go_wp2_with (first | (go_at_call 106; (with_reducible refine (isAwaited_any _ _ _).mono ?_); rintro e w' ⟨rfl, rfl⟩))
        go_ret
        exact ⟨by rw [HD.out]; simp [h1, h2, h3], HB.out⟩
  · go_enter Try.func89, Try.ntmps89
    go_wp2_with (first | (go_at_call 106; (with_reducible refine (isAwaited_any _ _ _).mono ?_); rintro e w' ⟨rfl, rfl⟩))
    go_ret
    exact ⟨by rw [HD.out]; simp [h1], HB.out⟩
end Go.Proofs.Ytjddahidkodieaa

import Derived.Lib.AtoiAll
import Derived.Lib.ItoaMem
import Derived.Lib.FieldsP
import Derived.Test.YtnklpifnknmdgaaGreatDoorZBs
import Derived.Test.YtnklpifnknmdgaaGreatDoorZFastC
import Derived.Test.YtnklpifnknmdgaaGreatDoorZFull10
import Derived.Test.YtnklpifnknmdgaaGreatDoorZCp
import Derived.Test.YtnklpifnknmdgaaGreatDoorZCut
import Derived.Test.YtnklpifnknmdgaaGreatDoorZAcP
import Derived.Test.YtnklpifnknmdgaaGreatDoorZText
import Derived.WalkLawsBesides
import Derived.Test.YtnklpifnknmdgaaGreatDoorZGrow
import Derived.Test.YtnklpifnknmdgaaGreatDoorZRfG
import Derived.Laws.MakeOwn
import Derived.Test.YtnklpifnknmdgaaGreatDoorZTrace4
import Derived.Test.YtnklpifnknmdgaaGreatDoorZOr
import Derived.Test.YtnklpifnknmdgaaGreatDoorZGu
set_option linter.all false
set_option maxRecDepth 100000
namespace Go.Proofs.YtnklpifnknmdgaaGreatDoor
open Go Go.RowKit

abbrev Wd := List UInt8
inductive Ans where
  | err (n : Int)
  | ok (t : Wd) (l : List Ev)
def Ans.out : Ans → Wd
  | .err n => [101, 114, 114, 111, 114, 32] ++ Lib.itoa n
  | .ok t _ => t
def Ans.next (l : List Ev) : Ans → List Ev
  | .err _ => l
  | .ok _ m => m
def Ans.isErr : Ans → Bool
  | .err _ => true
  | .ok _ _ => false
def prt (xs : List Wd) : Wd := if xs = [] then [45] else Lib.join xs [32]
def numOf (w : Wd) : Option Nat :=
  match Lib.atoiAll w with
  | .ok v => if 0 ≤ v ∧ w.length ≤ 9 ∧ w = Lib.itoa v then some v.toNat else none
  | _ => none
def rcT (r : Rc) : Wd := Lib.itoa r.a ++ 45 :: Lib.itoa r.b
def plT (f : Ev) : Wd := Lib.itoa f.k
def pkT (f : Ev) : Wd := Lib.itoa f.k ++ 58 :: Lib.itoa f.o
def tellE (ws : List Wd) : Ev × Int := evOf (Lib.join ws [32])
def tellR (l : List Ev) (ws : List Wd) : Ans :=
  if (tellE ws).2 ≠ 0 then .err (tellE ws).2
  else if (check (l ++ [(tellE ws).1])).2 ≠ 0 then .err (check (l ++ [(tellE ws).1])).2
  else .ok [111, 107] (l ++ [(tellE ws).1])
def leadsR (l : List Ev) (a b : Wd) : Ans :=
  match numOf a, numOf b with
  | some i, some j => if leadE l i j ≠ 0 then .err (leadE l i j) else .ok (if leadV l i j then [121, 101, 115] else [110, 111]) l
  | _, _ => .err 3
def stampR (l : List Ev) (a : Wd) : Ans :=
  match numOf a with
  | some i => if i < l.length then .ok (prt ((List.range 6).map fun t => Lib.itoa (kc l i t))) l else .err 1
  | none => .err 3
noncomputable def ringL (q : List (Int × Int)) : List Nat := by
  classical exact if h : ∃ r, RingB q r 0 then Classical.choose h else []
noncomputable def minL (l : List Ev) : List Ev := by
  classical exact if h : ∃ r, MinB l r 0 then Classical.choose h else []
theorem ringL_eq {q : List (Int × Int)} {r : List Nat} (h : RingB q r 0) : ringL q = r := by
  unfold ringL
  rw [dif_pos ⟨r, h⟩]
  exact (ringB_uniq (Classical.choose_spec (⟨r, h⟩ : ∃ r, RingB q r 0)) h).1
theorem minL_eq {l r : List Ev} (h : MinB l r 0) : minL l = r := by
  unfold minL
  rw [dif_pos ⟨r, h⟩]
  exact (minB_uniq (Classical.choose_spec (⟨r, h⟩ : ∃ r, MinB l r 0)) h).1
noncomputable def ringR (l : List Ev) : Ans := .ok (prt ((ringL (edL l)).map fun n : Nat => Lib.itoa n)) l
def dropR (l : List Ev) (a : Wd) : Ans :=
  match numOf a with
  | some i => if i < l.length then (if may (l.eraseIdx i) = 0 then .ok [111, 107] (l.eraseIdx i) else .err 5) else .err 1
  | none => .err 3
noncomputable def minR (l : List Ev) : Ans := if rcs l = [] then .err 7 else .ok (Lib.itoa (minL l).length) l
def cmdT : List (Wd × Nat × Nat) :=
  [([116, 63], 3, 0), ([114, 97, 99, 101, 115], 1, 1), ([102, 117, 108, 108], 1, 2), ([102, 97, 115, 116], 1, 3), ([119, 97, 114, 110, 115], 1, 4), ([108, 101, 97, 100, 115], 3, 5),
    ([115, 116, 97, 109, 112], 2, 6), ([114, 105, 110, 103], 1, 7), ([100, 114, 111, 112], 2, 8), ([109, 105, 110], 1, 9), ([115, 105, 122, 101], 1, 10), ([99, 108, 101, 97, 114], 1, 11)]
def cmdOf (n : Wd) : Option (Nat × Nat) := (cmdT.find? fun c => decide (c.1 = n)).map (·.2)
def nameW : List Wd → Wd
  | [] => []
  | w :: _ => if w.length = 2 ∧ w.head? = some 116 then [116, 63] else w
def wAt (ws : List Wd) (i : Nat) : Wd := ws.getD i []
noncomputable def cmdR (i : Nat) (l : List Ev) (ws : List Wd) : Ans :=
  match i with
  | 0 => tellR l ws
  | 1 => .ok (prt ((rcs l).map rcT)) l
  | 2 => .ok (prt ((flags l).map pkT)) l
  | 3 => .ok (prt ((fflags l).map pkT)) l
  | 4 => .ok (prt ((warns l).map plT)) l
  | 5 => leadsR l (wAt ws 1) (wAt ws 2)
  | 6 => stampR l (wAt ws 1)
  | 7 => ringR l
  | 8 => dropR l (wAt ws 1)
  | 9 => minR l
  | 10 => .ok (Lib.itoa l.length) l
  | _ => .ok [111, 107] []
noncomputable def ans (l : List Ev) (ws : List Wd) : Ans :=
  match cmdOf (nameW ws) with
  | some (k, i) => if ws.length = k then cmdR i l ws else .err 3
  | none => .err 3
noncomputable def outW : List Ev → List (List Wd) → List Wd
  | _, [] => []
  | l, ws :: r => (ans l ws).out :: outW ((ans l ws).next l) r
noncomputable def endT : List Ev → List (List Wd) → List Ev
  | l, [] => l
  | l, ws :: r => endT ((ans l ws).next l) r
def wordsL (s : Wd) : List Wd := (Lib.goFieldsP (fun n => n == 32) (str s)).map fun b => b.data.toList
theorem outW_append (l : List Ev) (a b : List (List Wd)) : outW l (a ++ b) = outW l a ++ outW (endT l a) b := by
  induction a generalizing l with
  | nil => rfl
  | cons ws r ih => simp only [List.cons_append, outW, endT, ih]
theorem endT_append (l : List Ev) (a b : List (List Wd)) : endT l (a ++ b) = endT (endT l a) b := by
  induction a generalizing l with
  | nil => rfl
  | cons ws r ih => simp only [List.cons_append, endT, ih]
theorem outW_length (l : List Ev) (a : List (List Wd)) : (outW l a).length = a.length := by
  induction a generalizing l with
  | nil => rfl
  | cons ws r ih => simp only [outW, List.length_cons, ih]
theorem outW_get (l : List Ev) (a : List (List Wd)) (i : Nat) (ws : List Wd) (h : a[i]? = some ws) : (outW l a)[i]? = some (ans (endT l (a.take i)) ws).out := by
  induction a generalizing l i with
  | nil => cases h
  | cons x r ih =>
    cases i with
    | zero => simp only [List.getElem?_cons_zero, Option.some.injEq] at h; subst h; rfl
    | succ i =>
      simp only [List.getElem?_cons_succ] at h
      simp only [outW, List.getElem?_cons_succ, List.take_succ_cons, endT]
      exact ih _ i h
theorem may_nil : may [] = 0 := by decide
def NoE (t : Wd) : Prop := ∃ c r, t = c :: r ∧ c ≠ 101
theorem dec_noE (u : Nat) : NoE (Lib.decDigits u) := by
  induction u using Nat.strongRecOn with
  | ind u ih =>
    by_cases h : u < 10
    · rw [Lib.decDigits_one h]
      refine ⟨_, _, rfl, fun e => ?_⟩
      have := congrArg UInt8.toNat e
      simp only [UInt8.toNat_ofNat'] at this
      have h2 : (101 : UInt8).toNat = 101 := rfl
      omega
    · rw [Lib.decDigits, dif_neg h]
      obtain ⟨c, r, h1, h2⟩ := ih (u / 10) (by omega)
      rw [h1]
      exact ⟨c, _, rfl, h2⟩
theorem itoa_noE (n : Int) : NoE (Lib.itoa n) := by
  unfold Lib.itoa
  split
  · exact ⟨45, _, rfl, by decide⟩
  · exact dec_noE _
theorem NoE.app {t : Wd} (h : NoE t) (r : Wd) : NoE (t ++ r) := by
  obtain ⟨c, x, rfl, h2⟩ := h
  exact ⟨c, _, rfl, h2⟩
theorem prt_noE {xs : List Wd} (h : ∀ x ∈ xs, NoE x) : NoE (prt xs) := by
  unfold prt
  split
  · exact ⟨45, _, rfl, by decide⟩
  · cases xs with
    | nil => rename_i h0; exact absurd rfl h0
    | cons x r => rw [Lib.join_cons]; exact (h x (List.mem_cons_self ..)).app _
theorem map_noE {α : Type} (f : α → Wd) (h : ∀ a, NoE (f a)) (xs : List α) : ∀ x ∈ xs.map f, NoE x := fun x hx => by
  obtain ⟨a, _, rfl⟩ := List.mem_map.1 hx
  exact h a
theorem cmdR_noE {i : Nat} {l m : List Ev} {ws : List Wd} {t : Wd} (h : cmdR i l ws = .ok t m) : NoE t := by
  have ok : NoE [111, 107] := ⟨_, _, rfl, by decide⟩
  unfold cmdR at h
  split at h
  · unfold tellR at h
    repeat' split at h
    all_goals cases h
    exact ok
  · cases h; exact prt_noE (map_noE _ (fun r => (itoa_noE _).app _) _)
  · cases h; exact prt_noE (map_noE _ (fun r => (itoa_noE _).app _) _)
  · cases h; exact prt_noE (map_noE _ (fun r => (itoa_noE _).app _) _)
  · cases h; exact prt_noE (map_noE _ (fun r => itoa_noE _) _)
  · unfold leadsR at h
    repeat' split at h
    all_goals cases h
    all_goals first
      | exact ⟨_, _, rfl, by decide⟩
      | skip
    all_goals split <;> exact ⟨_, _, rfl, by decide⟩
  · unfold stampR at h
    repeat' split at h
    all_goals cases h
    exact prt_noE (map_noE _ (fun r => itoa_noE _) _)
  · cases h; exact prt_noE (map_noE _ (fun r => itoa_noE _) _)
  · unfold dropR at h
    repeat' split at h
    all_goals cases h
    exact ok
  · unfold minR at h
    split at h
    · cases h
    · cases h; exact itoa_noE _
  · cases h; exact itoa_noE _
  · cases h; exact ok
theorem ans_noE {l m : List Ev} {ws : List Wd} {t : Wd} (h : ans l ws = .ok t m) : NoE t := by
  unfold ans at h
  split at h
  · split at h
    · exact cmdR_noE h
    · cases h
  · cases h
def errT (t : Wd) : Bool := !(decide (t.length < 6) || decide (t.take 6 ≠ [101, 114, 114, 111, 114, 32]))
theorem ans_errT (l : List Ev) (ws : List Wd) : errT (ans l ws).out = (ans l ws).isErr := by
  cases h : ans l ws with
  | err n => unfold errT Ans.out Ans.isErr; simp
  | ok t m =>
    obtain ⟨c, r, rfl, hc⟩ := ans_noE h
    unfold errT Ans.out Ans.isErr
    simp [hc]
theorem rcs_pl {l : List Ev} (h : may l = 0) {r : Rc} (hr : r ∈ rcs l) : r.a < 80 ∧ r.b < 80 := by
  rw [rcs_ok h] at hr
  obtain ⟨a, b, h1, h2, _⟩ := mem_rcsA hr
  have hl := ((may_iff l).1 h).1
  have h1 := (List.getElem?_eq_some_iff.1 h1).1
  have h2 := (List.getElem?_eq_some_iff.1 h2).1
  omega
def SmF (f : Ev) : Prop := 0 ≤ f.k ∧ f.k < 100 ∧ 0 ≤ f.o ∧ f.o < 100
theorem flags_small {l : List Ev} (h : may l = 0) {f : Ev} (hf : f ∈ flags l) : SmF f := by
  rw [flags_ok h] at hf
  obtain ⟨j, hj, _, rfl⟩ := flT_mem.1 hf
  have hl := ((may_iff l).1 h).1
  have := djK_low l j
  exact ⟨by show (0 : Int) ≤ (j : Nat); omega, by show ((j : Nat) : Int) < 100; omega, this.1, by show djK l j < 100; omega⟩
theorem fflags_small {l : List Ev} (h : may l = 0) {f : Ev} (hf : f ∈ fflags l) : SmF f := by
  rw [fflags_ok h] at hf
  obtain ⟨j, hj, _, rfl⟩ := gl_mem.1 hf
  have hl := ((may_iff l).1 h).1
  have := fkK_low l j
  exact ⟨by show (0 : Int) ≤ (j : Nat); omega, by show ((j : Nat) : Int) < 100; omega, by show 0 ≤ fkK l j; omega, by show fkK l j < 100; omega⟩
theorem warns_small {l : List Ev} (h : may l = 0) {f : Ev} (hf : f ∈ warns l) : SmF f := by
  unfold warns at hf
  rw [if_pos h] at hf
  obtain ⟨j, hj, _, rfl⟩ := wl_mem.1 hf
  have hl := ((may_iff l).1 h).1
  exact ⟨by show (0 : Int) ≤ (j : Nat); omega, by show ((j : Nat) : Int) < 100; omega, by show (0 : Int) ≤ 0; omega, by show (0 : Int) < 100; omega⟩
theorem wordsL_len {s w : Wd} (h : w ∈ wordsL s) : w.length ≤ s.length := by
  unfold wordsL Lib.goFieldsP at h
  rw [List.map_map] at h
  obtain ⟨x, _, rfl⟩ := List.mem_map.1 h
  simp only [Function.comp]
  rw [show (str s).extract x.1 x.2 = str ((s.take x.2).drop x.1) from str_extract _ _ _, str_all]
  simp only [List.length_drop, List.length_take]
  omega
theorem parse_few : ∀ (l : List UInt8) (acc u : Nat), Lib.parseUint10 acc l = .ok u → u < (acc + 1) * 10 ^ l.length
  | [], acc, u, h => by
    simp only [Lib.parseUint10] at h
    injection h with h
    simp [← h]
  | c :: r, acc, u, h => by
    simp only [Lib.parseUint10] at h
    split at h
    · split at h
      · cases h
      · split at h
        · cases h
        · rename_i hc _ _
          have ih := parse_few r _ u h
          have h1 : acc * 10 + (c.toNat - 48) + 1 ≤ (acc + 1) * 10 := by omega
          have h2 := Nat.mul_le_mul_right (10 ^ r.length) h1
          rw [List.length_cons, Nat.pow_succ, Nat.mul_comm (10 ^ r.length) 10, ← Nat.mul_assoc]
          omega
    · cases h
theorem atoi_nine {s : Wd} {v : Int} (h : Lib.atoiAll s = .ok v) (h9 : s.length ≤ 9) : v < 1000000000 := by
  have key : ∀ (r : List UInt8) (u : Nat), Lib.parseMag r = .ok u → r.length ≤ 9 → u < 1000000000 := fun r u hr hl => by
    unfold Lib.parseMag at hr
    split at hr
    · cases hr
    · have := parse_few r 0 u hr
      have h3 : 10 ^ r.length ≤ 10 ^ 9 := Nat.pow_le_pow_right (by omega) hl
      omega
  cases s with
  | nil => cases h
  | cons c r =>
    unfold Lib.atoiAll at h
    simp only at h
    split at h
    · cases h
    · cases h
    · rename_i u hu
      have hl : u < 1000000000 := key _ u hu (by split <;> simp only [List.length_cons] at h9 ⊢ <;> omega)
      split at h
      · cases h
      · split at h
        · cases h
        · injection h with h
          rw [← h]
          split <;> omega
end Go.Proofs.YtnklpifnknmdgaaGreatDoor
set_option linter.all false
set_option maxRecDepth 100000
namespace Go.Proofs.YtnklpifnknmdgaaGreatDoor
open Go Go.RowKit

def dkPan (n : Int) : Ending := .panicked [{ v := .iface 23 (.int .i64 n), recovered := false }]
theorem must_int_ok (v : Value) (w : World) : Calls Tryz.prog 92 #[v, .int .i64 0] w fun e w' => e = .returned v ∧ w = w' := by
  go_enter Tryz.func92, Tryz.ntmps92
  go_wp2
  go_ret
  exact ⟨rfl, rfl⟩
theorem must_int_no (v : Value) (n : Int) (h : n ≠ 0) (w : World) : Calls Tryz.prog 92 #[v, .int .i64 n] w fun e w' => e = dkPan n ∧ w = w' := by
  have h' : (n != 0) = true := by simpa using h
  go_enter Tryz.func92, Tryz.ntmps92
  go_wp2
  exact ⟨rfl, rfl, rfl⟩
theorem must_bool_ok (v : Value) (w : World) : Calls Tryz.prog 105 #[v, .int .i64 0] w fun e w' => e = .returned v ∧ w = w' := by
  go_enter Tryz.func105, Tryz.ntmps105
  go_wp2
  go_ret
  exact ⟨rfl, rfl⟩
theorem must_bool_no (v : Value) (n : Int) (h : n ≠ 0) (w : World) : Calls Tryz.prog 105 #[v, .int .i64 n] w fun e w' => e = dkPan n ∧ w = w' := by
  have h' : (n != 0) = true := by simpa using h
  go_enter Tryz.func105, Tryz.ntmps105
  go_wp2
  exact ⟨rfl, rfl, rfl⟩
theorem must_race_ok (v : Value) (w : World) : Calls Tryz.prog 95 #[v, .int .i64 0] w fun e w' => e = .returned v ∧ w = w' := by
  go_enter Tryz.func95, Tryz.ntmps95
  go_wp2
  go_ret
  exact ⟨rfl, rfl⟩
theorem must_flag_ok (v : Value) (w : World) : Calls Tryz.prog 99 #[v, .int .i64 0] w fun e w' => e = .returned v ∧ w = w' := by
  go_enter Tryz.func99, Tryz.ntmps99
  go_wp2
  go_ret
  exact ⟨rfl, rfl⟩
theorem must_clock_ok (v : Value) (w : World) : Calls Tryz.prog 108 #[v, .int .i64 0] w fun e w' => e = .returned v ∧ w = w' := by
  go_enter Tryz.func108, Tryz.ntmps108
  go_wp2
  go_ret
  exact ⟨rfl, rfl⟩
theorem must_ints_ok (v : Value) (w : World) : Calls Tryz.prog 111 #[v, .int .i64 0] w fun e w' => e = .returned v ∧ w = w' := by
  go_enter Tryz.func111, Tryz.ntmps111
  go_wp2
  go_ret
  exact ⟨rfl, rfl⟩
theorem must_pair_ok (v : Value) (w : World) : Calls Tryz.prog 113 #[v, .int .i64 0] w fun e w' => e = .returned v ∧ w = w' := by
  go_enter Tryz.func113, Tryz.ntmps113
  go_wp2
  go_ret
  exact ⟨rfl, rfl⟩
theorem must_evs_ok (v : Value) (w : World) : Calls Tryz.prog 115 #[v, .int .i64 0] w fun e w' => e = .returned v ∧ w = w' := by
  go_enter Tryz.func115, Tryz.ntmps115
  go_wp2
  go_ret
  exact ⟨rfl, rfl⟩
theorem must_evs_no (v : Value) (n : Int) (h : n ≠ 0) (w : World) : Calls Tryz.prog 115 #[v, .int .i64 n] w fun e w' => e = dkPan n ∧ w = w' := by
  have h' : (n != 0) = true := by simpa using h
  go_enter Tryz.func115, Tryz.ntmps115
  go_wp2
  exact ⟨rfl, rfl, rfl⟩
theorem must_ev_ok (e : Ev) (w : World) : Calls Tryz.prog 90 #[.agg (evv e), .int .i64 0] w fun e' w' => e' = .returned (.agg (evv e)) ∧ Below w.heap.size w w' := by
  obtain ⟨b1, b2, hB, hs⟩ := boxes2 w (evv e) #[.int .i64 0, .int .i64 0, .int .i64 0] 45 45
  have HB := Lib.hid hB
  have HX := Lib.hid (b2.setRow (evv e))
  clear hB hs
  go_enter Tryz.func90, Tryz.ntmps90
  go_wp2_with (first | (refine loadB _ _ rfl rfl rfl b1 T36 ?_) | (refine storeB _ _ _ rfl rfl rfl rfl b2 rfl T36 (by simp [evv, Value.oneCell']) ?_))
  refine bodyPost_ret (res_c Tryz.results90 rfl HX.out T36) rfl ⟨rfl, below_setRow' HB.out _ _ (by omega)⟩
theorem must_ev_no (e : Ev) (n : Int) (h : n ≠ 0) (w : World) : Calls Tryz.prog 90 #[.agg (evv e), .int .i64 n] w fun e' w' => e' = dkPan n ∧ Below w.heap.size w w' := by
  have h' : (n != 0) = true := by simpa using h
  have H2 := Lib.hid (Below.alloc (Below.alloc (Below.refl w.heap.size w) (Nat.le_refl _) (.cells (evv e) 45)) (by simp) (.cells #[.int .i64 0, .int .i64 0, .int .i64 0] 45))
  go_enter Tryz.func90, Tryz.ntmps90
  go_wp2
  exact ⟨rfl, rfl, H2.out⟩
end Go.Proofs.YtnklpifnknmdgaaGreatDoor
set_option linter.all false
set_option maxRecDepth 100000
namespace Go.Proofs.YtnklpifnknmdgaaGreatDoor
open Go Go.RowKit

section
variable {P : Program} {ops : Array Oper} {md : Region.Mode} {Q : Exit → Act → World → Prop} {N L : Nat}
def wpU (P : Program) (md : Region.Mode) (ops : Array Oper) (Q : Exit → Act → World → Prop) (N L : Nat) : Nat → Array Bool → Act → World → Prop
  | 0, listed, a, w => ∀ w1, Bel w w1 → Region.ready md ops listed = [] ∧ Q .normal a w1
  | f + 1, listed, a, w => ∀ w1, Bel w w1 → (Region.ready md ops listed = [] → Q .normal a w1) ∧
      ∀ i ∈ Region.ready md ops listed, wpOp P ops Q i (fun a' w' => ((i = L ∨ listed.getD L false = true) ∨ Below N w1 w') ∧ wpU P md ops Q N L f (listed.setIfInBounds i true) a' w') a w1
theorem wpAny_of_growU : ∀ (f : Nat) (listed : Array Bool) (a : Act) (w : World), wpU P md ops Q N L f listed a w → wpAny P md ops Q f listed a w
  | 0, _, _, w, h => h w (Bel.refl w)
  | f + 1, _, _, w, h => ⟨(h w (Bel.refl w)).1, fun i hi => wpOp_mono (fun a' w' h' => wpAny_of_growU f _ a' w' h'.2) ((h w (Bel.refl w)).2 i hi)⟩
theorem wpU.world {f : Nat} {listed : Array Bool} {a : Act} {w w1 : World} (h : wpU P md ops Q N L f listed a w) (hb : Bel w w1) : wpU P md ops Q N L f listed a w1 := by
  cases f <;> exact fun w2 h2 => h w2 (hb.trans h2)
theorem wpU_firstN {i g : Nat} {oi : Oper} {v : Value} (hi : ops[i]? = some oi) (hsel : ∀ (j : Nat) (o : Oper) cs b, ops[j]? = some o → o.op ≠ .select cs b)
    (hQ : ∀ c a w, Q (.panic c) (a.put oi.dst v) w → Q (.panic c) a w) (hW : waitsN md ops g L i = true) :
    ∀ (f : Nat) (listed : Array Bool) (a : Act) (w : World), Closed md ops listed → N ≤ w.heap.size →
      (∀ j oj, ops[j]? = some oj → j ≠ i → listed.getD j true = false → (∀ e ∈ oj.after, Region.binds md e = true → e.on ≠ i) → oi.apart ops oj = true) →
      i ∈ Region.ready md ops listed → YieldsG P ops N oi v a w →
      wpU P md ops Q N L f (listed.setIfInBounds i true) (a.put oi.dst v) w → wpU P md ops Q N L (f + 1) listed a w := by
  intro f
  induction f with
  | zero =>
    intro listed a w _ hN _ hr hy H w1 hb
    refine ⟨fun h => (by rw [h] at hr; cases hr), fun j hj => ?_⟩
    by_cases hji : j = i
    · subst hji
      exact (hy.later (Below.mono hb hN)).op hi (Nat.le_trans hN hb.size) fun w' hb' => ⟨.inr (Below.mono hb' (Nat.le_trans hN hb.size)), H.world (hb.trans hb')⟩
    · have := ready_mono hj hji
      rw [(H w1 hb).1] at this
      cases this
  | succ f ih =>
    intro listed a w hcl hN hfree hr hy H w1 hb
    have hN1 : N ≤ w1.heap.size := Nat.le_trans hN hb.size
    have hy1 := hy.later (Below.mono hb hN)
    refine ⟨fun h => (by rw [h] at hr; cases hr), fun j hj => ?_⟩
    by_cases hji : j = i
    · subst hji
      exact hy1.op hi hN1 fun w' hb' => ⟨.inr (Below.mono hb' hN1), H.world (hb.trans hb')⟩
    · have hjL : ¬ (j = L ∨ (listed.setIfInBounds i true).getD L false = true) := fun h => by
        have hLi : L ≠ i := fun e => not_readyN hcl hW hr (e ▸ hr)
        rcases h with h | h
        · exact not_readyN hcl hW hr (h ▸ hj)
        · rw [getD_set_ne false (Ne.symm hLi)] at h
          have h1 := waitsN_listed hcl g L hW h
          rw [getD_both (mem_ready.1 hr).1] at h1
          cases h1
      have h1 := wpOp_mono (fun a' w' (h : ((j = L ∨ (listed.setIfInBounds i true).getD L false = true) ∨ Below N w1 w') ∧ wpU P md ops Q N L f ((listed.setIfInBounds i true).setIfInBounds j true) a' w') => And.intro (h.1.resolve_left hjL) h.2) ((H w1 hb).2 j (ready_mono hj hji))
      obtain ⟨hjun, oj, hoj, hall⟩ := mem_ready.1 hj
      have hnot : ∀ e ∈ oj.after, Region.binds md e = true → e.on ≠ i := fun e he hb heq => by
        have h1 := hall e he hb
        rw [heq, getD_both (mem_ready.1 hr).1] at h1
        cases h1
      have h2 := putG hoj (hfree j oj hoj hji hjun hnot) (fun cs b => hsel i oi cs b hi) (fun cs b => hsel j oj cs b hoj) hQ hy1 h1
      have hfree' : ∀ k ok, ops[k]? = some ok → k ≠ i → (listed.setIfInBounds j true).getD k true = false →
          (∀ e ∈ ok.after, Region.binds md e = true → e.on ≠ i) → oi.apart ops ok = true := fun k ok hk hki hun hno => by
        refine hfree k ok hk hki ?_ hno
        by_cases hjk : j = k
        · subst hjk; exact hjun
        · rw [getD_set_ne true hjk] at hun; exact hun
      refine wpOp_mono (fun a' w' h3 => ⟨.inr h3.1, ih (listed.setIfInBounds j true) a' w' (hcl.set hj) (Nat.le_trans hN1 h3.1.size) hfree' (ready_mono hr (Ne.symm hji)) h3.2.1 ?_⟩) h2
      rw [Array.setIfInBounds_comm _ _ hji]
      exact h3.2.2
theorem wpU_goN (i : Nat) {oi : Oper} {f : Nat} {listed : Array Bool} {a : Act} {w : World} (hi : ops[i]? = some oi)
    (hr : ((Region.ready md ops listed).contains i && (waitsN md ops 4 L i && closedB md ops listed)) = true) (hf : Region.free md ops listed i = true) (hs : Region.noSelect ops = true) (hw : Region.wanted oi (yielded ops a.tmps) = true)
    (hQ : ∀ v c a w, Q (.panic c) (a.put oi.dst v) w → Q (.panic c) a w) (hN : N ≤ w.heap.size)
    (h : ∃ v, (∀ w1, Below N w w1 → oi.quietAt P a (Bel w1) w1 v) ∧ wpU P md ops Q N L f (listed.setIfInBounds i true) (a.put oi.dst v) w) : wpU P md ops Q N L (f + 1) listed a w :=
  let ⟨v, h1, h2⟩ := h
  have hr1 := Bool.and_eq_true_iff.1 hr
  have hr2 := Bool.and_eq_true_iff.1 hr1.2
  wpU_firstN hi (Region.noSelect_spec hs) (hQ v) hr2.1 f listed a w (closedB_spec hr2.2) hN (Region.free_spec hi hf) (by simpa using hr1.1) (.inl ⟨hw, h1⟩) h2
theorem wpU_one (i : Nat) {f : Nat} {listed : Array Bool} {a : Act} {w : World} (hr : Region.ready md ops listed = [i])
    (h : ∀ w1, Bel w w1 → wpOp P ops Q i (fun a' w' => Below N w1 w' ∧ wpU P md ops Q N L f (listed.setIfInBounds i true) a' w') a w1) : wpU P md ops Q N L (f + 1) listed a w := fun w1 hb =>
  ⟨fun h0 => (by rw [hr] at h0; cases h0), fun j hj => by
    rw [hr] at hj
    simp only [List.mem_singleton] at hj
    subst hj
    exact wpOp_mono (fun a' w' h' => ⟨.inr h'.1, h'.2⟩) (h w1 hb)⟩
theorem wpU_now {f : Nat} {listed : Array Bool} {a : Act} {w : World} (hr : Region.ready md ops listed = [L])
    (h : ∀ w1, Bel w w1 → wpOp P ops Q L (fun a' w' => wpU P md ops Q N L f (listed.setIfInBounds L true) a' w') a w1) : wpU P md ops Q N L (f + 1) listed a w := fun w1 hb =>
  ⟨fun h0 => (by rw [hr] at h0; cases h0), fun j hj => by
    rw [hr] at hj
    simp only [List.mem_singleton] at hj
    subst hj
    exact wpOp_mono (fun a' w' h' => ⟨.inl (.inl rfl), h'⟩) (h w1 hb)⟩
theorem wpU_next (i : Nat) {f : Nat} {listed : Array Bool} {a : Act} {w : World} (hl : listed.getD L false = true) (hr : Region.ready md ops listed = [i])
    (h : ∀ w1, Bel w w1 → wpOp P ops Q i (fun a' w' => wpU P md ops Q N L f (listed.setIfInBounds i true) a' w') a w1) : wpU P md ops Q N L (f + 1) listed a w := fun w1 hb =>
  ⟨fun h0 => (by rw [hr] at h0; cases h0), fun j hj => by
    rw [hr] at hj
    simp only [List.mem_singleton] at hj
    subst hj
    exact wpOp_mono (fun a' w' h' => ⟨.inl (.inr hl), h'⟩) (h w1 hb)⟩
theorem wpU_done {listed : Array Bool} {a : Act} {w : World} (hr : Region.ready md ops listed = []) (h : ∀ w1, Bel w w1 → Q .normal a w1) : ∀ f, wpU P md ops Q N L f listed a w
  | 0 => fun w1 hb => ⟨hr, h w1 hb⟩
  | _ + 1 => fun w1 hb => ⟨fun _ => h w1 hb, by rw [hr]; simp⟩
theorem region_growU (L : Nat) {id : Nat} {a : Act} {w : World} (hm : P.follows .mixedOrders = true)
    (h : wpU P .any ops Q w.heap.size L ops.size (Array.replicate ops.size false) a w) : (Code.region id ops true).wp P Q a w :=
  wp_region_any hm (wpAny_of_growU _ _ _ _ (h.world (w1 := w.drew) (Bel.refl w).drew))
end
end Go.Proofs.YtnklpifnknmdgaaGreatDoor
namespace Go.Proofs.YtnklpifnknmdgaaGreatDoor
open Go Go.RowKit

section
variable {P : Program} {ops : Array Oper} {md : Region.Mode} {Q : Exit → Act → World → Prop} {N : Nat → Prop} {L : Nat}
end
end Go.Proofs.YtnklpifnknmdgaaGreatDoor
set_option linter.all false
set_option maxRecDepth 100000
namespace Go.Proofs.YtnklpifnknmdgaaGreatDoor
open Go Go.RowKit

structure Dk (w : World) (N D : Nat) (v : Value) (l : List Ev) : Prop where
  box : Box w D #[v] 32
  own : w.ownsRow N 45 3 v l.length (evc l)
  ne : ∀ g, v.ownBlock = some g → g ≠ D
  ok : may l = 0
theorem Dk.bel {w w' : World} {N D : Nat} {v : Value} {l : List Ev} (h : Dk w N D v l) (hb : Bel w w') : Dk w' N D v l := ⟨hb.box h.box, own_bel h.own hb, h.ne, h.ok⟩
theorem Dk.sl {w : World} {N D : Nat} {v : Value} {l : List Ev} (h : Dk w N D v l) : ∃ A c, v = .slice A l.length c ∧ Sl w A l.length l ∧ l.length ≤ c ∧ c ≤ maxLen := Sl.own h.own
structure DkG (w w' : World) (D : Nat) (v : Value) : Prop where
  os : w'.os = w.os
  tape : w'.tape = w.tape
  output : w'.output = w.output
  size : w.heap.size ≤ w'.heap.size
  block : ∀ k, k < w.heap.size → k ≠ D → v.ownBlock ≠ some k → w'.heap[k]? = w.heap[k]?
theorem DkG.of {w w' : World} (h : Bel w w') (D : Nat) (v : Value) : DkG w w' D v := ⟨h.out.os, h.out.tape, h.out.output, h.out.size, fun k hk _ _ => h.out.block k hk⟩
theorem DkG.grown {w w' : World} {v : Value} (h : w.grownBy w' v.ownBlock) (D : Nat) : DkG w w' D v := ⟨h.os, h.tape, h.output, h.size, fun k hk _ h3 => h.block k hk (fun e => h3 e.symm)⟩
theorem DkG.setC (w : World) (D o : Nat) (u v : Value) : DkG w (w.setCell ⟨D, o, none⟩ u) D v := ⟨rfl, rfl, rfl, by simp, fun k _ h2 _ => heap_setCell_other w ⟨D, o, none⟩ k u h2⟩
theorem DkG.trans {w w1 w2 : World} {D : Nat} {v v' : Value} (h : DkG w w1 D v) (k : DkG w1 w2 D v') (hv : v'.ownBlock = v.ownBlock ∨ ∀ g, v'.ownBlock = some g → w.heap.size ≤ g) : DkG w w2 D v :=
  ⟨k.os.trans h.os, k.tape.trans h.tape, k.output.trans h.output, Nat.le_trans h.size k.size, fun j hj h1 h2 => (k.block j (Nat.lt_of_lt_of_le hj h.size) h1 fun e => by
    rcases hv with hv | hv
    · exact h2 (hv ▸ e)
    · have := hv j e; omega).trans (h.block j hj h1 h2)⟩
theorem DkG.below {w w' : World} {N D : Nat} {v : Value} {l : List Ev} (h : DkG w w' D v) (hb : Dk w N D v l) (hD : N ≤ D) (hN : N ≤ w.heap.size) : Below N w w' :=
  ⟨h.os, h.tape, h.output, h.size, fun k hk => h.block k (by omega) (by omega) fun hv => by have := (own_lt hb.own hv).1; omega⟩
theorem DkG.box {w w' : World} {D : Nat} {v : Value} (h : DkG w w' D v) {B : Nat} {c : Array Value} {t : TypeId} (hb : Box w B c t) (h1 : B ≠ D) (h2 : v.ownBlock ≠ some B) : Box w' B c t := (h.block B hb.lt h1 h2).trans hb
def Ans.fin : Ans → Ending
  | .err n => dkPan n
  | .ok t _ => .returned (.string (str t))
def MetP (N D : Nat) (v : Value) (l : List Ev) (a : Ans) (w : World) (e : Ending) (w' : World) : Prop :=
  e = a.fin ∧ ∃ v', Dk w' N D v' (a.next l) ∧ DkG w w' D v ∧ (v'.ownBlock = v.ownBlock ∨ ∀ k, v'.ownBlock = some k → w.heap.size ≤ k)
theorem met_look {N D : Nat} {v : Value} {l : List Ev} {a : Ans} {w w' : World} {e : Ending} (h : Dk w N D v l) (hb : Bel w w') (he : e = a.fin) (hn : a.next l = l) : MetP N D v l a w e w' :=
  ⟨he, v, by rw [hn]; exact h.bel hb, .of hb D v, .inl rfl⟩
structure Tabs (w : World) : Prop where
  pow : Lib.TabIs Tryz.prog w "internal/strconv.uint64pow10" .u64 Lib.pow10Tab
  sy : ∃ t p, w.var? Tryz.prog "strconv.ErrSyntax" = some #[.iface t p]
  rg : ∃ t p, w.var? Tryz.prog "strconv.ErrRange" = some #[.iface t p]
theorem var_bel {P : Program} {w w' : World} {s : String} {c : Array Value} (h : w.var? P s = some c) (hb : Bel w w') : w'.var? P s = some c := by
  unfold World.var? at *
  cases hg : P.globalNamed s with
  | none => simp [hg] at h
  | some g =>
    simp only [hg, Option.bind_some] at h ⊢
    have hlt : g < w.heap.size := by
      rcases Nat.lt_or_ge g w.heap.size with h' | h'
      · exact h'
      · rw [Array.getElem?_eq_none h'] at h; simp at h
    rw [hb.out.block g hlt]
    exact h
theorem Tabs.bel {w w' : World} (h : Tabs w) (hb : Bel w w') : Tabs w' := by
  obtain ⟨h1, ⟨t2, p2, h2⟩, ⟨t3, p3, h3⟩⟩ := h
  exact ⟨var_bel h1 hb, ⟨t2, p2, var_bel h2 hb⟩, ⟨t3, p3, var_bel h3 hb⟩⟩
end Go.Proofs.YtnklpifnknmdgaaGreatDoor
set_option linter.all false
set_option maxRecDepth 100000
namespace Go.Proofs.YtnklpifnknmdgaaGreatDoor
open Go Go.RowKit

theorem str_info : (Tryz.prog.info? 9).map (fun i => (i.zero, i.size, i.bytes)) = some (some (.string ⟨#[]⟩), 1, 16) := by kernel_rfl
theorem made_one (z : Value) (n : Nat) (hz : z.cells = #[z]) : madeCells z.cells n = Array.replicate n z := by
  rw [hz]
  apply Array.ext
  · simp [madeCells]
  · intro i h1 h2
    simp [madeCells, Nat.mod_one]
theorem makeStr {ops : Array Oper} {rest : List Oper} {o : Oper} {a : Act} {w : World} {Q : Exit → Act → World → Prop} (l c : Operand) (ho : o.op = .makeSlice 22 l c) (hg : o.guard = none) (n : Nat) (hn : n ≤ 1000000) (hl : a.eval l = .int .i64 n) (hc : a.eval c = .int .i64 n)
    (h : wpList Tryz.prog ops Q rest (a.put o.dst (.slice (some ⟨w.heap.size, 0, none⟩) n n)) (w.alloc (.cells (Array.replicate n (.string ⟨#[]⟩)) 9))) : wpList Tryz.prog ops Q (o :: rest) a w := by
  obtain ⟨i, hi, hz, hs, hb⟩ := info_parts str_info
  have hr := run_make (P := Tryz.prog) w 22 9 i _ Tryz.underlying22 hi hz .i64 .i64 n n (by omega) (by omega) (by rw [hb]; omega) (by omega)
  rw [made_one _ _ rfl, hs, Nat.mul_one, Int.toNat_natCast] at hr
  refine wpList_plain hg fun _ hK => ?_
  unfold Oper.wp execOp
  simp only [ho, hl, hc, Sem.run_bind, hr, Result.andThen_ok, Sem.run_pure]
  exact hK _ _ h
end Go.Proofs.YtnklpifnknmdgaaGreatDoor
set_option linter.all false
set_option maxRecDepth 100000
namespace Go.Proofs.YtnklpifnknmdgaaGreatDoor
open Go Go.RowKit

theorem TFl : RowTy Tryz.prog 107 3 := ⟨_, Tryz.underlying107, rfl, by kernel_rfl⟩
end Go.Proofs.YtnklpifnknmdgaaGreatDoor
namespace Go.Proofs.YtnklpifnknmdgaaGreatDoor
open Go Go.RowKit

end Go.Proofs.YtnklpifnknmdgaaGreatDoor

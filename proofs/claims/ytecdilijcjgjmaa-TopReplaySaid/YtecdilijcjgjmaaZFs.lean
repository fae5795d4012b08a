import Derived.Test.YtecdilijcjgjmaaZFl
set_option linter.all false
set_option maxRecDepth 100000
namespace Go.Proofs.Ytecdilijcjgjmaa
open Go Go.RowKit

structure Fs where
  wt : Nat
  wn : Nat
  many : Bool
  rt : Nat
  rn : Nat
  rc : Nat → Nat
def fsStart : Fs := ⟨0, 0, false, 0, 0, fun _ => 0⟩
def knwB (r c : Nat → Nat) : Bool := (List.range 6).all fun u => decide (r u ≤ c u)
theorem knwB_iff (r c : Nat → Nat) : knwB r c = true ↔ ∀ u, u < 6 → r u ≤ c u := by simp [knwB]
def rKn (s : Fs) (c : Nat → Nat) : Bool := if s.many = true then knwB s.rc c else decide (s.rn ≤ c s.rt)
def skR (s : Fs) (t : Nat) (c : Nat → Nat) : Bool := !s.many && (decide (s.rt = t) && decide (s.rn = c t))
def skW (s : Fs) (t : Nat) (c : Nat → Nat) : Bool := decide (s.wt = t) && decide (s.wn = c t)
def fsR (s : Fs) (t : Nat) (c : Nat → Nat) : Fs :=
  if s.many = true then { s with rc := fun u => if u = t then c t else s.rc u }
  else if s.rn ≤ c s.rt then { s with rt := t, rn := c t }
  else { s with many := true, rt := 0, rn := 0, rc := fun u => if u = t then c t else if u = s.rt then s.rn else 0 }
def fsW (s : Fs) (t : Nat) (c : Nat → Nat) : Fs := { s with wt := t, wn := c t, many := false, rc := fun _ => 0 }
def fsStep (s : Fs) (k : Int) (t : Nat) (c : Nat → Nat) : Fs := if k = 1 then (if skR s t c = true then s else fsR s t c) else if k = 2 then (if skW s t c = true then s else fsW s t c) else s
def fsK (s : Fs) (k : Int) (t : Nat) (c : Nat → Nat) : Int :=
  if k = 1 then (if skR s t c = true then 0 else if s.wn ≤ c s.wt then 0 else 2)
  else if k = 2 then (if skW s t c = true then 0 else if s.wn ≤ c s.wt then (if rKn s c = true then 0 else 3) else 1) else 0
def fsSl (s : Fs) (k : Int) (t : Nat) (c : Nat → Nat) : Nat := if k = 1 then (if skR s t c = true then 0 else if s.many = true then 0 else if s.rn ≤ c s.rt then 0 else 1) else 0
def cZ (l : List Ev) (k : Nat) : Nat → Nat := (djTo l k).C (tZ l k)
def fsTo (l : List Ev) (x : Nat) : Nat → Fs
  | 0 => fsStart
  | k + 1 => if oZ l k = x then fsStep (fsTo l x k) (kZ l k) (tZ l k) (cZ l k) else fsTo l x k
def fkK (l : List Ev) (k : Nat) : Int := fsK (fsTo l (oZ l k) k) (kZ l k) (tZ l k) (cZ l k)
def slT (l : List Ev) : Nat → Nat
  | 0 => 0
  | k + 1 => slT l k + fsSl (fsTo l (oZ l k) k) (kZ l k) (tZ l k) (cZ l k)
end Go.Proofs.Ytecdilijcjgjmaa
namespace Go.Proofs.Ytecdilijcjgjmaa
open Go Go.RowKit

end Go.Proofs.Ytecdilijcjgjmaa
namespace Go.Proofs.Ytecdilijcjgjmaa
open Go Go.RowKit

def gl (K : Nat → Int) (l : List Ev) : Nat → List Ev
  | 0 => []
  | k + 1 => if K k = 0 then gl K l k else gl K l k ++ [⟨(k : Nat), (eZ l k).o, K k⟩]
section
variable {K : Nat → Int} {l : List Ev}
theorem gl_yes {k : Nat} (h : K k ≠ 0) : gl K l (k + 1) = gl K l k ++ [⟨(k : Nat), (eZ l k).o, K k⟩] := by rw [gl, if_neg h]
theorem gl_no {k : Nat} (h : K k = 0) : gl K l (k + 1) = gl K l k := by rw [gl, if_pos h]
theorem gl_len (K : Nat → Int) (l : List Ev) : ∀ k, (gl K l k).length ≤ k
  | 0 => Nat.le_refl _
  | k + 1 => by
    have := gl_len K l k
    rw [gl]
    split
    · omega
    · rw [List.length_append]; simp; omega
end
def fflags (l : List Ev) : List Ev := if may l = 0 then gl (fkK l) l l.length else []
theorem fflags_ok {l : List Ev} (h : may l = 0) : fflags l = gl (fkK l) l l.length := by unfold fflags; rw [if_pos h]
theorem fflags_no {l : List Ev} (h : may l ≠ 0) : fflags l = [] := by unfold fflags; rw [if_neg h]
theorem fsSl_le (s : Fs) (k : Int) (t : Nat) (c : Nat → Nat) : fsSl s k t c ≤ 1 := by
  unfold fsSl
  repeat' split
  all_goals omega
end Go.Proofs.Ytecdilijcjgjmaa
namespace Go.Proofs.Ytecdilijcjgjmaa
open Go Go.RowKit

section
variable {l : List Ev} (hm : may l = 0) (x : Nat)
include hm
omit hm in
omit hm in
end
end Go.Proofs.Ytecdilijcjgjmaa
namespace Go.Proofs.Ytecdilijcjgjmaa
open Go Go.RowKit

section
variable {l : List Ev} (hm : may l = 0) (h : ∀ i, i < l.length → kZ l i = 1 → tZ l i = oZ l i % 6)
include hm h
end
section
variable {l : List Ev} {i : Nat} (hi : i < l.length)
include hi
variable (hw : kZ l i = 2)
include hw
end
end Go.Proofs.Ytecdilijcjgjmaa
namespace Go.Proofs.Ytecdilijcjgjmaa
open Go Go.RowKit

structure Pl where
  w : Int
  rs : List Nat
  many : Bool
structure PlR (l : List Ev) (x k : Nat) (p : Pl) (s : Fs) : Prop where
  w : (p.w = -1 ∧ s.wt = 0 ∧ s.wn = 0) ∨ ∃ i : Nat, i < k ∧ p.w = (i : Nat) ∧ s.wt = tZ l i ∧ s.wn = epo l i
  my : p.many = s.many
  mem : ∀ i ∈ p.rs, i < k
  r : s.many = false → (p.rs = [] ∧ s.rt = 0 ∧ s.rn = 0) ∨ ∃ i, p.rs = [i] ∧ s.rt = tZ l i ∧ s.rn = epo l i
  rc1 : s.many = true → ∀ i ∈ p.rs, s.rc (tZ l i) = epo l i
  rc2 : s.many = true → ∀ u, s.rc u = 0 ∨ ∃ i ∈ p.rs, tZ l i = u
  cl : s.many = true → s.rt = 0 ∧ s.rn = 0
  len : p.rs.length ≤ k
section
variable {l : List Ev} (hm : may l = 0) {x j : Nat} (hj : j < l.length) (hk : kZ l j = 1 ∨ kZ l j = 2) {p : Pl} {s : Fs} (h : PlR l x j p s)
include hm hj h
end
end Go.Proofs.Ytecdilijcjgjmaa
namespace Go.Proofs.Ytecdilijcjgjmaa
open Go Go.RowKit

theorem acc_o {l : List Ev} (hm : may l = 0) {j : Nat} (hj : j < l.length) (hk : kZ l j = 1 ∨ kZ l j = 2) : oZ l j < 8 := by
  have h := isEv_o (eZ_ok hm hj)
  unfold kZ at hk
  have : nobj (eZ l j).k = 8 := by unfold nobj; rw [if_pos hk]
  unfold oZ; omega
theorem fkK_acc {l : List Ev} {j : Nat} (h : fkK l j ≠ 0) : kZ l j = 1 ∨ kZ l j = 2 := by
  refine Classical.byContradiction fun hn => h ?_
  unfold fkK fsK
  rw [if_neg (fun e => hn (.inl e)), if_neg (fun e => hn (.inr e))]
theorem fsSl_acc {l : List Ev} {j : Nat} {s : Fs} (h : fsSl s (kZ l j) (tZ l j) (cZ l j) ≠ 0) : kZ l j = 1 := by
  refine Classical.byContradiction fun hn => h ?_
  unfold fsSl
  rw [if_neg hn]
end Go.Proofs.Ytecdilijcjgjmaa

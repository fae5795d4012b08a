import Derived.Test.YtlcldcbdobgdbaaZEv
import Derived.Test.YtlcldcbdobgdbaaZGrow
import Derived.Deep.DeepCutAuto
import Derived.Test.YtlcldcbdobgdbaaRows
import Derived.WalkKit
import Derived.WalkSpells
import Derived.WalkLawsBesides
import Derived.BigQuiet
import Derived.Deep.RegionHeld3
import Derived.Lib.Hide
import Derived.Test.YtlcldcbdobgdbaaZBase
import Derived.Lib.SlicesCompact
import Derived.Deep.MidRow
import Derived.Maps.AppendAt
import Derived.Test.YtlcldcbdobgdbaaZOr
import Derived.Test.YtlcldcbdobgdbaaZPr
import Derived.Test.YtlcldcbdobgdbaaZMid
import Derived.Test.YtlcldcbdobgdbaaZTrace
import Derived.Test.YtlcldcbdobgdbaaZVs
set_option linter.all false
set_option maxRecDepth 100000
namespace Go.Proofs.Ytlcldcbdobgdbaa
open Go Go.RowKit

end Go.Proofs.Ytlcldcbdobgdbaa
set_option linter.all false
set_option maxRecDepth 100000
namespace Go.Proofs.Ytlcldcbdobgdbaa
open Go Go.RowKit

section
variable {w wr : World} {O n k : Nat} {r : Nat → Nat} {f f' : Nat → Nat → Bool}
end
section
variable {ops : Array Oper} {rest : List Oper} {o : Oper} {a : Act} {w : World} {Q : Exit → Act → World → Prop}
end
end Go.Proofs.Ytlcldcbdobgdbaa
namespace Go.Proofs.Ytlcldcbdobgdbaa
open Go Go.RowKit

end Go.Proofs.Ytlcldcbdobgdbaa
set_option linter.all false
set_option maxRecDepth 100000
namespace Go.Proofs.Ytlcldcbdobgdbaa
open Go Go.RowKit

end Go.Proofs.Ytlcldcbdobgdbaa
set_option linter.all false
set_option maxRecDepth 100000
namespace Go.Proofs.Ytlcldcbdobgdbaa
open Go.RowKit

end Go.Proofs.Ytlcldcbdobgdbaa
namespace Go.Proofs.Ytlcldcbdobgdbaa
open Go.RowKit

end Go.Proofs.Ytlcldcbdobgdbaa
set_option linter.all false
set_option maxRecDepth 100000
namespace Go.Proofs.Ytlcldcbdobgdbaa
open Go Go.RowKit

def eZ (l : List Ev) (i : Nat) : Ev := (l[i]?).getD ⟨0, 0, 0⟩
def kZ (l : List Ev) (i : Nat) : Int := (eZ l i).k
def tZ (l : List Ev) (i : Nat) : Nat := (eZ l i).t.toNat
def oZ (l : List Ev) (i : Nat) : Nat := (eZ l i).o.toNat
structure Dj where
  C : Nat → Nat → Nat
  L : Nat → Nat → Nat
  V : Nat → Nat → Nat
def put1 {α : Type} (f : Nat → α) (i : Nat) (g : α) : Nat → α := fun j => if j = i then g else f j
def mxN (a b : Nat → Nat) : Nat → Nat := fun u => max (a u) (b u)
def incN (a : Nat → Nat) (t : Nat) : Nat → Nat := fun u => if u = t then a u + 1 else a u
def djStart : Dj := ⟨fun t u => if t = u then 1 else 0, fun _ _ => 0, fun _ _ => 0⟩
def djStep (s : Dj) (k : Int) (t o : Nat) : Dj :=
  if k = 3 then { s with C := put1 s.C t (mxN (s.C t) (s.L o)) }
  else if k = 4 then { s with L := put1 s.L o (s.C t), C := put1 s.C t (incN (s.C t) t) }
  else if k = 5 then { s with C := put1 (put1 s.C o (mxN (s.C o) (s.C t))) t (incN (s.C t) t) }
  else if k = 6 then { s with C := put1 s.C t (mxN (s.C t) (s.C o)) }
  else if k = 7 then { s with C := put1 s.C t (mxN (s.C t) (s.V o)) }
  else if k = 8 then { s with V := put1 s.V o (mxN (s.V o) (s.C t)), C := put1 s.C t (incN (s.C t) t) }
  else s
def djTo (l : List Ev) : Nat → Dj
  | 0 => djStart
  | k + 1 => djStep (djTo l k) (kZ l k) (tZ l k) (oZ l k)
def epo (l : List Ev) (i : Nat) : Nat := (djTo l i).C (tZ l i) (tZ l i)
end Go.Proofs.Ytlcldcbdobgdbaa
namespace Go.Proofs.Ytlcldcbdobgdbaa
open Go Go.RowKit

section
variable {l : List Ev} {k : Nat} {s : Dj}
end
end Go.Proofs.Ytlcldcbdobgdbaa
namespace Go.Proofs.Ytlcldcbdobgdbaa
open Go Go.RowKit

section
variable {l : List Ev} {k : Nat} {s : Dj}
end
end Go.Proofs.Ytlcldcbdobgdbaa
namespace Go.Proofs.Ytlcldcbdobgdbaa
open Go Go.RowKit

end Go.Proofs.Ytlcldcbdobgdbaa
namespace Go.Proofs.Ytlcldcbdobgdbaa
open Go Go.RowKit

def tOf (l : List Ev) (i : Nat) : Nat := match l[i]? with | some e => e.t.toNat | none => 0
def knB (l : List Ev) (j t i : Nat) : Bool := (i == j || bef l i j) && tOf l i == t
def kn (l : List Ev) (j t : Nat) : Nat := (List.range l.length).countP (knB l j t)
section
variable {l : List Ev} (hT : ∀ i, i < l.length → tOf l i < 6)
include hT
end
def kc (l : List Ev) (j : Nat) : Nat → Int := fun t => (kn l j t : Nat)
end Go.Proofs.Ytlcldcbdobgdbaa
namespace Go.Proofs.Ytlcldcbdobgdbaa
open Go Go.RowKit

def srt (zs : List Int) : List Int := zs.mergeSort fun x y => decide (x ≤ y)
def dd (zs : List Int) : List Int := Lib.compact (srt zs)
end Go.Proofs.Ytlcldcbdobgdbaa
namespace Go.Proofs.Ytlcldcbdobgdbaa
open Go Go.RowKit

end Go.Proofs.Ytlcldcbdobgdbaa
namespace Go.Proofs.Ytlcldcbdobgdbaa
open Go Go.RowKit

end Go.Proofs.Ytlcldcbdobgdbaa
namespace Go.Proofs.Ytlcldcbdobgdbaa
open Go Go.RowKit

end Go.Proofs.Ytlcldcbdobgdbaa
namespace Go.Proofs.Ytlcldcbdobgdbaa
open Go Go.RowKit

end Go.Proofs.Ytlcldcbdobgdbaa
set_option linter.all false
set_option maxRecDepth 100000
namespace Go.Proofs.Ytlcldcbdobgdbaa
open Go Go.RowKit

structure Fs where
  wt : Nat
  wn : Nat
  many : Bool
  rt : Nat
  rn : Nat
  rc : Nat → Nat
end Go.Proofs.Ytlcldcbdobgdbaa
namespace Go.Proofs.Ytlcldcbdobgdbaa
open Go Go.RowKit

end Go.Proofs.Ytlcldcbdobgdbaa
namespace Go.Proofs.Ytlcldcbdobgdbaa
open Go Go.RowKit

section
variable {K : Nat → Int} {l : List Ev}
end
end Go.Proofs.Ytlcldcbdobgdbaa
namespace Go.Proofs.Ytlcldcbdobgdbaa
open Go Go.RowKit

section
variable {l : List Ev} (hm : may l = 0) (x : Nat)
include hm
end
end Go.Proofs.Ytlcldcbdobgdbaa
namespace Go.Proofs.Ytlcldcbdobgdbaa
open Go Go.RowKit

section
variable {l : List Ev} (hm : may l = 0) (h : ∀ i, i < l.length → kZ l i = 1 → tZ l i = oZ l i % 6)
include hm h
end
section
variable {l : List Ev} {i : Nat} (hi : i < l.length)
include hi
variable (hw : kZ l i = 2)
include hw
end
end Go.Proofs.Ytlcldcbdobgdbaa
namespace Go.Proofs.Ytlcldcbdobgdbaa
open Go Go.RowKit

structure Pl where
  w : Int
  rs : List Nat
  many : Bool
structure PlR (l : List Ev) (x k : Nat) (p : Pl) (s : Fs) : Prop where
  w : (p.w = -1 ∧ s.wt = 0 ∧ s.wn = 0) ∨ ∃ i : Nat, i < k ∧ p.w = (i : Nat) ∧ s.wt = tZ l i ∧ s.wn = epo l i
  my : p.many = s.many
  mem : ∀ i ∈ p.rs, i < k
  r : s.many = false → (p.rs = [] ∧ s.rt = 0 ∧ s.rn = 0) ∨ ∃ i, p.rs = [i] ∧ s.rt = tZ l i ∧ s.rn = epo l i
  rc1 : s.many = true → ∀ i ∈ p.rs, s.rc (tZ l i) = epo l i
  rc2 : s.many = true → ∀ u, s.rc u = 0 ∨ ∃ i ∈ p.rs, tZ l i = u
  cl : s.many = true → s.rt = 0 ∧ s.rn = 0
  len : p.rs.length ≤ k
section
variable {l : List Ev} (hm : may l = 0) {x j : Nat} (hj : j < l.length) (hk : kZ l j = 1 ∨ kZ l j = 2) {p : Pl} {s : Fs} (h : PlR l x j p s)
include hm hj h
end
end Go.Proofs.Ytlcldcbdobgdbaa
namespace Go.Proofs.Ytlcldcbdobgdbaa
open Go Go.RowKit

end Go.Proofs.Ytlcldcbdobgdbaa
set_option linter.all false
set_option maxRecDepth 100000
namespace Go.Proofs.Ytlcldcbdobgdbaa
open Go Go.RowKit

section
variable {P : Program} {ops : Array Oper} {rest : List Oper} {o : Oper} {a : Act} {w' w : World} {Q : Exit → Act → World → Prop} {ty : TypeId}
end
end Go.Proofs.Ytlcldcbdobgdbaa
set_option linter.all false
set_option maxRecDepth 100000
namespace Go.Proofs.Ytlcldcbdobgdbaa
open Go Go.RowKit

end Go.Proofs.Ytlcldcbdobgdbaa
namespace Go.Proofs.Ytlcldcbdobgdbaa
open Go Go.RowKit

end Go.Proofs.Ytlcldcbdobgdbaa
namespace Go.Proofs.Ytlcldcbdobgdbaa
open Go Go.RowKit

end Go.Proofs.Ytlcldcbdobgdbaa
namespace Go.Proofs.Ytlcldcbdobgdbaa
open Go Go.RowKit

section
variable {o : Oper} {a : Act} {w : World} {K : Act → World → Prop} {Q : Exit → Act → World → Prop}
end
end Go.Proofs.Ytlcldcbdobgdbaa
namespace Go.Proofs.Ytlcldcbdobgdbaa
open Go Go.RowKit

end Go.Proofs.Ytlcldcbdobgdbaa
namespace Go.Proofs.Ytlcldcbdobgdbaa
open Go Go.RowKit

end Go.Proofs.Ytlcldcbdobgdbaa
namespace Go.Proofs.Ytlcldcbdobgdbaa
open Go Go.RowKit

end Go.Proofs.Ytlcldcbdobgdbaa
set_option linter.all false
set_option maxRecDepth 100000
namespace Go.Proofs.Ytlcldcbdobgdbaa
open Go Go.RowKit

end Go.Proofs.Ytlcldcbdobgdbaa
namespace Go.Proofs.Ytlcldcbdobgdbaa
open Go Go.RowKit

end Go.Proofs.Ytlcldcbdobgdbaa
namespace Go.Proofs.Ytlcldcbdobgdbaa
open Go Go.RowKit

section
variable {w wr wr' : World} {N : Nat} {l : List Ev} {k : Nat} {v : Value}
end
section
variable {w w1 wr wr' : World} {N V : Nat} {tv : TypeId} {zc vc vc' : Array Value} {F : List Ev} {v : Value}
end
end Go.Proofs.Ytlcldcbdobgdbaa
set_option linter.all false
set_option maxRecDepth 100000
namespace Go.Proofs.Ytlcldcbdobgdbaa
open Go Go.RowKit

end Go.Proofs.Ytlcldcbdobgdbaa
namespace Go.Proofs.Ytlcldcbdobgdbaa
open Go Go.RowKit

section
variable (f : Nat → Fs) (q : Nat → Nat) (x : Nat)
end
end Go.Proofs.Ytlcldcbdobgdbaa
namespace Go.Proofs.Ytlcldcbdobgdbaa
open Go Go.RowKit

end Go.Proofs.Ytlcldcbdobgdbaa
namespace Go.Proofs.Ytlcldcbdobgdbaa
open Go Go.RowKit

end Go.Proofs.Ytlcldcbdobgdbaa
namespace Go.Proofs.Ytlcldcbdobgdbaa
open Go Go.RowKit

end Go.Proofs.Ytlcldcbdobgdbaa

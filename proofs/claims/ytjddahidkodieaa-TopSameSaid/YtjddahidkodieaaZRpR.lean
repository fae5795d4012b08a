import Derived.Deep.DeepCutAuto
import Derived.Deep.CutBlock
import Derived.Test.YtjddahidkodieaaZGt
import Derived.Test.YtjddahidkodieaaZPg
import Derived.Test.YtjddahidkodieaaZCp
import Derived.Test.YtjddahidkodieaaZOrder
import Derived.Test.YtjddahidkodieaaZRr
import Derived.Test.YtjddahidkodieaaZOpen
import Derived.Test.YtjddahidkodieaaZAppend
set_option linter.all false
set_option maxRecDepth 100000
namespace Go.Proofs.Ytjddahidkodieaa
open Go Go.RowKit

section
variable {P : Program} {T K E : TypeId}
end
variable {w w' : World} {A : Option Addr} {n c : Nat} {s : Ps} {LV QV : Value} {d k : Bool}
theorem memO_at {s : Ps} {t : Nat} {o : Ev} (h : o.k = 2) : memO s t o = updI s.mem o.t (s.has t) := if_pos h
theorem memO_no {s : Ps} {t : Nat} {o : Ev} (h : o.k ≠ 2) : memO s t o = s.mem := if_neg h
theorem volO_at {s : Ps} {t : Nat} {o : Ev} (h : o.k = 9) : volO s t o = updI s.vol o.t (s.has t) := if_pos h
theorem volO_no {s : Ps} {t : Nat} {o : Ev} (h : o.k ≠ 9) : volO s t o = s.vol := if_neg h
theorem hasO_1 {s : Ps} {t : Nat} {o : Ev} (h : o.k = 1) : hasO s t o = upF s.has t (s.mem o.t) := if_pos h
theorem hasO_3 {s : Ps} {t : Nat} {o : Ev} (h : o.k = 3) : hasO s t o = upF s.has t (s.has t + o.o) := by unfold hasO; rw [if_neg (by omega), if_pos h]
theorem hasO_8 {s : Ps} {t : Nat} {o : Ev} (h : o.k = 8) : hasO s t o = upF s.has t (s.vol o.t) := by unfold hasO; rw [if_neg (by omega), if_neg (by omega), if_pos h]
theorem hasO_no {s : Ps} {t : Nat} {o : Ev} (h1 : o.k ≠ 1) (h3 : o.k ≠ 3) (h8 : o.k ≠ 8) : hasO s t o = s.has := by unfold hasO; rw [if_neg h1, if_neg h3, if_neg h8]
theorem kind_of {P : List (List Ev)} {s : Ps} {t : Nat} {o : Ev} (h5 : o.k ≠ 5) (h6 : o.k ≠ 6) : kindO P s t o = kOf o.k := by unfold kindO kOf; rw [if_neg h5, if_neg h6, if_neg h5, if_neg h6]
theorem own_one {w : World} {base n size : Nat} {e : TypeId} {v : Value} {xs : List Value} (h : w.ownsRow base e size v n xs) : v.oneCell' = true := by
  rcases h.2 with ⟨rfl, _⟩ | ⟨g, cap, cur, rfl, _⟩ <;> rfl
end Go.Proofs.Ytjddahidkodieaa
namespace Go.Proofs.Ytjddahidkodieaa
open Go Go.RowKit

theorem pck_large {P : List (List Ev)} (h : ¬ (1 ≤ P.length ∧ P.length ≤ 6)) : chkP P = 2 := by unfold chkP; rw [if_neg]; exact fun g => h ⟨g.1, g.2.1⟩
theorem pck_long {P : List (List Ev)} {t : Nat} (ht : t < P.length) (h : 12 < (opsP P t).length) : chkP P = 2 := by
  unfold chkP
  rw [if_neg]
  exact fun g => by have := g.2.2 _ (opsP_mem ht); omega
def ShortTo (P : List (List Ev)) (i : Nat) : Prop := ∀ t, t < i → (opsP P t).length ≤ 12
theorem ShortTo.all {P : List (List Ev)} (h : ShortTo P P.length) : ∀ ops ∈ P, ops.length ≤ 12 := fun ops ho => by obtain ⟨t, ht, rfl⟩ := mem_opsP ho; exact h t ht
theorem ShortTo.succ {P : List (List Ev)} {i : Nat} (h : ShortTo P i) (hi : (opsP P i).length ≤ 12) : ShortTo P (i + 1) := fun t ht => by
  rcases Nat.lt_succ_iff_lt_or_eq.1 ht with h' | rfl
  · exact h t h'
  · exact hi
structure Long (P : List (List Ev)) : Prop where
  one : 1 ≤ P.length
  six : P.length ≤ 6
  len : ShortTo P P.length
theorem pck_bad {P : List (List Ev)} (h : Long P) {t : Nat} {o : Ev} (ht : t < P.length) (ho : o ∈ opsP P t) (hb : isOp o = false) : chkP P = 1 := by
  unfold chkP
  rw [if_pos ⟨h.one, h.six, h.len.all⟩, if_neg]
  exact fun g => by rw [g _ (opsP_mem ht) o ho] at hb; cases hb
def GoodTo (P : List (List Ev)) (i : Nat) : Prop := ∀ t, t < i → ∀ o ∈ opsP P t, isOp o = true
theorem pck_good {P : List (List Ev)} (h : Long P) (hg : GoodTo P P.length) : chkP P = 0 := by
  unfold chkP
  rw [if_pos ⟨h.one, h.six, h.len.all⟩, if_pos fun ops ho o hm => by obtain ⟨t, ht, rfl⟩ := mem_opsP ho; exact hg t ht o hm]
def GoodIn (l : List Ev) (j : Nat) : Prop := ∀ o ∈ l.take j, isOp o = true
theorem GoodIn.succ {l : List Ev} {j : Nat} {o : Ev} (h : GoodIn l j) (ho : l[j]? = some o) (hi : isOp o = true) : GoodIn l (j + 1) := fun x hx => by
  rw [take_snoc ho] at hx
  rcases List.mem_append.1 hx with hx | hx
  · exact h x hx
  · simp at hx; subst hx; exact hi
theorem TOp : RowTy Try.prog 63 3 := ⟨_, Try.underlying63, rfl, by kernel_rfl⟩
end Go.Proofs.Ytjddahidkodieaa
namespace Go.Proofs.Ytjddahidkodieaa
open Go Go.RowKit

theorem take_one {ts : List Int} {i : Nat} (h : i < ts.length) : ts.take (i + 1) = ts.take i ++ [ts[i]?.getD 0] := by
  rw [List.take_succ_eq_append_getElem h, List.getElem?_eq_getElem h]
  rfl
theorem z20_all : z20.all (·.oneCell') = true := by simp [z20, Value.oneCell']
end Go.Proofs.Ytjddahidkodieaa

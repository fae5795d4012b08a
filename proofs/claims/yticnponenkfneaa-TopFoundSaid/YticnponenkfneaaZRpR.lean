import Derived.Test.YticnponenkfneaaZGrow
import Derived.Deep.DeepCutAuto
import Derived.Deep.CutBlock
import Derived.Test.YticnponenkfneaaZRpG
import Derived.Test.YticnponenkfneaaZPg
import Derived.Test.YticnponenkfneaaZCp
import Derived.Test.YticnponenkfneaaZMapInt
import Derived.Test.YticnponenkfneaaZEc
import Derived.Test.YticnponenkfneaaZOpen
import Derived.Test.YticnponenkfneaaZAppend
set_option linter.all false
set_option maxRecDepth 100000
namespace Go.Proofs.Yticnponenkfneaa
open Go Go.RowKit

section
variable {P : Program} {ops : Array Oper} {md : Region.Mode} {Q : Exit → Act → World → Prop} {N L : Nat}
theorem wpT_one (i : Nat) {f : Nat} {listed : Array Bool} {a : Act} {w : World} (hr : Region.ready md ops listed = [i])
    (h : ∀ w1, Bel w w1 → wpOp P ops Q i (fun a' w' => Below N w1 w' ∧ wpT P md ops Q N L f (listed.setIfInBounds i true) a' w') a w1) : wpT P md ops Q N L (f + 1) listed a w := fun w1 hb =>
  ⟨fun h0 => (by rw [hr] at h0; cases h0), fun j hj => by
    rw [hr] at hj
    simp only [List.mem_singleton] at hj
    subst hj
    exact wpOp_mono (fun a' w' h' => ⟨.inr h'.1, h'.2⟩) (h w1 hb)⟩
theorem wpT_now {f : Nat} {listed : Array Bool} {a : Act} {w : World} (hr : Region.ready md ops listed = [L])
    (h : ∀ w1, Bel w w1 → wpOp P ops Q L (fun a' w' => wpT P md ops Q N L f (listed.setIfInBounds L true) a' w') a w1) : wpT P md ops Q N L (f + 1) listed a w := fun w1 hb =>
  ⟨fun h0 => (by rw [hr] at h0; cases h0), fun j hj => by
    rw [hr] at hj
    simp only [List.mem_singleton] at hj
    subst hj
    exact wpOp_mono (fun a' w' h' => ⟨.inl rfl, h'⟩) (h w1 hb)⟩
theorem wpT_orL (i : Nat) {f : Nat} {listed : Array Bool} {a : Act} {w : World} (hr : Region.ready md ops listed = [i, L])
    (h : ∀ w1, Bel w w1 → wpOp P ops Q i (fun a' w' => Below N w1 w' ∧ wpT P md ops Q N L f (listed.setIfInBounds i true) a' w') a w1)
    (h2 : ∀ w1, Bel w w1 → wpOp P ops Q L (fun a' w' => wpT P md ops Q N L f (listed.setIfInBounds L true) a' w') a w1) : wpT P md ops Q N L (f + 1) listed a w := fun w1 hb =>
  ⟨fun h0 => (by rw [hr] at h0; cases h0), fun j hj => by
    rw [hr] at hj
    simp only [List.mem_cons, List.not_mem_nil, or_false] at hj
    rcases hj with rfl | rfl
    · exact wpOp_mono (fun a' w' h' => ⟨.inr h'.1, h'.2⟩) (h w1 hb)
    · exact wpOp_mono (fun a' w' h' => ⟨.inl rfl, h'⟩) (h2 w1 hb)⟩
theorem wpT_done {listed : Array Bool} {a : Act} {w : World} (hr : Region.ready md ops listed = []) (h : ∀ w1, Bel w w1 → Q .normal a w1) : ∀ f, wpT P md ops Q N L f listed a w
  | 0 => fun w1 hb => ⟨hr, h w1 hb⟩
  | _ + 1 => fun w1 hb => ⟨fun _ => h w1 hb, by rw [hr]; simp⟩
end
end Go.Proofs.Yticnponenkfneaa
set_option linter.all false
set_option maxRecDepth 100000
namespace Go.Proofs.Yticnponenkfneaa
open Go Go.RowKit

section
variable {P : Program} {T K E : TypeId}
end
variable {w w' : World} {A : Option Addr} {n c : Nat} {s : Ps} {LV QV : Value} {d k : Bool}
theorem memO_at {s : Ps} {t : Nat} {o : Ev} (h : o.k = 2) : memO s t o = updI s.mem o.t (s.has t) := if_pos h
theorem memO_no {s : Ps} {t : Nat} {o : Ev} (h : o.k ≠ 2) : memO s t o = s.mem := if_neg h
theorem volO_at {s : Ps} {t : Nat} {o : Ev} (h : o.k = 9) : volO s t o = updI s.vol o.t (s.has t) := if_pos h
theorem volO_no {s : Ps} {t : Nat} {o : Ev} (h : o.k ≠ 9) : volO s t o = s.vol := if_neg h
theorem hasO_1 {s : Ps} {t : Nat} {o : Ev} (h : o.k = 1) : hasO s t o = upF s.has t (s.mem o.t) := if_pos h
theorem hasO_3 {s : Ps} {t : Nat} {o : Ev} (h : o.k = 3) : hasO s t o = upF s.has t (s.has t + o.o) := by unfold hasO; rw [if_neg (by omega), if_pos h]
theorem hasO_8 {s : Ps} {t : Nat} {o : Ev} (h : o.k = 8) : hasO s t o = upF s.has t (s.vol o.t) := by unfold hasO; rw [if_neg (by omega), if_neg (by omega), if_pos h]
theorem hasO_no {s : Ps} {t : Nat} {o : Ev} (h1 : o.k ≠ 1) (h3 : o.k ≠ 3) (h8 : o.k ≠ 8) : hasO s t o = s.has := by unfold hasO; rw [if_neg h1, if_neg h3, if_neg h8]
theorem kind_of {P : List (List Ev)} {s : Ps} {t : Nat} {o : Ev} (h5 : o.k ≠ 5) (h6 : o.k ≠ 6) : kindO P s t o = kOf o.k := by unfold kindO kOf; rw [if_neg h5, if_neg h6, if_neg h5, if_neg h6]
theorem own_one {w : World} {base n size : Nat} {e : TypeId} {v : Value} {xs : List Value} (h : w.ownsRow base e size v n xs) : v.oneCell' = true := by
  rcases h.2 with ⟨rfl, _⟩ | ⟨g, cap, cur, rfl, _⟩ <;> rfl
structure SlX (w : World) (X Y : Nat) (A : Option Addr) (n : Nat) (l : List Ev) : Prop where
  sl : Sl w A n l
  ne : ∀ b off, A = some ⟨b, off, none⟩ → 0 < n → b ≠ X ∧ b ≠ Y
theorem SlX.bel {w w' : World} {X Y : Nat} {A : Option Addr} {n : Nat} {l : List Ev} (h : SlX w X Y A n l) (hb : Bel w w') : SlX w' X Y A n l := ⟨h.sl.bel hb.out, h.ne⟩
theorem SlX.keep {w w' : World} {X Y : Nat} {A : Option Addr} {n : Nat} {l : List Ev} (h : SlX w X Y A n l) (hs : w.heap.size ≤ w'.heap.size) (hk : ∀ b, b ≠ X → b ≠ Y → w'.heap[b]? = w.heap[b]?) : SlX w' X Y A n l :=
  ⟨⟨h.sl.1, fun h0 => by
    obtain ⟨b, off, hA, hlt, hr⟩ := h.sl.2 h0
    obtain ⟨h1, h2⟩ := h.ne b off hA h0
    exact ⟨b, off, hA, by omega, fun j v hj => (World.cell?_of_block (a := ⟨b, off + j, none⟩) (hk b h1 h2)).trans (hr j v hj)⟩⟩, h.ne⟩
theorem SlX.own {w : World} {base n X Y : Nat} {e : TypeId} {A : Option Addr} {c : Nat} {xs : List Value} {l : List Ev} (ho : w.ownsRow base e 3 (.slice A n c) n xs) (h : Sl w A n l) (hX : X < base) (hY : Y < base) : SlX w X Y A n l :=
  ⟨h, fun b off hA _ => by
    subst hA
    have := (own_lt ho (g := b) rfl).1
    exact ⟨by omega, by omega⟩⟩
end Go.Proofs.Yticnponenkfneaa
namespace Go.Proofs.Yticnponenkfneaa
open Go Go.RowKit

theorem pck_large {P : List (List Ev)} (h : ¬ (1 ≤ P.length ∧ P.length ≤ 6)) : chkP P = 2 := by unfold chkP; rw [if_neg]; exact fun g => h ⟨g.1, g.2.1⟩
theorem pck_long {P : List (List Ev)} {t : Nat} (ht : t < P.length) (h : 12 < (opsP P t).length) : chkP P = 2 := by
  unfold chkP
  rw [if_neg]
  exact fun g => by have := g.2.2 _ (opsP_mem ht); omega
def ShortTo (P : List (List Ev)) (i : Nat) : Prop := ∀ t, t < i → (opsP P t).length ≤ 12
theorem ShortTo.all {P : List (List Ev)} (h : ShortTo P P.length) : ∀ ops ∈ P, ops.length ≤ 12 := fun ops ho => by obtain ⟨t, ht, rfl⟩ := mem_opsP ho; exact h t ht
theorem ShortTo.succ {P : List (List Ev)} {i : Nat} (h : ShortTo P i) (hi : (opsP P i).length ≤ 12) : ShortTo P (i + 1) := fun t ht => by
  rcases Nat.lt_succ_iff_lt_or_eq.1 ht with h' | rfl
  · exact h t h'
  · exact hi
structure Long (P : List (List Ev)) : Prop where
  one : 1 ≤ P.length
  six : P.length ≤ 6
  len : ShortTo P P.length
theorem pck_bad {P : List (List Ev)} (h : Long P) {t : Nat} {o : Ev} (ht : t < P.length) (ho : o ∈ opsP P t) (hb : isOp o = false) : chkP P = 1 := by
  unfold chkP
  rw [if_pos ⟨h.one, h.six, h.len.all⟩, if_neg]
  exact fun g => by rw [g _ (opsP_mem ht) o ho] at hb; cases hb
def GoodTo (P : List (List Ev)) (i : Nat) : Prop := ∀ t, t < i → ∀ o ∈ opsP P t, isOp o = true
theorem pck_good {P : List (List Ev)} (h : Long P) (hg : GoodTo P P.length) : chkP P = 0 := by
  unfold chkP
  rw [if_pos ⟨h.one, h.six, h.len.all⟩, if_pos fun ops ho o hm => by obtain ⟨t, ht, rfl⟩ := mem_opsP ho; exact hg t ht o hm]
def GoodIn (l : List Ev) (j : Nat) : Prop := ∀ o ∈ l.take j, isOp o = true
theorem GoodIn.succ {l : List Ev} {j : Nat} {o : Ev} (h : GoodIn l j) (ho : l[j]? = some o) (hi : isOp o = true) : GoodIn l (j + 1) := fun x hx => by
  rw [take_snoc ho] at hx
  rcases List.mem_append.1 hx with hx | hx
  · exact h x hx
  · simp at hx; subst hx; exact hi
theorem TOp : RowTy Try.prog 98 3 := ⟨_, Try.underlying98, rfl, by kernel_rfl⟩
end Go.Proofs.Yticnponenkfneaa
namespace Go.Proofs.Yticnponenkfneaa
open Go Go.RowKit

theorem take_one {ts : List Int} {i : Nat} (h : i < ts.length) : ts.take (i + 1) = ts.take i ++ [ts[i]?.getD 0] := by
  rw [List.take_succ_eq_append_getElem h, List.getElem?_eq_getElem h]
  rfl
theorem z20_all : z20.all (·.oneCell') = true := by simp [z20, Value.oneCell']
end Go.Proofs.Yticnponenkfneaa

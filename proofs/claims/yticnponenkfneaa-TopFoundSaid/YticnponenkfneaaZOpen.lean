import Derived.Test.YticnponenkfneaaZPg
import Derived.Test.YticnponenkfneaaZEqInt
import Derived.Test.YticnponenkfneaaZAppend
import Derived.Test.YticnponenkfneaaRows
import Derived.ProofKit
import Derived.OpenShut
import Derived.ShutString
import Derived.ChangeOld
import Derived.Below
import Derived.Lib.SmallJoins
import Derived.SizedLaws
import Derived.Deep.Slices
import Derived.Deep.Fields
import Derived.ChangeSame
import Derived.Test.YticnponenkfneaaZBase
import Derived.Test.YticnponenkfneaaZTrace
set_option linter.all false
set_option maxRecDepth 100000
namespace Go.Proofs.Yticnponenkfneaa
open Go Go.RowKit

def Prg (w : World) (A : Option Addr) (n : Nat) (P : List (List Ev)) : Prop :=
  P.length = n ∧ (0 < n → ∃ b off, A = some ⟨b, off, none⟩ ∧ b < w.heap.size ∧ ∀ t ops, P[t]? = some ops → ∃ B m c, w.cell? ⟨b, off + t, none⟩ = some (.slice B m c) ∧ Sl w B m ops ∧ m ≤ c ∧ c ≤ maxLen)
theorem Prg.bel {w w' : World} {A : Option Addr} {n : Nat} {P : List (List Ev)} (h : Prg w A n P) (hb : Bel w w') : Prg w' A n P :=
  ⟨h.1, fun hn => by
    obtain ⟨b, off, hA, hlt, hr⟩ := h.2 hn
    refine ⟨b, off, hA, Nat.lt_of_lt_of_le hlt hb.size, fun t ops ht => ?_⟩
    obtain ⟨B, m, c, h1, h2, h3, h4⟩ := hr t ops ht
    exact ⟨B, m, c, hb.cell h1, h2.bel hb, h3, h4⟩⟩
theorem Prg.at_ {w : World} {A : Option Addr} {n : Nat} {P : List (List Ev)} (h : Prg w A n P) {t : Nat} (ht : t < n) :
    ∃ b off B m c, A = some ⟨b, off, none⟩ ∧ b < w.heap.size ∧ w.cell? ⟨b, off + t, none⟩ = some (.slice B m c) ∧ Sl w B m (opsP P t) ∧ m ≤ c ∧ c ≤ maxLen := by
  obtain ⟨b, off, hA, hlt, hr⟩ := h.2 (by omega)
  have hP : P[t]? = some (opsP P t) := by
    unfold opsP
    rw [List.getD_eq_getElem?_getD, List.getElem?_eq_getElem (by rw [h.1]; exact ht)]
    rfl
  obtain ⟨B, m, c, h1, h2, h3, h4⟩ := hr t _ hP
  exact ⟨b, off, B, m, c, hA, hlt, h1, h2, h3, h4⟩
theorem Prg.nil (w : World) : Prg w none 0 [] := ⟨rfl, fun h => absurd h (Nat.lt_irrefl 0)⟩
def chkP (P : List (List Ev)) : Int := if 1 ≤ P.length ∧ P.length ≤ 6 ∧ (∀ ops ∈ P, ops.length ≤ 12) then (if ∀ ops ∈ P, ∀ o ∈ ops, isOp o = true then 0 else 1) else 2
theorem opsP_mem {P : List (List Ev)} {t : Nat} (h : t < P.length) : opsP P t ∈ P := by
  unfold opsP
  rw [List.getD_eq_getElem?_getD, List.getElem?_eq_getElem h]
  exact List.getElem_mem h
theorem mem_opsP {P : List (List Ev)} {ops : List Ev} (h : ops ∈ P) : ∃ t, t < P.length ∧ opsP P t = ops := by
  obtain ⟨t, ht, rfl⟩ := List.getElem_of_mem h
  refine ⟨t, ht, ?_⟩
  unfold opsP
  rw [List.getD_eq_getElem?_getD, List.getElem?_eq_getElem ht]
  rfl
theorem chk_ok {P : List (List Ev)} : chkP P = 0 ↔ OkP P := by
  unfold chkP
  constructor
  · intro h
    split at h
    · rename_i h1
      split at h
      · rename_i h2
        refine ⟨h1.1, h1.2.1, fun t => ?_, fun t o ho => ?_⟩
        · rcases Nat.lt_or_ge t P.length with ht | ht
          · exact h1.2.2 _ (opsP_mem ht)
          · rw [opsP_out ht]; simp
        · rcases Nat.lt_or_ge t P.length with ht | ht
          · exact h2 _ (opsP_mem ht) o ho
          · rw [opsP_out ht] at ho; cases ho
      · cases h
    · cases h
  · intro h
    rw [if_pos ⟨h.one, h.six, fun ops ho => by obtain ⟨t, _, rfl⟩ := mem_opsP ho; exact h.len t⟩, if_pos fun ops ho o hm => by obtain ⟨t, _, rfl⟩ := mem_opsP ho; exact h.op t o hm]
def Lim (K x : Int) : Prop := -K ≤ x ∧ x ≤ K
structure LimS (K : Int) (s : Ps) : Prop where
  pos : 0 ≤ K
  mem : ∀ k, Lim K (s.mem k)
  vol : ∀ k, Lim K (s.vol k)
  has : ∀ k, Lim K (s.has k)
theorem Lim.up {K J x : Int} (h : Lim K x) (hk : K ≤ J) : Lim J x := ⟨by have := h.1; omega, by have := h.2; omega⟩
theorem LimS.up {K J : Int} {s : Ps} (h : LimS K s) (hk : K ≤ J) : LimS J s := ⟨by have := h.pos; omega, fun k => (h.mem k).up hk, fun k => (h.vol k).up hk, fun k => (h.has k).up hk⟩
theorem LimS.start : LimS 0 ps0 := ⟨Int.le_refl _, fun _ => ⟨Int.le_refl _, Int.le_refl _⟩, fun _ => ⟨Int.le_refl _, Int.le_refl _⟩, fun _ => ⟨Int.le_refl _, Int.le_refl _⟩⟩
theorem isOp_num {o : Ev} (h : isOp o = true) : Lim 1000 o.o := by
  unfold isOp at h
  simp only [Bool.and_eq_true, decide_eq_true_iff] at h
  exact ⟨by omega, by omega⟩
theorem LimS.step {P : List (List Ev)} {K : Int} {s : Ps} (h : LimS K s) {t : Nat} {o : Ev} (ho : isOp o = true) : LimS (K + 1000) (stepO P s t o) := by
  have h0 := h.pos
  have hn := isOp_num ho
  have hU := h.up (show K ≤ K + 1000 by omega)
  refine ⟨hU.pos, fun k => ?_, fun k => ?_, fun k => ?_⟩
  · show Lim _ (memO s t o k)
    unfold memO
    split
    · unfold updI
      split
      · exact hU.has t
      · exact hU.mem k
    · exact hU.mem k
  · show Lim _ (volO s t o k)
    unfold volO
    split
    · unfold updI
      split
      · exact hU.has t
      · exact hU.vol k
    · exact hU.vol k
  · show Lim _ (hasO s t o k)
    unfold hasO
    split
    · unfold upF
      split
      · exact hU.mem _
      · exact hU.has k
    · split
      · unfold upF
        split
        · have := h.has t
          exact ⟨by have := this.1; have := hn.1; omega, by have := this.2; have := hn.2; omega⟩
        · exact hU.has k
      · split
        · unfold upF
          split
          · exact hU.vol _
          · exact hU.has k
        · exact hU.has k
theorem LimS.pick {P : List (List Ev)} (hP : OkP P) {K : Int} {s : Ps} (h : LimS K s) (t : Int) : LimS (K + 1000) (pickP P s t) := by
  unfold pickP
  split
  · rename_i hc
    obtain ⟨_, _, o, h3, _⟩ := can_op hc.2
    rw [step_op h3]
    exact h.step (hP.op _ o (List.mem_of_getElem? h3))
  · exact h.up (by omega)
theorem LimS.picks {P : List (List Ev)} (hP : OkP P) : ∀ (ts : List Int) {K : Int} {s : Ps}, LimS K s → LimS (K + 1000 * ts.length) (ts.foldl (pickP P) s)
  | [], _, _, h => by simpa using h
  | t :: ts, K, s, h => by
    have := LimS.picks hP ts (h.pick hP t)
    rw [show K + 1000 * ((t :: ts).length : Int) = K + 1000 + 1000 * (ts.length : Int) by rw [List.length_cons]; omega]
    exact this
theorem run_lim {P : List (List Ev)} (hP : OkP P) (ts : List Int) : LimS (1000 * ts.length) (runP P ts) := by
  have := LimS.picks hP ts LimS.start
  rw [Int.zero_add] at this
  exact this

def endc (m v h : Nat → Int) (d k : Bool) : List Value :=
  [.int .i64 (m 0), .int .i64 (m 1), .int .i64 (m 2), .int .i64 (m 3), .int .i64 (m 4), .int .i64 (m 5), .int .i64 (m 6), .int .i64 (m 7), .int .i64 (v 0), .int .i64 (v 1), .int .i64 (v 2), .int .i64 (v 3),
   .int .i64 (h 0), .int .i64 (h 1), .int .i64 (h 2), .int .i64 (h 3), .int .i64 (h 4), .int .i64 (h 5), .bool d, .bool k]
def nat (f : Int → Int) (k : Nat) : Int := f k
def endP (P : List (List Ev)) (s : Ps) : Array Value := (endc (nat s.mem) (nat s.vol) s.has (doneP P s) (stuckP P s)).toArray
def end0 : Array Value := (endc (fun _ => 0) (fun _ => 0) (fun _ => 0) false false).toArray
def RunB (P : List (List Ev)) (ts : List Int) (x : Array Value) (l : List Ev) (c : Int) : Prop :=
  (chkP P ≠ 0 ∧ x = end0 ∧ l = [] ∧ c = chkP P) ∨ (chkP P = 0 ∧ 100 < ts.length ∧ x = end0 ∧ l = [] ∧ c = 2) ∨ (chkP P = 0 ∧ ts.length ≤ 100 ∧ x = endP P (runP P ts) ∧ l = (runP P ts).L ∧ c = 0)
def PRunPost (w : World) (P : List (List Ev)) (ts : List Int) (e : Ending) (w' : World) : Prop :=
  ∃ v x l c, e = .returned (.tuple #[.agg x, v, .int .i64 c]) ∧ RunB P ts x l c ∧ w'.ownsRow w.heap.size 67 3 v l.length (evc l) ∧ Below w.heap.size w w'
def CheckC : Prop := ∀ (A : Option Addr) (n c : Nat) (P : List (List Ev)) (w : World), Prg w A n P → n ≤ c → c ≤ maxLen → Calls Try.prog 52 #[.slice A n c] w fun e w' => e = .returned (.int .i64 (chkP P)) ∧ Below w.heap.size w w'
def RunC : Prop := ∀ (A : Option Addr) (n c : Nat) (P : List (List Ev)) (B : Option Addr) (m d : Nat) (ts : List Int) (w : World), Prg w A n P → n ≤ c → c ≤ maxLen → SI w B m ts → m ≤ d → d ≤ maxLen → Calls Try.prog 11 #[.slice A n c, .slice B m d] w (PRunPost w P ts)
end Go.Proofs.Yticnponenkfneaa
set_option linter.all false
set_option maxRecDepth 100000
namespace Go.Proofs.Yticnponenkfneaa
open Go.ChangeShapes Go.WideShapes Go.ChangeAt Go.RowKit

theorem own : ownKnob Try.prog.godebug = none := by kernel_rfl
theorem laidOut : laidOutB Try.prog = true := by kernel_rfl

theorem six {α : Type} (l : List α) (h : l.length = 6) : ∃ a b c d e f, l = [a, b, c, d, e, f] := by
  match l, h with
  | [a, b, c, d, e, f], _ => exact ⟨a, b, c, d, e, f, rfl⟩
theorem in64_of {n : Int} (h : (Lit.int .i64 n).wf = true) : In64 n := bounds_i64 h

section
variable {H : Type} {enc : TypeId × Value → H} {P : Program} {w : World} {base : Nat} {spare : Nat → Bool} {held : Bool}
end
end Go.Proofs.Yticnponenkfneaa
namespace Go.Proofs.Yticnponenkfneaa
open Go.ChangeShapes Go.WideShapes Go.ChangeAt Go.RowKit Go.Deep

section
variable {H : Type} {enc : TypeId × Value → H} {P : Program} {w : World} {base : Nat} {spare : Nat → Bool} {held : Bool}
theorem open_sl_fields {t e : TypeId} {fs : Array Field} {fuel : Nat} {cs : List Value} {x : DataW H × List MemPlace} (ht : P.underlying t = some (.slice e)) (he : P.underlying e = some (.struct fs))
    (hone : oneCellFields P fs = true) (hC : P.cellsOf e = fs.size) (h : DataW.trod enc P w base spare held fuel t cs = some x) :
    (cs = [.slice none 0 0] ∧ x.1 = .nil) ∨
    ∃ (a : Addr) (len cap : Nat), cs = [.slice (some a) len cap] ∧ len ≤ cap ∧ cap ≤ maxLen ∧ (∃ es sp, x.1 = .slice es sp ∧ es.length = len) ∧
      ∀ i, i < len → ∃ n : Nat, ∀ (j : Nat) (f : Field), fs[j]? = some f → ∃ (v : Value) (y : DataW H × List MemPlace), w.cell? (a.add (i * fs.size + j)) = some v ∧ DataW.trod enc P w base spare held n f.type [v] = some y := by
  rcases open_slice ht h with h0 | ⟨a, len, cap, m, n, D, Pl, hcs, hb, hl, hm, hmm, hx, hi⟩
  · exact .inl ⟨h0.1, by rw [h0.2]⟩
  · refine .inr ⟨a, len, cap, hcs, hl, hm, ⟨_, _, by rw [hx], by simp⟩, fun i hlen => ?_⟩
    have him : i < m := by rw [hmm]; split <;> omega
    obtain ⟨cs', hc, ht'⟩ := hi i him
    rw [hC] at hc
    obtain ⟨ys, n', hn', hy, hlen, hyl, hf⟩ := DataW.trod_struct he ht'
    obtain ⟨_, hcl, hat⟩ := World.cells?_some hc
    refine ⟨n', fun j f hj => ?_⟩
    obtain ⟨ho, hk⟩ := hone_of hone j f hj
    have hjl : j < fs.size := (Array.getElem?_eq_some_iff.1 hj).1
    have hcell := hat j hjl
    have h1 := hf j f hj
    rw [ho, hk] at h1
    have hone' : (cs'.drop j).take 1 = [cs'[j]'(by omega)] := by
      rw [List.drop_eq_getElem_cons (by omega)]
      rfl
    rw [hone'] at h1
    have hys : ys[j]? = some (ys[j]'(by omega)) := List.getElem?_eq_getElem (by omega)
    refine ⟨_, _, ?_, h1.trans hys⟩
    rw [← Go.Deep.add_add, hcell]
    exact List.getElem?_eq_getElem (by omega)
def EvOk (e : Ev) : Prop := In64 e.k ∧ In64 e.t ∧ In64 e.o
theorem rangeAt_evc {w : World} {b off : Nat} {l : List Ev} (h : ∀ i e, l[i]? = some e → w.cell? ⟨b, off + i * 3, none⟩ = some (.int .i64 e.k) ∧ w.cell? ⟨b, off + (i * 3 + 1), none⟩ = some (.int .i64 e.t) ∧ w.cell? ⟨b, off + (i * 3 + 2), none⟩ = some (.int .i64 e.o)) :
    w.rangeAt b off (evc l) := fun j v hv => by
  have hj : j < (evc l).length := (List.getElem?_eq_some_iff.1 hv).1
  rw [evc_length] at hj
  have hi : j / 3 < l.length := by omega
  have he := List.getElem?_eq_getElem hi
  obtain ⟨g0, g1, g2⟩ := evc_get l _ _ he
  obtain ⟨h0, h1, h2⟩ := h _ _ he
  have hd : j = j / 3 * 3 ∨ j = j / 3 * 3 + 1 ∨ j = j / 3 * 3 + 2 := by omega
  rcases hd with hd | hd | hd
  · rw [hd] at hv ⊢; rw [hv] at g0; rw [h0, g0]
  · rw [hd] at hv ⊢; rw [hv] at g1; rw [h1, g1]
  · rw [hd] at hv ⊢; rw [hv] at g2; rw [h2, g2]
theorem add_mk (b off n : Nat) : (⟨b, off, none⟩ : Addr).add n = ⟨b, off + n, none⟩ := by
  unfold Addr.add; split <;> simp_all
end
end Go.Proofs.Yticnponenkfneaa

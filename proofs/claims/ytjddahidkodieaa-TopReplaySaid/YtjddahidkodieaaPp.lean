/- Programs in memory: a list of lists of ops; how large the numbers of a run are; what a contract of the package prog says. -/
import Derived.Test.YtjddahidkodieaaPg
import Derived.Test.YtjddahidkodieaaPr
import Derived.Test.YtjddahidkodieaaRefTr
import Derived.Test.YtjddahidkodieaaKeepTw
import Derived.Test.YtjddahidkodieaaEqInt
set_option linter.all false
set_option maxRecDepth 100000
namespace Go.Proofs.Ytjddahidkodieaa
open Go Go.RowKit

/-- A program: a block of slices, each of them of ops. -/
def Prg (w : World) (A : Option Addr) (n : Nat) (P : List (List Ev)) : Prop :=
  P.length = n ∧ (0 < n → ∃ b off, A = some ⟨b, off, none⟩ ∧ b < w.heap.size ∧ ∀ t ops, P[t]? = some ops → ∃ B m c, w.cell? ⟨b, off + t, none⟩ = some (.slice B m c) ∧ Sl w B m ops ∧ m ≤ c ∧ c ≤ maxLen)
theorem Prg.bel {w w' : World} {A : Option Addr} {n : Nat} {P : List (List Ev)} (h : Prg w A n P) (hb : Bel w w') : Prg w' A n P :=
  ⟨h.1, fun hn => by
    obtain ⟨b, off, hA, hlt, hr⟩ := h.2 hn
    refine ⟨b, off, hA, Nat.lt_of_lt_of_le hlt hb.size, fun t ops ht => ?_⟩
    obtain ⟨B, m, c, h1, h2, h3, h4⟩ := hr t ops ht
    exact ⟨B, m, c, hb.cell h1, h2.bel hb, h3, h4⟩⟩
theorem Prg.at_ {w : World} {A : Option Addr} {n : Nat} {P : List (List Ev)} (h : Prg w A n P) {t : Nat} (ht : t < n) :
    ∃ b off B m c, A = some ⟨b, off, none⟩ ∧ b < w.heap.size ∧ w.cell? ⟨b, off + t, none⟩ = some (.slice B m c) ∧ Sl w B m (opsP P t) ∧ m ≤ c ∧ c ≤ maxLen := by
  obtain ⟨b, off, hA, hlt, hr⟩ := h.2 (by omega)
  have hP : P[t]? = some (opsP P t) := by
    unfold opsP
    rw [List.getD_eq_getElem?_getD, List.getElem?_eq_getElem (by rw [h.1]; exact ht)]
    rfl
  obtain ⟨B, m, c, h1, h2, h3, h4⟩ := hr t _ hP
  exact ⟨b, off, B, m, c, hA, hlt, h1, h2, h3, h4⟩
theorem Prg.nil (w : World) : Prg w none 0 [] := ⟨rfl, fun h => absurd h (Nat.lt_irrefl 0)⟩
/-- A program in a block of its own. -/
theorem Prg.one {w : World} {B : Nat} {t : TypeId} {A : Option Addr} {m c : Nat} {ops : List Ev} (hb : Box w B #[.slice A m c] t) (h : Sl w A m ops) (hm : m ≤ c) (hc : c ≤ maxLen) : Prg w (some ⟨B, 0, none⟩) 1 [ops] :=
  ⟨rfl, fun _ => ⟨B, 0, rfl, hb.lt, fun t o ho => by
    have h0 : t = 0 := by have := (List.getElem?_eq_some_iff.1 ho).1; simpa using this
    subst h0
    cases ho
    exact ⟨A, m, c, hb.cell 0 rfl, h, hm, hc⟩⟩⟩

/-! What Check says. -/
def chkP (P : List (List Ev)) : Int := if 1 ≤ P.length ∧ P.length ≤ 6 ∧ (∀ ops ∈ P, ops.length ≤ 12) then (if ∀ ops ∈ P, ∀ o ∈ ops, isOp o = true then 0 else 1) else 2
theorem opsP_mem {P : List (List Ev)} {t : Nat} (h : t < P.length) : opsP P t ∈ P := by
  unfold opsP
  rw [List.getD_eq_getElem?_getD, List.getElem?_eq_getElem h]
  exact List.getElem_mem h
theorem mem_opsP {P : List (List Ev)} {ops : List Ev} (h : ops ∈ P) : ∃ t, t < P.length ∧ opsP P t = ops := by
  obtain ⟨t, ht, rfl⟩ := List.getElem_of_mem h
  refine ⟨t, ht, ?_⟩
  unfold opsP
  rw [List.getD_eq_getElem?_getD, List.getElem?_eq_getElem ht]
  rfl
theorem chk_ok {P : List (List Ev)} : chkP P = 0 ↔ OkP P := by
  unfold chkP
  constructor
  · intro h
    split at h
    · rename_i h1
      split at h
      · rename_i h2
        refine ⟨h1.1, h1.2.1, fun t => ?_, fun t o ho => ?_⟩
        · rcases Nat.lt_or_ge t P.length with ht | ht
          · exact h1.2.2 _ (opsP_mem ht)
          · rw [opsP_out ht]; simp
        · rcases Nat.lt_or_ge t P.length with ht | ht
          · exact h2 _ (opsP_mem ht) o ho
          · rw [opsP_out ht] at ho; cases ho
      · cases h
    · cases h
  · intro h
    rw [if_pos ⟨h.one, h.six, fun ops ho => by obtain ⟨t, _, rfl⟩ := mem_opsP ho; exact h.len t⟩, if_pos fun ops ho o hm => by obtain ⟨t, _, rfl⟩ := mem_opsP ho; exact h.op t o hm]
theorem chk_cases (P : List (List Ev)) : chkP P = 0 ∨ chkP P = 1 ∨ chkP P = 2 := by
  unfold chkP
  repeat' split
  all_goals simp

/-! How large the numbers of a run are. -/
def Lim (K x : Int) : Prop := -K ≤ x ∧ x ≤ K
structure LimS (K : Int) (s : Ps) : Prop where
  pos : 0 ≤ K
  mem : ∀ k, Lim K (s.mem k)
  vol : ∀ k, Lim K (s.vol k)
  has : ∀ k, Lim K (s.has k)
theorem Lim.up {K J x : Int} (h : Lim K x) (hk : K ≤ J) : Lim J x := ⟨by have := h.1; omega, by have := h.2; omega⟩
theorem LimS.up {K J : Int} {s : Ps} (h : LimS K s) (hk : K ≤ J) : LimS J s := ⟨by have := h.pos; omega, fun k => (h.mem k).up hk, fun k => (h.vol k).up hk, fun k => (h.has k).up hk⟩
theorem LimS.start : LimS 0 ps0 := ⟨Int.le_refl _, fun _ => ⟨Int.le_refl _, Int.le_refl _⟩, fun _ => ⟨Int.le_refl _, Int.le_refl _⟩, fun _ => ⟨Int.le_refl _, Int.le_refl _⟩⟩
theorem isOp_num {o : Ev} (h : isOp o = true) : Lim 1000 o.o := by
  unfold isOp at h
  simp only [Bool.and_eq_true, decide_eq_true_iff] at h
  exact ⟨by omega, by omega⟩
theorem LimS.step {P : List (List Ev)} {K : Int} {s : Ps} (h : LimS K s) {t : Nat} {o : Ev} (ho : isOp o = true) : LimS (K + 1000) (stepO P s t o) := by
  have h0 := h.pos
  have hn := isOp_num ho
  have hU := h.up (show K ≤ K + 1000 by omega)
  refine ⟨hU.pos, fun k => ?_, fun k => ?_, fun k => ?_⟩
  · show Lim _ (memO s t o k)
    unfold memO
    split
    · unfold updI
      split
      · exact hU.has t
      · exact hU.mem k
    · exact hU.mem k
  · show Lim _ (volO s t o k)
    unfold volO
    split
    · unfold updI
      split
      · exact hU.has t
      · exact hU.vol k
    · exact hU.vol k
  · show Lim _ (hasO s t o k)
    unfold hasO
    split
    · unfold upF
      split
      · exact hU.mem _
      · exact hU.has k
    · split
      · unfold upF
        split
        · have := h.has t
          exact ⟨by have := this.1; have := hn.1; omega, by have := this.2; have := hn.2; omega⟩
        · exact hU.has k
      · split
        · unfold upF
          split
          · exact hU.vol _
          · exact hU.has k
        · exact hU.has k
theorem LimS.pick {P : List (List Ev)} (hP : OkP P) {K : Int} {s : Ps} (h : LimS K s) (t : Int) : LimS (K + 1000) (pickP P s t) := by
  unfold pickP
  split
  · rename_i hc
    obtain ⟨_, _, o, h3, _⟩ := can_op hc.2
    rw [step_op h3]
    exact h.step (hP.op _ o (List.mem_of_getElem? h3))
  · exact h.up (by omega)
theorem LimS.picks {P : List (List Ev)} (hP : OkP P) : ∀ (ts : List Int) {K : Int} {s : Ps}, LimS K s → LimS (K + 1000 * ts.length) (ts.foldl (pickP P) s)
  | [], _, _, h => by simpa using h
  | t :: ts, K, s, h => by
    have := LimS.picks hP ts (h.pick hP t)
    rw [show K + 1000 * ((t :: ts).length : Int) = K + 1000 + 1000 * (ts.length : Int) by rw [List.length_cons]; omega]
    exact this
theorem run_lim {P : List (List Ev)} (hP : OkP P) (ts : List Int) : LimS (1000 * ts.length) (runP P ts) := by
  have := LimS.picks hP ts LimS.start
  rw [Int.zero_add] at this
  exact this

/-! The end of a run, in 20 cells. -/
def endc (m v h : Nat → Int) (d k : Bool) : List Value :=
  [.int .i64 (m 0), .int .i64 (m 1), .int .i64 (m 2), .int .i64 (m 3), .int .i64 (m 4), .int .i64 (m 5), .int .i64 (m 6), .int .i64 (m 7), .int .i64 (v 0), .int .i64 (v 1), .int .i64 (v 2), .int .i64 (v 3),
   .int .i64 (h 0), .int .i64 (h 1), .int .i64 (h 2), .int .i64 (h 3), .int .i64 (h 4), .int .i64 (h 5), .bool d, .bool k]
def nat (f : Int → Int) (k : Nat) : Int := f k
def endP (P : List (List Ev)) (s : Ps) : Array Value := (endc (nat s.mem) (nat s.vol) s.has (doneP P s) (stuckP P s)).toArray
def end0 : Array Value := (endc (fun _ => 0) (fun _ => 0) (fun _ => 0) false false).toArray
/-- What Run returns: the end's cells, the events, the error. -/
def RunB (P : List (List Ev)) (ts : List Int) (x : Array Value) (l : List Ev) (c : Int) : Prop :=
  (chkP P ≠ 0 ∧ x = end0 ∧ l = [] ∧ c = chkP P) ∨ (chkP P = 0 ∧ 100 < ts.length ∧ x = end0 ∧ l = [] ∧ c = 2) ∨ (chkP P = 0 ∧ ts.length ≤ 100 ∧ x = endP P (runP P ts) ∧ l = (runP P ts).L ∧ c = 0)
def PRunPost (w : World) (P : List (List Ev)) (ts : List Int) (e : Ending) (w' : World) : Prop :=
  ∃ v x l c, e = .returned (.tuple #[.agg x, v, .int .i64 c]) ∧ RunB P ts x l c ∧ w'.ownsRow w.heap.size 54 3 v l.length (evc l) ∧ Below w.heap.size w w'
theorem runB_uniq {P : List (List Ev)} {ts : List Int} {x y : Array Value} {l m : List Ev} {c d : Int} (h : RunB P ts x l c) (k : RunB P ts y m d) : x = y ∧ l = m ∧ c = d := by
  rcases h with ⟨h1, h2, h3, h4⟩ | ⟨h1, h2, h3, h4, h5⟩ | ⟨h1, h2, h3, h4, h5⟩ <;> rcases k with ⟨k1, k2, k3, k4⟩ | ⟨k1, k2, k3, k4, k5⟩ | ⟨k1, k2, k3, k4, k5⟩ <;>
    first
    | exact absurd k1 h1
    | exact absurd h1 k1
    | (exfalso; omega)
    | exact ⟨h2.trans k2.symm, h3.trans k3.symm, h4.trans k4.symm⟩
    | exact ⟨h3.trans k3.symm, h4.trans k4.symm, h5.trans k5.symm⟩
/-- What Alone returns: pairs of locks. -/
def alB (ops : List Ev) (a b : Nat) : Bool := (List.range ops.length).any fun i => match ops[i]? with | none => false | some o => decide (o.k = 4) && (decide (o.t = (b : Int)) && (hldL (ops.take i) a && !hldL (ops.take i) b))
def AloneB (P : List (List Ev)) (t : Int) (q : List (Nat × Nat)) (c : Int) : Prop :=
  (chkP P ≠ 0 ∧ q = [] ∧ c = chkP P) ∨ (chkP P = 0 ∧ (t < 0 ∨ (P.length : Int) ≤ t) ∧ q = [] ∧ c = 1) ∨ (chkP P = 0 ∧ (∃ k : Nat, t = k ∧ k < P.length ∧ q = prsA (alB (opsP P k)) 5) ∧ c = 0)
def AlonePost (w : World) (P : List (List Ev)) (t : Int) (e : Ending) (w' : World) : Prop :=
  ∃ v q c, e = .returned (.tuple #[v, .int .i64 c]) ∧ AloneB P t q c ∧ w'.ownsRow w.heap.size 40 2 v q.length (prc q) ∧ Below w.heap.size w w'
def CheckC : Prop := ∀ (A : Option Addr) (n c : Nat) (P : List (List Ev)) (w : World), Prg w A n P → n ≤ c → c ≤ maxLen → Calls Try.prog 20 #[.slice A n c] w fun e w' => e = .returned (.int .i64 (chkP P)) ∧ Below w.heap.size w w'
def RunC : Prop := ∀ (A : Option Addr) (n c : Nat) (P : List (List Ev)) (B : Option Addr) (m d : Nat) (ts : List Int) (w : World), Prg w A n P → n ≤ c → c ≤ maxLen → SI w B m ts → m ≤ d → d ≤ maxLen → Calls Try.prog 17 #[.slice A n c, .slice B m d] w (PRunPost w P ts)
end Go.Proofs.Ytjddahidkodieaa

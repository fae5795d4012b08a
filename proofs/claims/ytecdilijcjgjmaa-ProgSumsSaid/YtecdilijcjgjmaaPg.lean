/- Plain facts: programs as a machine: an op is an Ev: k its kind, t its Obj, o its N. No program in sight. -/
import Derived.Test.YtecdilijcjgjmaaSw
import Derived.Test.YtecdilijcjgjmaaEr
set_option linter.all false
set_option maxRecDepth 100000
namespace Go.Proofs.Ytecdilijcjgjmaa
open Go Go.RowKit

def upF {β : Type} (f : Nat → β) (k : Nat) (v : β) : Nat → β := fun j => if j = k then v else f j
def updI (f : Int → Int) (k v : Int) : Int → Int := fun j => if j = k then v else f j
theorem upF_at {β : Type} (f : Nat → β) (k : Nat) (v : β) : upF f k v k = v := if_pos rfl
theorem upF_ne {β : Type} (f : Nat → β) {j k : Nat} (v : β) (h : j ≠ k) : upF f k v j = f j := if_neg h
/-- A program that runs: how many ops each thread has done, the events, what variables, signals and threads have. -/
structure Ps where
  a : Nat → Nat
  L : List Ev
  mem : Int → Int
  vol : Int → Int
  has : Nat → Int
def ps0 : Ps := ⟨fun _ => 0, [], fun _ => 0, fun _ => 0, fun _ => 0⟩
def opsP (P : List (List Ev)) (t : Nat) : List Ev := P.getD t []
def isOp (o : Ev) : Bool :=
  decide (1 ≤ o.k ∧ o.k ≤ 9) && decide (0 ≤ o.t ∧ o.t ≤ (if o.k = 3 then 0 else if o.k = 1 ∨ o.k = 2 then 7 else if o.k = 4 ∨ o.k = 5 then 4 else if o.k = 6 ∨ o.k = 7 then 5 else 3)) && decide (o.k = 3 ∨ o.o = 0) && decide (-1000 ≤ o.o ∧ o.o ≤ 1000)
structure OkP (P : List (List Ev)) : Prop where
  one : 1 ≤ P.length
  six : P.length ≤ 6
  len : ∀ t, (opsP P t).length ≤ 12
  op : ∀ t, ∀ o ∈ opsP P t, isOp o = true
/-- What comes of an op of thread t, if it may go on. -/
def canO (P : List (List Ev)) (s : Ps) (t : Nat) (o : Ev) : Bool :=
  if o.k = 4 then decide (owner s.L o.t < 0) else if o.k = 7 then decide (o.t < P.length) && (decide (o.t ≠ t) && (begun s.L o.t && decide (s.a o.t.toNat = (opsP P o.t.toNat).length))) else true
def canP (P : List (List Ev)) (s : Ps) (t : Nat) : Bool :=
  decide (t < P.length) && (begun s.L t && (match (opsP P t)[s.a t]? with | none => false | some o => canO P s t o))
def kindO (P : List (List Ev)) (s : Ps) (t : Nat) (o : Ev) : Int :=
  if o.k = 1 then 1 else if o.k = 2 then 2 else if o.k = 4 then 3 else if o.k = 5 then (if owner s.L o.t = t then 4 else 0) else if o.k = 6 then (if o.t < P.length ∧ begun s.L o.t = false then 5 else 0) else if o.k = 7 then 6 else if o.k = 8 then 7 else if o.k = 9 then 8 else 0
def evO (P : List (List Ev)) (s : Ps) (t : Nat) (o : Ev) : List Ev := if kindO P s t o = 0 then [] else [⟨kindO P s t o, t, o.t⟩]
def memO (s : Ps) (t : Nat) (o : Ev) : Int → Int := if o.k = 2 then updI s.mem o.t (s.has t) else s.mem
def volO (s : Ps) (t : Nat) (o : Ev) : Int → Int := if o.k = 9 then updI s.vol o.t (s.has t) else s.vol
def hasO (s : Ps) (t : Nat) (o : Ev) : Nat → Int := if o.k = 1 then upF s.has t (s.mem o.t) else if o.k = 3 then upF s.has t (s.has t + o.o) else if o.k = 8 then upF s.has t (s.vol o.t) else s.has
def stepO (P : List (List Ev)) (s : Ps) (t : Nat) (o : Ev) : Ps := ⟨upF s.a t (s.a t + 1), s.L ++ evO P s t o, memO s t o, volO s t o, hasO s t o⟩
def stepP (P : List (List Ev)) (s : Ps) (t : Nat) : Ps := match (opsP P t)[s.a t]? with | none => s | some o => stepO P s t o
def pickP (P : List (List Ev)) (s : Ps) (t : Int) : Ps := if 0 ≤ t ∧ canP P s t.toNat = true then stepP P s t.toNat else s
def runP (P : List (List Ev)) (ts : List Int) : Ps := ts.foldl (pickP P) ps0
theorem runP_snoc (P : List (List Ev)) (ts : List Int) (t : Int) : runP P (ts ++ [t]) = pickP P (runP P ts) t := by unfold runP; rw [List.foldl_append]; rfl
theorem can_op {P : List (List Ev)} {s : Ps} {t : Nat} (h : canP P s t = true) : t < P.length ∧ begun s.L t = true ∧ ∃ o, (opsP P t)[s.a t]? = some o ∧ canO P s t o = true := by
  unfold canP at h
  simp only [Bool.and_eq_true, decide_eq_true_iff] at h
  obtain ⟨h1, h2, h3⟩ := h
  refine ⟨h1, h2, ?_⟩
  cases ho : (opsP P t)[s.a t]? with
  | none => rw [ho] at h3; cases h3
  | some o => rw [ho] at h3; exact ⟨o, rfl, h3⟩
theorem step_op {P : List (List Ev)} {s : Ps} {t : Nat} {o : Ev} (h : (opsP P t)[s.a t]? = some o) : stepP P s t = stepO P s t o := by unfold stepP; rw [h]
/-- What a run keeps true. -/
structure PsR (P : List (List Ev)) (s : Ps) : Prop where
  le : ∀ t, s.a t ≤ (opsP P t).length
  idle : ∀ t : Nat, begun s.L t = false → s.a t = 0
  out : ∀ t : Nat, P.length ≤ t → begun s.L t = false
  over : ∀ t : Nat, did s.L 6 t = true → s.a t = (opsP P t).length
  good : good [] s.L
  len : s.L.length ≤ s.a 0 + s.a 1 + s.a 2 + s.a 3 + s.a 4 + s.a 5
theorem opsP_out {P : List (List Ev)} {t : Nat} (h : P.length ≤ t) : opsP P t = [] := by unfold opsP; rw [List.getD_eq_getElem?_getD, List.getElem?_eq_none h]; rfl
theorem PsR.start {P : List (List Ev)} (hP : OkP P) : PsR P ps0 := by
  have h1 := hP.one
  exact ⟨fun _ => Nat.zero_le _, fun _ _ => rfl, fun t ht => by unfold ps0 begun did; simp; omega, fun t h => by unfold ps0 did at h; simp at h, trivial, Nat.zero_le _⟩
theorem isOp_obj {o : Ev} (h : isOp o = true) : 1 ≤ o.k ∧ o.k ≤ 9 ∧ 0 ≤ o.t ∧ (o.k = 1 ∨ o.k = 2 → o.t ≤ 7) ∧ (o.k = 4 ∨ o.k = 5 → o.t ≤ 4) ∧ (o.k = 6 ∨ o.k = 7 → o.t ≤ 5) ∧ (o.k = 8 ∨ o.k = 9 → o.t ≤ 3) := by
  unfold isOp at h
  simp only [Bool.and_eq_true, decide_eq_true_iff] at h
  obtain ⟨⟨⟨h1, h2⟩, _⟩, _⟩ := h
  refine ⟨h1.1, h1.2, h2.1, fun hk => ?_, fun hk => ?_, fun hk => ?_, fun hk => ?_⟩ <;> (have := h2.2; repeat' split at this) <;> omega
theorem kind_cases (P : List (List Ev)) (s : Ps) (t : Nat) (o : Ev) : kindO P s t o = 0 ∨ (kindO P s t o = 1 ∧ o.k = 1) ∨ (kindO P s t o = 2 ∧ o.k = 2) ∨ (kindO P s t o = 3 ∧ o.k = 4) ∨ (kindO P s t o = 4 ∧ o.k = 5 ∧ owner s.L o.t = t) ∨
    (kindO P s t o = 5 ∧ o.k = 6 ∧ o.t < P.length ∧ begun s.L o.t = false) ∨ (kindO P s t o = 6 ∧ o.k = 7) ∨ (kindO P s t o = 7 ∧ o.k = 8) ∨ (kindO P s t o = 8 ∧ o.k = 9) := by
  unfold kindO
  by_cases h1 : o.k = 1
  · simp [h1]
  · by_cases h2 : o.k = 2
    · simp [h2]
    · by_cases h4 : o.k = 4
      · simp [h4]
      · by_cases h5 : o.k = 5
        · by_cases h : owner s.L o.t = t <;> simp [h5, h]
        · by_cases h6 : o.k = 6
          · by_cases h : o.t < P.length ∧ begun s.L o.t = false
            · simp [h6, h]
            · rw [if_neg h1, if_neg h2, if_neg h4, if_neg h5, if_pos h6, if_neg h]; exact .inl rfl
          · by_cases h7 : o.k = 7
            · simp [h7]
            · by_cases h8 : o.k = 8
              · simp [h8]
              · by_cases h9 : o.k = 9
                · simp [h9]
                · simp [h1, h2, h4, h5, h6, h7, h8, h9]
theorem nobj_at {k : Int} : (k = 1 ∨ k = 2 → nobj k = 8) ∧ (k = 3 ∨ k = 4 → nobj k = 5) ∧ (k = 5 ∨ k = 6 → nobj k = 6) ∧ (k = 7 ∨ k = 8 → nobj k = 4) := by
  unfold nobj
  refine ⟨fun h => ?_, fun h => ?_, fun h => ?_, fun h => ?_⟩ <;> repeat' split <;> omega
/-- The event of an op is none that is wrong. -/
theorem ev_right {P : List (List Ev)} {s : Ps} (hP : OkP P) (h : PsR P s) {t : Nat} {o : Ev} (ht : t < P.length) (hb : begun s.L t = true) (ho : (opsP P t)[s.a t]? = some o) (hc : canO P s t o = true) (hk : kindO P s t o ≠ 0) : wrong s.L ⟨kindO P s t o, t, o.t⟩ = 0 := by
  obtain ⟨k1, k9, o0, r1, r2, r3, r4⟩ := isOp_obj (hP.op t o (List.mem_of_getElem? ho))
  have hlt := (List.getElem?_eq_some_iff.1 ho).1
  have hd : did s.L 6 t = false := by
    cases hq : did s.L 6 t
    · rfl
    · have := h.over t hq; omega
  have h6 := hP.six
  have hev : isEv ⟨kindO P s t o, t, o.t⟩ = true := by
    obtain ⟨n1, n2, n3, n4⟩ := nobj_at (k := kindO P s t o)
    unfold isEv
    simp only [Bool.and_eq_true, inB_iff]
    rcases kind_cases P s t o with g | ⟨g, g'⟩ | ⟨g, g'⟩ | ⟨g, g'⟩ | ⟨g, g', _⟩ | ⟨g, g', _⟩ | ⟨g, g'⟩ | ⟨g, g'⟩ | ⟨g, g'⟩
    · exact absurd g hk
    · rw [n1 (.inl g)]; have := r1 (.inl g'); omega
    · rw [n1 (.inr g)]; have := r1 (.inr g'); omega
    · rw [n2 (.inl g)]; have := r2 (.inl g'); omega
    · rw [n2 (.inr g)]; have := r2 (.inr g'); omega
    · rw [n3 (.inl g)]; have := r3 (.inl g'); omega
    · rw [n3 (.inr g)]; have := r3 (.inr g'); omega
    · rw [n4 (.inl g)]; have := r4 (.inl g'); omega
    · rw [n4 (.inr g)]; have := r4 (.inr g'); omega
  unfold wrong
  rw [if_neg (by rw [hev]; simp), if_neg (by simp only [hb, hd]; simp)]
  unfold canO at hc
  rcases kind_cases P s t o with g | ⟨g, g'⟩ | ⟨g, g'⟩ | ⟨g, g'⟩ | ⟨g, g', g2⟩ | ⟨g, g', _, g2⟩ | ⟨g, g'⟩ | ⟨g, g'⟩ | ⟨g, g'⟩
  · exact absurd g hk
  · simp [g]
  · simp [g]
  · rw [if_pos g'] at hc
    simp only [decide_eq_true_iff] at hc
    simp [g]; omega
  · simp [g, g2]
  · simp [g, g2]
  · rw [if_neg (by omega), if_pos g'] at hc
    simp only [Bool.and_eq_true, decide_eq_true_iff] at hc
    simp [g, hc.2.2.1, hc.2.1]
  · simp [g]
  · simp [g]
theorem begun_app {l m : List Ev} {t : Int} (h : begun l t = true) : begun (l ++ m) t = true := by
  unfold begun did at h ⊢
  rw [List.any_append]
  simp only [Bool.or_eq_true] at h ⊢
  exact h.imp id .inl
theorem good_snoc {l : List Ev} {e : Ev} (h : good [] l) (hw : wrong l e = 0) : good [] (l ++ [e]) := good_app.2 ⟨h, by rw [List.nil_append]; exact ⟨hw, trivial⟩⟩
theorem PsR.step {P : List (List Ev)} {s : Ps} (hP : OkP P) (h : PsR P s) {t : Nat} {o : Ev} (ht : t < P.length) (hb : begun s.L t = true) (ho : (opsP P t)[s.a t]? = some o) (hc : canO P s t o = true) : PsR P (stepO P s t o) := by
  have hlt := (List.getElem?_eq_some_iff.1 ho).1
  have h6 := hP.six
  have hw := ev_right hP h ht hb ho hc
  have hmono : ∀ x : Int, begun s.L x = true → begun (s.L ++ evO P s t o) x = true := fun x hx => begun_app hx
  -- what the event begins, what it joins
  have hbeg : ∀ x : Int, begun (s.L ++ evO P s t o) x = true → begun s.L x = true ∨ (x = o.t ∧ o.t < P.length ∧ kindO P s t o = 5) := fun x hx => by
    unfold evO at hx
    split at hx
    · rw [List.append_nil] at hx; exact .inl hx
    · rw [begun_snoc] at hx
      simp only [Bool.or_eq_true, decide_eq_true_iff] at hx
      rcases hx with hx | ⟨hk, hx⟩
      · exact .inl hx
      · rcases kind_cases P s t o with g | ⟨g, _⟩ | ⟨g, _⟩ | ⟨g, _⟩ | ⟨g, _⟩ | ⟨g, _, g3, _⟩ | ⟨g, _⟩ | ⟨g, _⟩ | ⟨g, _⟩ <;> first | exact .inr ⟨hx.symm, g3, g⟩ | omega
  have hjoin : ∀ x : Int, did (s.L ++ evO P s t o) 6 x = true → did s.L 6 x = true ∨ (x = o.t ∧ o.k = 7) := fun x hx => by
    unfold evO at hx
    split at hx
    · rw [List.append_nil] at hx; exact .inl hx
    · rw [did_snoc] at hx
      simp only [Bool.or_eq_true, decide_eq_true_iff] at hx
      rcases hx with hx | ⟨hk, hx⟩
      · exact .inl hx
      · rcases kind_cases P s t o with g | ⟨g, _⟩ | ⟨g, _⟩ | ⟨g, _⟩ | ⟨g, _⟩ | ⟨g, _⟩ | ⟨g, g'⟩ | ⟨g, _⟩ | ⟨g, _⟩ <;> first | exact .inr ⟨hx.symm, g'⟩ | omega
  refine ⟨fun x => ?_, fun x hx => ?_, fun x hx => ?_, fun x hx => ?_, ?_, ?_⟩
  · show upF s.a t (s.a t + 1) x ≤ _
    by_cases e : x = t
    · subst e; rw [upF_at]; omega
    · rw [upF_ne _ _ e]; exact h.le x
  · have hx' : begun (s.L ++ evO P s t o) x = false := hx
    have hxf : begun s.L x = false := by
      cases hq : begun s.L x
      · rfl
      · rw [hmono _ hq] at hx'; cases hx'
    have e : x ≠ t := fun e => by rw [e, hb] at hxf; cases hxf
    show upF s.a t (s.a t + 1) x = 0
    rw [upF_ne _ _ e]; exact h.idle x hxf
  · cases hq : begun (s.L ++ evO P s t o) x
    · exact hq
    · rcases hbeg x hq with g | ⟨g, g2, _⟩
      · rw [h.out x hx] at g; cases g
      · omega
  · show upF s.a t (s.a t + 1) x = _
    rcases hjoin x hx with g | ⟨g, g2⟩
    · have hov := h.over x g
      have e : x ≠ t := fun e => by rw [e] at hov; omega
      rw [upF_ne _ _ e]; exact hov
    · unfold canO at hc
      rw [if_neg (by omega), if_pos g2] at hc
      simp only [Bool.and_eq_true, decide_eq_true_iff] at hc
      have e : x ≠ t := fun e => hc.2.1 (by rw [← g, e])
      rw [upF_ne _ _ e]
      have := hc.2.2.2
      rw [← g] at this
      simpa using this
  · show Proofs.Ytecdilijcjgjmaa.good [] (s.L ++ evO P s t o)
    unfold evO
    split
    · rw [List.append_nil]; exact h.good
    · rename_i hk
      exact good_snoc h.good (hw hk)
  · show (s.L ++ evO P s t o).length ≤ _
    have hl := h.len
    have he : (evO P s t o).length ≤ 1 := by unfold evO; split <;> simp
    rw [List.length_append]
    have ht6 : t = 0 ∨ t = 1 ∨ t = 2 ∨ t = 3 ∨ t = 4 ∨ t = 5 := by omega
    show _ ≤ upF s.a t (s.a t + 1) 0 + upF s.a t (s.a t + 1) 1 + upF s.a t (s.a t + 1) 2 + upF s.a t (s.a t + 1) 3 + upF s.a t (s.a t + 1) 4 + upF s.a t (s.a t + 1) 5
    rcases ht6 with rfl | rfl | rfl | rfl | rfl | rfl <;> simp [upF] <;> omega
theorem PsR.pick {P : List (List Ev)} {s : Ps} (hP : OkP P) (h : PsR P s) (t : Int) : PsR P (pickP P s t) := by
  unfold pickP
  split
  · rename_i hc
    obtain ⟨h1, h2, o, h3, h4⟩ := can_op hc.2
    rw [step_op h3]
    exact h.step hP h1 h2 h3 h4
  · exact h
theorem PsR.picks {P : List (List Ev)} (hP : OkP P) : ∀ (ts : List Int) {s : Ps}, PsR P s → PsR P (ts.foldl (pickP P) s)
  | [], _, h => h
  | t :: ts, _, h => PsR.picks hP ts (h.pick hP t)
theorem runP_ok {P : List (List Ev)} (hP : OkP P) (ts : List Int) : PsR P (runP P ts) := PsR.picks hP ts (PsR.start hP)
/-- What a program does may have happened. -/
theorem PsR.may {P : List (List Ev)} {s : Ps} (hP : OkP P) (h : PsR P s) : Proofs.Ytecdilijcjgjmaa.may s.L = 0 := by
  refine may_good.2 ⟨?_, h.good⟩
  have h1 := h.len
  have := fun t => Nat.le_trans (h.le t) (hP.len t)
  have h0 := this 0; have h2 := this 1; have h3 := this 2; have h4 := this 3; have h5 := this 4; have h6 := this 5
  omega
theorem pckP_len (P : List (List Ev)) (s : Ps) (t : Int) : (pickP P s t).L.length ≤ s.L.length + 1 ∧ ∃ m, (pickP P s t).L = s.L ++ m := by
  unfold pickP
  split
  · unfold stepP
    split
    · exact ⟨Nat.le_succ _, [], by simp⟩
    · refine ⟨?_, _, rfl⟩
      show (s.L ++ evO P s t.toNat _).length ≤ _
      rw [List.length_append]
      unfold evO
      split <;> simp
  · exact ⟨Nat.le_succ _, [], by simp⟩
theorem picks_len (P : List (List Ev)) : ∀ (ts : List Int) (s : Ps), (ts.foldl (pickP P) s).L.length ≤ s.L.length + ts.length ∧ ∃ m, (ts.foldl (pickP P) s).L = s.L ++ m
  | [], s => ⟨Nat.le_refl _, [], by simp⟩
  | t :: ts, s => by
    obtain ⟨h1, m1, h2⟩ := pckP_len P s t
    obtain ⟨h3, m2, h4⟩ := picks_len P ts (pickP P s t)
    exact ⟨by simp only [List.foldl_cons, List.length_cons]; omega, m1 ++ m2, by rw [List.foldl_cons, h4, h2, List.append_assoc]⟩
/-- A pick of no thread is of no matter. -/
theorem pick_no {P : List (List Ev)} {s : Ps} {t : Int} (h : t < 0 ∨ (P.length : Int) ≤ t) : pickP P s t = s := by
  unfold pickP
  rw [if_neg]
  rintro ⟨h0, hc⟩
  have := (can_op hc).1
  omega
theorem picks_no {P : List (List Ev)} {t : Int} (h : t < 0 ∨ (P.length : Int) ≤ t) (a b : List Int) : runP P (a ++ t :: b) = runP P (a ++ b) := by
  unfold runP
  rw [List.foldl_append, List.foldl_append, List.foldl_cons, pick_no h]
/-- All that have begun are over; nobody can go on. -/
def doneP (P : List (List Ev)) (s : Ps) : Bool := (List.range P.length).all fun t => !begun s.L (t : Nat) || decide (s.a t = (opsP P t).length)
def goesP (P : List (List Ev)) (s : Ps) : Bool := (List.range P.length).any fun t => canP P s t
def stuckP (P : List (List Ev)) (s : Ps) : Bool := !doneP P s && !goesP P s
theorem done_stops {P : List (List Ev)} {s : Ps} (h : goesP P s = false) (t : Int) : pickP P s t = s := by
  unfold pickP
  rw [if_neg]
  rintro ⟨_, hc⟩
  unfold goesP at h
  rw [List.any_eq_false] at h
  exact h t.toNat (List.mem_range.2 (can_op hc).1) hc
theorem done_goes {P : List (List Ev)} {s : Ps} (h : doneP P s = true) : goesP P s = false := by
  unfold goesP doneP at *
  rw [List.any_eq_false]
  intro t ht hc
  have h1 := List.all_eq_true.1 h t ht
  obtain ⟨_, hb, o, ho, _⟩ := can_op hc
  rw [hb] at h1
  have := (List.getElem?_eq_some_iff.1 ho).1
  simp at h1
  omega
theorem stops {P : List (List Ev)} {s : Ps} (h : doneP P s = true ∨ stuckP P s = true) : ∀ ts : List Int, ts.foldl (pickP P) s = s
  | [] => rfl
  | t :: ts => by
    have hg : goesP P s = false := by
      rcases h with h | h
      · exact done_goes h
      · unfold stuckP at h; simp only [Bool.and_eq_true, Bool.not_eq_true'] at h; exact h.2
    rw [List.foldl_cons, done_stops hg]
    exact stops h ts
end Go.Proofs.Ytecdilijcjgjmaa

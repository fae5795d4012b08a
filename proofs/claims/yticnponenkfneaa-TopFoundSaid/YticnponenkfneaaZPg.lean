import Derived.Test.YticnponenkfneaaZSw
import Derived.Test.YticnponenkfneaaZEr
set_option linter.all false
set_option maxRecDepth 100000
namespace Go.Proofs.Yticnponenkfneaa
open Go Go.RowKit

def upF {β : Type} (f : Nat → β) (k : Nat) (v : β) : Nat → β := fun j => if j = k then v else f j
def updI (f : Int → Int) (k v : Int) : Int → Int := fun j => if j = k then v else f j
theorem upF_at {β : Type} (f : Nat → β) (k : Nat) (v : β) : upF f k v k = v := if_pos rfl
theorem upF_ne {β : Type} (f : Nat → β) {j k : Nat} (v : β) (h : j ≠ k) : upF f k v j = f j := if_neg h
structure Ps where
  a : Nat → Nat
  L : List Ev
  mem : Int → Int
  vol : Int → Int
  has : Nat → Int
def ps0 : Ps := ⟨fun _ => 0, [], fun _ => 0, fun _ => 0, fun _ => 0⟩
def opsP (P : List (List Ev)) (t : Nat) : List Ev := P.getD t []
def isOp (o : Ev) : Bool :=
  decide (1 ≤ o.k ∧ o.k ≤ 9) && decide (0 ≤ o.t ∧ o.t ≤ (if o.k = 3 then 0 else if o.k = 1 ∨ o.k = 2 then 7 else if o.k = 4 ∨ o.k = 5 then 4 else if o.k = 6 ∨ o.k = 7 then 5 else 3)) && decide (o.k = 3 ∨ o.o = 0) && decide (-1000 ≤ o.o ∧ o.o ≤ 1000)
structure OkP (P : List (List Ev)) : Prop where
  one : 1 ≤ P.length
  six : P.length ≤ 6
  len : ∀ t, (opsP P t).length ≤ 12
  op : ∀ t, ∀ o ∈ opsP P t, isOp o = true
def canO (P : List (List Ev)) (s : Ps) (t : Nat) (o : Ev) : Bool :=
  if o.k = 4 then decide (owner s.L o.t < 0) else if o.k = 7 then decide (o.t < P.length) && (decide (o.t ≠ t) && (begun s.L o.t && decide (s.a o.t.toNat = (opsP P o.t.toNat).length))) else true
def canP (P : List (List Ev)) (s : Ps) (t : Nat) : Bool :=
  decide (t < P.length) && (begun s.L t && (match (opsP P t)[s.a t]? with | none => false | some o => canO P s t o))
def kindO (P : List (List Ev)) (s : Ps) (t : Nat) (o : Ev) : Int :=
  if o.k = 1 then 1 else if o.k = 2 then 2 else if o.k = 4 then 3 else if o.k = 5 then (if owner s.L o.t = t then 4 else 0) else if o.k = 6 then (if o.t < P.length ∧ begun s.L o.t = false then 5 else 0) else if o.k = 7 then 6 else if o.k = 8 then 7 else if o.k = 9 then 8 else 0
def evO (P : List (List Ev)) (s : Ps) (t : Nat) (o : Ev) : List Ev := if kindO P s t o = 0 then [] else [⟨kindO P s t o, t, o.t⟩]
def memO (s : Ps) (t : Nat) (o : Ev) : Int → Int := if o.k = 2 then updI s.mem o.t (s.has t) else s.mem
def volO (s : Ps) (t : Nat) (o : Ev) : Int → Int := if o.k = 9 then updI s.vol o.t (s.has t) else s.vol
def hasO (s : Ps) (t : Nat) (o : Ev) : Nat → Int := if o.k = 1 then upF s.has t (s.mem o.t) else if o.k = 3 then upF s.has t (s.has t + o.o) else if o.k = 8 then upF s.has t (s.vol o.t) else s.has
def stepO (P : List (List Ev)) (s : Ps) (t : Nat) (o : Ev) : Ps := ⟨upF s.a t (s.a t + 1), s.L ++ evO P s t o, memO s t o, volO s t o, hasO s t o⟩
def stepP (P : List (List Ev)) (s : Ps) (t : Nat) : Ps := match (opsP P t)[s.a t]? with | none => s | some o => stepO P s t o
def pickP (P : List (List Ev)) (s : Ps) (t : Int) : Ps := if 0 ≤ t ∧ canP P s t.toNat = true then stepP P s t.toNat else s
def runP (P : List (List Ev)) (ts : List Int) : Ps := ts.foldl (pickP P) ps0
theorem runP_snoc (P : List (List Ev)) (ts : List Int) (t : Int) : runP P (ts ++ [t]) = pickP P (runP P ts) t := by unfold runP; rw [List.foldl_append]; rfl
theorem can_op {P : List (List Ev)} {s : Ps} {t : Nat} (h : canP P s t = true) : t < P.length ∧ begun s.L t = true ∧ ∃ o, (opsP P t)[s.a t]? = some o ∧ canO P s t o = true := by
  unfold canP at h
  simp only [Bool.and_eq_true, decide_eq_true_iff] at h
  obtain ⟨h1, h2, h3⟩ := h
  refine ⟨h1, h2, ?_⟩
  cases ho : (opsP P t)[s.a t]? with
  | none => rw [ho] at h3; cases h3
  | some o => rw [ho] at h3; exact ⟨o, rfl, h3⟩
theorem step_op {P : List (List Ev)} {s : Ps} {t : Nat} {o : Ev} (h : (opsP P t)[s.a t]? = some o) : stepP P s t = stepO P s t o := by unfold stepP; rw [h]
structure PsR (P : List (List Ev)) (s : Ps) : Prop where
  le : ∀ t, s.a t ≤ (opsP P t).length
  idle : ∀ t : Nat, begun s.L t = false → s.a t = 0
  out : ∀ t : Nat, P.length ≤ t → begun s.L t = false
  over : ∀ t : Nat, did s.L 6 t = true → s.a t = (opsP P t).length
  good : good [] s.L
  len : s.L.length ≤ s.a 0 + s.a 1 + s.a 2 + s.a 3 + s.a 4 + s.a 5
theorem opsP_out {P : List (List Ev)} {t : Nat} (h : P.length ≤ t) : opsP P t = [] := by unfold opsP; rw [List.getD_eq_getElem?_getD, List.getElem?_eq_none h]; rfl
theorem PsR.start {P : List (List Ev)} (hP : OkP P) : PsR P ps0 := by
  have h1 := hP.one
  exact ⟨fun _ => Nat.zero_le _, fun _ _ => rfl, fun t ht => by unfold ps0 begun did; simp; omega, fun t h => by unfold ps0 did at h; simp at h, trivial, Nat.zero_le _⟩
theorem isOp_obj {o : Ev} (h : isOp o = true) : 1 ≤ o.k ∧ o.k ≤ 9 ∧ 0 ≤ o.t ∧ (o.k = 1 ∨ o.k = 2 → o.t ≤ 7) ∧ (o.k = 4 ∨ o.k = 5 → o.t ≤ 4) ∧ (o.k = 6 ∨ o.k = 7 → o.t ≤ 5) ∧ (o.k = 8 ∨ o.k = 9 → o.t ≤ 3) := by
  unfold isOp at h
  simp only [Bool.and_eq_true, decide_eq_true_iff] at h
  obtain ⟨⟨⟨h1, h2⟩, _⟩, _⟩ := h
  refine ⟨h1.1, h1.2, h2.1, fun hk => ?_, fun hk => ?_, fun hk => ?_, fun hk => ?_⟩ <;> (have := h2.2; repeat' split at this) <;> omega
theorem kind_cases (P : List (List Ev)) (s : Ps) (t : Nat) (o : Ev) : kindO P s t o = 0 ∨ (kindO P s t o = 1 ∧ o.k = 1) ∨ (kindO P s t o = 2 ∧ o.k = 2) ∨ (kindO P s t o = 3 ∧ o.k = 4) ∨ (kindO P s t o = 4 ∧ o.k = 5 ∧ owner s.L o.t = t) ∨
    (kindO P s t o = 5 ∧ o.k = 6 ∧ o.t < P.length ∧ begun s.L o.t = false) ∨ (kindO P s t o = 6 ∧ o.k = 7) ∨ (kindO P s t o = 7 ∧ o.k = 8) ∨ (kindO P s t o = 8 ∧ o.k = 9) := by
  unfold kindO
  by_cases h1 : o.k = 1
  · simp [h1]
  · by_cases h2 : o.k = 2
    · simp [h2]
    · by_cases h4 : o.k = 4
      · simp [h4]
      · by_cases h5 : o.k = 5
        · by_cases h : owner s.L o.t = t <;> simp [h5, h]
        · by_cases h6 : o.k = 6
          · by_cases h : o.t < P.length ∧ begun s.L o.t = false
            · simp [h6, h]
            · rw [if_neg h1, if_neg h2, if_neg h4, if_neg h5, if_pos h6, if_neg h]; exact .inl rfl
          · by_cases h7 : o.k = 7
            · simp [h7]
            · by_cases h8 : o.k = 8
              · simp [h8]
              · by_cases h9 : o.k = 9
                · simp [h9]
                · simp [h1, h2, h4, h5, h6, h7, h8, h9]
theorem nobj_at {k : Int} : (k = 1 ∨ k = 2 → nobj k = 8) ∧ (k = 3 ∨ k = 4 → nobj k = 5) ∧ (k = 5 ∨ k = 6 → nobj k = 6) ∧ (k = 7 ∨ k = 8 → nobj k = 4) := by
  unfold nobj
  refine ⟨fun h => ?_, fun h => ?_, fun h => ?_, fun h => ?_⟩ <;> repeat' split <;> omega
theorem ev_right {P : List (List Ev)} {s : Ps} (hP : OkP P) (h : PsR P s) {t : Nat} {o : Ev} (ht : t < P.length) (hb : begun s.L t = true) (ho : (opsP P t)[s.a t]? = some o) (hc : canO P s t o = true) (hk : kindO P s t o ≠ 0) : wrong s.L ⟨kindO P s t o, t, o.t⟩ = 0 := by
  obtain ⟨k1, k9, o0, r1, r2, r3, r4⟩ := isOp_obj (hP.op t o (List.mem_of_getElem? ho))
  have hlt := (List.getElem?_eq_some_iff.1 ho).1
  have hd : did s.L 6 t = false := by
    cases hq : did s.L 6 t
    · rfl
    · have := h.over t hq; omega
  have h6 := hP.six
  have hev : isEv ⟨kindO P s t o, t, o.t⟩ = true := by
    obtain ⟨n1, n2, n3, n4⟩ := nobj_at (k := kindO P s t o)
    unfold isEv
    simp only [Bool.and_eq_true, inB_iff]
    rcases kind_cases P s t o with g | ⟨g, g'⟩ | ⟨g, g'⟩ | ⟨g, g'⟩ | ⟨g, g', _⟩ | ⟨g, g', _⟩ | ⟨g, g'⟩ | ⟨g, g'⟩ | ⟨g, g'⟩
    · exact absurd g hk
    · rw [n1 (.inl g)]; have := r1 (.inl g'); omega
    · rw [n1 (.inr g)]; have := r1 (.inr g'); omega
    · rw [n2 (.inl g)]; have := r2 (.inl g'); omega
    · rw [n2 (.inr g)]; have := r2 (.inr g'); omega
    · rw [n3 (.inl g)]; have := r3 (.inl g'); omega
    · rw [n3 (.inr g)]; have := r3 (.inr g'); omega
    · rw [n4 (.inl g)]; have := r4 (.inl g'); omega
    · rw [n4 (.inr g)]; have := r4 (.inr g'); omega
  unfold wrong
  rw [if_neg (by rw [hev]; simp), if_neg (by simp only [hb, hd]; simp)]
  unfold canO at hc
  rcases kind_cases P s t o with g | ⟨g, g'⟩ | ⟨g, g'⟩ | ⟨g, g'⟩ | ⟨g, g', g2⟩ | ⟨g, g', _, g2⟩ | ⟨g, g'⟩ | ⟨g, g'⟩ | ⟨g, g'⟩
  · exact absurd g hk
  · simp [g]
  · simp [g]
  · rw [if_pos g'] at hc
    simp only [decide_eq_true_iff] at hc
    simp [g]; omega
  · simp [g, g2]
  · simp [g, g2]
  · rw [if_neg (by omega), if_pos g'] at hc
    simp only [Bool.and_eq_true, decide_eq_true_iff] at hc
    simp [g, hc.2.2.1, hc.2.1]
  · simp [g]
  · simp [g]
theorem begun_app {l m : List Ev} {t : Int} (h : begun l t = true) : begun (l ++ m) t = true := by
  unfold begun did at h ⊢
  rw [List.any_append]
  simp only [Bool.or_eq_true] at h ⊢
  exact h.imp id .inl
theorem good_snoc {l : List Ev} {e : Ev} (h : good [] l) (hw : wrong l e = 0) : good [] (l ++ [e]) := good_app.2 ⟨h, by rw [List.nil_append]; exact ⟨hw, trivial⟩⟩
theorem PsR.step {P : List (List Ev)} {s : Ps} (hP : OkP P) (h : PsR P s) {t : Nat} {o : Ev} (ht : t < P.length) (hb : begun s.L t = true) (ho : (opsP P t)[s.a t]? = some o) (hc : canO P s t o = true) : PsR P (stepO P s t o) := by
  have hlt := (List.getElem?_eq_some_iff.1 ho).1
  have h6 := hP.six
  have hw := ev_right hP h ht hb ho hc
  have hmono : ∀ x : Int, begun s.L x = true → begun (s.L ++ evO P s t o) x = true := fun x hx => begun_app hx
  -- what the event begins, what it joins
  have hbeg : ∀ x : Int, begun (s.L ++ evO P s t o) x = true → begun s.L x = true ∨ (x = o.t ∧ o.t < P.length ∧ kindO P s t o = 5) := fun x hx => by
    unfold evO at hx
    split at hx
    · rw [List.append_nil] at hx; exact .inl hx
    · rw [begun_snoc] at hx
      simp only [Bool.or_eq_true, decide_eq_true_iff] at hx
      rcases hx with hx | ⟨hk, hx⟩
      · exact .inl hx
      · rcases kind_cases P s t o with g | ⟨g, _⟩ | ⟨g, _⟩ | ⟨g, _⟩ | ⟨g, _⟩ | ⟨g, _, g3, _⟩ | ⟨g, _⟩ | ⟨g, _⟩ | ⟨g, _⟩ <;> first | exact .inr ⟨hx.symm, g3, g⟩ | omega
  have hjoin : ∀ x : Int, did (s.L ++ evO P s t o) 6 x = true → did s.L 6 x = true ∨ (x = o.t ∧ o.k = 7) := fun x hx => by
    unfold evO at hx
    split at hx
    · rw [List.append_nil] at hx; exact .inl hx
    · rw [did_snoc] at hx
      simp only [Bool.or_eq_true, decide_eq_true_iff] at hx
      rcases hx with hx | ⟨hk, hx⟩
      · exact .inl hx
      · rcases kind_cases P s t o with g | ⟨g, _⟩ | ⟨g, _⟩ | ⟨g, _⟩ | ⟨g, _⟩ | ⟨g, _⟩ | ⟨g, g'⟩ | ⟨g, _⟩ | ⟨g, _⟩ <;> first | exact .inr ⟨hx.symm, g'⟩ | omega
  refine ⟨fun x => ?_, fun x hx => ?_, fun x hx => ?_, fun x hx => ?_, ?_, ?_⟩
  · show upF s.a t (s.a t + 1) x ≤ _
    by_cases e : x = t
    · subst e; rw [upF_at]; omega
    · rw [upF_ne _ _ e]; exact h.le x
  · have hx' : begun (s.L ++ evO P s t o) x = false := hx
    have hxf : begun s.L x = false := by
      cases hq : begun s.L x
      · rfl
      · rw [hmono _ hq] at hx'; cases hx'
    have e : x ≠ t := fun e => by rw [e, hb] at hxf; cases hxf
    show upF s.a t (s.a t + 1) x = 0
    rw [upF_ne _ _ e]; exact h.idle x hxf
  · cases hq : begun (s.L ++ evO P s t o) x
    · exact hq
    · rcases hbeg x hq with g | ⟨g, g2, _⟩
      · rw [h.out x hx] at g; cases g
      · omega
  · show upF s.a t (s.a t + 1) x = _
    rcases hjoin x hx with g | ⟨g, g2⟩
    · have hov := h.over x g
      have e : x ≠ t := fun e => by rw [e] at hov; omega
      rw [upF_ne _ _ e]; exact hov
    · unfold canO at hc
      rw [if_neg (by omega), if_pos g2] at hc
      simp only [Bool.and_eq_true, decide_eq_true_iff] at hc
      have e : x ≠ t := fun e => hc.2.1 (by rw [← g, e])
      rw [upF_ne _ _ e]
      have := hc.2.2.2
      rw [← g] at this
      simpa using this
  · show Proofs.Yticnponenkfneaa.good [] (s.L ++ evO P s t o)
    unfold evO
    split
    · rw [List.append_nil]; exact h.good
    · rename_i hk
      exact good_snoc h.good (hw hk)
  · show (s.L ++ evO P s t o).length ≤ _
    have hl := h.len
    have he : (evO P s t o).length ≤ 1 := by unfold evO; split <;> simp
    rw [List.length_append]
    have ht6 : t = 0 ∨ t = 1 ∨ t = 2 ∨ t = 3 ∨ t = 4 ∨ t = 5 := by omega
    show _ ≤ upF s.a t (s.a t + 1) 0 + upF s.a t (s.a t + 1) 1 + upF s.a t (s.a t + 1) 2 + upF s.a t (s.a t + 1) 3 + upF s.a t (s.a t + 1) 4 + upF s.a t (s.a t + 1) 5
    rcases ht6 with rfl | rfl | rfl | rfl | rfl | rfl <;> simp [upF] <;> omega
theorem PsR.pick {P : List (List Ev)} {s : Ps} (hP : OkP P) (h : PsR P s) (t : Int) : PsR P (pickP P s t) := by
  unfold pickP
  split
  · rename_i hc
    obtain ⟨h1, h2, o, h3, h4⟩ := can_op hc.2
    rw [step_op h3]
    exact h.step hP h1 h2 h3 h4
  · exact h
theorem PsR.picks {P : List (List Ev)} (hP : OkP P) : ∀ (ts : List Int) {s : Ps}, PsR P s → PsR P (ts.foldl (pickP P) s)
  | [], _, h => h
  | t :: ts, _, h => PsR.picks hP ts (h.pick hP t)
theorem runP_ok {P : List (List Ev)} (hP : OkP P) (ts : List Int) : PsR P (runP P ts) := PsR.picks hP ts (PsR.start hP)
theorem PsR.may {P : List (List Ev)} {s : Ps} (hP : OkP P) (h : PsR P s) : Proofs.Yticnponenkfneaa.may s.L = 0 := by
  refine may_good.2 ⟨?_, h.good⟩
  have h1 := h.len
  have := fun t => Nat.le_trans (h.le t) (hP.len t)
  have h0 := this 0; have h2 := this 1; have h3 := this 2; have h4 := this 3; have h5 := this 4; have h6 := this 5
  omega
theorem pckP_len (P : List (List Ev)) (s : Ps) (t : Int) : (pickP P s t).L.length ≤ s.L.length + 1 ∧ ∃ m, (pickP P s t).L = s.L ++ m := by
  unfold pickP
  split
  · unfold stepP
    split
    · exact ⟨Nat.le_succ _, [], by simp⟩
    · refine ⟨?_, _, rfl⟩
      show (s.L ++ evO P s t.toNat _).length ≤ _
      rw [List.length_append]
      unfold evO
      split <;> simp
  · exact ⟨Nat.le_succ _, [], by simp⟩
theorem picks_len (P : List (List Ev)) : ∀ (ts : List Int) (s : Ps), (ts.foldl (pickP P) s).L.length ≤ s.L.length + ts.length ∧ ∃ m, (ts.foldl (pickP P) s).L = s.L ++ m
  | [], s => ⟨Nat.le_refl _, [], by simp⟩
  | t :: ts, s => by
    obtain ⟨h1, m1, h2⟩ := pckP_len P s t
    obtain ⟨h3, m2, h4⟩ := picks_len P ts (pickP P s t)
    exact ⟨by simp only [List.foldl_cons, List.length_cons]; omega, m1 ++ m2, by rw [List.foldl_cons, h4, h2, List.append_assoc]⟩
def doneP (P : List (List Ev)) (s : Ps) : Bool := (List.range P.length).all fun t => !begun s.L (t : Nat) || decide (s.a t = (opsP P t).length)
def goesP (P : List (List Ev)) (s : Ps) : Bool := (List.range P.length).any fun t => canP P s t
def stuckP (P : List (List Ev)) (s : Ps) : Bool := !doneP P s && !goesP P s
end Go.Proofs.Yticnponenkfneaa
namespace Go.Proofs.Yticnponenkfneaa
open Go Go.RowKit

end Go.Proofs.Yticnponenkfneaa
namespace Go.Proofs.Yticnponenkfneaa
open Go Go.RowKit

end Go.Proofs.Yticnponenkfneaa
namespace Go.Proofs.Yticnponenkfneaa
open Go Go.RowKit

def kOf (k : Int) : Int := if k = 1 then 1 else if k = 2 then 2 else if k = 4 then 3 else if k = 5 then 4 else if k = 6 then 5 else if k = 7 then 6 else if k = 8 then 7 else if k = 9 then 8 else 0
def mtch (x o : Ev) : Bool := decide (kOf o.k = x.k) && decide (o.t = x.o)
def addO (o : Ev) : Int := if o.k = 3 then o.o else 0
def addL (l : List Ev) : Int := l.foldr (fun o n => addO o + n) 0
theorem addL_snoc (l : List Ev) (o : Ev) : addL (l ++ [o]) = addL l + addO o := by
  unfold addL
  induction l with
  | nil => simp
  | cons x l ih => simp only [List.cons_append, List.foldr_cons, ih]; omega
def skN (x : Ev) : List Ev → Nat
  | [] => 0
  | o :: r => if mtch x o = true then 0 else skN x r + 1
theorem skN_at {x o : Ev} : ∀ {l : List Ev} {n : Nat}, l[n]? = some o → mtch x o = true → (∀ j y, j < n → l[j]? = some y → mtch x y = false) → skN x l = n
  | [], n, h, _, _ => by simp at h
  | y :: l, 0, h, hm, _ => by
    simp only [List.getElem?_cons_zero, Option.some.injEq] at h
    subst h
    exact if_pos hm
  | y :: l, n + 1, h, hm, hn => by
    have h0 := hn 0 y (Nat.succ_pos n) rfl
    unfold skN
    rw [if_neg (by rw [h0]; simp)]
    rw [skN_at (l := l) (n := n) (by simpa using h) hm fun j z hj hz => hn (j + 1) z (by omega) (by simpa using hz)]
structure Rp where
  a : Nat → Nat
  mem : Int → Int
  vol : Int → Int
  has : Nat → Int
def rp0 : Rp := ⟨fun _ => 0, fun _ => 0, fun _ => 0, fun _ => 0⟩
def midR (P : List (List Ev)) (r : Rp) (x : Ev) : Int := r.has x.t.toNat + addL (((opsP P x.t.toNat).drop (r.a x.t.toNat)).take (skN x ((opsP P x.t.toNat).drop (r.a x.t.toNat))))
def newR (P : List (List Ev)) (r : Rp) (x : Ev) : Int := if x.k = 1 then r.mem x.o else if x.k = 7 then r.vol x.o else midR P r x
def repE (P : List (List Ev)) (r : Rp) (x : Ev) : Rp :=
  ⟨upF r.a x.t.toNat (r.a x.t.toNat + skN x ((opsP P x.t.toNat).drop (r.a x.t.toNat)) + 1), if x.k = 2 then updI r.mem x.o (midR P r x) else r.mem, if x.k = 8 then updI r.vol x.o (midR P r x) else r.vol, upF r.has x.t.toNat (newR P r x)⟩
def repL (P : List (List Ev)) (l : List Ev) : Rp := l.foldl (repE P) rp0
theorem repL_snoc (P : List (List Ev)) (l : List Ev) (x : Ev) : repL P (l ++ [x]) = repE P (repL P l) x := by unfold repL; rw [List.foldl_append]; rfl
theorem upF_comm {β : Type} (f : Nat → β) {i j : Nat} (h : i ≠ j) (u v : β) : upF (upF f i u) j v = upF (upF f j v) i u := by
  funext k
  unfold upF
  by_cases h1 : k = j <;> by_cases h2 : k = i <;> simp [h1, h2] <;> omega
theorem updI_comm (f : Int → Int) {i j : Int} (h : i ≠ j) (u v : Int) : updI (updI f i u) j v = updI (updI f j v) i u := by
  funext k
  unfold updI
  by_cases h1 : k = j <;> by_cases h2 : k = i <;> simp [h1, h2] <;> omega
theorem updI_ne (f : Int → Int) {i j : Int} (h : j ≠ i) (u : Int) : updI f i u j = f j := if_neg h
theorem rep_comm {P : List (List Ev)} (r : Rp) {a b : Ev} (ha : 0 ≤ a.t) (hb : 0 ≤ b.t) (h : dep a b = false) : repE P (repE P r a) b = repE P (repE P r b) a := by
  obtain ⟨hne, h1, _, h7, _⟩ := dep_parts h
  have hn : a.t.toNat ≠ b.t.toNat := by omega
  have ha1 : (repE P r b).a a.t.toNat = r.a a.t.toNat := upF_ne _ _ hn
  have hb1 : (repE P r a).a b.t.toNat = r.a b.t.toNat := upF_ne _ _ (Ne.symm hn)
  have ha2 : (repE P r b).has a.t.toNat = r.has a.t.toNat := upF_ne _ _ hn
  have hb2 : (repE P r a).has b.t.toNat = r.has b.t.toNat := upF_ne _ _ (Ne.symm hn)
  have ma : midR P (repE P r b) a = midR P r a := by unfold midR; rw [ha1, ha2]
  have mb : midR P (repE P r a) b = midR P r b := by unfold midR; rw [hb1, hb2]
  have acc : ∀ k m : Int, (a.k = k ∨ a.k = m) → (b.k = k ∨ b.k = m) → a.o = b.o → pr2 k m a b = true := fun k m g1 g2 g3 => by
    unfold pr2
    simp only [Bool.and_eq_true, Bool.or_eq_true, beq_iff_eq]
    exact ⟨⟨g1, g2⟩, g3⟩
  have c12 : (a.k = 1 ∨ a.k = 2) → (b.k = 1 ∨ b.k = 2) → a.o = b.o → a.k + b.k ≤ 2 := fun g1 g2 g3 => by
    rw [acc 1 2 g1 g2 g3] at h1
    simpa using h1
  have c78 : (a.k = 7 ∨ a.k = 8) → (b.k = 7 ∨ b.k = 8) → a.o = b.o → a.k + b.k ≤ 14 := fun g1 g2 g3 => by
    rw [acc 7 8 g1 g2 g3] at h7
    simpa using h7
  have na : newR P (repE P r b) a = newR P r a := by
    unfold newR
    rw [ma]
    by_cases k1 : a.k = 1
    · rw [if_pos k1, if_pos k1]
      show (if b.k = 2 then updI r.mem b.o _ else r.mem) a.o = _
      by_cases k2 : b.k = 2
      · rw [if_pos k2, updI_ne]; intro e; have := c12 (.inl k1) (.inr k2) e; omega
      · rw [if_neg k2]
    · rw [if_neg k1, if_neg k1]
      by_cases k7 : a.k = 7
      · rw [if_pos k7, if_pos k7]
        show (if b.k = 8 then updI r.vol b.o _ else r.vol) a.o = _
        by_cases k8 : b.k = 8
        · rw [if_pos k8, updI_ne]; intro e; have := c78 (.inl k7) (.inr k8) e; omega
        · rw [if_neg k8]
      · rw [if_neg k7, if_neg k7]
  have nb : newR P (repE P r a) b = newR P r b := by
    unfold newR
    rw [mb]
    by_cases k1 : b.k = 1
    · rw [if_pos k1, if_pos k1]
      show (if a.k = 2 then updI r.mem a.o _ else r.mem) b.o = _
      by_cases k2 : a.k = 2
      · rw [if_pos k2, updI_ne]; intro e; have := c12 (.inr k2) (.inl k1) e.symm; omega
      · rw [if_neg k2]
    · rw [if_neg k1, if_neg k1]
      by_cases k7 : b.k = 7
      · rw [if_pos k7, if_pos k7]
        show (if a.k = 8 then updI r.vol a.o _ else r.vol) b.o = _
        by_cases k8 : a.k = 8
        · rw [if_pos k8, updI_ne]; intro e; have := c78 (.inr k8) (.inl k7) e.symm; omega
        · rw [if_neg k8]
      · rw [if_neg k7, if_neg k7]
  have e : ∀ {x y : Rp}, x.a = y.a → x.mem = y.mem → x.vol = y.vol → x.has = y.has → x = y := fun {x y} h1 h2 h3 h4 => by
    cases x; cases y; simp only at h1 h2 h3 h4; subst h1; subst h2; subst h3; subst h4; rfl
  apply e
  · show upF (repE P r a).a b.t.toNat _ = upF (repE P r b).a a.t.toNat _
    rw [hb1, ha1]
    exact upF_comm _ hn _ _
  · show (if b.k = 2 then updI (if a.k = 2 then _ else _) b.o (midR P (repE P r a) b) else (if a.k = 2 then _ else _)) = (if a.k = 2 then updI (if b.k = 2 then _ else _) a.o (midR P (repE P r b) a) else (if b.k = 2 then _ else _))
    rw [ma, mb]
    by_cases k1 : a.k = 2 <;> by_cases k2 : b.k = 2 <;> simp only [k1, k2, if_true, if_false]
    exact updI_comm _ (fun e => by have := c12 (.inr k1) (.inr k2) e; omega) _ _
  · show (if b.k = 8 then updI (if a.k = 8 then _ else _) b.o (midR P (repE P r a) b) else (if a.k = 8 then _ else _)) = (if a.k = 8 then updI (if b.k = 8 then _ else _) a.o (midR P (repE P r b) a) else (if b.k = 8 then _ else _))
    rw [ma, mb]
    by_cases k1 : a.k = 8 <;> by_cases k2 : b.k = 8 <;> simp only [k1, k2, if_true, if_false]
    exact updI_comm _ (fun e => by have := c78 (.inr k1) (.inr k2) e; omega) _ _
  · show upF (upF r.has a.t.toNat (newR P r a)) b.t.toNat (newR P (repE P r a) b) = upF (upF r.has b.t.toNat (newR P r b)) a.t.toNat (newR P (repE P r b) a)
    rw [na, nb]
    exact upF_comm _ hn _ _
theorem rep_swap {P : List (List Ev)} {l m : List Ev} (hf : Fit l) (h : Sw l m) : repL P l = repL P m := by
  obtain ⟨p, a, b, q, rfl, rfl, hd⟩ := h.form
  have ha := hf a (by simp)
  have hb := hf b (by simp)
  unfold repL
  rw [List.foldl_append, List.foldl_append, List.foldl_cons, List.foldl_cons, List.foldl_cons, List.foldl_cons, rep_comm _ ha.1 hb.1 hd]
theorem rep_eqv {P : List (List Ev)} {l m : List Ev} (hf : Fit l) (h : Eqv l m) : repL P l = repL P m := by
  induction h with
  | refl => rfl
  | step h1 h2 ih => exact ih.trans (rep_swap (h1.fit hf) h2)
end Go.Proofs.Yticnponenkfneaa
namespace Go.Proofs.Yticnponenkfneaa
open Go Go.RowKit

def Sil (P : List (List Ev)) (L : List Ev) (t : Nat) (o : Ev) : Prop := o.k = 3 ∨ (o.k = 5 ∧ owner L o.t ≠ (t : Int)) ∨ (o.k = 6 ∧ ¬ (o.t < P.length ∧ begun L o.t = false))
theorem kind_zero {P : List (List Ev)} {s : Ps} {t : Nat} {o : Ev} (hop : isOp o = true) (h : kindO P s t o = 0) : Sil P s.L t o ∧ o.k ≠ 1 ∧ o.k ≠ 2 ∧ o.k ≠ 8 ∧ o.k ≠ 9 := by
  obtain ⟨k1, k9, _⟩ := isOp_obj hop
  unfold kindO at h
  unfold Sil
  by_cases h1 : o.k = 1
  · rw [if_pos h1] at h; cases h
  · rw [if_neg h1] at h
    by_cases h2 : o.k = 2
    · rw [if_pos h2] at h; cases h
    · rw [if_neg h2] at h
      by_cases h4 : o.k = 4
      · rw [if_pos h4] at h; cases h
      · rw [if_neg h4] at h
        by_cases h5 : o.k = 5
        · rw [if_pos h5] at h
          by_cases hw : owner s.L o.t = t
          · rw [if_pos hw] at h; cases h
          · exact ⟨.inr (.inl ⟨h5, hw⟩), by omega, by omega, by omega, by omega⟩
        · rw [if_neg h5] at h
          by_cases h6 : o.k = 6
          · rw [if_pos h6] at h
            by_cases hw : o.t < P.length ∧ begun s.L o.t = false
            · rw [if_pos hw] at h; cases h
            · exact ⟨.inr (.inr ⟨h6, hw⟩), by omega, by omega, by omega, by omega⟩
          · rw [if_neg h6] at h
            by_cases h7 : o.k = 7
            · rw [if_pos h7] at h; cases h
            · rw [if_neg h7] at h
              by_cases h8 : o.k = 8
              · rw [if_pos h8] at h; cases h
              · rw [if_neg h8] at h
                by_cases h9 : o.k = 9
                · rw [if_pos h9] at h; cases h
                · exact ⟨.inl (by omega), h1, h2, h8, h9⟩
theorem kOf_kind {P : List (List Ev)} {s : Ps} {t : Nat} {o : Ev} (h : kindO P s t o ≠ 0) : kOf o.k = kindO P s t o := by
  rcases kind_cases P s t o with g | ⟨g, g'⟩ | ⟨g, g'⟩ | ⟨g, g'⟩ | ⟨g, g', _⟩ | ⟨g, g', _⟩ | ⟨g, g'⟩ | ⟨g, g'⟩ | ⟨g, g'⟩ <;> first | exact absurd g h | (rw [g, g']; rfl)
structure SimR (P : List (List Ev)) (s : Ps) (r : Rp) : Prop where
  mem : s.mem = r.mem
  vol : s.vol = r.vol
  le : ∀ t, r.a t ≤ s.a t
  has : ∀ t, s.has t = r.has t + addL (((opsP P t).drop (r.a t)).take (s.a t - r.a t))
  sil : ∀ t j o, r.a t ≤ j → j < s.a t → (opsP P t)[j]? = some o → Sil P s.L t o
theorem SimR.start (P : List (List Ev)) : SimR P ps0 rp0 := ⟨rfl, rfl, fun _ => Nat.le_refl _, fun t => by simp [ps0, rp0, addL], fun t j o h1 h2 _ => by simp [ps0] at h2⟩
theorem sil_keep {P : List (List Ev)} {L : List Ev} {u : Nat} {o e : Ev} (h : Sil P L u o) (hne : e.t ≠ (u : Int)) : Sil P (L ++ [e]) u o := by
  rcases h with h | ⟨h1, h2⟩ | ⟨h1, h2⟩
  · exact .inl h
  · refine .inr (.inl ⟨h1, ?_⟩)
    rw [owner_snoc]
    unfold ownB
    split
    · omega
    · split
      · exact hne
      · exact h2
  · refine .inr (.inr ⟨h1, fun g => h2 ⟨g.1, ?_⟩⟩)
    cases hq : begun L o.t
    · rfl
    · have := begun_app (m := [e]) hq; rw [g.2] at this; cases this
theorem drop_at {l : List Ev} {i j : Nat} {o : Ev} (h : l[j]? = some o) (hij : i ≤ j) : (l.drop i)[j - i]? = some o := by rw [List.getElem?_drop, show i + (j - i) = j by omega]; exact h
theorem SimR.quiet {P : List (List Ev)} {s : Ps} {r : Rp} (hP : OkP P) (h : SimR P s r) {t : Nat} {o : Ev} (ho : (opsP P t)[s.a t]? = some o) (hk : kindO P s t o = 0) : SimR P (stepO P s t o) r := by
  obtain ⟨hs, k1, k2, k8, k9⟩ := kind_zero (hP.op t o (List.mem_of_getElem? ho)) hk
  have hL : (stepO P s t o).L = s.L := by show s.L ++ evO P s t o = s.L; unfold evO; rw [if_pos hk, List.append_nil]
  have ha : ∀ u, (stepO P s t o).a u = upF s.a t (s.a t + 1) u := fun _ => rfl
  refine ⟨?_, ?_, fun u => ?_, fun u => ?_, fun u j y h1 h2 h3 => ?_⟩
  · show memO s t o = _; unfold memO; rw [if_neg k2]; exact h.mem
  · show volO s t o = _; unfold volO; rw [if_neg k9]; exact h.vol
  · rw [ha]
    by_cases e : u = t
    · subst e; rw [upF_at]; have := h.le u; omega
    · rw [upF_ne _ _ e]; exact h.le u
  · rw [ha]
    show hasO s t o u = _
    by_cases e : u = t
    · subst e
      rw [upF_at]
      have hle := h.le u
      rw [show s.a u + 1 - r.a u = s.a u - r.a u + 1 by omega, take_snoc' (drop_at ho hle), addL_snoc]
      unfold hasO addO
      rw [if_neg k1]
      by_cases k3 : o.k = 3
      · rw [if_pos k3, if_pos k3, upF_at, h.has u]; omega
      · rw [if_neg k3, if_neg k3, if_neg k8, h.has u]; omega
    · rw [upF_ne _ _ e]
      have : hasO s t o u = s.has u := by
        unfold hasO
        rw [if_neg k1, if_neg k8]
        split
        · exact upF_ne _ _ e
        · rfl
      rw [this]; exact h.has u
  · rw [hL]
    rw [ha] at h2
    by_cases e : u = t
    · subst e
      rw [upF_at] at h2
      by_cases ej : j = s.a u
      · subst ej; rw [ho] at h3; cases h3; exact hs
      · exact h.sil u j y h1 (by omega) h3
    · rw [upF_ne _ _ e] at h2
      exact h.sil u j y h1 h2 h3
theorem loud_no {P : List (List Ev)} {s : Ps} {r : Rp} (h : SimR P s r) {t : Nat} {o : Ev} (hk : kindO P s t o ≠ 0) {j : Nat} {y : Ev} (hj : j < s.a t - r.a t) (hy : ((opsP P t).drop (r.a t))[j]? = some y) : mtch ⟨kindO P s t o, t, o.t⟩ y = false := by
  rw [List.getElem?_drop] at hy
  have hs := h.sil t (r.a t + j) y (by omega) (by omega) hy
  unfold mtch
  rw [Bool.and_eq_false_iff]
  by_cases hyt : y.t = o.t
  · left
    rw [decide_eq_false_iff_not]
    show ¬ kOf y.k = kindO P s t o
    intro hke
    rcases hs with g | ⟨g, g2⟩ | ⟨g, g2⟩
    · rw [g] at hke; exact hk hke.symm
    · rw [g] at hke
      have h4 : kindO P s t o = 4 := hke.symm
      rcases kind_cases P s t o with q | ⟨q, _⟩ | ⟨q, _⟩ | ⟨q, _⟩ | ⟨q, _, q3⟩ | ⟨q, _⟩ | ⟨q, _⟩ | ⟨q, _⟩ | ⟨q, _⟩ <;> first | (rw [hyt] at g2; exact g2 q3) | omega
    · rw [g] at hke
      have h5 : kindO P s t o = 5 := hke.symm
      rcases kind_cases P s t o with q | ⟨q, _⟩ | ⟨q, _⟩ | ⟨q, _⟩ | ⟨q, _⟩ | ⟨q, _, q3⟩ | ⟨q, _⟩ | ⟨q, _⟩ | ⟨q, _⟩ <;> first | (rw [hyt] at g2; exact g2 q3) | omega
  · right
    rw [decide_eq_false_iff_not]
    exact hyt
theorem SimR.loud {P : List (List Ev)} {s : Ps} {r : Rp} (h : SimR P s r) {t : Nat} {o : Ev} (ho : (opsP P t)[s.a t]? = some o) (hk : kindO P s t o ≠ 0) : SimR P (stepO P s t o) (repE P r ⟨kindO P s t o, t, o.t⟩) := by
  have hkO := kOf_kind hk
  have hL : (stepO P s t o).L = s.L ++ [⟨kindO P s t o, t, o.t⟩] := by show s.L ++ evO P s t o = _; unfold evO; rw [if_neg hk]
  have ha : ∀ u, (stepO P s t o).a u = upF s.a t (s.a t + 1) u := fun _ => rfl
  have hle := h.le t
  have hsk : skN ⟨kindO P s t o, t, o.t⟩ ((opsP P t).drop (r.a t)) = s.a t - r.a t := by
    refine skN_at (drop_at ho hle) ?_ fun j y hj hy => loud_no h hk hj hy
    unfold mtch; simp [hkO]
  have htt : ((t : Nat) : Int).toNat = t := Int.toNat_natCast t
  have hmid : midR P r ⟨kindO P s t o, t, o.t⟩ = s.has t := by
    unfold midR
    simp only [htt]
    rw [hsk, h.has t]
  have hra : ∀ u, (repE P r ⟨kindO P s t o, t, o.t⟩).a u = upF r.a t (s.a t + 1) u := fun u => by
    show upF r.a ((t : Int).toNat) _ u = _
    simp only [htt, hsk]
    rw [show r.a t + (s.a t - r.a t) + 1 = s.a t + 1 by omega]
  have hrh : ∀ u, (repE P r ⟨kindO P s t o, t, o.t⟩).has u = upF r.has t (newR P r ⟨kindO P s t o, t, o.t⟩) u := fun u => by
    show upF r.has ((t : Int).toNat) _ u = _
    rw [htt]
  have hkk := kind_cases P s t o
  have hnew : hasO s t o t = newR P r ⟨kindO P s t o, t, o.t⟩ := by
    unfold hasO newR
    rw [hmid]
    show _ = if kindO P s t o = 1 then r.mem o.t else if kindO P s t o = 7 then r.vol o.t else s.has t
    rcases hkk with q | ⟨q, q'⟩ | ⟨q, q'⟩ | ⟨q, q'⟩ | ⟨q, q', _⟩ | ⟨q, q', _⟩ | ⟨q, q'⟩ | ⟨q, q'⟩ | ⟨q, q'⟩ <;> first | exact absurd q hk | (rw [q, q']; simp [upF_at, h.mem, h.vol])
  have hoth : ∀ u, u ≠ t → hasO s t o u = s.has u := fun u e => by
    unfold hasO
    repeat' split
    all_goals first | exact upF_ne _ _ e | rfl
  refine ⟨?_, ?_, fun u => ?_, fun u => ?_, fun u j y h1 h2 h3 => ?_⟩
  · show memO s t o = if kindO P s t o = 2 then updI r.mem o.t (midR P r ⟨kindO P s t o, t, o.t⟩) else r.mem
    rw [hmid]
    unfold memO
    rcases hkk with q | ⟨q, q'⟩ | ⟨q, q'⟩ | ⟨q, q'⟩ | ⟨q, q', _⟩ | ⟨q, q', _⟩ | ⟨q, q'⟩ | ⟨q, q'⟩ | ⟨q, q'⟩ <;> first | exact absurd q hk | (rw [q, q']; simp [h.mem])
  · show volO s t o = if kindO P s t o = 8 then updI r.vol o.t (midR P r ⟨kindO P s t o, t, o.t⟩) else r.vol
    rw [hmid]
    unfold volO
    rcases hkk with q | ⟨q, q'⟩ | ⟨q, q'⟩ | ⟨q, q'⟩ | ⟨q, q', _⟩ | ⟨q, q', _⟩ | ⟨q, q'⟩ | ⟨q, q'⟩ | ⟨q, q'⟩ <;> first | exact absurd q hk | (rw [q, q']; simp [h.vol])
  · rw [ha, hra]
    by_cases e : u = t
    · subst e; rw [upF_at, upF_at]; exact Nat.le_refl _
    · rw [upF_ne _ _ e, upF_ne _ _ e]; exact h.le u
  · rw [ha, hra, hrh]
    show hasO s t o u = _
    by_cases e : u = t
    · subst e
      rw [upF_at, upF_at, upF_at, hnew, Nat.sub_self, List.take_zero]
      simp [addL]
    · rw [upF_ne _ _ e, upF_ne _ _ e, upF_ne _ _ e, hoth u e]; exact h.has u
  · rw [hL]
    rw [ha] at h2
    rw [hra] at h1
    by_cases e : u = t
    · subst e; rw [upF_at] at h1 h2; omega
    · rw [upF_ne _ _ e] at h1 h2
      exact sil_keep (h.sil u j y h1 h2 h3) (by show (t : Int) ≠ u; omega)
theorem sim_pick {P : List (List Ev)} {s : Ps} (hP : OkP P) (h : SimR P s (repL P s.L)) (t : Int) : SimR P (pickP P s t) (repL P (pickP P s t).L) := by
  unfold pickP
  split
  · rename_i hc
    obtain ⟨_, _, o, h3, _⟩ := can_op hc.2
    rw [step_op h3]
    by_cases hk : kindO P s t.toNat o = 0
    · have hL : (stepO P s t.toNat o).L = s.L := by show s.L ++ evO P s t.toNat o = s.L; unfold evO; rw [if_pos hk, List.append_nil]
      rw [hL]; exact h.quiet hP h3 hk
    · have hL : (stepO P s t.toNat o).L = s.L ++ [⟨kindO P s t.toNat o, t.toNat, o.t⟩] := by show s.L ++ evO P s t.toNat o = _; unfold evO; rw [if_neg hk]
      rw [hL, repL_snoc]; exact h.loud h3 hk
  · exact h
theorem sim_picks {P : List (List Ev)} (hP : OkP P) : ∀ (ts : List Int) {s : Ps}, SimR P s (repL P s.L) → SimR P (ts.foldl (pickP P) s) (repL P (ts.foldl (pickP P) s).L)
  | [], _, h => h
  | t :: ts, _, h => sim_picks hP ts (sim_pick hP h t)
theorem sim_run {P : List (List Ev)} (hP : OkP P) (ts : List Int) : SimR P (runP P ts) (repL P (runP P ts).L) := sim_picks hP ts (SimR.start P)
theorem eqv_begun {l m : List Ev} (h : Eqv l m) (t : Int) : begun l t = begun m t := by
  unfold begun did
  congr 1
  induction h with
  | refl => rfl
  | step _ h2 ih =>
    rw [ih]
    obtain ⟨p, a, b, q, rfl, rfl, _⟩ := h2.form
    simp only [List.any_append, List.any_cons]
    rw [Bool.or_left_comm (decide (a.k = 5 ∧ a.o = t))]
end Go.Proofs.Yticnponenkfneaa
namespace Go.Proofs.Yticnponenkfneaa
open Go Go.RowKit

end Go.Proofs.Yticnponenkfneaa

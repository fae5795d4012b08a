import Derived.Test.YtjddahidkodieaaYEr
set_option linter.all false
set_option maxRecDepth 100000
namespace Go.Proofs.Ytjddahidkodieaa
open Go Go.RowKit

def upF {β : Type} (f : Nat → β) (k : Nat) (v : β) : Nat → β := fun j => if j = k then v else f j
def updI (f : Int → Int) (k v : Int) : Int → Int := fun j => if j = k then v else f j
theorem upF_at {β : Type} (f : Nat → β) (k : Nat) (v : β) : upF f k v k = v := if_pos rfl
theorem upF_ne {β : Type} (f : Nat → β) {j k : Nat} (v : β) (h : j ≠ k) : upF f k v j = f j := if_neg h
structure Ps where
  a : Nat → Nat
  L : List Ev
  mem : Int → Int
  vol : Int → Int
  has : Nat → Int
def ps0 : Ps := ⟨fun _ => 0, [], fun _ => 0, fun _ => 0, fun _ => 0⟩
def opsP (P : List (List Ev)) (t : Nat) : List Ev := P.getD t []
def isOp (o : Ev) : Bool :=
  decide (1 ≤ o.k ∧ o.k ≤ 9) && decide (0 ≤ o.t ∧ o.t ≤ (if o.k = 3 then 0 else if o.k = 1 ∨ o.k = 2 then 7 else if o.k = 4 ∨ o.k = 5 then 4 else if o.k = 6 ∨ o.k = 7 then 5 else 3)) && decide (o.k = 3 ∨ o.o = 0) && decide (-1000 ≤ o.o ∧ o.o ≤ 1000)
structure OkP (P : List (List Ev)) : Prop where
  one : 1 ≤ P.length
  six : P.length ≤ 6
  len : ∀ t, (opsP P t).length ≤ 12
  op : ∀ t, ∀ o ∈ opsP P t, isOp o = true
def canO (P : List (List Ev)) (s : Ps) (t : Nat) (o : Ev) : Bool :=
  if o.k = 4 then decide (owner s.L o.t < 0) else if o.k = 7 then decide (o.t < P.length) && (decide (o.t ≠ t) && (begun s.L o.t && decide (s.a o.t.toNat = (opsP P o.t.toNat).length))) else true
def canP (P : List (List Ev)) (s : Ps) (t : Nat) : Bool :=
  decide (t < P.length) && (begun s.L t && (match (opsP P t)[s.a t]? with | none => false | some o => canO P s t o))
def kindO (P : List (List Ev)) (s : Ps) (t : Nat) (o : Ev) : Int :=
  if o.k = 1 then 1 else if o.k = 2 then 2 else if o.k = 4 then 3 else if o.k = 5 then (if owner s.L o.t = t then 4 else 0) else if o.k = 6 then (if o.t < P.length ∧ begun s.L o.t = false then 5 else 0) else if o.k = 7 then 6 else if o.k = 8 then 7 else if o.k = 9 then 8 else 0
def evO (P : List (List Ev)) (s : Ps) (t : Nat) (o : Ev) : List Ev := if kindO P s t o = 0 then [] else [⟨kindO P s t o, t, o.t⟩]
def memO (s : Ps) (t : Nat) (o : Ev) : Int → Int := if o.k = 2 then updI s.mem o.t (s.has t) else s.mem
def volO (s : Ps) (t : Nat) (o : Ev) : Int → Int := if o.k = 9 then updI s.vol o.t (s.has t) else s.vol
def hasO (s : Ps) (t : Nat) (o : Ev) : Nat → Int := if o.k = 1 then upF s.has t (s.mem o.t) else if o.k = 3 then upF s.has t (s.has t + o.o) else if o.k = 8 then upF s.has t (s.vol o.t) else s.has
def stepO (P : List (List Ev)) (s : Ps) (t : Nat) (o : Ev) : Ps := ⟨upF s.a t (s.a t + 1), s.L ++ evO P s t o, memO s t o, volO s t o, hasO s t o⟩
def stepP (P : List (List Ev)) (s : Ps) (t : Nat) : Ps := match (opsP P t)[s.a t]? with | none => s | some o => stepO P s t o
def pickP (P : List (List Ev)) (s : Ps) (t : Int) : Ps := if 0 ≤ t ∧ canP P s t.toNat = true then stepP P s t.toNat else s
def runP (P : List (List Ev)) (ts : List Int) : Ps := ts.foldl (pickP P) ps0
theorem runP_snoc (P : List (List Ev)) (ts : List Int) (t : Int) : runP P (ts ++ [t]) = pickP P (runP P ts) t := by unfold runP; rw [List.foldl_append]; rfl
theorem can_op {P : List (List Ev)} {s : Ps} {t : Nat} (h : canP P s t = true) : t < P.length ∧ begun s.L t = true ∧ ∃ o, (opsP P t)[s.a t]? = some o ∧ canO P s t o = true := by
  unfold canP at h
  simp only [Bool.and_eq_true, decide_eq_true_iff] at h
  obtain ⟨h1, h2, h3⟩ := h
  refine ⟨h1, h2, ?_⟩
  cases ho : (opsP P t)[s.a t]? with
  | none => rw [ho] at h3; cases h3
  | some o => rw [ho] at h3; exact ⟨o, rfl, h3⟩
theorem step_op {P : List (List Ev)} {s : Ps} {t : Nat} {o : Ev} (h : (opsP P t)[s.a t]? = some o) : stepP P s t = stepO P s t o := by unfold stepP; rw [h]
structure PsR (P : List (List Ev)) (s : Ps) : Prop where
  le : ∀ t, s.a t ≤ (opsP P t).length
  idle : ∀ t : Nat, begun s.L t = false → s.a t = 0
  out : ∀ t : Nat, P.length ≤ t → begun s.L t = false
  over : ∀ t : Nat, did s.L 6 t = true → s.a t = (opsP P t).length
  good : good [] s.L
  len : s.L.length ≤ s.a 0 + s.a 1 + s.a 2 + s.a 3 + s.a 4 + s.a 5
theorem opsP_out {P : List (List Ev)} {t : Nat} (h : P.length ≤ t) : opsP P t = [] := by unfold opsP; rw [List.getD_eq_getElem?_getD, List.getElem?_eq_none h]; rfl
theorem PsR.start {P : List (List Ev)} (hP : OkP P) : PsR P ps0 := by
  have h1 := hP.one
  exact ⟨fun _ => Nat.zero_le _, fun _ _ => rfl, fun t ht => by unfold ps0 begun did; simp; omega, fun t h => by unfold ps0 did at h; simp at h, trivial, Nat.zero_le _⟩
theorem isOp_obj {o : Ev} (h : isOp o = true) : 1 ≤ o.k ∧ o.k ≤ 9 ∧ 0 ≤ o.t ∧ (o.k = 1 ∨ o.k = 2 → o.t ≤ 7) ∧ (o.k = 4 ∨ o.k = 5 → o.t ≤ 4) ∧ (o.k = 6 ∨ o.k = 7 → o.t ≤ 5) ∧ (o.k = 8 ∨ o.k = 9 → o.t ≤ 3) := by
  unfold isOp at h
  simp only [Bool.and_eq_true, decide_eq_true_iff] at h
  obtain ⟨⟨⟨h1, h2⟩, _⟩, _⟩ := h
  refine ⟨h1.1, h1.2, h2.1, fun hk => ?_, fun hk => ?_, fun hk => ?_, fun hk => ?_⟩ <;> (have := h2.2; repeat' split at this) <;> omega
theorem kind_cases (P : List (List Ev)) (s : Ps) (t : Nat) (o : Ev) : kindO P s t o = 0 ∨ (kindO P s t o = 1 ∧ o.k = 1) ∨ (kindO P s t o = 2 ∧ o.k = 2) ∨ (kindO P s t o = 3 ∧ o.k = 4) ∨ (kindO P s t o = 4 ∧ o.k = 5 ∧ owner s.L o.t = t) ∨
    (kindO P s t o = 5 ∧ o.k = 6 ∧ o.t < P.length ∧ begun s.L o.t = false) ∨ (kindO P s t o = 6 ∧ o.k = 7) ∨ (kindO P s t o = 7 ∧ o.k = 8) ∨ (kindO P s t o = 8 ∧ o.k = 9) := by
  unfold kindO
  by_cases h1 : o.k = 1
  · simp [h1]
  · by_cases h2 : o.k = 2
    · simp [h2]
    · by_cases h4 : o.k = 4
      · simp [h4]
      · by_cases h5 : o.k = 5
        · by_cases h : owner s.L o.t = t <;> simp [h5, h]
        · by_cases h6 : o.k = 6
          · by_cases h : o.t < P.length ∧ begun s.L o.t = false
            · simp [h6, h]
            · rw [if_neg h1, if_neg h2, if_neg h4, if_neg h5, if_pos h6, if_neg h]; exact .inl rfl
          · by_cases h7 : o.k = 7
            · simp [h7]
            · by_cases h8 : o.k = 8
              · simp [h8]
              · by_cases h9 : o.k = 9
                · simp [h9]
                · simp [h1, h2, h4, h5, h6, h7, h8, h9]
theorem nobj_at {k : Int} : (k = 1 ∨ k = 2 → nobj k = 8) ∧ (k = 3 ∨ k = 4 → nobj k = 5) ∧ (k = 5 ∨ k = 6 → nobj k = 6) ∧ (k = 7 ∨ k = 8 → nobj k = 4) := by
  unfold nobj
  refine ⟨fun h => ?_, fun h => ?_, fun h => ?_, fun h => ?_⟩ <;> repeat' split <;> omega
theorem ev_right {P : List (List Ev)} {s : Ps} (hP : OkP P) (h : PsR P s) {t : Nat} {o : Ev} (ht : t < P.length) (hb : begun s.L t = true) (ho : (opsP P t)[s.a t]? = some o) (hc : canO P s t o = true) (hk : kindO P s t o ≠ 0) : wrong s.L ⟨kindO P s t o, t, o.t⟩ = 0 := by
  obtain ⟨k1, k9, o0, r1, r2, r3, r4⟩ := isOp_obj (hP.op t o (List.mem_of_getElem? ho))
  have hlt := (List.getElem?_eq_some_iff.1 ho).1
  have hd : did s.L 6 t = false := by
    cases hq : did s.L 6 t
    · rfl
    · have := h.over t hq; omega
  have h6 := hP.six
  have hev : isEv ⟨kindO P s t o, t, o.t⟩ = true := by
    obtain ⟨n1, n2, n3, n4⟩ := nobj_at (k := kindO P s t o)
    unfold isEv
    simp only [Bool.and_eq_true, inB_iff]
    rcases kind_cases P s t o with g | ⟨g, g'⟩ | ⟨g, g'⟩ | ⟨g, g'⟩ | ⟨g, g', _⟩ | ⟨g, g', _⟩ | ⟨g, g'⟩ | ⟨g, g'⟩ | ⟨g, g'⟩
    · exact absurd g hk
    · rw [n1 (.inl g)]; have := r1 (.inl g'); omega
    · rw [n1 (.inr g)]; have := r1 (.inr g'); omega
    · rw [n2 (.inl g)]; have := r2 (.inl g'); omega
    · rw [n2 (.inr g)]; have := r2 (.inr g'); omega
    · rw [n3 (.inl g)]; have := r3 (.inl g'); omega
    · rw [n3 (.inr g)]; have := r3 (.inr g'); omega
    · rw [n4 (.inl g)]; have := r4 (.inl g'); omega
    · rw [n4 (.inr g)]; have := r4 (.inr g'); omega
  unfold wrong
  rw [if_neg (by rw [hev]; simp), if_neg (by simp only [hb, hd]; simp)]
  unfold canO at hc
  rcases kind_cases P s t o with g | ⟨g, g'⟩ | ⟨g, g'⟩ | ⟨g, g'⟩ | ⟨g, g', g2⟩ | ⟨g, g', _, g2⟩ | ⟨g, g'⟩ | ⟨g, g'⟩ | ⟨g, g'⟩
  · exact absurd g hk
  · simp [g]
  · simp [g]
  · rw [if_pos g'] at hc
    simp only [decide_eq_true_iff] at hc
    simp [g]; omega
  · simp [g, g2]
  · simp [g, g2]
  · rw [if_neg (by omega), if_pos g'] at hc
    simp only [Bool.and_eq_true, decide_eq_true_iff] at hc
    simp [g, hc.2.2.1, hc.2.1]
  · simp [g]
  · simp [g]
theorem begun_app {l m : List Ev} {t : Int} (h : begun l t = true) : begun (l ++ m) t = true := by
  unfold begun did at h ⊢
  rw [List.any_append]
  simp only [Bool.or_eq_true] at h ⊢
  exact h.imp id .inl
theorem good_snoc {l : List Ev} {e : Ev} (h : good [] l) (hw : wrong l e = 0) : good [] (l ++ [e]) := good_app.2 ⟨h, by rw [List.nil_append]; exact ⟨hw, trivial⟩⟩
theorem PsR.step {P : List (List Ev)} {s : Ps} (hP : OkP P) (h : PsR P s) {t : Nat} {o : Ev} (ht : t < P.length) (hb : begun s.L t = true) (ho : (opsP P t)[s.a t]? = some o) (hc : canO P s t o = true) : PsR P (stepO P s t o) := by
  have hlt := (List.getElem?_eq_some_iff.1 ho).1
  have h6 := hP.six
  have hw := ev_right hP h ht hb ho hc
  have hmono : ∀ x : Int, begun s.L x = true → begun (s.L ++ evO P s t o) x = true := fun x hx => begun_app hx
  -- what the event begins, what it joins
  have hbeg : ∀ x : Int, begun (s.L ++ evO P s t o) x = true → begun s.L x = true ∨ (x = o.t ∧ o.t < P.length ∧ kindO P s t o = 5) := fun x hx => by
    unfold evO at hx
    split at hx
    · rw [List.append_nil] at hx; exact .inl hx
    · rw [begun_snoc] at hx
      simp only [Bool.or_eq_true, decide_eq_true_iff] at hx
      rcases hx with hx | ⟨hk, hx⟩
      · exact .inl hx
      · rcases kind_cases P s t o with g | ⟨g, _⟩ | ⟨g, _⟩ | ⟨g, _⟩ | ⟨g, _⟩ | ⟨g, _, g3, _⟩ | ⟨g, _⟩ | ⟨g, _⟩ | ⟨g, _⟩ <;> first | exact .inr ⟨hx.symm, g3, g⟩ | omega
  have hjoin : ∀ x : Int, did (s.L ++ evO P s t o) 6 x = true → did s.L 6 x = true ∨ (x = o.t ∧ o.k = 7) := fun x hx => by
    unfold evO at hx
    split at hx
    · rw [List.append_nil] at hx; exact .inl hx
    · rw [did_snoc] at hx
      simp only [Bool.or_eq_true, decide_eq_true_iff] at hx
      rcases hx with hx | ⟨hk, hx⟩
      · exact .inl hx
      · rcases kind_cases P s t o with g | ⟨g, _⟩ | ⟨g, _⟩ | ⟨g, _⟩ | ⟨g, _⟩ | ⟨g, _⟩ | ⟨g, g'⟩ | ⟨g, _⟩ | ⟨g, _⟩ <;> first | exact .inr ⟨hx.symm, g'⟩ | omega
  refine ⟨fun x => ?_, fun x hx => ?_, fun x hx => ?_, fun x hx => ?_, ?_, ?_⟩
  · show upF s.a t (s.a t + 1) x ≤ _
    by_cases e : x = t
    · subst e; rw [upF_at]; omega
    · rw [upF_ne _ _ e]; exact h.le x
  · have hx' : begun (s.L ++ evO P s t o) x = false := hx
    have hxf : begun s.L x = false := by
      cases hq : begun s.L x
      · rfl
      · rw [hmono _ hq] at hx'; cases hx'
    have e : x ≠ t := fun e => by rw [e, hb] at hxf; cases hxf
    show upF s.a t (s.a t + 1) x = 0
    rw [upF_ne _ _ e]; exact h.idle x hxf
  · cases hq : begun (s.L ++ evO P s t o) x
    · exact hq
    · rcases hbeg x hq with g | ⟨g, g2, _⟩
      · rw [h.out x hx] at g; cases g
      · omega
  · show upF s.a t (s.a t + 1) x = _
    rcases hjoin x hx with g | ⟨g, g2⟩
    · have hov := h.over x g
      have e : x ≠ t := fun e => by rw [e] at hov; omega
      rw [upF_ne _ _ e]; exact hov
    · unfold canO at hc
      rw [if_neg (by omega), if_pos g2] at hc
      simp only [Bool.and_eq_true, decide_eq_true_iff] at hc
      have e : x ≠ t := fun e => hc.2.1 (by rw [← g, e])
      rw [upF_ne _ _ e]
      have := hc.2.2.2
      rw [← g] at this
      simpa using this
  · show Proofs.Ytjddahidkodieaa.good [] (s.L ++ evO P s t o)
    unfold evO
    split
    · rw [List.append_nil]; exact h.good
    · rename_i hk
      exact good_snoc h.good (hw hk)
  · show (s.L ++ evO P s t o).length ≤ _
    have hl := h.len
    have he : (evO P s t o).length ≤ 1 := by unfold evO; split <;> simp
    rw [List.length_append]
    have ht6 : t = 0 ∨ t = 1 ∨ t = 2 ∨ t = 3 ∨ t = 4 ∨ t = 5 := by omega
    show _ ≤ upF s.a t (s.a t + 1) 0 + upF s.a t (s.a t + 1) 1 + upF s.a t (s.a t + 1) 2 + upF s.a t (s.a t + 1) 3 + upF s.a t (s.a t + 1) 4 + upF s.a t (s.a t + 1) 5
    rcases ht6 with rfl | rfl | rfl | rfl | rfl | rfl <;> simp [upF] <;> omega
theorem PsR.pick {P : List (List Ev)} {s : Ps} (hP : OkP P) (h : PsR P s) (t : Int) : PsR P (pickP P s t) := by
  unfold pickP
  split
  · rename_i hc
    obtain ⟨h1, h2, o, h3, h4⟩ := can_op hc.2
    rw [step_op h3]
    exact h.step hP h1 h2 h3 h4
  · exact h
theorem PsR.picks {P : List (List Ev)} (hP : OkP P) : ∀ (ts : List Int) {s : Ps}, PsR P s → PsR P (ts.foldl (pickP P) s)
  | [], _, h => h
  | t :: ts, _, h => PsR.picks hP ts (h.pick hP t)
theorem runP_ok {P : List (List Ev)} (hP : OkP P) (ts : List Int) : PsR P (runP P ts) := PsR.picks hP ts (PsR.start hP)
theorem PsR.may {P : List (List Ev)} {s : Ps} (hP : OkP P) (h : PsR P s) : Proofs.Ytjddahidkodieaa.may s.L = 0 := by
  refine may_good.2 ⟨?_, h.good⟩
  have h1 := h.len
  have := fun t => Nat.le_trans (h.le t) (hP.len t)
  have h0 := this 0; have h2 := this 1; have h3 := this 2; have h4 := this 3; have h5 := this 4; have h6 := this 5
  omega
theorem pckP_len (P : List (List Ev)) (s : Ps) (t : Int) : (pickP P s t).L.length ≤ s.L.length + 1 ∧ ∃ m, (pickP P s t).L = s.L ++ m := by
  unfold pickP
  split
  · unfold stepP
    split
    · exact ⟨Nat.le_succ _, [], by simp⟩
    · refine ⟨?_, _, rfl⟩
      show (s.L ++ evO P s t.toNat _).length ≤ _
      rw [List.length_append]
      unfold evO
      split <;> simp
  · exact ⟨Nat.le_succ _, [], by simp⟩
theorem picks_len (P : List (List Ev)) : ∀ (ts : List Int) (s : Ps), (ts.foldl (pickP P) s).L.length ≤ s.L.length + ts.length ∧ ∃ m, (ts.foldl (pickP P) s).L = s.L ++ m
  | [], s => ⟨Nat.le_refl _, [], by simp⟩
  | t :: ts, s => by
    obtain ⟨h1, m1, h2⟩ := pckP_len P s t
    obtain ⟨h3, m2, h4⟩ := picks_len P ts (pickP P s t)
    exact ⟨by simp only [List.foldl_cons, List.length_cons]; omega, m1 ++ m2, by rw [List.foldl_cons, h4, h2, List.append_assoc]⟩
def doneP (P : List (List Ev)) (s : Ps) : Bool := (List.range P.length).all fun t => !begun s.L (t : Nat) || decide (s.a t = (opsP P t).length)
def goesP (P : List (List Ev)) (s : Ps) : Bool := (List.range P.length).any fun t => canP P s t
def stuckP (P : List (List Ev)) (s : Ps) : Bool := !doneP P s && !goesP P s
end Go.Proofs.Ytjddahidkodieaa
namespace Go.Proofs.Ytjddahidkodieaa
open Go Go.RowKit

def hldE (h : Int → Bool) (o : Ev) : Int → Bool := fun k => if (o.k = 4 ∨ o.k = 5) ∧ k = o.t then decide (o.k = 4) else h k
def hldL (l : List Ev) : Int → Bool := l.foldl hldE fun _ => false
theorem hldL_snoc (l : List Ev) (o : Ev) : hldL (l ++ [o]) = hldE (hldL l) o := by unfold hldL; rw [List.foldl_append]; rfl
end Go.Proofs.Ytjddahidkodieaa
namespace Go.Proofs.Ytjddahidkodieaa
open Go Go.RowKit

def HdR (P : List (List Ev)) (s : Ps) : Prop := ∀ (t : Nat) (o : Int), owner s.L o = (t : Int) ↔ hldL ((opsP P t).take (s.a t)) o = true
theorem hd_step {P : List (List Ev)} {s : Ps} {t : Nat} {o : Ev} (ho : (opsP P t)[s.a t]? = some o) (hc : canO P s t o = true) (h : HdR P s) : HdR P (stepO P s t o) := by
  intro u k
  show owner (s.L ++ evO P s t o) k = (u : Int) ↔ hldL ((opsP P u).take (upF s.a t (s.a t + 1) u)) k = true
  have hu := h u k
  have hL : (kindO P s t o = 0 ∧ s.L ++ evO P s t o = s.L) ∨ (kindO P s t o ≠ 0 ∧ s.L ++ evO P s t o = s.L ++ [⟨kindO P s t o, t, o.t⟩]) := by
    unfold evO
    by_cases hk : kindO P s t o = 0
    · rw [if_pos hk, List.append_nil]; exact .inl ⟨hk, rfl⟩
    · rw [if_neg hk]; exact .inr ⟨hk, rfl⟩
  have hcases := kind_cases P s t o
  by_cases e : u = t
  · subst e
    rw [upF_at, take_snoc' ho, hldL_snoc]
    unfold hldE
    by_cases h4 : o.k = 4
    · have hk : kindO P s u o = 3 := by unfold kindO; rw [h4]; rfl
      rcases hL with ⟨g, _⟩ | ⟨_, g⟩
      · omega
      · rw [g, hk, owner_snoc]
        unfold ownB
        by_cases ek : k = o.t
        · subst ek; simp [h4]
        · simp [h4, ek, Ne.symm ek]; exact hu
    · by_cases h5 : o.k = 5
      · have hk : kindO P s u o = if owner s.L o.t = u then 4 else 0 := by unfold kindO; rw [h5]; rfl
        by_cases ek : k = o.t
        · subst ek
          by_cases hw : owner s.L o.t = u
          · rw [if_pos hw] at hk
            rcases hL with ⟨g, _⟩ | ⟨_, g⟩
            · omega
            · rw [g, hk, owner_snoc]
              unfold ownB
              simp [h5]
          · rw [if_neg hw] at hk
            rcases hL with ⟨_, g⟩ | ⟨g, _⟩
            · rw [g]; simp [h5, hw]
            · omega
        · have hr : owner (s.L ++ evO P s u o) k = owner s.L k := by
            rcases hL with ⟨_, g⟩ | ⟨_, g⟩
            · rw [g]
            · rw [g, owner_snoc]
              unfold ownB
              rw [if_neg (fun q => ek q.1.symm), if_neg (fun q => ek q.1.symm)]
          rw [hr]; simp [ek]; exact hu
      · have hr : owner (s.L ++ evO P s u o) k = owner s.L k := by
          rcases hL with ⟨_, g⟩ | ⟨_, g⟩
          · rw [g]
          · rw [g, owner_snoc]
            unfold ownB
            rcases hcases with q | ⟨q, _⟩ | ⟨q, _⟩ | ⟨q, q'⟩ | ⟨q, q', _⟩ | ⟨q, _⟩ | ⟨q, _⟩ | ⟨q, _⟩ | ⟨q, _⟩ <;> first | exact absurd q' h4 | exact absurd q' h5 | (rw [if_neg (by simp only [q]; omega), if_neg (by simp only [q]; omega)])
        rw [hr]; simp [h4, h5]; exact hu
  · rw [upF_ne _ _ e, ← hu]
    rcases hL with ⟨_, g⟩ | ⟨_, g⟩
    · rw [g]
    · rw [g, owner_snoc]
      unfold ownB
      simp only
      by_cases ek : o.t = k
      · rcases hcases with q | ⟨q, _⟩ | ⟨q, _⟩ | ⟨q, q'⟩ | ⟨q, q', q2⟩ | ⟨q, _⟩ | ⟨q, _⟩ | ⟨q, _⟩ | ⟨q, _⟩
        · rw [if_neg (by omega), if_neg (by omega)]
        · rw [if_neg (by omega), if_neg (by omega)]
        · rw [if_neg (by omega), if_neg (by omega)]
        · unfold canO at hc
          rw [if_pos q', decide_eq_true_iff, ek] at hc
          rw [if_neg (by omega), if_pos ⟨ek, q⟩]
          constructor <;> intro r <;> omega
        · rw [if_pos ⟨ek, q⟩, ← ek, q2]
          constructor <;> intro r <;> omega
        · rw [if_neg (by omega), if_neg (by omega)]
        · rw [if_neg (by omega), if_neg (by omega)]
        · rw [if_neg (by omega), if_neg (by omega)]
        · rw [if_neg (by omega), if_neg (by omega)]
      · rw [if_neg (fun q => ek q.1), if_neg (fun q => ek q.1)]
def grE (l : List Ev) (a b : Int) : Prop := ∃ (i : Nat) (e : Ev), l[i]? = some e ∧ e.k = 3 ∧ e.o = b ∧ owner (l.take i) a = e.t
def alP (ops : List Ev) (a b : Int) : Prop := ∃ (i : Nat) (o : Ev), ops[i]? = some o ∧ o.k = 4 ∧ o.t = b ∧ hldL (ops.take i) a = true ∧ hldL (ops.take i) b = false
structure GrR (P : List (List Ev)) (s : Ps) : Prop where
  hd : HdR P s
  gr : ∀ a b, grE s.L a b → ∃ t, t < P.length ∧ alP (opsP P t) a b
theorem gr_pick {P : List (List Ev)} {s : Ps} (h : GrR P s) (x : Int) : GrR P (pickP P s x) := by
  unfold pickP
  split
  · rename_i hcan
    obtain ⟨h1, _, o, h3, h4⟩ := can_op hcan.2
    rw [step_op h3]
    refine ⟨hd_step h3 h4 h.hd, fun a b hg => ?_⟩
    obtain ⟨i, e, g1, g2, g3, g4⟩ := hg
    have hL : (stepO P s x.toNat o).L = s.L ++ evO P s x.toNat o := rfl
    rw [hL] at g1 g4
    rcases Nat.lt_or_ge i s.L.length with hi | hi
    · rw [List.getElem?_append_left hi] at g1
      rw [List.take_append_of_le_length (Nat.le_of_lt hi)] at g4
      exact h.gr a b ⟨i, e, g1, g2, g3, g4⟩
    · have hne : kindO P s x.toNat o ≠ 0 := fun hk => by
        unfold evO at g1
        rw [if_pos hk, List.append_nil, List.getElem?_eq_none hi] at g1
        cases g1
      unfold evO at g1 g4
      rw [if_neg hne] at g1 g4
      have hlen := (List.getElem?_eq_some_iff.1 g1).1
      rw [List.length_append, List.length_singleton] at hlen
      obtain rfl : i = s.L.length := by omega
      rw [List.getElem?_append_right hi, Nat.sub_self] at g1
      simp only [List.getElem?_cons_zero, Option.some.injEq] at g1
      subst g1
      rw [List.take_append_of_le_length hi, List.take_length] at g4
      simp only at g2 g3 g4
      have hk4 : o.k = 4 := by
        rcases kind_cases P s x.toNat o with q | ⟨q, _⟩ | ⟨q, _⟩ | ⟨q, q'⟩ | ⟨q, _⟩ | ⟨q, _⟩ | ⟨q, _⟩ | ⟨q, _⟩ | ⟨q, _⟩ <;> first | exact q' | omega
      refine ⟨x.toNat, h1, s.a x.toNat, o, h3, hk4, g3, (h.hd _ a).1 g4, ?_⟩
      unfold canO at h4
      rw [if_pos hk4, decide_eq_true_iff, g3] at h4
      cases hq : hldL ((opsP P x.toNat).take (s.a x.toNat)) b
      · rfl
      · have := (h.hd _ b).2 hq; omega
  · exact h
theorem gr_picks {P : List (List Ev)} : ∀ (ts : List Int) {s : Ps}, GrR P s → GrR P (ts.foldl (pickP P) s)
  | [], _, h => h
  | t :: ts, _, h => gr_picks ts (gr_pick h t)
theorem gr_run (P : List (List Ev)) (ts : List Int) : GrR P (runP P ts) :=
  gr_picks ts ⟨fun t o => by simp [ps0, owner, hldL], fun a b ⟨i, e, h, _⟩ => by simp [ps0] at h⟩
end Go.Proofs.Ytjddahidkodieaa
namespace Go.Proofs.Ytjddahidkodieaa
open Go Go.RowKit

def kOf (k : Int) : Int := if k = 1 then 1 else if k = 2 then 2 else if k = 4 then 3 else if k = 5 then 4 else if k = 6 then 5 else if k = 7 then 6 else if k = 8 then 7 else if k = 9 then 8 else 0
end Go.Proofs.Ytjddahidkodieaa
namespace Go.Proofs.Ytjddahidkodieaa
open Go Go.RowKit

end Go.Proofs.Ytjddahidkodieaa
namespace Go.Proofs.Ytjddahidkodieaa
open Go Go.RowKit

end Go.Proofs.Ytjddahidkodieaa

/- Plain facts: what a program's events alone tell of its end; runs that are the same but for order end the same. No program in sight. -/
import Derived.Test.YtecdilijcjgjmaaPg
import Derived.Test.YtecdilijcjgjmaaSw
set_option linter.all false
set_option maxRecDepth 100000
namespace Go.Proofs.Ytecdilijcjgjmaa
open Go Go.RowKit

def kOf (k : Int) : Int := if k = 1 then 1 else if k = 2 then 2 else if k = 4 then 3 else if k = 5 then 4 else if k = 6 then 5 else if k = 7 then 6 else if k = 8 then 7 else if k = 9 then 8 else 0
def mtch (x o : Ev) : Bool := decide (kOf o.k = x.k) && decide (o.t = x.o)
def addO (o : Ev) : Int := if o.k = 3 then o.o else 0
def addL (l : List Ev) : Int := l.foldr (fun o n => addO o + n) 0
theorem addL_snoc (l : List Ev) (o : Ev) : addL (l ++ [o]) = addL l + addO o := by
  unfold addL
  induction l with
  | nil => simp
  | cons x l ih => simp only [List.cons_append, List.foldr_cons, ih]; omega
/-- How many ops ahead of the first that fits. -/
def skN (x : Ev) : List Ev → Nat
  | [] => 0
  | o :: r => if mtch x o = true then 0 else skN x r + 1
theorem skN_at {x o : Ev} : ∀ {l : List Ev} {n : Nat}, l[n]? = some o → mtch x o = true → (∀ j y, j < n → l[j]? = some y → mtch x y = false) → skN x l = n
  | [], n, h, _, _ => by simp at h
  | y :: l, 0, h, hm, _ => by
    simp only [List.getElem?_cons_zero, Option.some.injEq] at h
    subst h
    exact if_pos hm
  | y :: l, n + 1, h, hm, hn => by
    have h0 := hn 0 y (Nat.succ_pos n) rfl
    unfold skN
    rw [if_neg (by rw [h0]; simp)]
    rw [skN_at (l := l) (n := n) (by simpa using h) hm fun j z hj hz => hn (j + 1) z (by omega) (by simpa using hz)]
/-- What is known by the events. -/
structure Rp where
  a : Nat → Nat
  mem : Int → Int
  vol : Int → Int
  has : Nat → Int
def rp0 : Rp := ⟨fun _ => 0, fun _ => 0, fun _ => 0, fun _ => 0⟩
def midR (P : List (List Ev)) (r : Rp) (x : Ev) : Int := r.has x.t.toNat + addL (((opsP P x.t.toNat).drop (r.a x.t.toNat)).take (skN x ((opsP P x.t.toNat).drop (r.a x.t.toNat))))
def newR (P : List (List Ev)) (r : Rp) (x : Ev) : Int := if x.k = 1 then r.mem x.o else if x.k = 7 then r.vol x.o else midR P r x
def repE (P : List (List Ev)) (r : Rp) (x : Ev) : Rp :=
  ⟨upF r.a x.t.toNat (r.a x.t.toNat + skN x ((opsP P x.t.toNat).drop (r.a x.t.toNat)) + 1), if x.k = 2 then updI r.mem x.o (midR P r x) else r.mem, if x.k = 8 then updI r.vol x.o (midR P r x) else r.vol, upF r.has x.t.toNat (newR P r x)⟩
def repL (P : List (List Ev)) (l : List Ev) : Rp := l.foldl (repE P) rp0
theorem repL_snoc (P : List (List Ev)) (l : List Ev) (x : Ev) : repL P (l ++ [x]) = repE P (repL P l) x := by unfold repL; rw [List.foldl_append]; rfl
theorem upF_comm {β : Type} (f : Nat → β) {i j : Nat} (h : i ≠ j) (u v : β) : upF (upF f i u) j v = upF (upF f j v) i u := by
  funext k
  unfold upF
  by_cases h1 : k = j <;> by_cases h2 : k = i <;> simp [h1, h2] <;> omega
theorem updI_comm (f : Int → Int) {i j : Int} (h : i ≠ j) (u v : Int) : updI (updI f i u) j v = updI (updI f j v) i u := by
  funext k
  unfold updI
  by_cases h1 : k = j <;> by_cases h2 : k = i <;> simp [h1, h2] <;> omega
theorem updI_ne (f : Int → Int) {i j : Int} (h : j ≠ i) (u : Int) : updI f i u j = f j := if_neg h
/-- Independent events of threads that there are. -/
theorem rep_comm {P : List (List Ev)} (r : Rp) {a b : Ev} (ha : 0 ≤ a.t) (hb : 0 ≤ b.t) (h : dep a b = false) : repE P (repE P r a) b = repE P (repE P r b) a := by
  obtain ⟨hne, h1, _, h7, _⟩ := dep_parts h
  have hn : a.t.toNat ≠ b.t.toNat := by omega
  have ha1 : (repE P r b).a a.t.toNat = r.a a.t.toNat := upF_ne _ _ hn
  have hb1 : (repE P r a).a b.t.toNat = r.a b.t.toNat := upF_ne _ _ (Ne.symm hn)
  have ha2 : (repE P r b).has a.t.toNat = r.has a.t.toNat := upF_ne _ _ hn
  have hb2 : (repE P r a).has b.t.toNat = r.has b.t.toNat := upF_ne _ _ (Ne.symm hn)
  have ma : midR P (repE P r b) a = midR P r a := by unfold midR; rw [ha1, ha2]
  have mb : midR P (repE P r a) b = midR P r b := by unfold midR; rw [hb1, hb2]
  have acc : ∀ k m : Int, (a.k = k ∨ a.k = m) → (b.k = k ∨ b.k = m) → a.o = b.o → pr2 k m a b = true := fun k m g1 g2 g3 => by
    unfold pr2
    simp only [Bool.and_eq_true, Bool.or_eq_true, beq_iff_eq]
    exact ⟨⟨g1, g2⟩, g3⟩
  have c12 : (a.k = 1 ∨ a.k = 2) → (b.k = 1 ∨ b.k = 2) → a.o = b.o → a.k + b.k ≤ 2 := fun g1 g2 g3 => by
    rw [acc 1 2 g1 g2 g3] at h1
    simpa using h1
  have c78 : (a.k = 7 ∨ a.k = 8) → (b.k = 7 ∨ b.k = 8) → a.o = b.o → a.k + b.k ≤ 14 := fun g1 g2 g3 => by
    rw [acc 7 8 g1 g2 g3] at h7
    simpa using h7
  have na : newR P (repE P r b) a = newR P r a := by
    unfold newR
    rw [ma]
    by_cases k1 : a.k = 1
    · rw [if_pos k1, if_pos k1]
      show (if b.k = 2 then updI r.mem b.o _ else r.mem) a.o = _
      by_cases k2 : b.k = 2
      · rw [if_pos k2, updI_ne]; intro e; have := c12 (.inl k1) (.inr k2) e; omega
      · rw [if_neg k2]
    · rw [if_neg k1, if_neg k1]
      by_cases k7 : a.k = 7
      · rw [if_pos k7, if_pos k7]
        show (if b.k = 8 then updI r.vol b.o _ else r.vol) a.o = _
        by_cases k8 : b.k = 8
        · rw [if_pos k8, updI_ne]; intro e; have := c78 (.inl k7) (.inr k8) e; omega
        · rw [if_neg k8]
      · rw [if_neg k7, if_neg k7]
  have nb : newR P (repE P r a) b = newR P r b := by
    unfold newR
    rw [mb]
    by_cases k1 : b.k = 1
    · rw [if_pos k1, if_pos k1]
      show (if a.k = 2 then updI r.mem a.o _ else r.mem) b.o = _
      by_cases k2 : a.k = 2
      · rw [if_pos k2, updI_ne]; intro e; have := c12 (.inr k2) (.inl k1) e.symm; omega
      · rw [if_neg k2]
    · rw [if_neg k1, if_neg k1]
      by_cases k7 : b.k = 7
      · rw [if_pos k7, if_pos k7]
        show (if a.k = 8 then updI r.vol a.o _ else r.vol) b.o = _
        by_cases k8 : a.k = 8
        · rw [if_pos k8, updI_ne]; intro e; have := c78 (.inr k8) (.inl k7) e.symm; omega
        · rw [if_neg k8]
      · rw [if_neg k7, if_neg k7]
  have e : ∀ {x y : Rp}, x.a = y.a → x.mem = y.mem → x.vol = y.vol → x.has = y.has → x = y := fun {x y} h1 h2 h3 h4 => by
    cases x; cases y; simp only at h1 h2 h3 h4; subst h1; subst h2; subst h3; subst h4; rfl
  apply e
  · show upF (repE P r a).a b.t.toNat _ = upF (repE P r b).a a.t.toNat _
    rw [hb1, ha1]
    exact upF_comm _ hn _ _
  · show (if b.k = 2 then updI (if a.k = 2 then _ else _) b.o (midR P (repE P r a) b) else (if a.k = 2 then _ else _)) = (if a.k = 2 then updI (if b.k = 2 then _ else _) a.o (midR P (repE P r b) a) else (if b.k = 2 then _ else _))
    rw [ma, mb]
    by_cases k1 : a.k = 2 <;> by_cases k2 : b.k = 2 <;> simp only [k1, k2, if_true, if_false]
    exact updI_comm _ (fun e => by have := c12 (.inr k1) (.inr k2) e; omega) _ _
  · show (if b.k = 8 then updI (if a.k = 8 then _ else _) b.o (midR P (repE P r a) b) else (if a.k = 8 then _ else _)) = (if a.k = 8 then updI (if b.k = 8 then _ else _) a.o (midR P (repE P r b) a) else (if b.k = 8 then _ else _))
    rw [ma, mb]
    by_cases k1 : a.k = 8 <;> by_cases k2 : b.k = 8 <;> simp only [k1, k2, if_true, if_false]
    exact updI_comm _ (fun e => by have := c78 (.inr k1) (.inr k2) e; omega) _ _
  · show upF (upF r.has a.t.toNat (newR P r a)) b.t.toNat (newR P (repE P r a) b) = upF (upF r.has b.t.toNat (newR P r b)) a.t.toNat (newR P (repE P r b) a)
    rw [na, nb]
    exact upF_comm _ hn _ _
theorem rep_swap {P : List (List Ev)} {l m : List Ev} (hf : Fit l) (h : Sw l m) : repL P l = repL P m := by
  obtain ⟨p, a, b, q, rfl, rfl, hd⟩ := h.form
  have ha := hf a (by simp)
  have hb := hf b (by simp)
  unfold repL
  rw [List.foldl_append, List.foldl_append, List.foldl_cons, List.foldl_cons, List.foldl_cons, List.foldl_cons, rep_comm _ ha.1 hb.1 hd]
theorem rep_eqv {P : List (List Ev)} {l m : List Ev} (hf : Fit l) (h : Eqv l m) : repL P l = repL P m := by
  induction h with
  | refl => rfl
  | step h1 h2 ih => exact ih.trans (rep_swap (h1.fit hf) h2)
end Go.Proofs.Ytecdilijcjgjmaa

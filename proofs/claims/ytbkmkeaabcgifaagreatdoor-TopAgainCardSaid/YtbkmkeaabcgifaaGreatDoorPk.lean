/- Plain facts on the binary form: no program in sight. -/
import Derived.Test.YtbkmkeaabcgifaaGreatDoorTx
import Derived.Test.YtbkmkeaabcgifaaGreatDoorTr
set_option linter.all false
set_option maxRecDepth 100000
namespace Go.Proofs.YtbkmkeaabcgifaaGreatDoor
open Go Go.RowKit

def b8 (n : Int) : UInt8 := UInt8.ofNat n.toNat
theorem b8_nat (n : Nat) : (b8 (n : Int)).toNat = n % 256 := by simp [b8, UInt8.toNat_ofNat']
theorem b8_toNat (b : UInt8) : b8 (b.toNat : Int) = b := by
  apply UInt8.toNat_inj.1
  rw [b8_nat]
  have := b.toNat_lt
  omega
theorem b8_inj {a b : Int} (ha : 0 ≤ a ∧ a < 256) (hb : 0 ≤ b ∧ b < 256) (h : b8 a = b8 b) : a = b := by
  obtain ⟨m, rfl⟩ := Int.eq_ofNat_of_zero_le ha.1
  obtain ⟨n, rfl⟩ := Int.eq_ofNat_of_zero_le hb.1
  have h1 := congrArg UInt8.toNat h
  rw [b8_nat, b8_nat] at h1
  omega
def evb (e : Ev) : List UInt8 := [b8 (8 * e.t + e.k - 1), b8 e.o]
def evbs : List Ev → List UInt8
  | [] => []
  | e :: l => b8 (8 * e.t + e.k - 1) :: b8 e.o :: evbs l
theorem evbs_append (l m : List Ev) : evbs (l ++ m) = evbs l ++ evbs m := by
  induction l with
  | nil => rfl
  | cons e l ih => simp only [List.cons_append, evbs, ih]
theorem evbs_length (l : List Ev) : (evbs l).length = 2 * l.length := by
  induction l with
  | nil => rfl
  | cons e l ih => simp only [evbs, List.length_cons, ih]; omega
def bodyL (l : List Ev) : List UInt8 := 68 :: b8 l.length :: evbs l
theorem bodyL_length (l : List Ev) : (bodyL l).length = 2 + 2 * l.length := by simp [bodyL, evbs_length]; omega
def sumN : List UInt8 → Nat
  | [] => 0
  | b :: l => b.toNat + sumN l
theorem sumN_append (l m : List UInt8) : sumN (l ++ m) = sumN l + sumN m := by
  induction l with
  | nil => simp [sumN]
  | cons e l ih => simp only [List.cons_append, sumN, ih]; omega
theorem sumN_le (l : List UInt8) : sumN l ≤ 255 * l.length := by
  induction l with
  | nil => simp [sumN]
  | cons e l ih => have := e.toNat_lt; simp only [sumN, List.length_cons]; omega
theorem sumN_snoc {l : List UInt8} {i : Nat} (h : i < l.length) : sumN (l.take (i + 1)) = sumN (l.take i) + (l[i]).toNat := by
  rw [List.take_succ_eq_append_getElem h, sumN_append]; simp [sumN]
theorem sumN_set {l : List UInt8} {i : Nat} (h : i < l.length) (c : UInt8) : sumN (l.set i c) + (l[i]).toNat = sumN l + c.toNat := by
  induction l generalizing i with
  | nil => simp at h
  | cons b l ih =>
    cases i with
    | zero => simp only [List.set_cons_zero, sumN, List.getElem_cons_zero]; omega
    | succ i => simp only [List.set_cons_succ, sumN, List.getElem_cons_succ]; have := ih (i := i) (by simpa using h); omega
def sumL (n : Nat) : List UInt8 := [b8 ((n / 256 % 256 : Nat) : Int), b8 ((n % 256 : Nat) : Int)]
theorem sumL_eq (n : Nat) (a b : UInt8) : [a, b] = sumL n ↔ n % 65536 = a.toNat * 256 + b.toNat := by
  have ha := a.toNat_lt
  have hb := b.toNat_lt
  constructor
  · intro h
    simp only [sumL, List.cons.injEq, and_true] at h
    have h1 := congrArg UInt8.toNat h.1
    have h2 := congrArg UInt8.toNat h.2
    rw [b8_nat] at h1 h2
    omega
  · intro h
    simp only [sumL, List.cons.injEq, and_true]
    constructor
    · apply UInt8.toNat_inj.1; rw [b8_nat]; omega
    · apply UInt8.toNat_inj.1; rw [b8_nat]; omega
def packL (l : List Ev) : List UInt8 := bodyL l ++ sumL (sumN (bodyL l))
theorem packL_length (l : List Ev) : (packL l).length = 4 + 2 * l.length := by simp [packL, bodyL_length, sumL]; omega
def packOf (l : List Ev) : List UInt8 := if may l = 0 then packL l else []
def evAt (a b : UInt8) : Ev := ⟨(a.toNat : Int) % 8 + 1, (a.toNat : Int) / 8, (b.toNat : Int)⟩
def evsL : List UInt8 → List Ev
  | a :: b :: r => evAt a b :: evsL r
  | _ => []
theorem evb_at (a b : UInt8) : b8 (8 * (evAt a b).t + (evAt a b).k - 1) = a ∧ b8 (evAt a b).o = b := by
  constructor
  · have : 8 * (evAt a b).t + (evAt a b).k - 1 = (a.toNat : Int) := by simp only [evAt]; omega
    rw [this, b8_toNat]
  · exact b8_toNat b
theorem evsL_length : ∀ l : List UInt8, (evsL l).length = l.length / 2
  | [] => rfl
  | [_] => by simp [evsL]
  | a :: b :: r => by simp only [evsL, List.length_cons, evsL_length r]; omega
theorem evsL_get : ∀ (l : List UInt8) (i : Nat) (h : 2 * i + 1 < l.length), (evsL l)[i]? = some (evAt (l[2 * i]'(by omega)) (l[2 * i + 1]))
  | [], i, h => by simp at h
  | [_], i, h => by simp at h
  | a :: b :: r, 0, h => rfl
  | a :: b :: r, i + 1, h => by
    have := evsL_get r i (by simp at h; omega)
    simp only [evsL, List.getElem?_cons_succ, this]
    rfl
theorem evbs_evsL : ∀ l : List UInt8, l.length % 2 = 0 → evbs (evsL l) = l
  | [], _ => rfl
  | [_], h => by simp at h
  | a :: b :: r, h => by
    have := evbs_evsL r (by simp at h; omega)
    simp only [evsL, evbs, this, (evb_at a b).1, (evb_at a b).2]
theorem evsL_evbs (l : List Ev) (h : ∀ e ∈ l, isEv e = true) : evsL (evbs l) = l := by
  induction l with
  | nil => rfl
  | cons e l ih =>
    have hev := h e (List.mem_cons_self ..)
    have h1 := isEv_t hev; have h2 := isEv_o hev; have h3 := isEv_k hev; have h4 := nobj_le e.k
    simp only [evbs, evsL]
    rw [ih fun x hx => h x (List.mem_cons_of_mem _ hx)]
    congr 1
    have e1 : (b8 (8 * e.t + e.k - 1)).toNat = (8 * e.t + e.k - 1).toNat := by
      obtain ⟨m, hm⟩ := Int.eq_ofNat_of_zero_le (show 0 ≤ 8 * e.t + e.k - 1 by omega)
      rw [hm, b8_nat]; omega
    have e2 : (b8 e.o).toNat = e.o.toNat := by
      obtain ⟨m, hm⟩ := Int.eq_ofNat_of_zero_le h2.1
      rw [hm, b8_nat]; omega
    apply Ev.ext' <;> simp only [evAt, e1, e2] <;> omega
def wholeL : List UInt8 → Bool
  | m :: n :: r => m == 68 && r.length == 2 * n.toNat
  | _ => false
/-- What Read answers. -/
def packReadL (s : List UInt8) : List Ev × Int :=
  if s.length < 4 then ([], 4)
  else if s.drop (s.length - 2) ≠ sumL (sumN (s.take (s.length - 2))) then ([], 6)
  else if wholeL (s.take (s.length - 2)) = true ∧ may (evsL ((s.take (s.length - 2)).drop 2)) = 0 then (evsL ((s.take (s.length - 2)).drop 2), 0)
  else ([], 5)
theorem may_isEv {l : List Ev} (h : may l = 0) : ∀ e ∈ l, isEv e = true := by
  intro e he
  obtain ⟨i, hi⟩ := List.getElem?_of_mem he
  exact wrong_isEv (((may_iff l).1 h).2 i e hi)
theorem take_body (b q : List UInt8) (h : q.length = 2) : (b ++ q).take ((b ++ q).length - 2) = b ∧ (b ++ q).drop ((b ++ q).length - 2) = q := by
  have : (b ++ q).length - 2 = b.length := by rw [List.length_append]; omega
  rw [this]
  exact ⟨List.take_left, List.drop_left⟩
theorem whole_body {l : List Ev} (h : l.length ≤ 80) : wholeL (bodyL l) = true := by
  simp only [bodyL, wholeL, Bool.and_eq_true, beq_iff_eq, evbs_length, b8_nat, true_and]
  omega
theorem read_packL {l : List Ev} (h : may l = 0) : packReadL (packL l) = (l, 0) := by
  have hl := packL_length l
  have h80 := ((may_iff l).1 h).1
  obtain ⟨h1, h2⟩ := take_body (bodyL l) (sumL (sumN (bodyL l))) rfl
  have h3 : (bodyL l).drop 2 = evbs l := rfl
  unfold packReadL
  rw [if_neg (by omega)]
  unfold packL
  rw [h1, h2, h3, evsL_evbs l (may_isEv h), if_neg (by simp), if_pos ⟨whole_body h80, h⟩]
theorem whole_pack {b : List UInt8} (h : wholeL b = true) : bodyL (evsL (b.drop 2)) = b := by
  match b, h with
  | m :: n :: r, h =>
    simp only [wholeL, Bool.and_eq_true, beq_iff_eq] at h
    have hl := evsL_length r
    simp only [List.drop_succ_cons, List.drop_zero, bodyL]
    rw [evbs_evsL r (by omega), h.1]
    congr 2
    rw [hl, show r.length / 2 = n.toNat by omega, b8_toNat]
theorem readP_pack {s : List UInt8} (h : (packReadL s).2 = 0) : may (packReadL s).1 = 0 ∧ packL (packReadL s).1 = s := by
  unfold packReadL at *
  by_cases h1 : s.length < 4
  · rw [if_pos h1] at h; cases h
  · rw [if_neg h1] at h ⊢
    by_cases h2 : s.drop (s.length - 2) ≠ sumL (sumN (s.take (s.length - 2)))
    · rw [if_pos h2] at h; cases h
    · rw [if_neg h2] at h ⊢
      by_cases h3 : wholeL (s.take (s.length - 2)) = true ∧ may (evsL ((s.take (s.length - 2)).drop 2)) = 0
      · rw [if_pos h3]
        refine ⟨h3.2, ?_⟩
        have h2' : s.drop (s.length - 2) = sumL (sumN (s.take (s.length - 2))) := by simpa using h2
        unfold packL
        rw [whole_pack h3.1, ← h2', List.take_append_drop]
      · rw [if_neg h3] at h; cases h
theorem readP_nil {s : List UInt8} (h : (packReadL s).2 ≠ 0) : (packReadL s).1 = [] := by
  unfold packReadL at *
  repeat' split
  all_goals first | rfl | skip
  rename_i h1 h2 h3
  rw [if_neg h1, if_neg h2, if_pos h3] at h
  exact absurd rfl h
theorem packL_inj {l m : List Ev} (hl : may l = 0) (hm : may m = 0) (h : packL l = packL m) : l = m := by
  have h1 := read_packL hl
  have h2 := read_packL hm
  rw [h, h2] at h1
  exact (Prod.mk.inj h1).1.symm
/-- The reference's test agrees with the program's. -/
theorem ref_form {s : List UInt8} (h4 : ¬ s.length < 4) (hq : s.drop (s.length - 2) = sumL (sumN (s.take (s.length - 2)))) :
    (may (evsL ((s.take (s.length - 2)).drop 2)) = 0 ∧ packOf (evsL ((s.take (s.length - 2)).drop 2)) = s) ↔ (wholeL (s.take (s.length - 2)) = true ∧ may (evsL ((s.take (s.length - 2)).drop 2)) = 0) := by
  constructor
  · rintro ⟨hm, hp⟩
    refine ⟨?_, hm⟩
    rw [packOf, if_pos hm] at hp
    have h80 := ((may_iff _).1 hm).1
    have h1 := (take_body (bodyL (evsL ((s.take (s.length - 2)).drop 2))) (sumL (sumN (bodyL (evsL ((s.take (s.length - 2)).drop 2))))) rfl).1
    rw [show bodyL (evsL ((s.take (s.length - 2)).drop 2)) ++ sumL (sumN (bodyL (evsL ((s.take (s.length - 2)).drop 2)))) = s from hp] at h1
    have h2 := whole_body h80
    rw [← h1] at h2
    exact h2
  · rintro ⟨hw, hm⟩
    refine ⟨hm, ?_⟩
    rw [packOf, if_pos hm, packL, whole_pack hw, ← hq, List.take_append_drop]
/-- A byte is another one. -/
theorem read_turned {l : List Ev} (h : may l = 0) {i : Nat} (hi : i < (packL l).length) (c : UInt8) : (packReadL ((packL l).set i c)).2 = if (packL l)[i] = c then 0 else 6 := by
  by_cases hc : (packL l)[i] = c
  · rw [if_pos hc]
    subst hc
    rw [List.set_getElem_self, read_packL h]
  · rw [if_neg hc]
    have hlen := packL_length l
    have hb := bodyL_length l
    have hbody := sumN_le (bodyL l)
    have h80 := ((may_iff l).1 h).1
    unfold packReadL
    rw [List.length_set, if_neg (by omega)]
    have key : ((packL l).set i c).drop ((packL l).length - 2) ≠ sumL (sumN (((packL l).set i c).take ((packL l).length - 2))) := by
      have hq : (packL l).length - 2 = (bodyL l).length := by omega
      rw [hq]
      unfold packL at *
      by_cases hib : i < (bodyL l).length
      · rw [List.set_append_left _ _ hib]
        have hls : ((bodyL l).set i c).length = (bodyL l).length := List.length_set ..
        rw [← hls, List.drop_left, List.take_left]
        rw [List.getElem_append_left hib] at hc
        have hs := sumN_set hib c
        generalize (bodyL l).set i c = b' at *
        intro hh
        have hx := (sumL_eq (sumN (bodyL l)) _ _).1 rfl
        have hy := (sumL_eq (sumN b') _ _).1 (show [b8 ((sumN (bodyL l) / 256 % 256 : Nat) : Int), b8 ((sumN (bodyL l) % 256 : Nat) : Int)] = sumL (sumN b') from hh)
        rw [b8_nat, b8_nat] at hx hy
        have h5 := c.toNat_lt
        have h6 := ((bodyL l)[i]).toNat_lt
        apply hc
        apply UInt8.toNat_inj.1
        omega
      · rw [List.set_append_right _ _ (by omega), List.drop_left, List.take_left]
        rw [List.getElem_append_right (by omega)] at hc
        intro hh
        have hk : i - (bodyL l).length < (sumL (sumN (bodyL l))).length := by rw [List.length_append] at hi; omega
        have h5 : ((sumL (sumN (bodyL l))).set (i - (bodyL l).length) c)[i - (bodyL l).length]? = (sumL (sumN (bodyL l)))[i - (bodyL l).length]? := by rw [hh]
        rw [List.getElem?_set_self hk, List.getElem?_eq_getElem hk] at h5
        exact hc (Option.some.inj h5).symm
    rw [if_pos key]
theorem read_cut {l : List Ev} (h : may l = 0) {i : Nat} (hi : i < (packL l).length) : (packReadL ((packL l).take i)).2 ≠ 0 := by
  intro h0
  obtain ⟨hm, hp⟩ := readP_pack h0
  have h1 := packL_length (packReadL ((packL l).take i)).1
  have h2 := packL_length l
  have a80 := ((may_iff _).1 hm).1
  have b80 := ((may_iff _).1 h).1
  generalize (packReadL ((packL l).take i)).1 = m at *
  have hlen : (packL m).length = i := by rw [hp, List.length_take]; omega
  have hg : (packL m)[1]? = (packL l)[1]? := by rw [hp, List.getElem?_take, if_pos (by omega)]
  have g1 : ∀ x : List Ev, (packL x)[1]? = some (b8 x.length) := fun x => rfl
  rw [g1, g1] at hg
  have := b8_inj (by omega) (by omega) (Option.some.inj hg)
  omega
theorem set_cut {l : List UInt8} {i : Nat} (h : i < l.length) (c : UInt8) : l.take i ++ [c] ++ l.drop (i + 1) = l.set i c := by
  rw [List.set_eq_take_append_cons_drop, if_pos h, List.append_assoc]; rfl
end Go.Proofs.YtbkmkeaabcgifaaGreatDoor

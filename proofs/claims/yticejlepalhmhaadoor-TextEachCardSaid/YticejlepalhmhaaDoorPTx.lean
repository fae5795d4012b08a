/- Plain facts on how a text is read: no program in sight. -/
import Derived.Test.YticejlepalhmhaaDoorTx
import Derived.Lib.Bytealg
import Derived.Lib.Split
import Derived.Lib.Join
set_option linter.all false
set_option maxRecDepth 100000
namespace Go.Proofs.YticejlepalhmhaaDoor
open Go Go.RowKit

def cutA (c : UInt8) (l : List UInt8) : List UInt8 := l.takeWhile (· != c)
def cutR (c : UInt8) (l : List UInt8) : List UInt8 := (l.dropWhile (· != c)).drop 1
def cutF (c : UInt8) (l : List UInt8) : Bool := l.contains c
def kindW (w : List UInt8) : Int :=
  if w = [114, 101, 97, 100] then 1 else if w = [119, 114, 105, 116, 101] then 2 else if w = [97, 99, 113, 117, 105, 114, 101] then 3 else if w = [114, 101, 108, 101, 97, 115, 101] then 4
  else if w = [102, 111, 114, 107] then 5 else if w = [106, 111, 105, 110] then 6 else if w = [115, 101, 101] then 7 else if w = [115, 104, 111, 119] then 8 else 0
def lastD (l : List UInt8) : Int := match l.getLast? with | none => -1 | some b => (b.toNat : Int) - 48
/-- What 'guess' answers. -/
def guessL (s : List UInt8) : Ev := ⟨kindW (cutA 32 (cutR 32 s)), lastD (cutA 32 s), lastD (cutR 32 (cutR 32 s))⟩
theorem guess_all : ∀ e ∈ allEv, guessL (lineL e) = e := by decide +kernel
theorem guess_line {e : Ev} (h : isEv e = true) : guessL (lineL e) = e := guess_all e (mem_allEv h)
def goodL (s : List UInt8) : Bool := isEv (guessL s) && decide (lineL (guessL s) = s)
theorem evOf_good {s : List UInt8} (h : goodL s = true) : evOf s = (guessL s, 0) := by
  simp only [goodL, Bool.and_eq_true, decide_eq_true_eq] at h
  have := evOf_line h.1
  rwa [h.2] at this
theorem evOf_bad {s : List UInt8} (h : goodL s = false) : evOf s = (⟨0, 0, 0⟩, 3) := by
  rcases evOf_code s with h1 | h1
  · exfalso
    obtain ⟨h2, h3⟩ := evOf_some h1
    have h4 : guessL s = (evOf s).1 := by rw [← guess_line h2, h3]
    have : goodL s = true := by simp only [goodL, Bool.and_eq_true, decide_eq_true_eq]; rw [h4]; exact ⟨h2, h3⟩
    rw [h] at this; cases this
  · exact h1
theorem lastD_nil : lastD [] = -1 := rfl
theorem lastD_get (l : List UInt8) (h : 0 < l.length) : lastD l = ((l[l.length - 1]'(by omega)).toNat : Int) - 48 := by
  unfold lastD
  rw [List.getLast?_eq_getElem?, List.getElem?_eq_getElem (by omega)]

/-! Cut at a byte. -/
theorem index_miss {l : List UInt8} {c : UInt8} (h : Lib.indexByte l c < 0) : cutA c l = l ∧ cutR c l = [] ∧ cutF c l = false := by
  induction l with
  | nil => exact ⟨rfl, rfl, rfl⟩
  | cons b l ih =>
    unfold Lib.indexByte at h
    by_cases hb : (b == c) = true
    · rw [if_pos hb] at h; omega
    · rw [if_neg hb] at h
      have hn : Lib.indexByte l c < 0 := by
        have := Lib.indexByte_ge l c
        by_cases hm : (Lib.indexByte l c == -1) = true
        · have : Lib.indexByte l c = -1 := by simpa using hm
          omega
        · rw [if_neg hm] at h; omega
      obtain ⟨h1, h2, h3⟩ := ih hn
      have hbc : (b != c) = true := by simpa using hb
      refine ⟨?_, ?_, ?_⟩
      · unfold cutA at *; rw [List.takeWhile_cons, if_pos hbc, h1]
      · unfold cutR at *; rw [List.dropWhile_cons, if_pos hbc, h2]
      · unfold cutF at *; rw [List.contains_cons, h3]; simp at hb ⊢; exact fun e => hb e.symm
theorem index_hit {l : List UInt8} {c : UInt8} {i : Nat} (h : Lib.indexByte l c = i) : cutA c l = l.take i ∧ cutR c l = l.drop (i + 1) ∧ cutF c l = true ∧ i < l.length := by
  induction l generalizing i with
  | nil => exact absurd h (by unfold Lib.indexByte; omega)
  | cons b l ih =>
    unfold Lib.indexByte at h
    by_cases hb : (b == c) = true
    · rw [if_pos hb] at h
      have h0 : i = 0 := by omega
      subst h0
      have hbc : ¬ (b != c) = true := by simpa using hb
      refine ⟨?_, ?_, ?_, by simp⟩
      · unfold cutA; rw [List.takeWhile_cons, if_neg hbc]; rfl
      · unfold cutR; rw [List.dropWhile_cons, if_neg hbc]
      · unfold cutF; rw [List.contains_cons]; simp at hb ⊢; exact .inl hb.symm
    · rw [if_neg hb] at h
      by_cases hm : (Lib.indexByte l c == -1) = true
      · rw [if_pos hm] at h; omega
      · rw [if_neg hm] at h
        have := Lib.indexByte_ge l c
        have hm' : Lib.indexByte l c ≠ -1 := by simpa using hm
        obtain ⟨j, hj⟩ := Int.eq_ofNat_of_zero_le (show 0 ≤ Lib.indexByte l c by omega)
        obtain ⟨h1, h2, h3, h4⟩ := ih hj
        have hij : i = j + 1 := by omega
        subst hij
        have hbc : (b != c) = true := by simpa using hb
        refine ⟨?_, ?_, ?_, by simp; omega⟩
        · unfold cutA at *; rw [List.takeWhile_cons, if_pos hbc, h1]; rfl
        · unfold cutR at *; rw [List.dropWhile_cons, if_pos hbc, h2]; rfl
        · unfold cutF at *; rw [List.contains_cons, h3]; simp
theorem cut_of_index (l : List UInt8) (c : UInt8) : (Lib.indexByte l c < 0 ∧ cutA c l = l ∧ cutR c l = [] ∧ cutF c l = false) ∨ ∃ i : Nat, Lib.indexByte l c = i ∧ cutA c l = l.take i ∧ cutR c l = l.drop (i + 1) ∧ cutF c l = true ∧ i < l.length := by
  rcases Int.lt_or_le (Lib.indexByte l c) 0 with h | h
  · exact .inl ⟨h, index_miss h⟩
  · obtain ⟨i, hi⟩ := Int.eq_ofNat_of_zero_le h
    exact .inr ⟨i, hi, index_hit hi⟩

/-! Lines. -/
def linesL : List UInt8 → List (List UInt8)
  | [] => [[]]
  | c :: l => if c = 10 then [] :: linesL l else match linesL l with | x :: r => (c :: x) :: r | [] => [[c]]
theorem linesL_ne (l : List UInt8) : linesL l ≠ [] := by
  cases l with
  | nil => simp [linesL]
  | cons c l => unfold linesL; split
                · simp
                · split <;> simp
theorem linesL_cut (l : List UInt8) : linesL l = if cutF 10 l = true then cutA 10 l :: linesL (cutR 10 l) else [l] := by
  induction l with
  | nil => rfl
  | cons c l ih =>
    by_cases hc : c = 10
    · subst hc; simp [linesL, cutF, cutA, cutR]
    · have hL : linesL (c :: l) = match linesL l with | x :: r => (c :: x) :: r | [] => [[c]] := by rw [linesL, if_neg hc]
      have h1 : (10 == c) = false := by simpa using fun e => hc e.symm
      have h2 : (c != 10) = true := by simpa using hc
      have hF : cutF 10 (c :: l) = cutF 10 l := by simp [cutF, h1]; exact fun e => absurd e.symm hc
      have hA : cutA 10 (c :: l) = c :: cutA 10 l := by simp [cutA, List.takeWhile_cons, h2]
      have hR : cutR 10 (c :: l) = cutR 10 l := by simp [cutR, List.dropWhile_cons, h2]
      rw [hL, hF, hA, hR]
      by_cases hf : cutF 10 l = true
      · rw [if_pos hf] at ih ⊢; rw [ih]
      · rw [if_neg hf] at ih ⊢; rw [ih]
/-- The lines of a text: none of the empty one. -/
def linesT (l : List UInt8) : List (List UInt8) := if l = [] then [] else linesL l
def okLine (l : List UInt8) : Bool := (evOf l).2 == 0
/-- What Read answers. -/
def readL (s : List UInt8) : List Ev × Int × Int :=
  if 2000 < s.length then ([], 0, 2) else
    match (linesT s).findIdx? (fun l => !okLine l) with
    | some i => ([], (i : Int) + 1, 3)
    | none => if may ((linesT s).map fun l => (evOf l).1) = 0 then ((linesT s).map fun l => (evOf l).1, 0, 0) else ([], 0, may ((linesT s).map fun l => (evOf l).1))
end Go.Proofs.YticejlepalhmhaaDoor

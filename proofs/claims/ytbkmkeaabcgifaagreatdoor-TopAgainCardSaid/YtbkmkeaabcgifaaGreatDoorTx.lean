/- Plain facts on the text form: no program in sight. | Plain facts on how a text is read: no program in sight. -/
import Derived.Test.YtbkmkeaabcgifaaGreatDoorTr
import Derived.Lib.Bytealg
import Derived.Lib.Split
import Derived.Lib.Join
set_option linter.all false
set_option maxRecDepth 100000
namespace Go.Proofs.YtbkmkeaabcgifaaGreatDoor
open Go Go.RowKit

def str (l : List UInt8) : ByteArray := ⟨l.toArray⟩
theorem str_app (a b : List UInt8) : str a ++ str b = str (a ++ b) := by
  apply ByteArray.ext
  simp [str]
theorem str_extract (l : List UInt8) (a b : Nat) : (str l).extract a b = str ((l.take b).drop a) := by
  apply ByteArray.ext
  simp [str, List.drop_take]
theorem str_all (l : List UInt8) : (str l).data.toList = l := by simp [str]
theorem str_sz (l : List UInt8) : (str l).size = l.length := by simp [str, ByteArray.size]
theorem str_size (l : List UInt8) : (str l).size = l.length := by simp [str, ByteArray.size]
theorem str_get (L : List UInt8) (i : Nat) (h : i < (str L).size) (h' : i < L.length) : (str L)[i] = L[i] := by
  show L.toArray[i] = _
  rw [List.getElem_toArray]
theorem str_isEmpty (l : List UInt8) : (str l).toList.isEmpty = l.isEmpty := by
  rw [ByteArray.toList_eq]; rfl
theorem str_inj {a b : List UInt8} (h : str a = str b) : a = b := by
  have := congrArg (fun s : ByteArray => s.data.toList) h
  simpa [str] using this
theorem str_beq (a b : List UInt8) : ((str a).toList == (str b).toList) = decide (a = b) := by
  rw [ByteArray.toList_eq, ByteArray.toList_eq, Bool.eq_iff_iff, beq_iff_eq, decide_eq_true_eq]
  exact Iff.rfl
theorem str_bne (a b : List UInt8) : ((str a).toList != (str b).toList) = !decide (a = b) := by rw [bne, str_beq]
def word (k : Int) : List UInt8 :=
  if k = 1 then [114, 101, 97, 100, 32, 120]
  else if k = 2 then [119, 114, 105, 116, 101, 32, 120]
  else if k = 3 then [97, 99, 113, 117, 105, 114, 101, 32, 109]
  else if k = 4 then [114, 101, 108, 101, 97, 115, 101, 32, 109]
  else if k = 5 then [102, 111, 114, 107, 32, 116]
  else if k = 6 then [106, 111, 105, 110, 32, 116]
  else if k = 7 then [115, 101, 101, 32, 118]
  else if k = 8 then [115, 104, 111, 119, 32, 118]
  else []
def digit (n : Int) : UInt8 := UInt8.ofNat (48 + n.toNat)
def lineL (e : Ev) : List UInt8 := 116 :: digit e.t :: 32 :: (word e.k ++ [digit e.o])
/-- All that an event may be. -/
def allEv : List Ev := (List.range 8).flatMap fun (k : Nat) => (List.range 6).flatMap fun (t : Nat) => (List.range 8).map fun (o : Nat) => ⟨(k : Int) + 1, (t : Int), (o : Int)⟩
def evOf (s : List UInt8) : Ev × Int :=
  match allEv.find? fun e => isEv e && decide (lineL e = s) with
  | some e => (e, 0)
  | none => (⟨0, 0, 0⟩, 3)
theorem digit_inj {a b : Int} (ha : 0 ≤ a ∧ a < 8) (hb : 0 ≤ b ∧ b < 8) (h : digit a = digit b) : a = b := by
  obtain ⟨m, rfl⟩ := Int.eq_ofNat_of_zero_le ha.1
  obtain ⟨n, rfl⟩ := Int.eq_ofNat_of_zero_le hb.1
  have h1 := congrArg UInt8.toNat h
  simp only [digit, Int.toNat_natCast, UInt8.toNat_ofNat'] at h1
  omega
theorem nobj_le (k : Int) : nobj k ≤ 8 := by unfold nobj; repeat' split
                                             all_goals omega
theorem word_inj : ∀ a b : Fin 8, word ((a.val : Int) + 1) = word ((b.val : Int) + 1) → a = b := by decide +kernel
theorem isEv_k {e : Ev} (h : isEv e = true) : 1 ≤ e.k ∧ e.k ≤ 8 := by
  have h1 := isEv_o h
  unfold nobj at h1
  repeat' split at h1
  all_goals omega
theorem line_inj {a b : Ev} (ha : isEv a = true) (hb : isEv b = true) (h : lineL a = lineL b) : a = b := by
  have a1 := isEv_t ha; have a2 := isEv_o ha; have a3 := isEv_k ha; have a4 := nobj_le a.k
  have b1 := isEv_t hb; have b2 := isEv_o hb; have b3 := isEv_k hb; have b4 := nobj_le b.k
  simp only [lineL, List.cons.injEq, true_and] at h
  obtain ⟨h1, h2⟩ := h
  obtain ⟨h3, h4⟩ := List.append_inj' h2 rfl
  simp only [List.cons.injEq, and_true] at h4
  refine Ev.ext' ?_ (digit_inj (by omega) (by omega) h1) (digit_inj (by omega) (by omega) h4)
  have hk := word_inj ⟨(a.k - 1).toNat, by omega⟩ ⟨(b.k - 1).toNat, by omega⟩ (by
    simp only
    rw [show (((a.k - 1).toNat : Nat) : Int) + 1 = a.k by omega, show (((b.k - 1).toNat : Nat) : Int) + 1 = b.k by omega]
    exact h3)
  have := congrArg Fin.val hk
  simp only at this
  omega
theorem mem_allEv {e : Ev} (h : isEv e = true) : e ∈ allEv := by
  have h1 := isEv_t h; have h2 := isEv_o h; have h3 := isEv_k h; have h4 := nobj_le e.k
  simp only [allEv, List.mem_flatMap, List.mem_range, List.mem_map]
  refine ⟨(e.k - 1).toNat, by omega, e.t.toNat, by omega, e.o.toNat, by omega, ?_⟩
  apply Ev.ext' <;> simp only <;> omega
theorem evOf_line {e : Ev} (h : isEv e = true) : evOf (lineL e) = (e, 0) := by
  unfold evOf
  cases hf : allEv.find? fun x => isEv x && decide (lineL x = lineL e) with
  | none =>
    have := List.find?_eq_none.1 hf e (mem_allEv h)
    simp [h] at this
  | some x =>
    have h1 := List.find?_some hf
    simp only [Bool.and_eq_true, decide_eq_true_eq] at h1
    rw [line_inj h1.1 h h1.2]
theorem evOf_some {s : List UInt8} (h : (evOf s).2 = 0) : isEv (evOf s).1 = true ∧ lineL (evOf s).1 = s := by
  unfold evOf at *
  cases hf : allEv.find? fun x => isEv x && decide (lineL x = s) with
  | none => rw [hf] at h; simp at h
  | some x =>
    have h1 := List.find?_some hf
    simp only [Bool.and_eq_true, decide_eq_true_eq] at h1
    exact h1
theorem evOf_code (s : List UInt8) : (evOf s).2 = 0 ∨ evOf s = (⟨0, 0, 0⟩, 3) := by
  unfold evOf
  cases allEv.find? fun x => isEv x && decide (lineL x = s) with
  | none => exact .inr rfl
  | some x => exact .inl rfl
/-- No line feed stands in a line. -/
theorem line_lf {e : Ev} (h : isEv e = true) : (10 : UInt8) ∉ lineL e := by
  have h1 := isEv_t h; have h2 := isEv_o h; have h3 := isEv_k h; have h4 := nobj_le e.k
  have hd : ∀ n : Int, 0 ≤ n ∧ n < 8 → digit n ≠ 10 := fun n hn hh => by
    have h1 := congrArg UInt8.toNat hh
    simp only [digit, UInt8.toNat_ofNat'] at h1
    have h2 : (10 : UInt8).toNat = 10 := rfl
    omega
  have hw : ∀ a : Fin 8, (10 : UInt8) ∉ word ((a.val : Int) + 1) := by decide +kernel
  have hk := hw ⟨(e.k - 1).toNat, by omega⟩
  simp only at hk
  rw [show (((e.k - 1).toNat : Nat) : Int) + 1 = e.k by omega] at hk
  simp only [lineL, List.mem_cons, List.mem_append, not_or, List.not_mem_nil, not_false_eq_true, and_true]
  exact ⟨by decide, fun h => hd _ (by omega) h.symm, by decide, hk, fun h => hd _ (by omega) h.symm⟩
/-- The lines of a trace, with a line feed between two of them. -/
def textL : List Ev → List UInt8
  | [] => []
  | [e] => lineL e
  | e :: f :: l => lineL e ++ 10 :: textL (f :: l)
end Go.Proofs.YtbkmkeaabcgifaaGreatDoor
namespace Go.Proofs.YtbkmkeaabcgifaaGreatDoor
open Go Go.RowKit

def cutA (c : UInt8) (l : List UInt8) : List UInt8 := l.takeWhile (· != c)
def cutR (c : UInt8) (l : List UInt8) : List UInt8 := (l.dropWhile (· != c)).drop 1
def cutF (c : UInt8) (l : List UInt8) : Bool := l.contains c
def kindW (w : List UInt8) : Int :=
  if w = [114, 101, 97, 100] then 1 else if w = [119, 114, 105, 116, 101] then 2 else if w = [97, 99, 113, 117, 105, 114, 101] then 3 else if w = [114, 101, 108, 101, 97, 115, 101] then 4
  else if w = [102, 111, 114, 107] then 5 else if w = [106, 111, 105, 110] then 6 else if w = [115, 101, 101] then 7 else if w = [115, 104, 111, 119] then 8 else 0
def lastD (l : List UInt8) : Int := match l.getLast? with | none => -1 | some b => (b.toNat : Int) - 48
/-- What 'guess' answers. -/
def guessL (s : List UInt8) : Ev := ⟨kindW (cutA 32 (cutR 32 s)), lastD (cutA 32 s), lastD (cutR 32 (cutR 32 s))⟩
theorem guess_all : ∀ e ∈ allEv, guessL (lineL e) = e := by decide +kernel
theorem guess_line {e : Ev} (h : isEv e = true) : guessL (lineL e) = e := guess_all e (mem_allEv h)
def goodL (s : List UInt8) : Bool := isEv (guessL s) && decide (lineL (guessL s) = s)
theorem evOf_good {s : List UInt8} (h : goodL s = true) : evOf s = (guessL s, 0) := by
  simp only [goodL, Bool.and_eq_true, decide_eq_true_eq] at h
  have := evOf_line h.1
  rwa [h.2] at this
theorem evOf_bad {s : List UInt8} (h : goodL s = false) : evOf s = (⟨0, 0, 0⟩, 3) := by
  rcases evOf_code s with h1 | h1
  · exfalso
    obtain ⟨h2, h3⟩ := evOf_some h1
    have h4 : guessL s = (evOf s).1 := by rw [← guess_line h2, h3]
    have : goodL s = true := by simp only [goodL, Bool.and_eq_true, decide_eq_true_eq]; rw [h4]; exact ⟨h2, h3⟩
    rw [h] at this; cases this
  · exact h1
theorem lastD_nil : lastD [] = -1 := rfl
theorem lastD_get (l : List UInt8) (h : 0 < l.length) : lastD l = ((l[l.length - 1]'(by omega)).toNat : Int) - 48 := by
  unfold lastD
  rw [List.getLast?_eq_getElem?, List.getElem?_eq_getElem (by omega)]

/-! Cut at a byte. -/
theorem index_miss {l : List UInt8} {c : UInt8} (h : Lib.indexByte l c < 0) : cutA c l = l ∧ cutR c l = [] ∧ cutF c l = false := by
  induction l with
  | nil => exact ⟨rfl, rfl, rfl⟩
  | cons b l ih =>
    unfold Lib.indexByte at h
    by_cases hb : (b == c) = true
    · rw [if_pos hb] at h; omega
    · rw [if_neg hb] at h
      have hn : Lib.indexByte l c < 0 := by
        have := Lib.indexByte_ge l c
        by_cases hm : (Lib.indexByte l c == -1) = true
        · have : Lib.indexByte l c = -1 := by simpa using hm
          omega
        · rw [if_neg hm] at h; omega
      obtain ⟨h1, h2, h3⟩ := ih hn
      have hbc : (b != c) = true := by simpa using hb
      refine ⟨?_, ?_, ?_⟩
      · unfold cutA at *; rw [List.takeWhile_cons, if_pos hbc, h1]
      · unfold cutR at *; rw [List.dropWhile_cons, if_pos hbc, h2]
      · unfold cutF at *; rw [List.contains_cons, h3]; simp at hb ⊢; exact fun e => hb e.symm
theorem index_hit {l : List UInt8} {c : UInt8} {i : Nat} (h : Lib.indexByte l c = i) : cutA c l = l.take i ∧ cutR c l = l.drop (i + 1) ∧ cutF c l = true ∧ i < l.length := by
  induction l generalizing i with
  | nil => exact absurd h (by unfold Lib.indexByte; omega)
  | cons b l ih =>
    unfold Lib.indexByte at h
    by_cases hb : (b == c) = true
    · rw [if_pos hb] at h
      have h0 : i = 0 := by omega
      subst h0
      have hbc : ¬ (b != c) = true := by simpa using hb
      refine ⟨?_, ?_, ?_, by simp⟩
      · unfold cutA; rw [List.takeWhile_cons, if_neg hbc]; rfl
      · unfold cutR; rw [List.dropWhile_cons, if_neg hbc]
      · unfold cutF; rw [List.contains_cons]; simp at hb ⊢; exact .inl hb.symm
    · rw [if_neg hb] at h
      by_cases hm : (Lib.indexByte l c == -1) = true
      · rw [if_pos hm] at h; omega
      · rw [if_neg hm] at h
        have := Lib.indexByte_ge l c
        have hm' : Lib.indexByte l c ≠ -1 := by simpa using hm
        obtain ⟨j, hj⟩ := Int.eq_ofNat_of_zero_le (show 0 ≤ Lib.indexByte l c by omega)
        obtain ⟨h1, h2, h3, h4⟩ := ih hj
        have hij : i = j + 1 := by omega
        subst hij
        have hbc : (b != c) = true := by simpa using hb
        refine ⟨?_, ?_, ?_, by simp; omega⟩
        · unfold cutA at *; rw [List.takeWhile_cons, if_pos hbc, h1]; rfl
        · unfold cutR at *; rw [List.dropWhile_cons, if_pos hbc, h2]; rfl
        · unfold cutF at *; rw [List.contains_cons, h3]; simp
theorem cut_of_index (l : List UInt8) (c : UInt8) : (Lib.indexByte l c < 0 ∧ cutA c l = l ∧ cutR c l = [] ∧ cutF c l = false) ∨ ∃ i : Nat, Lib.indexByte l c = i ∧ cutA c l = l.take i ∧ cutR c l = l.drop (i + 1) ∧ cutF c l = true ∧ i < l.length := by
  rcases Int.lt_or_le (Lib.indexByte l c) 0 with h | h
  · exact .inl ⟨h, index_miss h⟩
  · obtain ⟨i, hi⟩ := Int.eq_ofNat_of_zero_le h
    exact .inr ⟨i, hi, index_hit hi⟩

/-! Lines. -/
def linesL : List UInt8 → List (List UInt8)
  | [] => [[]]
  | c :: l => if c = 10 then [] :: linesL l else match linesL l with | x :: r => (c :: x) :: r | [] => [[c]]
theorem linesL_ne (l : List UInt8) : linesL l ≠ [] := by
  cases l with
  | nil => simp [linesL]
  | cons c l => unfold linesL; split
                · simp
                · split <;> simp
theorem linesL_cut (l : List UInt8) : linesL l = if cutF 10 l = true then cutA 10 l :: linesL (cutR 10 l) else [l] := by
  induction l with
  | nil => rfl
  | cons c l ih =>
    by_cases hc : c = 10
    · subst hc; simp [linesL, cutF, cutA, cutR]
    · have hL : linesL (c :: l) = match linesL l with | x :: r => (c :: x) :: r | [] => [[c]] := by rw [linesL, if_neg hc]
      have h1 : (10 == c) = false := by simpa using fun e => hc e.symm
      have h2 : (c != 10) = true := by simpa using hc
      have hF : cutF 10 (c :: l) = cutF 10 l := by simp [cutF, h1]; exact fun e => absurd e.symm hc
      have hA : cutA 10 (c :: l) = c :: cutA 10 l := by simp [cutA, List.takeWhile_cons, h2]
      have hR : cutR 10 (c :: l) = cutR 10 l := by simp [cutR, List.dropWhile_cons, h2]
      rw [hL, hF, hA, hR]
      by_cases hf : cutF 10 l = true
      · rw [if_pos hf] at ih ⊢; rw [ih]
      · rw [if_neg hf] at ih ⊢; rw [ih]
/-- The lines of a text: none of the empty one. -/
def linesT (l : List UInt8) : List (List UInt8) := if l = [] then [] else linesL l
def okLine (l : List UInt8) : Bool := (evOf l).2 == 0
/-- What Read answers. -/
def readL (s : List UInt8) : List Ev × Int × Int :=
  if 2000 < s.length then ([], 0, 2) else
    match (linesT s).findIdx? (fun l => !okLine l) with
    | some i => ([], (i : Int) + 1, 3)
    | none => if may ((linesT s).map fun l => (evOf l).1) = 0 then ((linesT s).map fun l => (evOf l).1, 0, 0) else ([], 0, may ((linesT s).map fun l => (evOf l).1))
end Go.Proofs.YtbkmkeaabcgifaaGreatDoor

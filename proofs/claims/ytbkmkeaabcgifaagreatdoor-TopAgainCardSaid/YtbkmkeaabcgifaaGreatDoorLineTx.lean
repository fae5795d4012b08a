/- Plain facts: a printed trace is read unchanged, a text that is read is printed unchanged. -/
import Derived.Test.YtbkmkeaabcgifaaGreatDoorText
import Derived.Test.YtbkmkeaabcgifaaGreatDoorText3
set_option linter.all false
set_option maxRecDepth 100000
namespace Go.Proofs.YtbkmkeaabcgifaaGreatDoor
open Go Go.RowKit

/-! A printed trace is read unchanged; a text that is read is printed unchanged. -/
theorem lines_line (e : List UInt8) (h : (10 : UInt8) ∉ e) : linesL e = [e] := by
  rw [linesL_cut]
  have : cutF 10 e = false := by unfold cutF; rw [Bool.eq_false_iff]; intro hc; exact h (by simpa using hc)
  rw [this]; rfl
theorem lines_app (e r : List UInt8) (h : (10 : UInt8) ∉ e) : linesL (e ++ 10 :: r) = e :: linesL r := by
  induction e with
  | nil => simp [linesL]
  | cons c e ih =>
    have hc : c ≠ 10 := fun hh => h (by rw [hh]; exact List.mem_cons_self ..)
    rw [List.cons_append, linesL, if_neg hc, ih (fun hh => h (List.mem_cons_of_mem _ hh))]
theorem lineL_ne (e : Ev) : lineL e ≠ [] := by simp [lineL]
theorem linesT_text : ∀ l : List Ev, (∀ e ∈ l, isEv e = true) → linesT (textL l) = l.map lineL
  | [], _ => rfl
  | [e], h => by
    show linesT (lineL e) = _
    rw [linesT, if_neg (lineL_ne e), lines_line _ (line_lf (h e (List.mem_cons_self ..)))]; rfl
  | e :: f :: l, h => by
    have ih := linesT_text (f :: l) (fun x hx => h x (List.mem_cons_of_mem _ hx))
    have hne : textL (f :: l) ≠ [] := by
      cases l with
      | nil => exact lineL_ne f
      | cons g l => simp [textL, lineL]
    rw [linesT, if_neg hne] at ih
    rw [textL, linesT, if_neg (by simp [lineL]), lines_app _ _ (line_lf (h e (List.mem_cons_self ..))), ih]; rfl
theorem may_ev {l : List Ev} (h : may l = 0) : ∀ e ∈ l, isEv e = true := fun e he => by
  obtain ⟨i, hi⟩ := List.getElem?_of_mem he
  exact wrong_isEv (((may_iff l).1 h).2 i e hi)
theorem evs_lines {l : List Ev} (h : ∀ e ∈ l, isEv e = true) : evsOf (l.map lineL) = l := by
  unfold evsOf
  rw [List.map_map]
  conv => rhs; rw [← List.map_id l]
  exact List.map_congr_left fun e he => by simp [evOf_line (h e he)]
theorem ok_lines {l : List Ev} (h : ∀ e ∈ l, isEv e = true) : (l.map lineL).all okLine = true := by
  rw [List.all_eq_true]
  intro x hx
  obtain ⟨e, he, rfl⟩ := List.mem_map.1 hx
  unfold okLine; rw [evOf_line (h e he)]; rfl
theorem read_text {l : List Ev} (h : may l = 0) : readL (textL l) = (l, 0, 0) := by
  have he := may_ev h
  have h80 := ((may_iff l).1 h).1
  have hlen := text_len l
  rw [readL_end (by omega) (by rw [linesT_text l he]; exact ok_lines he), linesT_text l he, evs_lines he, if_pos h]
theorem text_lines : ∀ ls : List (List UInt8), ls.all okLine = true → textL (evsOf ls) = Lib.join ls [10]
  | [], _ => rfl
  | [x], h => by
    have hx : okLine x = true := by simpa using h
    rw [Lib.join_one]
    show lineL (evOf x).1 = x
    exact (evOf_some (by simpa [okLine] using hx)).2
  | x :: y :: ls, h => by
    have hx : okLine x = true := by simp at h; exact h.1
    have ih := text_lines (y :: ls) (by simp at h ⊢; exact h.2)
    have e1 := (evOf_some (s := x) (by simpa [okLine] using hx)).2
    show lineL (evOf x).1 ++ 10 :: textL (evsOf (y :: ls)) = _
    rw [ih, e1, Lib.join_cons, Lib.join_cons]
    simp [Lib.joinTail]
theorem join_lines : ∀ s : List UInt8, Lib.join (linesL s) [10] = s
  | [] => rfl
  | c :: s => by
    have ih := join_lines s
    by_cases hc : c = 10
    · subst hc
      rw [linesL, if_pos rfl]
      cases hq : linesL s with
      | nil => exact absurd hq (linesL_ne s)
      | cons x r =>
        rw [hq, Lib.join_cons] at ih
        rw [Lib.join_cons]
        simp only [Lib.joinTail, List.map_cons, List.flatten_cons, List.nil_append] at ih ⊢
        rw [List.append_assoc, ih]; rfl
    · rw [linesL, if_neg hc]
      cases hq : linesL s with
      | nil => exact absurd hq (linesL_ne s)
      | cons x r =>
        rw [hq, Lib.join_cons] at ih
        show Lib.join ((c :: x) :: r) [10] = _
        rw [Lib.join_cons, List.cons_append, ih]
theorem text_read {s : List UInt8} (h : (readL s).2.2 = 0) : may (readL s).1 = 0 ∧ textL (readL s).1 = s ∧ (readL s).2.1 = 0 := by
  by_cases hl : 2000 < s.length
  · rw [readL_long hl] at h; cases h
  · by_cases hok : (linesT s).all okLine = true
    · rw [readL_end hl hok] at h ⊢
      by_cases hm : may (evsOf (linesT s)) = 0
      · rw [if_pos hm]
        refine ⟨hm, ?_, rfl⟩
        show textL (evsOf (linesT s)) = s
        rw [text_lines _ hok]
        unfold linesT
        split
        · rename_i h0; rw [h0]; rfl
        · exact join_lines s
      · rw [if_neg hm] at h; exact absurd h hm
    · exfalso
      unfold readL at h
      rw [if_neg hl] at h
      cases hf : (linesT s).findIdx? (fun l => !okLine l) with
      | none =>
        rw [List.findIdx?_eq_none_iff] at hf
        exact hok (List.all_eq_true.2 fun x hx => by have := hf x hx; simpa using this)
      | some i => rw [hf] at h; cases h
theorem read_nil {s : List UInt8} (h : (readL s).2.2 ≠ 0) : (readL s).1 = [] := by
  unfold readL at *
  split
  · rfl
  · split
    · rfl
    · split
      · rename_i h1 _ h2 h3; exfalso; apply h; rw [if_neg h1, h2, if_pos h3]
      · rfl
theorem lines_text {l : List Ev} (h : may l = 0) (h0 : 0 < l.length) : linesL (textL l) = l.map lineL := by
  have h1 := linesT_text l (may_ev h)
  have hne : textL l ≠ [] := by
    cases l with
    | nil => simp at h0
    | cons e r =>
      cases r with
      | nil => exact lineL_ne e
      | cons f r => simp [textL, lineL]
  rwa [linesT, if_neg hne] at h1
end Go.Proofs.YtbkmkeaabcgifaaGreatDoor

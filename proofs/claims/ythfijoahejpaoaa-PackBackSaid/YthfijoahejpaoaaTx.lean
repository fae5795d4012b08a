/- Plain facts on the text form: no program in sight. -/
import Derived.Test.YthfijoahejpaoaaTr
set_option linter.all false
set_option maxRecDepth 100000
namespace Go.Proofs.Ythfijoahejpaoaa
open Go Go.RowKit

def str (l : List UInt8) : ByteArray := ⟨l.toArray⟩
theorem str_app (a b : List UInt8) : str a ++ str b = str (a ++ b) := by
  apply ByteArray.ext
  simp [str]
theorem str_extract (l : List UInt8) (a b : Nat) : (str l).extract a b = str ((l.take b).drop a) := by
  apply ByteArray.ext
  simp [str, List.drop_take]
theorem str_all (l : List UInt8) : (str l).data.toList = l := by simp [str]
theorem str_sz (l : List UInt8) : (str l).size = l.length := by simp [str, ByteArray.size]
theorem str_size (l : List UInt8) : (str l).size = l.length := by simp [str, ByteArray.size]
theorem str_get (L : List UInt8) (i : Nat) (h : i < (str L).size) (h' : i < L.length) : (str L)[i] = L[i] := by
  show L.toArray[i] = _
  rw [List.getElem_toArray]
theorem str_isEmpty (l : List UInt8) : (str l).toList.isEmpty = l.isEmpty := by
  rw [ByteArray.toList_eq]; rfl
theorem str_inj {a b : List UInt8} (h : str a = str b) : a = b := by
  have := congrArg (fun s : ByteArray => s.data.toList) h
  simpa [str] using this
theorem str_beq (a b : List UInt8) : ((str a).toList == (str b).toList) = decide (a = b) := by
  rw [ByteArray.toList_eq, ByteArray.toList_eq, Bool.eq_iff_iff, beq_iff_eq, decide_eq_true_eq]
  exact Iff.rfl
theorem str_bne (a b : List UInt8) : ((str a).toList != (str b).toList) = !decide (a = b) := by rw [bne, str_beq]
def word (k : Int) : List UInt8 :=
  if k = 1 then [114, 101, 97, 100, 32, 120]
  else if k = 2 then [119, 114, 105, 116, 101, 32, 120]
  else if k = 3 then [97, 99, 113, 117, 105, 114, 101, 32, 109]
  else if k = 4 then [114, 101, 108, 101, 97, 115, 101, 32, 109]
  else if k = 5 then [102, 111, 114, 107, 32, 116]
  else if k = 6 then [106, 111, 105, 110, 32, 116]
  else if k = 7 then [115, 101, 101, 32, 118]
  else if k = 8 then [115, 104, 111, 119, 32, 118]
  else []
def digit (n : Int) : UInt8 := UInt8.ofNat (48 + n.toNat)
def lineL (e : Ev) : List UInt8 := 116 :: digit e.t :: 32 :: (word e.k ++ [digit e.o])
/-- All that an event may be. -/
def allEv : List Ev := (List.range 8).flatMap fun (k : Nat) => (List.range 6).flatMap fun (t : Nat) => (List.range 8).map fun (o : Nat) => ⟨(k : Int) + 1, (t : Int), (o : Int)⟩
def evOf (s : List UInt8) : Ev × Int :=
  match allEv.find? fun e => isEv e && decide (lineL e = s) with
  | some e => (e, 0)
  | none => (⟨0, 0, 0⟩, 3)
theorem digit_inj {a b : Int} (ha : 0 ≤ a ∧ a < 8) (hb : 0 ≤ b ∧ b < 8) (h : digit a = digit b) : a = b := by
  obtain ⟨m, rfl⟩ := Int.eq_ofNat_of_zero_le ha.1
  obtain ⟨n, rfl⟩ := Int.eq_ofNat_of_zero_le hb.1
  have h1 := congrArg UInt8.toNat h
  simp only [digit, Int.toNat_natCast, UInt8.toNat_ofNat'] at h1
  omega
theorem nobj_le (k : Int) : nobj k ≤ 8 := by unfold nobj; repeat' split
                                             all_goals omega
theorem word_inj : ∀ a b : Fin 8, word ((a.val : Int) + 1) = word ((b.val : Int) + 1) → a = b := by decide +kernel
theorem isEv_k {e : Ev} (h : isEv e = true) : 1 ≤ e.k ∧ e.k ≤ 8 := by
  have h1 := isEv_o h
  unfold nobj at h1
  repeat' split at h1
  all_goals omega
theorem line_inj {a b : Ev} (ha : isEv a = true) (hb : isEv b = true) (h : lineL a = lineL b) : a = b := by
  have a1 := isEv_t ha; have a2 := isEv_o ha; have a3 := isEv_k ha; have a4 := nobj_le a.k
  have b1 := isEv_t hb; have b2 := isEv_o hb; have b3 := isEv_k hb; have b4 := nobj_le b.k
  simp only [lineL, List.cons.injEq, true_and] at h
  obtain ⟨h1, h2⟩ := h
  obtain ⟨h3, h4⟩ := List.append_inj' h2 rfl
  simp only [List.cons.injEq, and_true] at h4
  refine Ev.ext' ?_ (digit_inj (by omega) (by omega) h1) (digit_inj (by omega) (by omega) h4)
  have hk := word_inj ⟨(a.k - 1).toNat, by omega⟩ ⟨(b.k - 1).toNat, by omega⟩ (by
    simp only
    rw [show (((a.k - 1).toNat : Nat) : Int) + 1 = a.k by omega, show (((b.k - 1).toNat : Nat) : Int) + 1 = b.k by omega]
    exact h3)
  have := congrArg Fin.val hk
  simp only at this
  omega
theorem mem_allEv {e : Ev} (h : isEv e = true) : e ∈ allEv := by
  have h1 := isEv_t h; have h2 := isEv_o h; have h3 := isEv_k h; have h4 := nobj_le e.k
  simp only [allEv, List.mem_flatMap, List.mem_range, List.mem_map]
  refine ⟨(e.k - 1).toNat, by omega, e.t.toNat, by omega, e.o.toNat, by omega, ?_⟩
  apply Ev.ext' <;> simp only <;> omega
theorem evOf_line {e : Ev} (h : isEv e = true) : evOf (lineL e) = (e, 0) := by
  unfold evOf
  cases hf : allEv.find? fun x => isEv x && decide (lineL x = lineL e) with
  | none =>
    have := List.find?_eq_none.1 hf e (mem_allEv h)
    simp [h] at this
  | some x =>
    have h1 := List.find?_some hf
    simp only [Bool.and_eq_true, decide_eq_true_eq] at h1
    rw [line_inj h1.1 h h1.2]
theorem evOf_some {s : List UInt8} (h : (evOf s).2 = 0) : isEv (evOf s).1 = true ∧ lineL (evOf s).1 = s := by
  unfold evOf at *
  cases hf : allEv.find? fun x => isEv x && decide (lineL x = s) with
  | none => rw [hf] at h; simp at h
  | some x =>
    have h1 := List.find?_some hf
    simp only [Bool.and_eq_true, decide_eq_true_eq] at h1
    exact h1
theorem evOf_code (s : List UInt8) : (evOf s).2 = 0 ∨ evOf s = (⟨0, 0, 0⟩, 3) := by
  unfold evOf
  cases allEv.find? fun x => isEv x && decide (lineL x = s) with
  | none => exact .inr rfl
  | some x => exact .inl rfl
/-- No line feed stands in a line. -/
theorem line_lf {e : Ev} (h : isEv e = true) : (10 : UInt8) ∉ lineL e := by
  have h1 := isEv_t h; have h2 := isEv_o h; have h3 := isEv_k h; have h4 := nobj_le e.k
  have hd : ∀ n : Int, 0 ≤ n ∧ n < 8 → digit n ≠ 10 := fun n hn hh => by
    have h1 := congrArg UInt8.toNat hh
    simp only [digit, UInt8.toNat_ofNat'] at h1
    have h2 : (10 : UInt8).toNat = 10 := rfl
    omega
  have hw : ∀ a : Fin 8, (10 : UInt8) ∉ word ((a.val : Int) + 1) := by decide +kernel
  have hk := hw ⟨(e.k - 1).toNat, by omega⟩
  simp only at hk
  rw [show (((e.k - 1).toNat : Nat) : Int) + 1 = e.k by omega] at hk
  simp only [lineL, List.mem_cons, List.mem_append, not_or, List.not_mem_nil, not_false_eq_true, and_true]
  exact ⟨by decide, fun h => hd _ (by omega) h.symm, by decide, hk, fun h => hd _ (by omega) h.symm⟩
/-- The lines of a trace, with a line feed between two of them. -/
def textL : List Ev → List UInt8
  | [] => []
  | [e] => lineL e
  | e :: f :: l => lineL e ++ 10 :: textL (f :: l)
end Go.Proofs.Ythfijoahejpaoaa

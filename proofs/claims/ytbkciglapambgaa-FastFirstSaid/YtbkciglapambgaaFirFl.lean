/- The first flag of a variable: plain; the function value of FastFirst. -/
import Derived.Test.YtbkciglapambgaaFs
import Derived.Test.YtbkciglapambgaaFst
import Derived.Test.YtbkciglapambgaaEqFl
set_option linter.all false
set_option maxRecDepth 100000
namespace Go.Proofs.Ytbkciglapambgaa
open Go Go.RowKit

def ofV (x : Int) (e : Ev) : Bool := e.t == x
def firFl (x : Int) (fs : List Ev) : Ev := (fs.find? (ofV x)).getD ⟨0, 0, 0⟩
theorem gl_find_no {K : Nat → Int} {l : List Ev} {x : Int} : ∀ {n : Nat}, (∀ j, j < n → (eZ l j).o = x → K j = 0) → (gl K l n).find? (ofV x) = none
  | 0, _ => rfl
  | n + 1, h => by
    rw [gl]
    have ih := gl_find_no (n := n) fun j hj => h j (by omega)
    split
    · exact ih
    · rename_i h0
      rw [List.find?_append, ih]
      have : ofV x (⟨(n : Nat), (eZ l n).o, K n⟩ : Ev) = false := by
        unfold ofV
        rw [beq_eq_false_iff_ne]
        intro e; exact h0 (h n (by omega) e)
      simp [List.find?, this]
theorem gl_find_yes {K : Nat → Int} {l : List Ev} {x : Int} {j : Nat} (h0 : ∀ i, i < j → (eZ l i).o = x → K i = 0) (ho : (eZ l j).o = x) (hk : K j ≠ 0) : ∀ {n : Nat}, j < n → (gl K l n).find? (ofV x) = some ⟨(j : Nat), (eZ l j).o, K j⟩
  | 0, h => by omega
  | n + 1, h => by
    rw [gl]
    by_cases e : j = n
    · subst e
      rw [if_neg hk, List.find?_append, gl_find_no h0]
      have : ofV x (⟨(j : Nat), (eZ l j).o, K j⟩ : Ev) = true := by unfold ofV; simp [ho]
      simp [List.find?, this]
    · have ih := gl_find_yes h0 ho hk (n := n) (by omega)
      split
      · exact ih
      · rw [List.find?_append, ih]; rfl
theorem least {P : Nat → Prop} (hd : ∀ k, P k ∨ ¬ P k) : ∀ n, (∃ j, j < n ∧ P j ∧ ∀ i, i < j → ¬ P i) ∨ ∀ j, j < n → ¬ P j
  | 0 => .inr fun j h => by omega
  | n + 1 => by
    rcases least hd n with ⟨j, h1, h2⟩ | h
    · exact .inl ⟨j, by omega, h2⟩
    · rcases hd n with hp | hp
      · exact .inl ⟨n, by omega, hp, h⟩
      · refine .inr fun j hj => ?_
        rcases Nat.lt_succ_iff_lt_or_eq.1 hj with h1 | rfl
        · exact h j h1
        · exact hp
/-- The first flag of a variable is the same with both detectors. -/
theorem fir_same {l : List Ev} (hm : may l = 0) (x : Int) : (fflags l).find? (ofV x) = (flags l).find? (ofV x) := by
  rw [fflags_ok hm, flags_ok hm, flT_gl]
  rcases least (P := fun j => (eZ l j).o = x ∧ djK l j ≠ 0) (fun k => Classical.em _) l.length with ⟨j, hj, ⟨ho, hk⟩, hlow⟩ | hno
  · have h0 : ∀ i, i < j → (eZ l i).o = x → djK l i = 0 := fun i hi e => Classical.byContradiction fun hn => hlow i hi ⟨e, hn⟩
    have hf : fkK l j = djK l j := fk_first hm hj fun i hi e => h0 i hi (by
      have h1 := (isEv_o (eZ_ok hm (show i < l.length by omega))).1
      have h2 := (isEv_o (eZ_ok hm hj)).1
      unfold oZ at e; omega)
    rw [gl_find_yes h0 ho hk hj, gl_find_yes (fun i hi e => Classical.byContradiction fun hn => fk_dj hm (by omega) hn (h0 i hi e)) ho (by rw [hf]; exact hk) hj, hf]
  · have h0 : ∀ j, j < l.length → (eZ l j).o = x → djK l j = 0 := fun i hi e => Classical.byContradiction fun hn => hno i hi ⟨e, hn⟩
    rw [gl_find_no h0, gl_find_no fun i hi e => Classical.byContradiction fun hn => fk_dj hm hi hn (h0 i hi e)]
theorem fir_same2 {l : List Ev} (x : Int) : firFl x (fflags l) = firFl x (flags l) := by
  unfold firFl
  by_cases hm : may l = 0
  · rw [fir_same hm]
  · rw [fflags_no hm, flags_no hm]
theorem find_map_k {p : Int → Bool} : ∀ fs : List Ev, (fs.map (·.k)).find? p = (fs.find? fun e => p e.k).map (·.k)
  | [] => rfl
  | e :: fs => by
    rw [List.map_cons, List.find?_cons, List.find?_cons]
    cases h : p e.k
    · exact find_map_k fs
    · rfl
theorem find_congr {p q : Ev → Bool} : ∀ {fs : List Ev}, (∀ e ∈ fs, p e = q e) → fs.find? p = fs.find? q
  | [], _ => rfl
  | e :: fs, h => by
    rw [List.find?_cons, List.find?_cons, h e (by simp), find_congr fun a ha => h a (by simp [ha])]
/-- RaceFirst's answer, out of the flags. -/
theorem fst_fl {l : List Ev} (hm : may l = 0) {x : Int} (hx : isV x = true) : fst l x = ((flags l).find? (ofV x)).map (·.k) := by
  rw [fst_ok hm hx]
  have e : secs l = (flags l).map (·.k) := (flAt hm).symm
  rw [e, find_map_k]
  congr 1
  refine find_congr fun a ha => ?_
  rw [flags_ok hm] at ha
  obtain ⟨j, hj, _, rfl⟩ := flT_mem.1 ha
  show ((evZ l ((j : Nat) : Int).toNat).o == x) = ((eZ l j).o == x)
  rw [Int.toNat_natCast]; rfl
theorem fir_kind {l : List Ev} (hm : may l = 0) {x : Int} (hx : isV x = true) : fstI l x = decide (0 < (firFl x (flags l)).o) ∧ (fstI l x = true → (firFl x (flags l)).k = fstA l x) := by
  unfold fstI fstA firFl
  rw [fst_fl hm hx]
  cases hf : (flags l).find? (ofV x) with
  | none => simp
  | some e =>
    have hmem := List.mem_of_find?_eq_some hf
    rw [flags_ok hm] at hmem
    obtain ⟨j, _, h0, rfl⟩ := flT_mem.1 hmem
    have := djK_low l j
    simp
    omega
theorem fir_low {x : Int} {fs : List Ev} {i : Nat} {e : Ev} (h : (fs.take i).find? (ofV x) = none) (he : fs[i]? = some e) (hx : ofV x e = false) : (fs.take (i + 1)).find? (ofV x) = none := by
  rw [take_snoc' he, List.find?_append, h]
  simp [List.find?, hx]
theorem fir_hit {x : Int} {fs : List Ev} {i : Nat} {e : Ev} (h : (fs.take i).find? (ofV x) = none) (he : fs[i]? = some e) (hx : ofV x e = true) : firFl x fs = e := by
  have h1 := List.getElem?_eq_some_iff.1 he
  have e2 : fs = fs.take i ++ e :: fs.drop (i + 1) := by rw [← h1.2, ← List.drop_eq_getElem_cons h1.1, List.take_append_drop]
  unfold firFl
  rw [e2, List.find?_append, h]
  simp [List.find?, hx]
set_option maxHeartbeats 4000000 in
theorem firfl_any (A : Option Addr) (n c : Nat) (fs : List Ev) (x : Int) (w : World) (hl : Sl w A n fs) (hn : n ≤ 80) :
    Calls Try.prog 21 #[.slice A n c, .int .i64 x] w fun e w' => e = .returned (.agg (evv (firFl x fs))) ∧ Below w.heap.size w w' := by
  have HL := Lib.hid hl
  have HN := Lib.hid hl.1
  obtain ⟨b1, hB, hs⟩ := boxes1 w #[.int .i64 0, .int .i64 0, .int .i64 0] 33
  generalize hW : w.alloc (.cells #[.int .i64 0, .int .i64 0, .int .i64 0] 33) = W at *
  have HB := Lib.hid (Bel.of hB)
  have HX := Lib.hid b1
  clear hl hB hs b1
  go_enter Try.func21, Try.ntmps21
  go_wp2
  clear hW
  go_loopw [9] (fun t9 wr => ∃ i : Nat, i ≤ n ∧ t9 = .int .i64 i ∧ (fs.take i).find? (ofV x) = none ∧ Bel W wr) (fun t9 _ => n - (intOf t9).toNat)
  case atStart => exact ⟨0, by omega, rfl, rfl, Bel.refl _⟩
  case round =>
    obtain ⟨i, hi, rfl, hno, hr⟩ := hrel
    have HNO := Lib.hid hno
    have HR := Lib.hid hr
    clear hno hr
    by_cases hlt : i < n
    · have hlt' : (i : Int) < n := by omega
      obtain ⟨bb, off, ⟨ea, ev, eq⟩, rfl, hbb, he, hrg⟩ := HL.out.at_ hlt
      have HE := Lib.hid he
      have hR := Lib.hid (rangeAt_below (HB.out.trans HR.out).out hbb hrg)
      have HRX := Lib.hid (HR.out.trans (ewld_below wr ⟨ea, ev, eq⟩ 33))
      have HY := Lib.hid (ewld_box wr ⟨ea, ev, eq⟩ 33)
      obtain ⟨c0, c1, c2⟩ := ewld_cells wr ⟨ea, ev, eq⟩ 33
      have hres := HRX.out.box HX.out
      clear he hrg c0 c2
      cases hx : (ev == x)
      · have HS := Lib.hid (fir_low HNO.out HE.out (show ofV x ⟨ea, ev, eq⟩ = false from hx))
        clear hres
        go_wp2_with (first | (refine load_ev TFl _ rfl rfl rfl hR.out ?_) | (refine ewld_store TFl _ _ rfl rfl _ rfl rfl rfl ?_))
        go_roundw
        case rel => exact ⟨i + 1, by omega, by go_num, HS.out, HRX.out⟩
        case measure => simp [intOf]; omega
      · have HS := Lib.hid (fir_hit HNO.out HE.out (show ofV x ⟨ea, ev, eq⟩ = true from hx))
        go_wp2_with (first | (refine load_ev TFl _ rfl rfl rfl hR.out ?_) | (refine ewld_store TFl _ _ rfl rfl _ rfl rfl rfl ?_) | (refine loadB _ _ rfl rfl rfl HY.out TFl ?_) | (refine storeB _ _ _ rfl rfl rfl rfl hres rfl TFl (evv_all _) ?_))
        refine bodyPost_ret (res_c Try.results21 rfl (hres.setRow (evv ⟨ea, ev, eq⟩)) TFl) rfl ⟨?_, below_setRow' (HB.out.trans HRX.out).out _ _ (Nat.le_refl _)⟩
        rw [HS.out]
    · obtain rfl : i = n := by omega
      have HS := Lib.hid (show firFl x fs = ⟨0, 0, 0⟩ by
        have h := HNO.out
        rw [← HN.out, List.take_length] at h
        unfold firFl; rw [h]; rfl)
      have hres := HR.out.box HX.out
      go_wp2_with (first | (refine storeB _ _ _ rfl rfl rfl rfl hres rfl TFl (evv_all ⟨0, 0, 0⟩) ?_))
      refine bodyPost_ret (res_c Try.results21 rfl (hres.setRow (evv ⟨0, 0, 0⟩)) TFl) rfl ⟨?_, below_setRow' (HB.out.trans HR.out).out _ _ (Nat.le_refl _)⟩
      rw [HS.out]
end Go.Proofs.Ytbkciglapambgaa

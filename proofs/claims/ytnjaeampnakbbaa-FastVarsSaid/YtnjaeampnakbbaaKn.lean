/- Plain facts: how many events of each thread are known at each event; blocks of counted numbers. -/
import Derived.Test.YtnjaeampnakbbaaOr
import Derived.Test.YtnjaeampnakbbaaBase
set_option linter.all false
set_option maxRecDepth 100000
namespace Go.Proofs.Ytnjaeampnakbbaa
open Go Go.RowKit

/-- A block of m numbers. -/
def nsl (m : Nat) (g : Nat → Nat) : List Value := (List.range m).map fun x => .int .i64 (g x)
def ns (m : Nat) (g : Nat → Nat) : Array Value := (nsl m g).toArray
theorem nsl_length (n : Nat) (g : Nat → Nat) : (nsl n g).length = n := by simp [nsl]
theorem ns_size (n : Nat) (g : Nat → Nat) : (ns n g).size = n := by simp [ns, nsl]
theorem nsl_get {n : Nat} (g : Nat → Nat) {j : Nat} (hj : j < n) : (nsl n g)[j]? = some (.int .i64 (g j)) := by simp [nsl, hj]
theorem ns_get {n : Nat} (g : Nat → Nat) {j : Nat} (hj : j < n) : (ns n g)[j]? = some (.int .i64 (g j)) := by simpa [ns] using nsl_get g hj
theorem ns_congr {n : Nat} {g g' : Nat → Nat} (h : ∀ j, j < n → g j = g' j) : ns n g = ns n g' := by
  unfold ns nsl
  congr 1
  refine List.map_congr_left fun j hj => ?_
  rw [h j (by simpa using hj)]
def updN (g : Nat → Nat) (j v : Nat) : Nat → Nat := fun i => if i = j then v else g i
theorem ns_set (n : Nat) (g : Nat → Nat) (j v : Nat) : (ns n g).setIfInBounds j (.int .i64 v) = ns n (updN g j v) := by
  apply Array.ext_getElem?
  intro i
  rw [Array.getElem?_setIfInBounds]
  by_cases hi : i < n
  · by_cases hij : j = i
    · subst hij; rw [if_pos rfl, if_pos (by rw [ns_size]; exact hi), ns_get _ hi]; simp [updN]
    · rw [if_neg hij, ns_get _ hi, ns_get _ hi]
      simp [updN, Ne.symm hij]
  · have h1 : (ns n g)[i]? = none := Array.getElem?_eq_none (by rw [ns_size]; omega)
    have h2 : (ns n (updN g j v))[i]? = none := Array.getElem?_eq_none (by rw [ns_size]; omega)
    rw [h1, h2]
    split
    · rename_i hij; subst hij; simp [ns_size, hi]
    · rfl
theorem nsl_one (n : Nat) (g : Nat → Nat) : ∀ v ∈ nsl n g, v.oneCell' = true := by
  intro v hv
  simp only [nsl, List.mem_map] at hv
  obtain ⟨j, _, rfl⟩ := hv
  rfl
/-- The block of the counts of a list. -/
def cnt (L : List Nat) (x : Nat) : Nat := L.count x
theorem cnt_snoc (L : List Nat) (y : Nat) : cnt (L ++ [y]) = updN (cnt L) y (cnt L y + 1) := by
  funext x
  unfold cnt updN
  by_cases h : x = y
  · subst h; simp
  · rw [if_neg h, List.count_append]
    have : List.count x [y] = 0 := by simp [List.count_cons, Ne.symm h]
    rw [this]; rfl
theorem cnt_le (L : List Nat) (x : Nat) : cnt L x ≤ L.length := List.count_le_length
theorem cnt_app (L M : List Nat) (x : Nat) : cnt (L ++ M) x = cnt L x + cnt M x := List.count_append
theorem cnt_nil (x : Nat) : cnt [] x = 0 := rfl

/-- The thread of an event. -/
def tOf (l : List Ev) (i : Nat) : Nat := match l[i]? with | some e => e.t.toNat | none => 0
theorem tOf_at {l : List Ev} {i : Nat} {e : Ev} (h : l[i]? = some e) : tOf l i = e.t.toNat := by unfold tOf; rw [h]
/-- Event i is known at event j and is of thread t. -/
def knB (l : List Ev) (j t i : Nat) : Bool := (i == j || bef l i j) && tOf l i == t
def kn (l : List Ev) (j t : Nat) : Nat := (List.range l.length).countP (knB l j t)
/-- The cells of a block of clocks that are counted up. -/
def ownK (l : List Ev) (k : Nat) : List Nat := (List.range k).map fun i => i * 6 + tOf l i
def oth (l : List Ev) (ps : List (Nat × Nat)) : List Nat := ps.map fun p => p.2 * 6 + tOf l p.1
def rowK (l : List Ev) (j i : Nat) : List Nat := ((List.range i).filter fun a => a == j || bef l a j).map fun a => j * 6 + tOf l a
def refK (l : List Ev) (j i : Nat) : List Nat := ((List.range j).flatMap fun b => rowK l b l.length) ++ rowK l j i
theorem own_succ (l : List Ev) (k : Nat) : ownK l (k + 1) = ownK l k ++ [k * 6 + tOf l k] := by simp [ownK, List.range_succ]
theorem own_len (l : List Ev) (k : Nat) : (ownK l k).length = k := by simp [ownK]
theorem oth_snoc (l : List Ev) (ps : List (Nat × Nat)) (p : Nat × Nat) : oth l (ps ++ [p]) = oth l ps ++ [p.2 * 6 + tOf l p.1] := by simp [oth]
theorem oth_len (l : List Ev) (ps : List (Nat × Nat)) : (oth l ps).length = ps.length := by simp [oth]
theorem rowK_yes {l : List Ev} {j i : Nat} (h : (i == j || bef l i j) = true) : rowK l j (i + 1) = rowK l j i ++ [j * 6 + tOf l i] := by simp [rowK, List.range_succ, h]
theorem rowK_no {l : List Ev} {j i : Nat} (h : (i == j || bef l i j) = false) : rowK l j (i + 1) = rowK l j i := by simp [rowK, List.range_succ, h]
theorem refK_yes {l : List Ev} {j i : Nat} (h : (i == j || bef l i j) = true) : refK l j (i + 1) = refK l j i ++ [j * 6 + tOf l i] := by simp [refK, rowK_yes h]
theorem refK_no {l : List Ev} {j i : Nat} (h : (i == j || bef l i j) = false) : refK l j (i + 1) = refK l j i := by simp [refK, rowK_no h]
theorem refK_next (l : List Ev) (j : Nat) : refK l (j + 1) 0 = refK l j l.length := by simp [refK, List.range_succ, rowK]
theorem rowK_len (l : List Ev) (j i : Nat) : (rowK l j i).length ≤ i := by
  unfold rowK; rw [List.length_map]; exact Nat.le_trans (List.length_filter_le _ _) (by simp)
theorem refK_len (l : List Ev) (j i : Nat) : (refK l j i).length ≤ j * l.length + i := by
  unfold refK
  rw [List.length_append]
  have h1 := rowK_len l j i
  have h2 : ((List.range j).flatMap fun b => rowK l b l.length).length ≤ j * l.length := by
    clear h1
    induction j with
    | zero => simp
    | succ j ih =>
      rw [List.range_succ, List.flatMap_append, List.length_append, Nat.succ_mul]
      have := rowK_len l j l.length
      simp only [List.flatMap_cons, List.flatMap_nil, List.append_nil]
      omega
  omega
theorem countP_one (q : Nat → Bool) (j : Nat) : ∀ n, (List.range n).countP (fun i => i == j && q i) = if j < n ∧ q j = true then 1 else 0
  | 0 => by simp
  | n + 1 => by
    rw [List.range_succ, List.countP_append, countP_one q j n]
    simp only [List.countP_cons, List.countP_nil]
    by_cases h : n = j
    · subst h
      cases hq : q n <;> simp
    · have h1 : (n == j) = false := by simpa using h
      simp only [h1, Bool.false_and, Bool.false_eq_true, if_false]
      by_cases h2 : j < n ∧ q j = true
      · rw [if_pos h2, if_pos ⟨by omega, h2.2⟩]
      · rw [if_neg h2, if_neg (fun h3 => h2 ⟨by omega, h3.2⟩)]
theorem cnt_map (f : Nat → Nat) (L : List Nat) (x : Nat) : cnt (L.map f) x = L.countP (fun a => f a == x) := by
  unfold cnt; rw [List.count, List.countP_map]; rfl
section
variable {l : List Ev} (hT : ∀ i, i < l.length → tOf l i < 6)
include hT
theorem cell_eq {i j t b : Nat} (hi : i < l.length) (ht : t < 6) : (b * 6 + tOf l i == j * 6 + t) = (b == j && tOf l i == t) := by
  have := hT i hi
  rw [Bool.eq_iff_iff]
  simp only [beq_iff_eq, Bool.and_eq_true]
  omega
theorem own_count {j t : Nat} (hj : j < l.length) (ht : t < 6) : cnt (ownK l l.length) (j * 6 + t) = if tOf l j = t then 1 else 0 := by
  unfold ownK
  rw [cnt_map, List.countP_congr (q := fun i => i == j && tOf l i == t) (fun i hi => by rw [cell_eq hT (by simpa using hi) ht]), countP_one]
  by_cases h : tOf l j = t
  · rw [if_pos h, if_pos ⟨hj, by simpa using h⟩]
  · rw [if_neg h, if_neg (fun h2 => h (by simpa using h2.2))]
theorem oth_row {i j t : Nat} (hi : i < l.length) (hj : j < l.length) (ht : t < 6) : cnt (oth l (rowTo (bef l) i l.length)) (j * 6 + t) = if (bef l i j && tOf l i == t) = true then 1 else 0 := by
  unfold oth rowTo
  rw [List.map_map, cnt_map, List.countP_filter, List.countP_congr (q := fun k => k == j && (bef l i k && tOf l i == t)) (fun k hk => by
    show (k * 6 + tOf l i == j * 6 + t && bef l i k) = true ↔ _
    rw [cell_eq hT hi ht]
    cases (k == j) <;> cases (bef l i k) <;> cases (tOf l i == t) <;> simp), countP_one]
  by_cases h : (bef l i j && tOf l i == t) = true
  · rw [if_pos h, if_pos ⟨hj, h⟩]
  · rw [if_neg h, if_neg (fun h2 => h h2.2)]
theorem oth_part {j t : Nat} (hj : j < l.length) (ht : t < 6) : ∀ i, i ≤ l.length → cnt (oth l (prs (bef l) l.length i 0)) (j * 6 + t) = (List.range i).countP (fun a => bef l a j && tOf l a == t)
  | 0, _ => by rw [prs_zero]; rfl
  | i + 1, hi => by
    rw [prs_next]
    have h1 : prs (bef l) l.length i l.length = prs (bef l) l.length i 0 ++ rowTo (bef l) i l.length := by simp [prs, rowTo]
    have h2 : oth l (prs (bef l) l.length i 0 ++ rowTo (bef l) i l.length) = oth l (prs (bef l) l.length i 0) ++ oth l (rowTo (bef l) i l.length) := by simp [oth]
    rw [h1, h2, cnt_app, oth_part hj ht i (by omega), oth_row hT (by omega) hj ht, List.range_succ, List.countP_append]
    simp only [List.countP_cons, List.countP_nil, Nat.zero_add]
theorem countP_kn (j t : Nat) (hb : bef l j j = false) : ∀ n, (List.range n).countP (knB l j t) = (if j < n ∧ tOf l j = t then 1 else 0) + (List.range n).countP (fun a => bef l a j && tOf l a == t)
  | 0 => by simp
  | n + 1 => by
    rw [List.range_succ, List.countP_append, List.countP_append, countP_kn j t hb n]
    simp only [List.countP_cons, List.countP_nil, Nat.zero_add]
    unfold knB
    by_cases h : n = j
    · subst h
      by_cases h2 : tOf l n = t
      · simp [hb, h2]; omega
      · simp [hb, h2]
    · have h1 : (n == j) = false := by simpa using h
      simp only [h1, Bool.false_or]
      by_cases h2 : j < n ∧ tOf l j = t
      · rw [if_pos h2, if_pos (show j < n + 1 ∧ tOf l j = t from ⟨by omega, h2.2⟩)]; omega
      · rw [if_neg h2, if_neg (show ¬ (j < n + 1 ∧ tOf l j = t) from fun h3 => h2 ⟨by omega, h3.2⟩)]; omega
/-- What the program counts. -/
theorem count_all {j t : Nat} (hj : j < l.length) (ht : t < 6) : cnt (ownK l l.length ++ oth l (prsA (bef l) l.length)) (j * 6 + t) = kn l j t := by
  have hb : bef l j j = false := by rw [← Bool.not_eq_true]; intro h; have := bef_lt h; omega
  unfold kn
  rw [cnt_app, own_count hT hj ht, countP_kn hT j t hb]
  show _ + cnt (oth l (prs (bef l) l.length l.length 0)) _ = _
  rw [oth_part hT hj ht _ (Nat.le_refl _)]
  by_cases h : tOf l j = t
  · rw [if_pos h, if_pos ⟨hj, h⟩]
  · rw [if_neg h, if_neg (fun h2 => h h2.2)]
theorem row_count {b j t : Nat} (ht : t < 6) : cnt (rowK l b l.length) (j * 6 + t) = if b = j then kn l j t else 0 := by
  unfold rowK
  rw [cnt_map, List.countP_filter]
  by_cases h : b = j
  · subst h
    rw [if_pos rfl]
    refine List.countP_congr fun a ha => ?_
    show (b * 6 + tOf l a == b * 6 + t && (a == b || bef l a b)) = true ↔ _
    rw [cell_eq hT (by simpa using ha) ht]
    unfold knB
    cases (a == b) <;> cases (bef l a b) <;> cases (tOf l a == t) <;> simp
  · rw [if_neg h]
    refine List.countP_eq_zero.2 fun a ha => ?_
    show ¬ (b * 6 + tOf l a == j * 6 + t && (a == b || bef l a b)) = true
    rw [cell_eq hT (by simpa using ha) ht]
    have : (b == j) = false := by simpa using h
    simp [this]
theorem ref_part {j t : Nat} (ht : t < 6) : ∀ b, cnt (refK l b 0) (j * 6 + t) = if j < b then kn l j t else 0
  | 0 => by rw [if_neg (by omega)]; rfl
  | b + 1 => by
    rw [refK_next]
    have h1 : refK l b l.length = refK l b 0 ++ rowK l b l.length := by simp [refK, rowK]
    rw [h1, cnt_app, ref_part ht b, row_count hT ht]
    by_cases h : j < b
    · rw [if_pos h, if_neg (by omega), if_pos (by omega)]; rfl
    · rw [if_neg h]
      by_cases h2 : b = j
      · rw [if_pos h2, if_pos (by omega)]; omega
      · rw [if_neg h2, if_neg (by omega)]
/-- What the reference counts. -/
theorem count_ref {j t : Nat} (hj : j < l.length) (ht : t < 6) : cnt (refK l l.length 0) (j * 6 + t) = kn l j t := by rw [ref_part hT ht, if_pos hj]
end
/-- All clocks in a row. -/
def knf (l : List Ev) (x : Nat) : Nat := kn l (x / 6) (x % 6)
theorem knf_at (l : List Ev) {j t : Nat} (ht : t < 6) : knf l (j * 6 + t) = kn l j t := by unfold knf; rw [show (j * 6 + t) / 6 = j by omega, show (j * 6 + t) % 6 = t by omega]
theorem kn_le (l : List Ev) (j t : Nat) : kn l j t ≤ l.length := by
  unfold kn; exact Nat.le_trans List.countP_le_length (by simp)
/-- A clock. -/
def kc (l : List Ev) (j : Nat) : Nat → Int := fun t => (kn l j t : Nat)
theorem may_tOf {l : List Ev} (h : may l = 0) {i : Nat} (hi : i < l.length) : tOf l i < 6 := by
  have he := List.getElem?_eq_getElem hi
  have := isEv_t (wrong_isEv (wrong_at h he))
  rw [tOf_at he]; omega
/-- A stretch of six numbers of a block. -/
theorem nsl_clk (m : Nat) (g : Nat → Nat) (w : World) (B j : Nat) (t : TypeId) (h : Box w B (ns m g) t) (hj : j * 6 + 6 ≤ m) : w.rangeAt B (j * 6) (clkl fun k => (g (j * 6 + k) : Nat)) := fun k v hv => by
  have hk : k < 6 := (List.getElem?_eq_some_iff.1 hv).1
  rw [clkl_get _ _ hk] at hv
  cases hv
  exact h.cell _ (ns_get g (by omega))
/-- Block B holds the clocks of a trace. -/
def Cks (w : World) (B n : Nat) (l : List Ev) : Prop := Box w B (ns (n * 6) (knf l)) 30
theorem Cks.row {w : World} {B n : Nat} {l : List Ev} (h : Cks w B n l) {j : Nat} (hj : j < n) : w.rangeAt B (j * 6) (clkl (kc l j)) := by
  have h1 := nsl_clk _ _ w B j _ h (by omega)
  have h2 : clk (fun k => ((knf l (j * 6 + k) : Nat) : Int)) = clk (kc l j) := clk_congr fun k hk => by rw [knf_at l hk]; rfl
  have h3 : clkl (fun k => ((knf l (j * 6 + k) : Nat) : Int)) = clkl (kc l j) := by simpa [clk] using h2
  rwa [h3] at h1
theorem Cks.cell {w : World} {B n : Nat} {l : List Ev} (h : Cks w B n l) {j t : Nat} (hj : j < n) (ht : t < 6) : w.cell? ⟨B, j * 6 + t, none⟩ = some (.int .i64 (kn l j t : Nat)) := by
  have := Box.cell h (j * 6 + t) (ns_get (knf l) (by omega))
  rwa [knf_at l ht] at this
theorem Cks.bel {w w' : World} {B n : Nat} {l : List Ev} (h : Cks w B n l) (hb : Bel w w') : Cks w' B n l := hb.box h
theorem Cks.of {w : World} {B n : Nat} {l : List Ev} {g : Nat → Nat} (h : Box w B (ns (n * 6) g) 30) (hg : ∀ j t, j < n → t < 6 → g (j * 6 + t) = kn l j t) : Cks w B n l := by
  unfold Cks
  rw [← ns_congr (g := g) (fun x hx => by
    have := hg (x / 6) (x % 6) (by omega) (by omega)
    rw [show x / 6 * 6 + x % 6 = x by omega] at this
    exact this)]
  exact h
end Go.Proofs.Ytnjaeampnakbbaa

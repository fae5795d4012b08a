/- Plain facts: the detector's clocks and variables as blocks of numbers; what it flags, as a list. | Plain facts: the reference's Full: the least kind of a race, as a fold; own numbers counted. | Plain facts: flags of a beginning of a trace. | Plain facts: what is flagged are just the seconds of races. -/
import Derived.Test.YtnjaeampnakbbaaRows
import Derived.Test.YtnjaeampnakbbaaDj
import Derived.Test.YtnjaeampnakbbaaKn
import Derived.Test.YtnjaeampnakbbaaGrow
import Derived.Deep.MidRow
import Derived.Maps.AppendAt
import Derived.Test.YtnjaeampnakbbaaDd
set_option linter.all false
set_option maxRecDepth 100000
namespace Go.Proofs.Ytnjaeampnakbbaa
open Go Go.RowKit

def ck (c : Nat → Nat) : Nat → Int := fun u => (c u : Nat)
theorem clkl_congr {a b : Nat → Int} (h : ∀ k, k < 6 → a k = b k) : clkl a = clkl b := by simpa [clk] using clk_congr h
/-- Six numbers from place o on. -/
def putR (g : Nat → Nat) (o : Nat) (c : Nat → Nat) : Nat → Nat := fun i => if o ≤ i ∧ i < o + 6 then c (i - o) else g i
theorem ns_row {w : World} {B m : Nat} {g : Nat → Nat} {t : TypeId} (h : Box w B (ns m g) t) {o : Nat} (ho : o + 6 ≤ m) {c : Nat → Nat} (hc : ∀ u, u < 6 → g (o + u) = c u) : w.rangeAt B o (clkl (ck c)) := fun k v hv => by
  have hk : k < 6 := (List.getElem?_eq_some_iff.1 hv).1
  rw [clkl_get _ _ hk] at hv
  cases hv
  have := h.cell (o + k) (ns_get g (by omega))
  rw [hc k hk] at this
  exact this
theorem setCells_six (w : World) (B o : Nat) (c : Nat → Int) : w.setCells B o (clkl c) = ((((((w.setCell ⟨B, o, none⟩ (.int .i64 (c 0))).setCell ⟨B, o + 1, none⟩ (.int .i64 (c 1))).setCell ⟨B, o + 2, none⟩ (.int .i64 (c 2))).setCell ⟨B, o + 3, none⟩ (.int .i64 (c 3))).setCell ⟨B, o + 4, none⟩ (.int .i64 (c 4))).setCell ⟨B, o + 5, none⟩ (.int .i64 (c 5))) := rfl
theorem box_six {w : World} {B m : Nat} {g : Nat → Nat} {t : TypeId} (h : Box w B (ns m g) t) (o : Nat) (c : Nat → Nat) : Box (w.setCells B o (clkl (ck c))) B (ns m (putR g o c)) t := by
  rw [setCells_six]
  have h0 := h.set o (.int .i64 (ck c 0)); unfold ck at h0; rw [ns_set] at h0
  have h1 := h0.set (o + 1) (.int .i64 (ck c 1)); unfold ck at h1; rw [ns_set] at h1
  have h2 := h1.set (o + 2) (.int .i64 (ck c 2)); unfold ck at h2; rw [ns_set] at h2
  have h3 := h2.set (o + 3) (.int .i64 (ck c 3)); unfold ck at h3; rw [ns_set] at h3
  have h4 := h3.set (o + 4) (.int .i64 (ck c 4)); unfold ck at h4; rw [ns_set] at h4
  have h5 := h4.set (o + 5) (.int .i64 (ck c 5)); unfold ck at h5; rw [ns_set] at h5
  have e : ns m (putR g o c) = ns m (updN (updN (updN (updN (updN (updN g o (c 0)) (o + 1) (c 1)) (o + 2) (c 2)) (o + 3) (c 3)) (o + 4) (c 4)) (o + 5) (c 5)) := ns_congr fun i _ => by
    unfold putR updN
    by_cases hi : o ≤ i ∧ i < o + 6
    · obtain ⟨d, rfl⟩ := Nat.exists_eq_add_of_le hi.1
      have hd : d = 0 ∨ d = 1 ∨ d = 2 ∨ d = 3 ∨ d = 4 ∨ d = 5 := by omega
      rw [if_pos hi, Nat.add_sub_cancel_left]
      rcases hd with rfl | rfl | rfl | rfl | rfl | rfl <;> simp
    · rw [if_neg hi]
      simp only [show ¬ i = o by omega, show ¬ i = o + 1 by omega, show ¬ i = o + 2 by omega, show ¬ i = o + 3 by omega, show ¬ i = o + 4 by omega, show ¬ i = o + 5 by omega, if_false]
  rw [e]
  exact h5
theorem setCells_size (B : Nat) : ∀ (vs : List Value) (o : Nat) (w : World), (w.setCells B o vs).heap.size = w.heap.size
  | [], _, _ => rfl
  | v :: r, o, w => by rw [World.setCells, setCells_size B r]; simp [World.setCell]
theorem chg_cell {X : Nat} (w : World) (k : Nat) (v : Value) : w.grownBy (w.setCell ⟨X, k, none⟩ v) (some X) := ⟨rfl, rfl, rfl, by simp [World.setCell], fun j _ hne => heap_setCell_other w _ j v (fun e => hne (by rw [e]))⟩
theorem chg_six (X : Nat) : ∀ (vs : List Value) (o : Nat) (w : World), w.grownBy (w.setCells X o vs) (some X)
  | [], _, w => World.grownBy.refl w _
  | v :: r, o, w => (chg_cell w o v).trans (chg_six X r (o + 1) _)
theorem chg_bel {w w' : World} (h : Bel w w') (row : Option Nat) : w.grownBy w' row := ⟨h.out.os, h.out.tape, h.out.output, h.size, fun k hk _ => h.out.block k hk⟩
theorem there_six {w : World} {B m : Nat} {g : Nat → Nat} {t : TypeId} (h : Box w B (ns m g) t) {o : Nat} (ho : o + 6 ≤ m) : w.there B o 6 := fun j hj => ⟨by rw [h.cell (o + j) (ns_get g (by omega))]; rfl, h.frozen _⟩

/-- The clocks as ninety numbers. -/
def gD (s : Dj) : Nat → Nat := fun i => if i < 36 then s.C (i / 6) (i % 6) else if i < 66 then s.L ((i - 36) / 6) ((i - 36) % 6) else s.V ((i - 66) / 6) ((i - 66) % 6)
theorem gD_C (s : Dj) {t u : Nat} (ht : t < 6) (hu : u < 6) : gD s (t * 6 + u) = s.C t u := by
  unfold gD; rw [if_pos (by omega), show (t * 6 + u) / 6 = t by omega, show (t * 6 + u) % 6 = u by omega]
theorem gD_L (s : Dj) {o u : Nat} (ho : o < 5) (hu : u < 6) : gD s (36 + o * 6 + u) = s.L o u := by
  unfold gD; rw [if_neg (by omega), if_pos (by omega), show (36 + o * 6 + u - 36) / 6 = o by omega, show (36 + o * 6 + u - 36) % 6 = u by omega]
theorem gD_V (s : Dj) {o u : Nat} (hu : u < 6) : gD s (66 + o * 6 + u) = s.V o u := by
  unfold gD; rw [if_neg (by omega), if_neg (by omega), show (66 + o * 6 + u - 66) / 6 = o by omega, show (66 + o * 6 + u - 66) % 6 = u by omega]
theorem putR_C (s : Dj) {t : Nat} (ht : t < 6) (c : Nat → Nat) : ns 90 (putR (gD s) (t * 6) c) = ns 90 (gD { s with C := put1 s.C t c }) := ns_congr fun i hi => by
  unfold putR gD put1
  by_cases h : i < 36
  · simp only [h, if_true]
    by_cases h2 : i / 6 = t
    · rw [if_pos (by omega), if_pos h2, show i % 6 = i - t * 6 by omega]
    · rw [if_neg (by omega), if_neg h2]
  · simp only [h, if_false]; rw [if_neg (by omega)]
theorem putR_L (s : Dj) {o : Nat} (ho : o < 5) (c : Nat → Nat) : ns 90 (putR (gD s) (36 + o * 6) c) = ns 90 (gD { s with L := put1 s.L o c }) := ns_congr fun i hi => by
  unfold putR gD put1
  by_cases h : i < 36
  · simp only [h, if_true]; rw [if_neg (by omega)]
  · simp only [h, if_false]
    by_cases h1 : i < 66
    · simp only [h1, if_true]
      by_cases h2 : (i - 36) / 6 = o
      · rw [if_pos (by omega), if_pos h2, show (i - 36) % 6 = i - (36 + o * 6) by omega]
      · rw [if_neg (by omega), if_neg h2]
    · simp only [h1, if_false]; rw [if_neg (by omega)]
theorem putR_V (s : Dj) {o : Nat} (ho : o < 4) (c : Nat → Nat) : ns 90 (putR (gD s) (66 + o * 6) c) = ns 90 (gD { s with V := put1 s.V o c }) := ns_congr fun i hi => by
  unfold putR gD put1
  by_cases h : i < 36
  · simp only [h, if_true]; rw [if_neg (by omega)]
  · simp only [h, if_false]
    by_cases h1 : i < 66
    · simp only [h1, if_true]; rw [if_neg (by omega)]
    · simp only [h1, if_false]
      by_cases h2 : (i - 66) / 6 = o
      · rw [if_pos (by omega), if_pos h2, show (i - 66) % 6 = i - (66 + o * 6) by omega]
      · rw [if_neg (by omega), if_neg h2]
theorem updN_C (s : Dj) {t : Nat} (ht : t < 6) {v : Nat} (hv : v = s.C t t + 1) : ns 90 (updN (gD s) (t * 6 + t) v) = ns 90 (gD { s with C := put1 s.C t (incN (s.C t) t) }) := ns_congr fun i hi => by
  subst hv
  unfold updN gD put1 incN
  by_cases h : i < 36
  · simp only [h, if_true]
    by_cases h2 : i / 6 = t
    · rw [if_pos h2]
      by_cases h3 : i % 6 = t
      · rw [if_pos (by omega), if_pos h3, h3]
      · rw [if_neg (by omega), if_neg h3, h2]
    · rw [if_neg (by omega), if_neg h2]
  · simp only [h, if_false]; rw [if_neg (by omega)]
/-- The variables' clocks as ninety-six numbers: of each one R, then W. -/
def gV (r v : Nat → Nat → Nat) : Nat → Nat := fun i => if i % 12 < 6 then r (i / 12) (i % 12) else v (i / 12) (i % 12 - 6)
theorem gV_R (r v : Nat → Nat → Nat) {x u : Nat} (hu : u < 6) : gV r v (x * 12 + u) = r x u := by
  unfold gV; rw [if_pos (by omega), show (x * 12 + u) / 12 = x by omega, show (x * 12 + u) % 12 = u by omega]
theorem gV_W (r v : Nat → Nat → Nat) {x u : Nat} (hu : u < 6) : gV r v (x * 12 + 6 + u) = v x u := by
  unfold gV; rw [if_neg (by omega), show (x * 12 + 6 + u) / 12 = x by omega, show (x * 12 + 6 + u) % 12 - 6 = u by omega]
def upd2 (r : Nat → Nat → Nat) (x t n : Nat) : Nat → Nat → Nat := fun y u => if y = x ∧ u = t then n else r y u
theorem updN_R (r v : Nat → Nat → Nat) {x t n : Nat} (ht : t < 6) : ns 96 (updN (gV r v) (x * 12 + t) n) = ns 96 (gV (upd2 r x t n) v) := ns_congr fun i hi => by
  unfold updN gV upd2
  by_cases h : i % 12 < 6
  · simp only [h, if_true]
    by_cases h2 : i = x * 12 + t
    · rw [if_pos h2, if_pos (by omega)]
    · rw [if_neg h2, if_neg (by omega)]
  · simp only [h, if_false]; rw [if_neg (by omega)]
theorem updN_W (r v : Nat → Nat → Nat) {x t n : Nat} (ht : t < 6) : ns 96 (updN (gV r v) (x * 12 + 6 + t) n) = ns 96 (gV r (upd2 v x t n)) := ns_congr fun i hi => by
  unfold updN gV upd2
  by_cases h : i % 12 < 6
  · simp only [h, if_true]; rw [if_neg (by omega)]
  · simp only [h, if_false]
    by_cases h2 : i = x * 12 + 6 + t
    · rw [if_pos h2, if_pos (by omega)]
    · rw [if_neg h2, if_neg (by omega)]

/-- The kind of an access's flag, 0 for none. -/
def kndA (k : Int) (W R c : Nat → Nat) : Int := if within (ck W) (ck c) = false then (if k = 2 then 1 else 2) else if k = 2 then (if within (ck R) (ck c) = false then 3 else 0) else 0
def rwF (l : List Ev) (q : Int) (k : Nat) : Nat → Nat → Nat := fun x u => rwTo l q x u k
theorem seenB_within (l : List Ev) (q : Int) (j : Nat) : seenB l q j = within (ck (rwF l q j (oZ l j))) (ck ((djTo l j).C (tZ l j))) := by
  rw [Bool.eq_iff_iff, within_iff]
  unfold seenB ck rwF
  simp only [List.all_eq_true, List.mem_range, decide_eq_true_eq]
  constructor
  · intro h k hk; have := h k hk; omega
  · intro h k hk; have := h k hk; omega
theorem kndA_djK {l : List Ev} {j : Nat} (hk : kZ l j = 1 ∨ kZ l j = 2) : kndA (kZ l j) (rwF l 2 j (oZ l j)) (rwF l 1 j (oZ l j)) ((djTo l j).C (tZ l j)) = djK l j := by
  unfold kndA djK
  rw [← seenB_within, ← seenB_within]
  rcases hk with h | h <;> rw [h] <;> cases seenB l 2 j <;> cases seenB l 1 j <;> simp
theorem djK_none {l : List Ev} {j : Nat} (h1 : kZ l j ≠ 1) (h2 : kZ l j ≠ 2) : djK l j = 0 := by unfold djK; rw [if_neg h1, if_neg h2]
theorem djK_low (l : List Ev) (j : Nat) : 0 ≤ djK l j ∧ djK l j ≤ 3 := by
  unfold djK
  repeat' split
  all_goals omega
theorem rwF_zero (l : List Ev) (q : Int) : rwF l q 0 = fun _ _ => 0 := rfl
theorem rwF_yes {l : List Ev} {q : Int} {k x t n : Nat} (hq : kZ l k = q) (ho : oZ l k = x) (ht : tZ l k = t) (hn : n = (djTo l k).C t t) : upd2 (rwF l q k) x t n = rwF l q (k + 1) := by
  funext y u
  unfold upd2 rwF
  rw [show rwTo l q y u (k + 1) = if kZ l k = q ∧ oZ l k = y ∧ tZ l k = u then onr l k u else rwTo l q y u k from rfl]
  by_cases h : y = x ∧ u = t
  · obtain ⟨rfl, rfl⟩ := h
    rw [if_pos ⟨rfl, rfl⟩, if_pos ⟨hq, ho, ht⟩, hn]; rfl
  · rw [if_neg h, if_neg (fun hh => h ⟨by omega, by omega⟩)]
theorem rwF_no {l : List Ev} {q : Int} {k : Nat} (hq : kZ l k ≠ q) : rwF l q (k + 1) = rwF l q k := by
  funext y u
  unfold rwF
  rw [rwTo, if_neg fun hh => hq hh.1]
theorem djTo_acc {l : List Ev} {k : Nat} (hk : kZ l k = 1 ∨ kZ l k = 2) : djTo l (k + 1) = djTo l k := by
  rw [djTo]
  unfold djStep
  rcases hk with h | h <;> rw [h] <;> rfl
theorem onr_le {l : List Ev} (hm : may l = 0) (u : Nat) : ∀ k, k ≤ l.length → (djTo l k).C u u ≤ k + 1
  | 0, _ => by have := onr_zero l u; unfold onr at this; omega
  | k + 1, hk => by
    have h1 := onr_succ hm (show k < l.length by omega) u
    have h2 := onr_le hm u k (by omega)
    unfold onr at h1
    rw [h1]
    split <;> omega
/-- The flags of the first k events: place, variable, kind. -/
def flT (l : List Ev) : Nat → List Ev
  | 0 => []
  | k + 1 => if djK l k = 0 then flT l k else flT l k ++ [⟨(k : Nat), (eZ l k).o, djK l k⟩]
theorem flT_yes {l : List Ev} {k : Nat} (h : djK l k ≠ 0) : flT l (k + 1) = flT l k ++ [⟨(k : Nat), (eZ l k).o, djK l k⟩] := by rw [flT, if_neg h]
theorem flT_no {l : List Ev} {k : Nat} (h : djK l k = 0) : flT l (k + 1) = flT l k := by rw [flT, if_pos h]
theorem flT_len (l : List Ev) : ∀ k, (flT l k).length ≤ k
  | 0 => Nat.le_refl _
  | k + 1 => by
    have := flT_len l k
    rw [flT]
    split
    · omega
    · rw [List.length_append]; simp; omega
/-- What Run returns. -/
def flags (l : List Ev) : List Ev := if may l = 0 then flT l l.length else []
theorem flags_ok {l : List Ev} (h : may l = 0) : flags l = flT l l.length := by unfold flags; rw [if_pos h]
theorem flags_no {l : List Ev} (h : may l ≠ 0) : flags l = [] := by unfold flags; rw [if_neg h]
theorem chg_setRow (w : World) (B : Nat) (c : Array Value) : w.grownBy (w.setRow B c) (some B) := ⟨rfl, rfl, rfl, by simp, fun k _ hne => setRow_other w B k c (fun e => hne (by rw [e]))⟩
theorem fl_info : (Try.prog.info? 35).map (fun i => (i.zero, i.size, i.bytes)) = some (some (.agg #[.int .i64 0, .int .i64 0, .int .i64 0]), 3, 24) := by kernel_rfl
end Go.Proofs.Ytnjaeampnakbbaa
namespace Go.Proofs.Ytnjaeampnakbbaa
open Go Go.RowKit

def fkS (j : Nat) (q : Int) (r : Rc) : Int := if r.b = j ∧ (q = 0 ∨ r.k < q) then r.k else q
def fk (rs : List Rc) (j : Nat) : Int := rs.foldl (fkS j) 0
theorem fk_snoc (rs : List Rc) (r : Rc) (j : Nat) : fk (rs ++ [r]) j = fkS j (fk rs j) r := by unfold fk; rw [List.foldl_append]; rfl
theorem hasK_snoc (rs : List Rc) (r : Rc) (j : Nat) (q : Int) : hasK (rs ++ [r]) j q = (hasK rs j q || (r.b == j && r.k == q)) := by unfold hasK; simp
theorem minK_low (rs : List Rc) (j : Nat) : 0 ≤ minK rs j ∧ minK rs j ≤ 3 := by
  unfold minK
  repeat' split
  all_goals omega
theorem minK_snoc (rs : List Rc) (r : Rc) (j : Nat) (hr : r.k = 1 ∨ r.k = 2 ∨ r.k = 3) : minK (rs ++ [r]) j = fkS j (minK rs j) r := by
  unfold minK fkS
  simp only [hasK_snoc]
  by_cases hb : r.b = j
  · have hb' : (r.b == j) = true := by simpa using hb
    rw [hb']
    rcases hr with h | h | h <;> rw [h] <;> cases hasK rs j 1 <;> cases hasK rs j 2 <;> cases hasK rs j 3 <;> simp [hb]
  · have hb' : (r.b == j) = false := by simpa using hb
    rw [hb']
    simp [hb]
theorem fk_min (rs : List Rc) (j : Nat) (hr : ∀ r ∈ rs, r.k = 1 ∨ r.k = 2 ∨ r.k = 3) : ∀ i, i ≤ rs.length → fk (rs.take i) j = minK (rs.take i) j
  | 0, _ => rfl
  | i + 1, hi => by
    have hlt : i < rs.length := by omega
    have e : rs.take (i + 1) = rs.take i ++ [rs[i]] := rc_ptake (List.getElem?_eq_getElem hlt)
    rw [e, fk_snoc, minK_snoc _ _ _ (hr _ (List.getElem_mem hlt)), fk_min rs j hr i (by omega)]
theorem rcsA_k {l : List Ev} {r : Rc} (h : r ∈ rcsA l) : r.k = 1 ∨ r.k = 2 ∨ r.k = 3 := by
  obtain ⟨a, b, _, _, _, _, h5, h6, _⟩ := mem_rcsA h
  rw [h5]
  unfold conf at h6 ⊢
  repeat' split
  all_goals first | omega | (rename_i hx; simp [hx] at h6) | skip
  all_goals first | exact .inl rfl | exact .inr (.inl rfl) | exact .inr (.inr rfl) | skip
theorem fk_all {l : List Ev} (hm : may l = 0) {j : Nat} (hj : j < l.length) : fk (rcs l) j = djK l j := by
  rw [rcs_ok hm, djK_min hm hj]
  have := fk_min (rcsA l) j (fun r h => rcsA_k h) _ (Nat.le_refl _)
  rwa [List.take_length] at this
/-- How often a thread has handed its clock on. -/
def gvn (l : List Ev) (k u : Nat) : Nat := onr l k u - 1
theorem gvn_zero (l : List Ev) (u : Nat) : gvn l 0 u = 0 := by unfold gvn; rw [onr_zero]
theorem gvn_len {l : List Ev} (hm : may l = 0) {k u : Nat} (hk : k ≤ l.length) : gvn l k u ≤ k := by have := onr_le hm u k hk; unfold gvn onr; omega
theorem gvn_yes {l : List Ev} (hm : may l = 0) {k t : Nat} (hk : k < l.length) (hg : kZ l k = 4 ∨ kZ l k = 5 ∨ kZ l k = 8) (ht : tZ l k = t) {n : Int} (hn : n = (gvn l k t : Nat) + 1) : clk (upd (ck (gvn l k)) t n) = clk (ck (gvn l (k + 1))) := clk_congr fun u _ => by
  unfold upd ck gvn
  rw [onr_succ hm hk]
  unfold giveB
  have h1 := onr_pos hm t k (by omega)
  by_cases h : u = t
  · subst h
    rw [if_pos rfl, if_pos (by simp [hg, ht]), hn]
    unfold gvn; omega
  · rw [if_neg h, if_neg (by simp; intro _; omega)]; rfl
theorem gvn_no {l : List Ev} (hm : may l = 0) {k : Nat} (hk : k < l.length) (hg : ¬ (kZ l k = 4 ∨ kZ l k = 5 ∨ kZ l k = 8)) : gvn l (k + 1) = gvn l k := by
  funext u
  unfold gvn
  rw [onr_succ hm hk, if_neg (by unfold giveB; simp; intro h; exact absurd h hg)]; rfl
theorem rwn_yes {l : List Ev} (hm : may l = 0) {q : Int} {k x t : Nat} (hk : k < l.length) (hq : kZ l k = q) (ho : oZ l k = x) (ht : tZ l k = t) {n : Int} (hn : n = (gvn l k t : Nat) + 1) : clk (upd (ck (rwF l q k x)) t n) = clk (ck (rwF l q (k + 1) x)) := clk_congr fun u _ => by
  have h1 := onr_pos hm t k (by omega)
  unfold upd ck rwF
  rw [show rwTo l q x u (k + 1) = if kZ l k = q ∧ oZ l k = x ∧ tZ l k = u then onr l k u else rwTo l q x u k from rfl]
  by_cases h : u = t
  · subst h
    rw [if_pos rfl, if_pos ⟨hq, ho, ht⟩, hn]
    unfold gvn; omega
  · rw [if_neg h, if_neg (fun hh => h (by omega))]
theorem rwn_no {l : List Ev} {q : Int} {k x : Nat} (h : ¬ (kZ l k = q ∧ oZ l k = x)) : rwF l q (k + 1) x = rwF l q k x := by
  funext u
  unfold rwF
  rw [rwTo, if_neg fun hh => h ⟨hh.1, hh.2.1⟩]
end Go.Proofs.Ytnjaeampnakbbaa
namespace Go.Proofs.Ytnjaeampnakbbaa
open Go Go.RowKit

theorem eZ_take {l : List Ev} {k i : Nat} (h : i < k) : eZ (l.take k) i = eZ l i := by unfold eZ; rw [List.getElem?_take, if_pos h]
theorem kZ_take {l : List Ev} {k i : Nat} (h : i < k) : kZ (l.take k) i = kZ l i := by unfold kZ; rw [eZ_take h]
theorem tZ_take {l : List Ev} {k i : Nat} (h : i < k) : tZ (l.take k) i = tZ l i := by unfold tZ; rw [eZ_take h]
theorem oZ_take {l : List Ev} {k i : Nat} (h : i < k) : oZ (l.take k) i = oZ l i := by unfold oZ; rw [eZ_take h]
theorem djTo_take {l : List Ev} {k : Nat} : ∀ j, j ≤ k → djTo (l.take k) j = djTo l j
  | 0, _ => rfl
  | j + 1, h => by rw [djTo, djTo, djTo_take j (by omega), kZ_take (by omega), tZ_take (by omega), oZ_take (by omega)]
theorem rwTo_take {l : List Ev} {k : Nat} (q : Int) (x u : Nat) : ∀ j, j ≤ k → rwTo (l.take k) q x u j = rwTo l q x u j
  | 0, _ => rfl
  | j + 1, h => by
    rw [rwTo, rwTo, rwTo_take q x u j (by omega), kZ_take (by omega), tZ_take (by omega), oZ_take (by omega)]
    unfold onr
    rw [djTo_take j (by omega)]
theorem djK_take {l : List Ev} {k j : Nat} (h : j < k) : djK (l.take k) j = djK l j := by
  have e : ∀ q, seenB (l.take k) q j = seenB l q j := fun q => by
    unfold seenB
    simp only [oZ_take h, tZ_take h, djTo_take j (Nat.le_of_lt h), fun u => rwTo_take (l := l) (k := k) q (oZ l j) u j (Nat.le_of_lt h)]
  unfold djK
  rw [e, e, kZ_take h]
theorem flT_take {l : List Ev} {k : Nat} : ∀ j, j ≤ k → flT (l.take k) j = flT l j
  | 0, _ => rfl
  | j + 1, h => by rw [flT, flT, flT_take j (by omega), djK_take (by omega), eZ_take (by omega)]
theorem flT_low {l : List Ev} {e : Ev} : ∀ {k : Nat}, e ∈ flT l k → 0 ≤ e.k ∧ e.k < k
  | 0, h => by simp [flT] at h
  | k + 1, h => by
    rw [flT] at h
    split at h
    · have := flT_low h; omega
    · rcases List.mem_append.1 h with h | h
      · have := flT_low h; omega
      · simp at h; subst h; dsimp only; omega
theorem flT_split (l : List Ev) (k : Nat) : ∀ d, ∃ r, flT l (k + d) = flT l k ++ r ∧ ∀ e ∈ r, (k : Int) ≤ e.k
  | 0 => ⟨[], by simp, by simp⟩
  | d + 1 => by
    obtain ⟨r, h1, h2⟩ := flT_split l k d
    rw [← Nat.add_assoc, flT]
    split
    · exact ⟨r, h1, h2⟩
    · refine ⟨r ++ [_], by rw [h1, List.append_assoc], fun e he => ?_⟩
      rcases List.mem_append.1 he with he | he
      · exact h2 e he
      · simp at he; subst he; dsimp only; omega
theorem fl_split {l : List Ev} {k n : Nat} (h : k ≤ n) : ∃ r, flT l n = flT l k ++ r ∧ ∀ e ∈ r, (k : Int) ≤ e.k := by
  obtain ⟨d, rfl⟩ := Nat.exists_eq_add_of_le h
  exact flT_split l k d
theorem may_takeF {l : List Ev} (h : may l = 0) (k : Nat) : may (l.take k) = 0 := by
  rw [may_iff] at h ⊢
  refine ⟨by rw [List.length_take]; omega, fun i e he => ?_⟩
  have hi : i < k := by
    have := (List.getElem?_eq_some_iff.1 he).1
    rw [List.length_take] at this; omega
  rw [List.getElem?_take, if_pos hi] at he
  rw [List.take_take, Nat.min_eq_left (Nat.le_of_lt hi)]
  exact h.2 i e he
end Go.Proofs.Ytnjaeampnakbbaa
namespace Go.Proofs.Ytnjaeampnakbbaa
open Go Go.RowKit

theorem flT_mem {l : List Ev} {e : Ev} : ∀ {k : Nat}, e ∈ flT l k ↔ ∃ j, j < k ∧ djK l j ≠ 0 ∧ e = ⟨(j : Nat), (eZ l j).o, djK l j⟩
  | 0 => ⟨fun h => by simp [flT] at h, fun ⟨j, h, _⟩ => by omega⟩
  | k + 1 => by
    rw [flT]
    split
    · rename_i h0
      rw [flT_mem]
      constructor
      · rintro ⟨j, h1, h2⟩; exact ⟨j, by omega, h2⟩
      · rintro ⟨j, h1, h2, h3⟩
        rcases Nat.lt_succ_iff_lt_or_eq.1 h1 with h1 | rfl
        · exact ⟨j, h1, h2, h3⟩
        · exact absurd h0 h2
    · rename_i h0
      rw [List.mem_append, flT_mem, List.mem_singleton]
      constructor
      · rintro (⟨j, h1, h2⟩ | rfl)
        · exact ⟨j, by omega, h2⟩
        · exact ⟨k, by omega, h0, rfl⟩
      · rintro ⟨j, h1, h2, h3⟩
        rcases Nat.lt_succ_iff_lt_or_eq.1 h1 with h1 | rfl
        · exact .inl ⟨j, h1, h2, h3⟩
        · exact .inr h3
theorem flT_up (l : List Ev) : ∀ k, ((flT l k).map (·.k)).Pairwise (· < ·)
  | 0 => by simp [flT]
  | k + 1 => by
    rw [flT]
    split
    · exact flT_up l k
    · rw [List.map_append, List.pairwise_append]
      refine ⟨flT_up l k, by simp, fun a ha b hb => ?_⟩
      obtain ⟨e, he, rfl⟩ := List.mem_map.1 ha
      simp at hb
      subst hb
      exact (flT_low he).2
def fBx (r : Rc) : Int := r.b
theorem flAt {l : List Ev} (hm : may l = 0) : (flags l).map (·.k) = dd ((rcs l).map fBx) := by
  rw [flags_ok hm, rcs_ok hm]
  refine up_eq (flT_up _ _) (dd_up _) fun x => ?_
  rw [dd_mem]
  simp only [List.mem_map]
  constructor
  · rintro ⟨e, he, rfl⟩
    obtain ⟨j, h1, h2, rfl⟩ := flT_mem.1 he
    rw [djK_min hm h1] at h2
    have h3 : hasK (rcsA l) j 1 = true ∨ hasK (rcsA l) j 2 = true ∨ hasK (rcsA l) j 3 = true := by
      unfold minK at h2
      cases g1 : hasK (rcsA l) j 1 <;> cases g2 : hasK (rcsA l) j 2 <;> cases g3 : hasK (rcsA l) j 3 <;> simp_all
    unfold hasK at h3
    simp only [List.any_eq_true, Bool.and_eq_true, beq_iff_eq] at h3
    rcases h3 with ⟨r, hr, hb, _⟩ | ⟨r, hr, hb, _⟩ | ⟨r, hr, hb, _⟩ <;> exact ⟨r, hr, by unfold fBx; rw [hb]⟩
  · rintro ⟨r, hr, rfl⟩
    obtain ⟨a, b, _, hb, _⟩ := mem_rcsA hr
    have hj : r.b < l.length := (List.getElem?_eq_some_iff.1 hb).1
    have hk := rcsA_k hr
    refine ⟨_, flT_mem.2 ⟨r.b, hj, ?_, rfl⟩, rfl⟩
    rw [djK_min hm hj]
    have h4 : hasK (rcsA l) r.b r.k = true := by
      unfold hasK
      simp only [List.any_eq_true, Bool.and_eq_true, beq_iff_eq]
      exact ⟨r, hr, rfl, rfl⟩
    unfold minK
    rcases hk with h | h | h <;> rw [h] at h4 <;> cases g1 : hasK (rcsA l) r.b 1 <;> cases g2 : hasK (rcsA l) r.b 2 <;> simp_all
theorem djK_read {l : List Ev} {j : Nat} (h : djK l j ≠ 0) : (djK l j == 2) = (kZ l j == 1) := by
  unfold djK at h ⊢
  by_cases h1 : kZ l j = 1
  · rw [if_pos h1] at h ⊢
    cases hs : seenB l 2 j
    · simp [h1]
    · rw [hs] at h; simp at h
  · rw [if_neg h1] at h ⊢
    by_cases h2 : kZ l j = 2
    · rw [if_pos h2] at h ⊢
      cases hs : seenB l 2 j
      · simp [h1]
      · cases hs1 : seenB l 1 j
        · simp [h1]
        · rw [hs, hs1] at h; simp at h
    · rw [if_neg h2] at h; exact absurd rfl h
end Go.Proofs.Ytnjaeampnakbbaa

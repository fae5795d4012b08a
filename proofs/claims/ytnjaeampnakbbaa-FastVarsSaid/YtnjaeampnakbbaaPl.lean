/- Plain facts: the reference's detector by places is the detector by epochs. | Plain facts: the reference's Fast: variable after variable, its flags sorted by place, its sum over the variables. -/
import Derived.Test.YtnjaeampnakbbaaFs
set_option linter.all false
set_option maxRecDepth 100000
namespace Go.Proofs.Ytnjaeampnakbbaa
open Go Go.RowKit

/-- Of one variable: the last Write's place or -1; the Reads' places. -/
structure Pl where
  w : Int
  rs : List Nat
  many : Bool
def plStart : Pl := ⟨-1, [], false⟩
/-- Known at event j. -/
def knP (l : List Ev) (i : Int) (j : Nat) : Bool := decide (i < 0) || bef l i.toNat j
/-- In the epoch of event j: below m, nothing handed on. -/
def epTo (l : List Ev) (i : Nat) (m : Nat) : Bool := (List.range m).all fun k => decide (k < i) || !(giveB l k (tZ l i))
def epP (l : List Ev) (i : Int) (j : Nat) : Bool := decide (0 ≤ i) && (decide (tZ l i.toNat = tZ l j) && epTo l i.toNat j)
def ltP (l : List Ev) (rs : List Nat) (j : Nat) : Bool := rs.any fun i => !(bef l i j)
def plSkR (l : List Ev) (p : Pl) (j : Nat) : Bool := !p.many && (decide (p.rs.length = 1) && epP l ((p.rs[0]?).getD 0 : Nat) j)
def plR (l : List Ev) (p : Pl) (j : Nat) : Pl :=
  if plSkR l p j = true then p
  else if p.many = false ∧ ltP l p.rs j = false then { p with rs := [j] }
  else { p with many := true, rs := (p.rs.filter fun i => decide (tZ l i ≠ tZ l j)) ++ [j] }
def plW (l : List Ev) (p : Pl) (j : Nat) : Pl := if epP l p.w j = true then p else ⟨(j : Nat), if p.many = true then [] else p.rs, false⟩
def plStep (l : List Ev) (p : Pl) (j : Nat) : Pl := if kZ l j = 1 then plR l p j else if kZ l j = 2 then plW l p j else p
def plK (l : List Ev) (p : Pl) (j : Nat) : Int :=
  if kZ l j = 1 then (if plSkR l p j = true then 0 else if knP l p.w j = true then 0 else 2)
  else if kZ l j = 2 then (if epP l p.w j = true then 0 else if knP l p.w j = true then (if ltP l p.rs j = true then 3 else 0) else 1) else 0
def plSl (l : List Ev) (p : Pl) (j : Nat) : Nat := if kZ l j = 1 then (if plSkR l p j = true then 0 else if p.many = true then 0 else if ltP l p.rs j = true then 1 else 0) else 0
def plTo (l : List Ev) (x : Nat) : Nat → Pl
  | 0 => plStart
  | k + 1 => if oZ l k = x then plStep l (plTo l x k) k else plTo l x k
theorem onr_same {l : List Ev} (hm : may l = 0) (u : Nat) {i : Nat} : ∀ {k : Nat}, i ≤ k → k ≤ l.length → (onr l i u = onr l k u ↔ ∀ m, i ≤ m → m < k → giveB l m u = false)
  | 0, h, _ => by
    obtain rfl : i = 0 := by omega
    exact ⟨fun _ m h1 h2 => by omega, fun _ => rfl⟩
  | k + 1, h, hk => by
    by_cases e : i = k + 1
    · subst e; exact ⟨fun _ m h1 h2 => by omega, fun _ => rfl⟩
    · have ih := onr_same hm u (show i ≤ k by omega) (by omega)
      have h1 := onr_le2 hm u (show i ≤ k by omega) (by omega)
      rw [onr_succ hm (by omega)]
      constructor
      · intro hh m h2 h3
        cases hg : giveB l k u
        · rw [hg] at hh
          simp at hh
          rcases Nat.lt_succ_iff_lt_or_eq.1 h3 with h3 | rfl
          · exact ih.1 hh m h2 h3
          · exact hg
        · rw [hg] at hh
          simp at hh
          omega
      · intro hh
        rw [hh k (by omega) (by omega)]
        simp
        exact ih.2 fun m h2 h3 => hh m h2 (by omega)
theorem epTo_iff {l : List Ev} {i j : Nat} : epTo l i j = true ↔ ∀ m, i ≤ m → m < j → giveB l m (tZ l i) = false := by
  unfold epTo
  simp only [List.all_eq_true, List.mem_range, Bool.or_eq_true, decide_eq_true_eq, Bool.not_eq_true']
  constructor
  · intro h m h1 h2
    rcases h m h2 with h3 | h3
    · omega
    · exact h3
  · intro h m h2
    by_cases h1 : m < i
    · exact .inl h1
    · exact .inr (h m (by omega) h2)
theorem epP_iff {l : List Ev} (hm : may l = 0) {i j : Nat} (hij : i < j) (hj : j < l.length) : epP l (i : Nat) j = true ↔ tZ l i = tZ l j ∧ epo l i = epo l j := by
  unfold epP
  simp only [Int.toNat_natCast, Bool.and_eq_true, decide_eq_true_eq, epTo_iff]
  constructor
  · rintro ⟨_, h1, h2⟩
    refine ⟨h1, ?_⟩
    rw [epo_onr, epo_onr, ← h1]
    exact (onr_same hm _ (Nat.le_of_lt hij) (Nat.le_of_lt hj)).2 h2
  · rintro ⟨h1, h2⟩
    refine ⟨by omega, h1, ?_⟩
    rw [epo_onr, epo_onr, ← h1] at h2
    exact (onr_same hm _ (Nat.le_of_lt hij) (Nat.le_of_lt hj)).1 h2
structure PlR (l : List Ev) (x k : Nat) (p : Pl) (s : Fs) : Prop where
  w : (p.w = -1 ∧ s.wt = 0 ∧ s.wn = 0) ∨ ∃ i : Nat, i < k ∧ p.w = (i : Nat) ∧ s.wt = tZ l i ∧ s.wn = epo l i
  my : p.many = s.many
  mem : ∀ i ∈ p.rs, i < k
  r : s.many = false → (p.rs = [] ∧ s.rt = 0 ∧ s.rn = 0) ∨ ∃ i, p.rs = [i] ∧ s.rt = tZ l i ∧ s.rn = epo l i
  rc1 : s.many = true → ∀ i ∈ p.rs, s.rc (tZ l i) = epo l i
  rc2 : s.many = true → ∀ u, s.rc u = 0 ∨ ∃ i ∈ p.rs, tZ l i = u
  cl : s.many = true → s.rt = 0 ∧ s.rn = 0
  len : p.rs.length ≤ k
theorem PlR.up {l : List Ev} {x k : Nat} {p : Pl} {s : Fs} (h : PlR l x k p s) : PlR l x (k + 1) p s :=
  ⟨h.w.imp id fun ⟨i, h1, h2⟩ => ⟨i, by omega, h2⟩, h.my, fun i hi => by have := h.mem i hi; omega, h.r, h.rc1, h.rc2, h.cl, by have := h.len; omega⟩
section
variable {l : List Ev} (hm : may l = 0) {x j : Nat} (hj : j < l.length) (hk : kZ l j = 1 ∨ kZ l j = 2) {p : Pl} {s : Fs} (h : PlR l x j p s)
include hm hj h
theorem plr_kn (hk : kZ l j = 1 ∨ kZ l j = 2) : knP l p.w j = decide (s.wn ≤ cZ l j s.wt) := by
  unfold knP
  rcases h.w with ⟨h1, h2, h3⟩ | ⟨i, h1, h2, h3, h4⟩
  · rw [h1, h3]; simp
  · rw [h2, h3, h4, Int.toNat_natCast, decide_eq_false (by omega), Bool.false_or, Bool.eq_iff_iff, decide_eq_true_iff]
    exact (acc_iff hm hj hk h1).symm
theorem plr_sw : epP l p.w j = skW s (tZ l j) (cZ l j) := by
  have hp := epo_pos hm hj
  unfold skW
  rcases h.w with ⟨h1, h2, h3⟩ | ⟨i, h1, h2, h3, h4⟩
  · rw [h1, h2, h3, cZ_own, show decide (0 = epo l j) = false by rw [decide_eq_false_iff_not]; omega, Bool.and_false]
    rfl
  · rw [h2, Bool.eq_iff_iff, epP_iff hm h1 hj, h3, h4, cZ_own]; simp
theorem plr_late (hk : kZ l j = 1 ∨ kZ l j = 2) : ltP l p.rs j = !(rKn s (cZ l j)) := by
  unfold ltP rKn
  cases hmy : s.many
  · rcases h.r hmy with ⟨h1, h2, h3⟩ | ⟨i, h1, h2, h3⟩
    · rw [h1, h3]; simp
    · rw [h1, h2, h3]
      have hi := h.mem i (by rw [h1]; simp)
      have := acc_iff hm hj hk hi
      simp only [List.any_cons, List.any_nil, Bool.or_false, Bool.false_eq_true, if_false]
      congr 1
      rw [Bool.eq_iff_iff, decide_eq_true_iff]
      exact this.symm
  · rw [if_pos rfl, Bool.eq_iff_iff]
    simp only [List.any_eq_true, Bool.not_eq_true', ← Bool.not_eq_true, knwB_iff]
    constructor
    · rintro ⟨i, hi, hb⟩ hall
      have h1 := hall (tZ l i) (tZ_lt hm (by have := h.mem i hi; omega))
      rw [h.rc1 hmy i hi] at h1
      exact hb ((acc_iff hm hj hk (h.mem i hi)).1 h1)
    · intro hn
      have : ∃ u, u < 6 ∧ ¬ s.rc u ≤ cZ l j u := by
        refine Classical.byContradiction fun hx => hn fun u hu => ?_
        refine Classical.byContradiction fun h9 => hx ⟨u, hu, h9⟩
      obtain ⟨u, _, hu⟩ := this
      rcases h.rc2 hmy u with h0 | ⟨i, hi, rfl⟩
      · rw [h0] at hu; exact absurd (Nat.zero_le _) hu
      · refine ⟨i, hi, fun hb => hu ?_⟩
        rw [h.rc1 hmy i hi]
        exact (acc_iff hm hj hk (h.mem i hi)).2 hb
theorem plr_sr : plSkR l p j = skR s (tZ l j) (cZ l j) := by
  have hp := epo_pos hm hj
  unfold plSkR skR
  rw [h.my]
  cases hmy : s.many
  · rcases h.r hmy with ⟨h1, h2, h3⟩ | ⟨i, h1, h2, h3⟩
    · rw [h1, h2, h3, cZ_own, show decide (0 = epo l j) = false by rw [decide_eq_false_iff_not]; omega]
      simp
    · have hi := h.mem i (by rw [h1]; simp)
      rw [h1, h2, h3, cZ_own]
      simp only [Bool.not_false, Bool.true_and, List.length_cons, List.length_nil, decide_true, List.getElem?_cons_zero, Option.getD_some]
      rw [Bool.eq_iff_iff, epP_iff hm hi hj]; simp
  · simp
theorem plr_step (ho : oZ l j = x) : PlR l x (j + 1) (plStep l p j) (fsStep s (kZ l j) (tZ l j) (cZ l j)) ∧ plK l p j = fsK s (kZ l j) (tZ l j) (cZ l j) ∧ plSl l p j = fsSl s (kZ l j) (tZ l j) (cZ l j) := by
  have hu := h.up
  unfold plStep fsStep plK fsK plSl fsSl
  by_cases h1 : kZ l j = 1
  · simp only [if_pos h1]
    rw [plr_sr hm hj h, plr_kn hm hj h (.inl h1), plr_late hm hj h (.inl h1), h.my]
    refine ⟨?_, ?_, ?_⟩
    · unfold plR
      rw [plr_sr hm hj h, plr_late hm hj h (.inl h1), h.my]
      by_cases hs : skR s (tZ l j) (cZ l j) = true
      · rw [if_pos hs, if_pos hs]; exact hu
      · rw [if_neg hs, if_neg hs]
        unfold fsR
        cases hmy : s.many
        · have hr : rKn s (cZ l j) = decide (s.rn ≤ cZ l j s.rt) := by unfold rKn; rw [hmy]; simp
          rw [hr]
          simp only [Bool.false_eq_true, if_false]
          by_cases hkn : s.rn ≤ cZ l j s.rt
          · rw [if_pos hkn, if_pos ⟨trivial, by simp [hkn]⟩]
            exact ⟨hu.w, rfl, by simp, fun _ => .inr ⟨j, rfl, rfl, cZ_own l j⟩, fun e => (by simp at e), fun e => (by simp at e), fun e => (by simp at e), by simp⟩
          · rw [if_neg hkn, if_neg (by simp [hkn])]
            obtain ⟨i, g1, g2, g3⟩ : ∃ i, p.rs = [i] ∧ s.rt = tZ l i ∧ s.rn = epo l i := by
              rcases h.r hmy with ⟨_, _, g⟩ | g
              · rw [g] at hkn; exact absurd (Nat.zero_le _) hkn
              · exact g
            have hij := h.mem i (by rw [g1]; simp)
            have hne : tZ l i ≠ tZ l j := fun e => hkn (by rw [g2, g3, e, cZ_own, epo_onr, epo_onr, e]; exact onr_le2 hm _ (Nat.le_of_lt hij) (Nat.le_of_lt hj))
            have hf : (p.rs.filter fun i => decide (tZ l i ≠ tZ l j)) = [i] := by rw [g1]; simp [hne]
            rw [hf]
            refine ⟨hu.w, rfl, (by simp; omega), fun e => (by simp at e), fun _ a ha => ?_, fun _ u => ?_, fun _ => ⟨rfl, rfl⟩, (by simp; omega)⟩
            · simp at ha
              dsimp only
              rcases ha with rfl | rfl
              · rw [if_neg hne, if_pos g2.symm, g3]
              · rw [if_pos rfl]; exact cZ_own l _
            · dsimp only
              by_cases e : u = tZ l j
              · exact .inr ⟨j, by simp, e.symm⟩
              · rw [if_neg e]
                by_cases e2 : u = s.rt
                · exact .inr ⟨i, by simp, by rw [e2, g2]⟩
                · rw [if_neg e2]; exact .inl rfl
        · rw [if_neg (by simp), if_pos rfl]
          refine ⟨hu.w, rfl, fun a ha => ?_, fun e => (by simp at e), fun _ a ha => ?_, fun _ u => ?_, fun _ => h.cl hmy, ?_⟩
          · rcases List.mem_append.1 ha with ha | ha
            · have := h.mem a (List.mem_filter.1 ha).1; omega
            · simp at ha; omega
          · dsimp only
            rcases List.mem_append.1 ha with ha | ha
            · have := List.mem_filter.1 ha
              rw [if_neg (by simpa using this.2)]
              exact h.rc1 hmy a this.1
            · simp at ha
              rw [ha, if_pos rfl]; exact cZ_own l j
          · dsimp only
            by_cases e : u = tZ l j
            · exact .inr ⟨j, by simp, e.symm⟩
            · rw [if_neg e]
              rcases h.rc2 hmy u with g | ⟨i, g1, g2⟩
              · exact .inl g
              · exact .inr ⟨i, List.mem_append.2 (.inl (List.mem_filter.2 ⟨g1, by simp; omega⟩)), g2⟩
          · rw [List.length_append]
            exact Nat.succ_le_succ (Nat.le_trans (List.length_filter_le _ _) h.len)
    · split
      · rfl
      · by_cases hw : s.wn ≤ cZ l j s.wt <;> simp [hw]
    · split
      · rfl
      · cases hmy : s.many
        · have hr : rKn s (cZ l j) = decide (s.rn ≤ cZ l j s.rt) := by unfold rKn; rw [hmy]; simp
          rw [hr]
          by_cases hkn : s.rn ≤ cZ l j s.rt <;> simp [hkn]
        · simp
  · simp only [if_neg h1]
    by_cases h2 : kZ l j = 2
    · simp only [if_pos h2]
      unfold plW
      rw [plr_sw hm hj h, plr_kn hm hj h (.inr h2), plr_late hm hj h (.inr h2)]
      refine ⟨?_, ?_, trivial⟩
      · by_cases hs : skW s (tZ l j) (cZ l j) = true
        · rw [if_pos hs, if_pos hs]; exact hu
        · rw [if_neg hs, if_neg hs]
          unfold fsW
          rw [h.my]
          cases hmy : s.many
          · refine ⟨.inr ⟨j, by omega, rfl, rfl, cZ_own l j⟩, rfl, ?_, fun _ => ?_, fun e => (by simp at e), fun e => (by simp at e), fun e => (by simp at e), ?_⟩
            · exact fun a ha => hu.mem a ha
            · exact h.r hmy
            · exact hu.len
          · refine ⟨.inr ⟨j, by omega, rfl, rfl, cZ_own l j⟩, rfl, by simp, fun _ => .inl ⟨rfl, h.cl hmy⟩, fun e => absurd (show false = true from e) (by simp), fun e => absurd (show false = true from e) (by simp), fun e => absurd (show false = true from e) (by simp), by simp⟩
      · split
        · rfl
        · by_cases hw : s.wn ≤ cZ l j s.wt
          · cases hr : rKn s (cZ l j) <;> simp [hw]
          · simp [hw]
    · simp only [if_neg h2]
      exact ⟨hu, trivial, trivial⟩
end
theorem plr_all {l : List Ev} (hm : may l = 0) (x : Nat) : ∀ k, k ≤ l.length → PlR l x k (plTo l x k) (fsTo l x k)
  | 0, _ => ⟨.inl ⟨rfl, rfl, rfl⟩, rfl, (by intro i hi; cases hi), fun _ => .inl ⟨rfl, rfl, rfl⟩, fun e => absurd (show false = true from e) (by simp), fun e => absurd (show false = true from e) (by simp), fun e => absurd (show false = true from e) (by simp), Nat.le_refl _⟩
  | k + 1, hk => by
    have ih := plr_all hm x k (by omega)
    rw [plTo, fsTo]
    split
    · rename_i ho
      exact (plr_step hm (by omega) ih ho).1
    · exact ih.up
end Go.Proofs.Ytnjaeampnakbbaa
namespace Go.Proofs.Ytnjaeampnakbbaa
open Go Go.RowKit

theorem acc_o {l : List Ev} (hm : may l = 0) {j : Nat} (hj : j < l.length) (hk : kZ l j = 1 ∨ kZ l j = 2) : oZ l j < 8 := by
  have h := isEv_o (eZ_ok hm hj)
  unfold kZ at hk
  have : nobj (eZ l j).k = 8 := by unfold nobj; rw [if_pos hk]
  unfold oZ; omega
theorem fkK_acc {l : List Ev} {j : Nat} (h : fkK l j ≠ 0) : kZ l j = 1 ∨ kZ l j = 2 := by
  refine Classical.byContradiction fun hn => h ?_
  unfold fkK fsK
  rw [if_neg (fun e => hn (.inl e)), if_neg (fun e => hn (.inr e))]
theorem fsSl_acc {l : List Ev} {j : Nat} {s : Fs} (h : fsSl s (kZ l j) (tZ l j) (cZ l j) ≠ 0) : kZ l j = 1 := by
  refine Classical.byContradiction fun hn => h ?_
  unfold fsSl
  rw [if_neg hn]
/-- How often R of variable x became a clock. -/
def slX (l : List Ev) (x : Nat) : Nat → Nat
  | 0 => 0
  | k + 1 => slX l x k + if oZ l k = x then plSl l (plTo l x k) k else 0
def slS (l : List Ev) (k : Nat) : Nat → Nat
  | 0 => 0
  | m + 1 => slS l k m + slX l m k
theorem slX_le {l : List Ev} (x : Nat) : ∀ k, slX l x k ≤ k
  | 0 => Nat.le_refl _
  | k + 1 => by
    have ih := slX_le (l := l) x k
    have : plSl l (plTo l x k) k ≤ 1 := by
      unfold plSl
      repeat' split
      all_goals omega
    rw [slX]
    split <;> omega
theorem slS_le {l : List Ev} (k : Nat) : ∀ m, slS l k m ≤ m * k
  | 0 => by simp [slS]
  | m + 1 => by
    have h1 := slS_le (l := l) k m
    have h2 := slX_le (l := l) m k
    rw [slS, Nat.succ_mul]; omega
theorem slS_zero {l : List Ev} : ∀ m, slS l 0 m = 0
  | 0 => rfl
  | m + 1 => by rw [slS, slS_zero m]; rfl
theorem slS_step {l : List Ev} {k : Nat} : ∀ m, slS l (k + 1) m = slS l k m + if oZ l k < m then plSl l (plTo l (oZ l k) k) k else 0
  | 0 => by simp [slS]
  | m + 1 => by
    rw [slS, slS, slS_step m, slX]
    by_cases h1 : oZ l k = m
    · subst h1
      rw [if_neg (Nat.lt_irrefl _), if_pos rfl, if_pos (Nat.lt_succ_self _)]; omega
    · rw [if_neg h1]
      by_cases h2 : oZ l k < m
      · rw [if_pos h2, if_pos (by omega)]; omega
      · rw [if_neg h2, if_neg (by omega)]; omega
theorem slS_all {l : List Ev} (hm : may l = 0) : ∀ k, k ≤ l.length → slS l k 8 = slT l k
  | 0, _ => slS_zero 8
  | k + 1, hk => by
    have h := plr_step hm (show k < l.length by omega) (plr_all hm (oZ l k) k (by omega)) rfl
    rw [slS_step, slS_all hm k (by omega), slT, h.2.2]
    by_cases h8 : oZ l k < 8
    · rw [if_pos h8]
    · rw [if_neg h8]
      have : fsSl (fsTo l (oZ l k) k) (kZ l k) (tZ l k) (cZ l k) = 0 := by
        refine Classical.byContradiction fun hn => h8 (acc_o hm (by omega) (.inl (fsSl_acc hn)))
      rw [this]
/-- The flags of variable x. -/
def kX (l : List Ev) (x j : Nat) : Int := if oZ l j = x then fkK l j else 0
/-- The flags of the variables below m, and those of m below k. -/
def faT (l : List Ev) (n m k : Nat) : List Ev := ((List.range m).flatMap fun x => gl (kX l x) l n) ++ gl (kX l m) l k
theorem faT_next (l : List Ev) (n m : Nat) : faT l n m n = faT l n (m + 1) 0 := by
  unfold faT
  rw [List.range_succ, List.flatMap_append]
  simp [gl]
theorem faT_yes {l : List Ev} {n m k : Nat} (h : kX l m k ≠ 0) : faT l n m (k + 1) = faT l n m k ++ [⟨(k : Nat), (eZ l k).o, kX l m k⟩] := by unfold faT; rw [gl_yes h, List.append_assoc]
theorem faT_no {l : List Ev} {n m k : Nat} (h : kX l m k = 0) : faT l n m (k + 1) = faT l n m k := by unfold faT; rw [gl_no h]
theorem faT_len (l : List Ev) (n m k : Nat) : (faT l n m k).length ≤ m * n + k := by
  unfold faT
  rw [List.length_append]
  have h1 := gl_len (kX l m) l k
  have h2 : ((List.range m).flatMap fun x => gl (kX l x) l n).length ≤ m * n := by
    clear h1
    induction m with
    | zero => simp
    | succ m ih =>
      rw [List.range_succ, List.flatMap_append, List.length_append, Nat.succ_mul]
      have := gl_len (kX l m) l n
      simp only [List.flatMap_cons, List.flatMap_nil, List.append_nil]
      omega
  omega
def atB (j : Nat) (e : Ev) : Bool := e.k == (j : Int)
theorem gl_filter {K : Nat → Int} {l : List Ev} {j : Nat} : ∀ {n : Nat}, (gl K l n).filter (atB j) = if j < n ∧ K j ≠ 0 then [⟨(j : Nat), (eZ l j).o, K j⟩] else []
  | 0 => by simp [gl]
  | n + 1 => by
    rw [gl]
    by_cases h0 : K n = 0
    · rw [if_pos h0, gl_filter]
      by_cases hj : j < n
      · by_cases hk : K j ≠ 0
        · rw [if_pos ⟨hj, hk⟩, if_pos ⟨by omega, hk⟩]
        · rw [if_neg (fun h => hk h.2), if_neg (fun h => hk h.2)]
      · rw [if_neg (fun h => hj h.1), if_neg]
        rintro ⟨h1, h2⟩
        have : j = n := by omega
        exact h2 (this ▸ h0)
    · rw [if_neg h0, List.filter_append, gl_filter]
      by_cases hj : j = n
      · subst hj
        rw [if_neg (fun h => absurd h.1 (Nat.lt_irrefl _)), if_pos ⟨Nat.lt_succ_self _, h0⟩]
        simp [atB]
      · have : [(⟨(n : Nat), (eZ l n).o, K n⟩ : Ev)].filter (atB j) = [] := by
          rw [List.filter_cons_of_neg (by unfold atB; simp; omega)]; rfl
        rw [this, List.append_nil]
        by_cases hc : j < n ∧ K j ≠ 0
        · rw [if_pos hc, if_pos ⟨by omega, hc.2⟩]
        · rw [if_neg hc, if_neg (fun h => hc ⟨by omega, h.2⟩)]
theorem faT_filter {l : List Ev} (hm : may l = 0) {j n : Nat} (hj : j < n) (hn : n ≤ l.length) : (faT l n 8 0).filter (atB j) = if fkK l j = 0 then [] else [⟨(j : Nat), (eZ l j).o, fkK l j⟩] := by
  have key : ∀ m, ((List.range m).flatMap fun x => gl (kX l x) l n).filter (atB j) = if oZ l j < m ∧ fkK l j ≠ 0 then [⟨(j : Nat), (eZ l j).o, fkK l j⟩] else [] := by
    intro m
    induction m with
    | zero => simp
    | succ m ih =>
      rw [List.range_succ, List.flatMap_append, List.filter_append, ih]
      simp only [List.flatMap_cons, List.flatMap_nil, List.append_nil]
      rw [gl_filter]
      unfold kX
      by_cases ho : oZ l j = m
      · rw [if_pos ho]
        by_cases h0 : fkK l j = 0
        · simp [h0]
        · rw [if_neg (by omega), if_pos ⟨hj, h0⟩, if_pos ⟨by omega, h0⟩]; rfl
      · rw [if_neg ho]
        simp only [ne_eq, not_true, and_false, if_false, List.append_nil]
        by_cases hc : oZ l j < m ∧ fkK l j ≠ 0
        · rw [if_pos hc, if_pos ⟨by omega, hc.2⟩]
        · rw [if_neg hc, if_neg (fun h => hc ⟨by omega, h.2⟩)]
  unfold faT
  rw [gl, List.append_nil, key]
  by_cases h0 : fkK l j = 0
  · rw [if_pos h0, if_neg (fun h => h.2 h0)]
  · rw [if_neg h0, if_pos ⟨acc_o hm (by omega) (fkK_acc h0), h0⟩]
/-- The flags behind place j, and of those at j the first i that were found. -/
def outT (l : List Ev) (fa : List Ev) (j i : Nat) : List Ev := gl (fkK l) l j ++ (fa.take i).filter (atB j)
theorem outT_zero (l fa : List Ev) (j : Nat) : outT l fa j 0 = gl (fkK l) l j := by simp [outT]
theorem outT_yes {l fa : List Ev} {j i : Nat} {e : Ev} (h : fa[i]? = some e) (he : e.k = j) : outT l fa j (i + 1) = outT l fa j i ++ [e] := by
  unfold outT
  rw [take_snoc' h, List.filter_append, ← List.append_assoc]
  congr 1
  simp [atB, he]
theorem outT_no {l fa : List Ev} {j i : Nat} {e : Ev} (h : fa[i]? = some e) (he : e.k ≠ j) : outT l fa j (i + 1) = outT l fa j i := by
  unfold outT
  rw [take_snoc' h, List.filter_append]
  have : [e].filter (atB j) = [] := by rw [List.filter_cons_of_neg (by unfold atB; simpa using he)]; rfl
  rw [this, List.append_nil]
theorem outT_all {l : List Ev} (hm : may l = 0) {j n : Nat} (hj : j < n) (hn : n ≤ l.length) : outT l (faT l n 8 0) j (faT l n 8 0).length = gl (fkK l) l (j + 1) := by
  unfold outT
  rw [List.take_length, faT_filter hm hj hn, gl]
  split <;> simp
theorem outT_len (l fa : List Ev) (j i : Nat) : (outT l fa j i).length ≤ j + i := by
  unfold outT
  rw [List.length_append]
  have h1 := gl_len (fkK l) l j
  have h2 : ((fa.take i).filter (atB j)).length ≤ i := Nat.le_trans (List.length_filter_le _ _) (by rw [List.length_take]; omega)
  omega
end Go.Proofs.Ytnjaeampnakbbaa

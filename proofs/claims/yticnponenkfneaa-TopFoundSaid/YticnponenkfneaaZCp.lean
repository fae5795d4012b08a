import Derived.Test.YticnponenkfneaaZMe
import Derived.Test.YticnponenkfneaaZRpG
import Derived.Test.YticnponenkfneaaZAppend
import Derived.Test.YticnponenkfneaaRows
import Derived.WalkKit
import Derived.WalkSpells
import Derived.WalkLawsBesides
import Derived.Lib.Hide
import Derived.IntWalk
import Derived.Test.YticnponenkfneaaZBase
import Derived.Test.YticnponenkfneaaZEqInt
set_option linter.all false
set_option maxRecDepth 100000
namespace Go.Proofs.Yticnponenkfneaa
open Go Go.RowKit

def stF (a : Nat → Nat) (l : List Ev) (i : Nat) : Int :=
  if i < 6 then (a i : Int) else match l[(i - 6) / 3]? with
    | none => 0
    | some e => if (i - 6) % 3 = 0 then e.k else if (i - 6) % 3 = 1 then e.t else e.o
def stV (a : Nat → Nat) (l : List Ev) : Array Value := vs 36 fun i => .int .i64 (stF a l i)
theorem stV_at {a b : Nat → Nat} {l m : List Ev} (h : stV a l = stV b m) {i : Nat} (hi : i < 36) : stF a l i = stF b m i := by
  have h1 : (stV a l)[i]? = (stV b m)[i]? := by rw [h]
  unfold stV at h1
  rw [vs_get _ hi, vs_get _ hi] at h1
  simpa using h1
theorem stV_inj {a b : Nat → Nat} {l m : List Ev} (hl : l.length ≤ 10) (hm : m.length ≤ 10) (kl : ∀ e ∈ l, e.k ≠ 0) (km : ∀ e ∈ m, e.k ≠ 0) (h : stV a l = stV b m) : (∀ t, t < 6 → a t = b t) ∧ l = m := by
  refine ⟨fun t ht => ?_, ?_⟩
  · have := stV_at h (i := t) (by omega)
    unfold stF at this
    rw [if_pos ht, if_pos ht] at this
    omega
  · apply List.ext_getElem?
    intro j
    by_cases hj : j < 10
    · have g : ∀ c, c < 3 → stF a l (6 + j * 3 + c) = stF b m (6 + j * 3 + c) := fun c hc => stV_at h (by omega)
      have e : ∀ (a : Nat → Nat) (l : List Ev) (c : Nat), c < 3 → stF a l (6 + j * 3 + c) = match l[j]? with | none => 0 | some e => if c = 0 then e.k else if c = 1 then e.t else e.o := fun a l c hc => by
        unfold stF
        rw [if_neg (by omega), show (6 + j * 3 + c - 6) / 3 = j by omega, show (6 + j * 3 + c - 6) % 3 = c by omega]
      have g0 := g 0 (by omega)
      have g1 := g 1 (by omega)
      have g2 := g 2 (by omega)
      rw [e a l 0 (by omega), e b m 0 (by omega)] at g0
      rw [e a l 1 (by omega), e b m 1 (by omega)] at g1
      rw [e a l 2 (by omega), e b m 2 (by omega)] at g2
      cases h1 : l[j]? with
      | none =>
        cases h2 : m[j]? with
        | none => rfl
        | some y =>
          rw [h1, h2] at g0
          exact absurd g0.symm (km y (List.mem_of_getElem? h2))
      | some x =>
        cases h2 : m[j]? with
        | none =>
          rw [h1, h2] at g0
          exact absurd g0 (kl x (List.mem_of_getElem? h1))
        | some y =>
          rw [h1, h2] at g0 g1 g2
          obtain ⟨xk, xt, xo⟩ := x
          obtain ⟨yk, yt, yo⟩ := y
          simp at g0 g1 g2
          subst g0 g1 g2
          rfl
    · rw [List.getElem?_eq_none (by omega), List.getElem?_eq_none (by omega)]
theorem eqv_k {l m : List Ev} (h : Eqv l m) (hk : ∀ e ∈ l, e.k ≠ 0) : ∀ e ∈ m, e.k ≠ 0 := by
  induction h with
  | refl => exact hk
  | step _ h2 ih => exact fun e he => ih e (h2.perm.symm.subset he)
theorem step_k {P : List (List Ev)} {s : Ps} (h : ∀ e ∈ s.L, e.k ≠ 0) (t : Nat) : ∀ e ∈ (stepP P s t).L, e.k ≠ 0 := by
  unfold stepP
  split
  · exact h
  · rename_i o _
    intro e he
    have he : e ∈ s.L ++ evO P s t o := he
    rcases List.mem_append.1 he with he | he
    · exact h e he
    · unfold evO at he
      split at he
      · cases he
      · rename_i hk
        obtain rfl := List.mem_singleton.1 he
        exact hk
theorem go_k {P : List (List Ev)} : ∀ (w : List Nat) {s : Ps}, (∀ e ∈ s.L, e.k ≠ 0) → ∀ e ∈ (goS P s w).L, e.k ≠ 0
  | [], _, h => h
  | t :: w, s, h => go_k w (step_k h t)
def kidsW (P : List (List Ev)) (w : List Nat) : List Nat := (List.range P.length).filter (canP P (goS P ps0 w))
def keyW (P : List (List Ev)) (w : List Nat) : Array Value := stV (goS P ps0 w).a (leastL (goS P ps0 w).L)
def raceW (P : List (List Ev)) (w : List Nat) : Bool := !(rcs (goS P ps0 w).L).isEmpty
theorem vl_snoc {P : List (List Ev)} {w : List Nat} {t : Nat} : VlP P ps0 (w ++ [t]) ↔ VlP P ps0 w ∧ t ∈ kidsW P w := by
  rw [vl_app]
  unfold kidsW
  rw [List.mem_filter, List.mem_range]
  constructor
  · rintro ⟨h1, h2, _⟩; exact ⟨h1, (can_op h2).1, h2⟩
  · rintro ⟨h1, _, h2⟩; exact ⟨h1, h2, trivial⟩
theorem go_snoc (P : List (List Ev)) (w : List Nat) (t : Nat) : goS P ps0 (w ++ [t]) = stepP P (goS P ps0 w) t := by unfold goS; rw [List.foldl_append]; rfl
def totP (P : List (List Ev)) : Nat := (P.map (·.length)).sum
theorem sum_ops : ∀ {P : List (List Ev)}, P.length ≤ 6 → (opsP P 0).length + (opsP P 1).length + (opsP P 2).length + (opsP P 3).length + (opsP P 4).length + (opsP P 5).length = totP P
  | [], _ => rfl
  | [_], _ => by simp [opsP, totP]
  | [_, _], _ => by simp [opsP, totP]
  | [_, _, _], _ => by simp [opsP, totP]; omega
  | [_, _, _, _], _ => by simp [opsP, totP]; omega
  | [_, _, _, _, _], _ => by simp [opsP, totP]; omega
  | [_, _, _, _, _, _], _ => by simp [opsP, totP]; omega
  | _ :: _ :: _ :: _ :: _ :: _ :: _ :: _, h => by simp at h
section
variable {P : List (List Ev)} (hP : OkP P)
include hP
theorem lft_tot : lftP P ps0 = totP P := by
  rw [← sum_ops hP.six]
  unfold lftP ps0
  simp
theorem vl_tot {w : List Nat} (h : VlP P ps0 w) : w.length ≤ totP P := by
  have := vl_len hP h
  rw [lft_tot hP] at this
  omega
theorem go_ok {w : List Nat} (h : VlP P ps0 w) : PsR P (goS P ps0 w) := by rw [← run_pks h]; exact runP_ok hP _
theorem vl_sum {w : List Nat} (h : VlP P ps0 w) : w.length = (goS P ps0 w).a 0 + (goS P ps0 w).a 1 + (goS P ps0 w).a 2 + (goS P ps0 w).a 3 + (goS P ps0 w).a 4 + (goS P ps0 w).a 5 := by
  have := vl_len hP h
  have k := go_ok hP h
  have h0 := k.le 0; have h1 := k.le 1; have h2 := k.le 2; have h3 := k.le 3; have h4 := k.le 4; have h5 := k.le 5
  unfold lftP at this
  simp only [ps0] at this h0 h1 h2 h3 h4 h5 ⊢
  omega
theorem go_len {w : List Nat} (h : VlP P ps0 w) : (goS P ps0 w).L.length ≤ w.length := by
  have := (go_ok hP h).len
  rw [vl_sum hP h]; exact this
theorem key_kq (h10 : totP P ≤ 10) {v w : List Nat} (hv : VlP P ps0 v) (hw : VlP P ps0 w) (h : keyW P v = keyW P w) : Kq (goS P ps0 v) (goS P ps0 w) := by
  have fit : ∀ {u : List Nat}, VlP P ps0 u → Fit (goS P ps0 u).L := fun hu => may_fit ((go_ok hP hu).may hP)
  have hlen : ∀ {u : List Nat}, VlP P ps0 u → (leastL (goS P ps0 u).L).length ≤ 10 := fun {u} hu => by
    rw [leastL_len (fit hu)]
    have := go_len hP hu
    have := vl_tot hP hu
    omega
  have hk : ∀ {u : List Nat}, VlP P ps0 u → ∀ e ∈ leastL (goS P ps0 u).L, e.k ≠ 0 := fun {u} hu => eqv_k (leastL_eqv (fit hu)) (go_k u (fun e he => by cases he))
  obtain ⟨h1, h2⟩ := stV_inj (hlen hv) (hlen hw) (hk hv) (hk hw) h
  exact kq_of hP hv hw h1 h2
theorem key_ext {v w : List Nat} {t : Nat} (hq : Kq (goS P ps0 v) (goS P ps0 w)) (hv : VlP P ps0 v) (hw : VlP P ps0 w) (h : VlP P ps0 (v ++ [t])) : VlP P ps0 (w ++ [t]) ∧ keyW P (v ++ [t]) = keyW P (w ++ [t]) := by
  have h1 : VlP P ps0 (w ++ [t]) := by
    rw [vl_snoc] at h ⊢
    refine ⟨hw, ?_⟩
    have := h.2
    unfold kidsW at this ⊢
    rw [List.mem_filter] at this ⊢
    exact ⟨this.1, by rw [← hq.can]; exact this.2⟩
  refine ⟨h1, ?_⟩
  have hs := hq.step (P := P) t
  unfold keyW
  rw [go_snoc, go_snoc, hs.a, eqv_least hs.eq]
theorem kq_race {v w : List Nat} (hv : VlP P ps0 v) (hq : Kq (goS P ps0 v) (goS P ps0 w)) : raceW P v = raceW P w := by
  unfold raceW
  have := hq.race ((go_ok hP hv).may hP)
  rw [← List.isEmpty_iff, ← List.isEmpty_iff] at this
  rw [Bool.eq_iff_iff, Bool.not_eq_true', Bool.not_eq_true', ← Bool.not_eq_true, ← Bool.not_eq_true, this]
theorem kq_len {v w : List Nat} (hv : VlP P ps0 v) (hw : VlP P ps0 w) (hq : Kq (goS P ps0 v) (goS P ps0 w)) : v.length = w.length := by rw [vl_sum hP hv, vl_sum hP hw, hq.a]

open Classical in
def visR (P : List (List Ev)) (s : Option (List Nat)) (w : List Nat) : Option (List Nat) × Bool :=
  if s.any (fun b => decide (b.length ≤ w.length)) = true then (s, false) else if raceW P w = true then (some w, false) else (s, true)
theorem mdh_races (h10 : totP P ≤ 10) : MdH (kidsW P) (keyW P) (visR P) (VlP P ps0) (fun s v => s.any (fun b => decide (b.length ≤ v.length)) = true ∨ raceW P v = false)
    (fun s => ∀ b, s = some b → VlP P ps0 b ∧ raceW P b = true ∧ ∀ v, VlP P ps0 v → raceW P v = true → v.length = b.length → v = b ∨ lxL b v) where
  kid _ _ := vl_snoc
  ord _ := List.pairwise_lt_range.filter _
  klen v w hv hw hk := kq_len hP hv hw (key_kq hP h10 hv hw hk)
  kext v w t hv hw hk h := key_ext hP (key_kq hP h10 hv hw hk) hv hw h
  nkey s v w hv hw hk h := by
    have hq := key_kq hP h10 hv hw hk
    rw [← kq_race hP hv hq, ← kq_len hP hv hw hq]; exact h
  per s v u h _ := by
    unfold visR
    split
    · exact h
    · rename_i hu
      split
      · rcases h with h | h
        · left
          cases s with
          | none => simp at h
          | some b => simp at h hu ⊢; omega
        · exact .inr h
      · exact h
  own s w _ := by
    unfold visR
    split
    · rename_i h; exact .inl h
    · split
      · exact .inl (by simp)
      · rename_i h; exact .inr (by simpa using h)
  cut s w x _ h := by
    unfold visR at h ⊢
    split at h
    · rename_i hh
      rw [if_pos hh]
      left
      cases s with
      | none => simp at hh
      | some b => simp at hh ⊢; omega
    · rename_i hh
      split at h
      · rename_i hr
        rw [if_neg hh, if_pos hr]
        left
        simp
      · cases h
  good s w hw hJ hlx := by
    unfold visR
    split
    · exact hJ
    · rename_i hn
      split
      · rename_i hr
        intro b hb
        obtain rfl := Option.some.inj hb
        refine ⟨hw, hr, fun v hv hvr hvl => ?_⟩
        rcases lx_tot v w with g | rfl | g
        · rcases hlx v hv g with e | e
          · rw [hvl] at e; exact absurd e hn
          · rw [hvr] at e; cases e
        · exact .inl rfl
        · exact .inr g
      · exact hJ
theorem raceW_iff {w : List Nat} : raceW P w = true ↔ rcs (goS P ps0 w).L ≠ [] := by
  unfold raceW
  rw [Bool.not_eq_true', ← Bool.not_eq_true, List.isEmpty_iff]
theorem mdf_races (h10 : totP P ≤ 10) {n : Nat} (hn : totP P < n) :
    (∀ b, (mdf (kidsW P) (keyW P) (visR P) n ([], none) []).2 = some b → IsBest P b) ∧ ((mdf (kidsW P) (keyW P) (visR P) n ([], none) []).2 = none → ∀ ts, rcs (runP P ts).L = []) := by
  have ok := mdf_ok (mdh_races hP h10) n [] none [] (fun x hx => by have := vl_tot hP hx; simp at this; omega) trivial (fun x hx => by cases hx) (fun v _ h => by cases v <;> exact h.elim) (fun v _ _ h => by cases h)
  refine ⟨fun b hb => ?_, fun hn => no_best fun v hv => ?_⟩
  · obtain ⟨g1, g2, g3⟩ := ok.good b hb
    refine ⟨g1, (raceW_iff hP).1 g2, fun v hv hr => ?_⟩
    have hr' := (raceW_iff hP).2 hr
    rcases ok.all v hv with e | e
    · rw [hb] at e
      have e : b.length ≤ v.length := by simpa using e
      rcases Nat.lt_or_ge b.length v.length with q | q
      · exact .inr (.inl q)
      · rcases g3 v hv hr' (by omega) with h | h
        · exact .inl h
        · exact .inr (.inr ⟨by omega, h⟩)
    · rw [List.nil_append] at e; rw [hr'] at e; cases e
  · rcases ok.all v hv with e | e
    · rw [hn] at e; simp at e
    · rw [List.nil_append] at e
      unfold raceW at e
      rw [Bool.not_eq_false', List.isEmpty_iff] at e
      exact e
end
end Go.Proofs.Yticnponenkfneaa
set_option linter.all false
set_option maxRecDepth 100000
namespace Go.Proofs.Yticnponenkfneaa
open Go Go.RowKit

end Go.Proofs.Yticnponenkfneaa
set_option linter.all false
set_option maxRecDepth 100000
namespace Go.Proofs.Yticnponenkfneaa
open Go Go.RowKit

end Go.Proofs.Yticnponenkfneaa
set_option linter.all false
set_option maxRecDepth 100000
namespace Go.Proofs.Yticnponenkfneaa
open Go Go.RowKit

theorem wpList_append_srcE {P : Program} {ops : Array Oper} {rest : List Oper} {o : Oper} {a : Act} {w : World} {Q : Exit → Act → World → Prop} (hgd : o.guard = none) (s x : Operand) (t : TypeId)
    (ho : o.op = .call { callee := .builtin .append, args := #[s, x], argTypes := #[t, t] })
    (base : Nat) (e : TypeId) (i : TypeInfo) (z : Value) (size bytes : Nat) (ht : P.underlying t = some (.slice e)) (hi : P.info? e = some i) (hz : i.zero = some z)
    (hsize : i.size = size) (hby : i.bytes = bytes) (hzs : z.cells.size = size) (hsz : 0 < size)
    (v : Value) (n : Nat) (xs : List Value) (hv : a.eval s = v) (hown : w.ownsRow base e size v n xs)
    (A : Option Addr) (m c : Nat) (news : List Value) (hx : a.eval x = .slice A m c) (hl : news.length = m * size) (hs : Src w A m news) (h1 : ∀ u ∈ news, u.oneCell' = true)
    (h63 : n + m ≤ maxLen) (hbytes : (n + m) * bytes ≤ 140737488355328) (hbase : base ≤ w.heap.size)
    (h : ∀ v' w', w'.ownsRow base e size v' (n + m) (xs ++ news) → w.grownBy w' v.ownBlock → (v'.ownBlock = v.ownBlock ∨ v'.ownBlock = some w.heap.size) → wpList P ops Q rest (a.put o.dst v') w') : wpList P ops Q (o :: rest) a w :=
  wpList_plain hgd fun _ hK => wp_append_src s x t ho base e i z size bytes ht hi hz hsize hby hzs hsz v n xs hv hown A m c news hx hl hs h1 h63 hbytes hbase (fun v' w' a b c => hK _ _ (h v' w' a b c))
def CpPost (w : World) (n : Nat) (l : List Ev) (e : Ending) (w' : World) : Prop := ∃ v, e = .returned v ∧ w'.ownsRow w.heap.size 67 3 v n (evc l) ∧ Below w.heap.size w w'
end Go.Proofs.Yticnponenkfneaa

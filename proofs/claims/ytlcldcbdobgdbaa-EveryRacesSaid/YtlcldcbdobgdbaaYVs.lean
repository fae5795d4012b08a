import Derived.Test.YtlcldcbdobgdbaaYCi
import Derived.Test.YtlcldcbdobgdbaaYBase
set_option linter.all false
set_option maxRecDepth 100000
namespace Go.Proofs.Ytlcldcbdobgdbaa
open Go Go.RowKit

def EnF (x : Array Value) : Prop := ∃ m v h d k, x = (endc m v h d k).toArray
theorem EnF.of (P : List (List Ev)) (s : Ps) : EnF (endP P s) := ⟨_, _, _, _, _, rfl⟩
theorem IsEnd.form {P : List (List Ev)} {x : Array Value} (h : IsEnd P x) : EnF x := by
  obtain ⟨ts, _, rfl⟩ := h
  exact .of P _
theorem eql_enf {x y : Array Value} (hx : EnF x) (hy : EnF y) : ∃ b : Bool, (∀ w, (binOp .eql 33 (.agg x) (.agg y)).run Try.prog w = .ok (.bool b) w) ∧ (b = true ↔ x = y) := by
  obtain ⟨m, v, h, d, k, rfl⟩ := hx
  obtain ⟨m', v', h', d', k', rfl⟩ := hy
  refine ⟨_, fun w => eql_endg m v h m' v' h' d k d' k' w, ?_⟩
  rw [endB_iff]
  constructor
  · intro e; rw [e]
  · intro e; simpa using e
def ltI : List Int → List Int → Prop
  | [], [] => False
  | [], _ :: _ => True
  | _ :: _, [] => False
  | a :: x, b :: y => a < b ∨ (a = b ∧ ltI x y)
theorem ltI_asym : ∀ {x y : List Int}, ltI x y → ¬ ltI y x
  | [], [] => fun h => h.elim
  | [], _ :: _ => fun _ g => g
  | _ :: _, [] => fun h => h.elim
  | a :: x, b :: y => fun h g => by
    rcases h with h | ⟨h, h'⟩ <;> rcases g with g | ⟨g, g'⟩
    · omega
    · omega
    · omega
    · exact ltI_asym h' g'
theorem ltI_tot : ∀ (x y : List Int), ltI x y ∨ x = y ∨ ltI y x
  | [], [] => .inr (.inl rfl)
  | [], _ :: _ => .inl trivial
  | _ :: _, [] => .inr (.inr trivial)
  | a :: x, b :: y => by
    rcases Int.lt_trichotomy a b with h | rfl | h
    · exact .inl (.inl h)
    · rcases ltI_tot x y with g | rfl | g
      · exact .inl (.inr ⟨rfl, g⟩)
      · exact .inr (.inl rfl)
      · exact .inr (.inr (.inr ⟨rfl, g⟩))
    · exact .inr (.inr (.inl h))
theorem ltI_trans : ∀ {x y z : List Int}, ltI x y → ltI y z → ltI x z
  | [], [], _, h, _ => h.elim
  | [], _ :: _, [], _, g => g.elim
  | [], _ :: _, _ :: _, _, _ => trivial
  | _ :: _, [], _, h, _ => h.elim
  | _ :: _, _ :: _, [], _, g => g.elim
  | a :: x, b :: y, c :: z, h, g => by
    rcases h with h | ⟨h, h'⟩ <;> rcases g with g | ⟨g, g'⟩
    · exact .inl (by omega)
    · exact .inl (by omega)
    · exact .inl (by omega)
    · exact .inr ⟨by omega, ltI_trans h' g'⟩
def vInt : Value → Int
  | .int _ n => n
  | .bool b => if b = true then 1 else 0
  | _ => 0
def enK (x : Array Value) : List Int := (x.toList.take 19).map vInt
theorem enK_c (m v h : Nat → Int) (d k : Bool) : enK (endc m v h d k).toArray = [m 0, m 1, m 2, m 3, m 4, m 5, m 6, m 7, v 0, v 1, v 2, v 3, h 0, h 1, h 2, h 3, h 4, h 5, if d = true then 1 else 0] := rfl
theorem end_key {P : List (List Ev)} {x y : Array Value} (hx : IsEnd P x) (hy : IsEnd P y) (h : enK x = enK y) : x = y := by
  obtain ⟨ts, gx, rfl⟩ := hx
  obtain ⟨us, gy, rfl⟩ := hy
  unfold endP at h ⊢
  rw [enK_c, enK_c] at h
  have hd : doneP P (runP P ts) = doneP P (runP P us) := by
    simp only [List.cons.injEq, and_true] at h
    have := h.2.2.2.2.2.2.2.2.2.2.2.2.2.2.2.2.2.2
    cases h1 : doneP P (runP P ts) <;> cases h2 : doneP P (runP P us) <;> simp [h1, h2] at this ⊢
  have hk : stuckP P (runP P ts) = stuckP P (runP P us) := by unfold stuckP; rw [gx, gy, hd]
  rw [hd, hk]
  simp only [List.cons.injEq, and_true] at h
  congr 1
  unfold endc
  simp only [List.cons.injEq, Value.int.injEq, true_and, and_true]
  exact ⟨h.1, h.2.1, h.2.2.1, h.2.2.2.1, h.2.2.2.2.1, h.2.2.2.2.2.1, h.2.2.2.2.2.2.1, h.2.2.2.2.2.2.2.1, h.2.2.2.2.2.2.2.2.1, h.2.2.2.2.2.2.2.2.2.1, h.2.2.2.2.2.2.2.2.2.2.1, h.2.2.2.2.2.2.2.2.2.2.2.1, h.2.2.2.2.2.2.2.2.2.2.2.2.1, h.2.2.2.2.2.2.2.2.2.2.2.2.2.1, h.2.2.2.2.2.2.2.2.2.2.2.2.2.2.1, h.2.2.2.2.2.2.2.2.2.2.2.2.2.2.2.1, h.2.2.2.2.2.2.2.2.2.2.2.2.2.2.2.2.1, h.2.2.2.2.2.2.2.2.2.2.2.2.2.2.2.2.2.1⟩
structure EndsOk (P : List (List Ev)) (xs : List (Array Value)) : Prop where
  ord : xs.Pairwise fun x y => ltI (enK x) (enK y)
  all : ∀ x, x ∈ xs ↔ IsEnd P x
structure IsBest (P : List (List Ev)) (w : List Nat) : Prop where
  vl : VlP P ps0 w
  race : rcs (goS P ps0 w).L ≠ []
  least : ∀ v, VlP P ps0 v → rcs (goS P ps0 v).L ≠ [] → v = w ∨ btL w v
theorem IsBest.uniq {P : List (List Ev)} {w v : List Nat} (h : IsBest P w) (k : IsBest P v) : w = v := bt_uniq ((h.least v k.vl k.race).imp Eq.symm id) ((k.least w h.vl h.race).imp Eq.symm id)
theorem no_best {P : List (List Ev)} (h : ∀ v, VlP P ps0 v → rcs (goS P ps0 v).L = []) (ts : List Int) : rcs (runP P ts).L = [] := by
  obtain ⟨hv, e⟩ := eff_vl (P := P) ts ps0
  rw [show runP P ts = goS P ps0 (effP P ps0 ts) from e.symm]
  exact h _ hv
def evC (P : List (List Ev)) : Int := if chkP P ≠ 0 then chkP P else if 10 < (P.map (·.length)).sum then 2 else 0
theorem evC_ok {P : List (List Ev)} (h : evC P = 0) : OkP P := by
  unfold evC at h
  split at h
  · contradiction
  · rename_i h0
    exact chk_ok.1 (by omega)
def ens (xs : List (Array Value)) : List Value := xs.flatMap (·.toList)
def RacesB (P : List (List Ev)) (b : Bool) (ws : List Nat) : Prop :=
  (evC P ≠ 0 ∧ b = false ∧ ws = []) ∨ (evC P = 0 ∧ b = false ∧ ws = [] ∧ ∀ ts, rcs (runP P ts).L = []) ∨ (evC P = 0 ∧ b = true ∧ IsBest P ws)
theorem IsBest.some_race {P : List (List Ev)} {w : List Nat} (h : IsBest P w) : ¬ ∀ ts, rcs (runP P ts).L = [] := fun g => h.race (by rw [← run_pks h.vl]; exact g _)
theorem racesB_uniq {P : List (List Ev)} {a b : Bool} {ws us : List Nat} (h : RacesB P a ws) (k : RacesB P b us) : a = b ∧ ws = us := by
  rcases h with ⟨h1, h2, h3⟩ | ⟨h1, h2, h3, h4⟩ | ⟨h1, h2, h3⟩ <;> rcases k with ⟨k1, k2, k3⟩ | ⟨k1, k2, k3, k4⟩ | ⟨k1, k2, k3⟩ <;>
    first
    | exact absurd h1 k1
    | exact absurd k1 h1
    | exact absurd h4 k3.some_race
    | exact absurd k4 h3.some_race
    | exact ⟨h2.trans k2.symm, h3.uniq k3⟩
    | exact ⟨h2.trans k2.symm, h3.trans k3.symm⟩
def EndsPost (w : World) (P : List (List Ev)) (e : Ending) (w' : World) : Prop :=
  ∃ v xs, e = .returned (.tuple #[v, .int .i64 (evC P)]) ∧ (evC P ≠ 0 → xs = []) ∧ (evC P = 0 → EndsOk P xs) ∧ w'.ownsRow w.heap.size 33 20 v xs.length (ens xs) ∧ Below w.heap.size w w'
def ERacesPost (w : World) (P : List (List Ev)) (e : Ending) (w' : World) : Prop :=
  ∃ b v ws, e = .returned (.tuple #[.bool b, v, .int .i64 (evC P)]) ∧ RacesB P b ws ∧ w'.ownsRow w.heap.size 3 1 v ws.length (intq (pks ws)) ∧ Below w.heap.size w w'
def EndsC : Prop := ∀ (A : Option Addr) (n c : Nat) (P : List (List Ev)) (w : World), Prg w A n P → n ≤ c → c ≤ maxLen → Calls Try.prog 15 #[.slice A n c] w (EndsPost w P)
def ERacesC : Prop := ∀ (A : Option Addr) (n c : Nat) (P : List (List Ev)) (w : World), Prg w A n P → n ≤ c → c ≤ maxLen → Calls Try.prog 22 #[.slice A n c] w (ERacesPost w P)
end Go.Proofs.Ytlcldcbdobgdbaa
set_option linter.all false
set_option maxRecDepth 100000
namespace Go.Proofs.Ytlcldcbdobgdbaa
open Go Go.RowKit

section
variable {P : Program}
theorem run_store1 (w : World) (b k : Nat) (ty : TypeId) (v : Value) (hc : (w.cell? ⟨b, k, none⟩).isSome = true) (hf : w.frozen? ⟨b, k, none⟩ = false) (hi : (P.info? ty).map (·.size) = some 1) (h1 : v.oneCell' = true) :
    (Instr.storeAt ty (.pointer (some ⟨b, k, none⟩)) v).run P w = .ok () (w.setCell ⟨b, k, none⟩ v) := by
  have := run_storeCells_cells (P := P) b k [v] 0 w (fun j hj => by have : j = 0 := by simpa using hj
                                                                    subst this; simpa using hc)
    (fun j hj => by have : j = 0 := by simpa using hj
                    subst this; simpa using hf) (fun x hx => by simp at hx; subst hx; exact h1)
  have hv : v.cells = #[v] := by cases v <;> first | rfl | cases h1
  cases hq : P.info? ty with
  | none => simp [hq] at hi
  | some i =>
    have hs : i.size = 1 := by simpa [hq] using hi
    simp only [Nat.add_zero] at this
    simp only [Instr.storeAt, Instr.sureAddr, Sem.run_bind, Sem.run_pure, Result.andThen_ok]
    simp [storeVar, sizeOf, typeInfo, hq, hv, hs, this]
    rfl
variable {ops : Array Oper} {rest : List Oper} {o : Oper} {a : Act} {w : World} {Q : Exit → Act → World → Prop}
theorem wp_cell1 {K : Act → World → Prop} (ty : TypeId) (x y : Operand) (ho : o.op = .store ty x y) {v : Value} (hy : a.eval y = v) {b k : Nat} (hx : a.eval x = .pointer (some ⟨b, k, none⟩)) (hi : (P.info? ty).map (·.size) = some 1) (h1 : v.oneCell' = true)
    (hc : (w.cell? ⟨b, k, none⟩).isSome = true) (hf : w.frozen? ⟨b, k, none⟩ = false) (h : K (a.put o.dst undef) (w.setCell ⟨b, k, none⟩ v)) : o.wp P a w K Q := by
  unfold Oper.wp execOp
  simp only [ho, hx, hy, Sem.run_bind, run_store1 w b k ty v hc hf hi h1, Sem.run_pure, Result.andThen_ok]
  exact h
theorem l_cell1 (ty : TypeId) (x y : Operand) (ho : o.op = .store ty x y) (hgd : o.guard = none) {v : Value} (hy : a.eval y = v) {b k : Nat} (hx : a.eval x = .pointer (some ⟨b, k, none⟩)) (hi : (P.info? ty).map (·.size) = some 1) (h1 : v.oneCell' = true)
    (hc : (w.cell? ⟨b, k, none⟩).isSome = true) (hf : w.frozen? ⟨b, k, none⟩ = false) (h : wpList P ops Q rest (a.put o.dst undef) (w.setCell ⟨b, k, none⟩ v)) : wpList P ops Q (o :: rest) a w :=
  wpList_plain hgd fun _ hK' => wp_cell1 ty x y ho hy hx hi h1 hc hf (hK' _ _ h)
end
def vs (n : Nat) (g : Nat → Value) : Array Value := ((List.range n).map g).toArray
theorem vs_size (n : Nat) (g : Nat → Value) : (vs n g).size = n := by simp [vs]
theorem vs_get {n : Nat} (g : Nat → Value) {j : Nat} (hj : j < n) : (vs n g)[j]? = some (g j) := by simp [vs, hj]
theorem vs_congr {n : Nat} {g g' : Nat → Value} (h : ∀ j, j < n → g j = g' j) : vs n g = vs n g' := by
  unfold vs
  rw [List.map_congr_left fun j hj => h j (List.mem_range.1 hj)]
def updC (g : Nat → Value) (j : Nat) (v : Value) : Nat → Value := fun i => if i = j then v else g i
theorem vs_set (n : Nat) (g : Nat → Value) (j : Nat) (v : Value) : (vs n g).setIfInBounds j v = vs n (updC g j v) := by
  apply Array.ext_getElem?
  intro i
  rw [Array.getElem?_setIfInBounds]
  by_cases hi : i < n
  · by_cases hij : j = i
    · subst hij; rw [if_pos rfl, if_pos (by rw [vs_size]; exact hi), vs_get _ hi]; simp [updC]
    · rw [if_neg hij, vs_get _ hi, vs_get _ hi]
      simp [updC, Ne.symm hij]
  · have h1 : (vs n g)[i]? = none := Array.getElem?_eq_none (by rw [vs_size]; omega)
    have h2 : (vs n (updC g j v))[i]? = none := Array.getElem?_eq_none (by rw [vs_size]; omega)
    rw [h1, h2]
    split
    · rename_i hij; subst hij; simp [vs_size, hi]
    · rfl
theorem vs_all {n : Nat} {g : Nat → Value} (h : ∀ i, (g i).oneCell' = true) : (vs n g).all (·.oneCell') = true := by
  rw [Array.all_eq_true_iff_forall_mem]
  intro v hv
  simp only [vs, List.mem_toArray, List.mem_map] at hv
  obtain ⟨i, _, rfl⟩ := hv
  exact h i
theorem run_new {P : Program} (t : TypeId) (i : TypeInfo) (hi : P.info? t = some i) (c : Array Value) (hz : i.zero = some (.agg c)) (w : World) :
    (Instr.alloc t true (.tuple #[])).run P w = .ok (.pointer (some ⟨w.heap.size, 0, none⟩)) (w.alloc (.cells c t)) := by
  simp [Instr.alloc, newVar, newObj, zeroValue, typeInfo, hi, hz, Value.cells, Sem.run_bind, Result.andThen, go_sem]
  rfl
theorem wp_new {P : Program} {o : Oper} {a : Act} {w : World} {K : Act → World → Prop} {Q : Exit → Act → World → Prop} (t : TypeId) (ho : o.op = .alloc t) (i : TypeInfo) (hi : P.info? t = some i) (c : Array Value) (hz : i.zero = some (.agg c))
    (h : K (a.put o.dst (.pointer (some ⟨w.heap.size, 0, none⟩))) (w.alloc (.cells c t))) : o.wp P a w K Q := by
  unfold Oper.wp execOp
  simp only [ho, Sem.run_bind, Sem.run_pure, Result.andThen_ok, run_new t i hi c hz w]
  exact h
end Go.Proofs.Ytlcldcbdobgdbaa

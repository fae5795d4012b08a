import Derived.Test.YtlcldcbdobgdbaaZEqInt
import Derived.Test.YtlcldcbdobgdbaaZKeepTw
import Derived.Test.YtlcldcbdobgdbaaZEn
set_option linter.all false
set_option maxRecDepth 100000
namespace Go.Proofs.Ytlcldcbdobgdbaa
open Go Go.RowKit

def intq (l : List Int) : List Value := l.map (Value.int .i64)
theorem intq_app (l m : List Int) : intq (l ++ m) = intq l ++ intq m := by simp [intq]
def toI (r : List Nat) : List Int := r.map fun k => ((k : Nat) : Int)
theorem qint_info : (Try.prog.info? 3).map (fun i => (i.zero, i.size, i.bytes)) = some (some (.int .i64 0), 1, 8) := by kernel_rfl
theorem wpList_append_src {P : Program} {ops : Array Oper} {rest : List Oper} {o : Oper} {a : Act} {w : World} {Q : Exit → Act → World → Prop} (hgd : o.guard = none) (s x : Operand) (t : TypeId)
    (ho : o.op = .call { callee := .builtin .append, args := #[s, x], argTypes := #[t, t] })
    (base : Nat) (e : TypeId) (i : TypeInfo) (z : Value) (size bytes : Nat) (ht : P.underlying t = some (.slice e)) (hi : P.info? e = some i) (hz : i.zero = some z)
    (hsize : i.size = size) (hby : i.bytes = bytes) (hzs : z.cells.size = size) (hsz : 0 < size)
    (v : Value) (n : Nat) (xs : List Value) (hv : a.eval s = v) (hown : w.ownsRow base e size v n xs)
    (A : Option Addr) (m c : Nat) (news : List Value) (hx : a.eval x = .slice A m c) (hl : news.length = m * size) (hs : Src w A m news) (h1 : ∀ u ∈ news, u.oneCell' = true)
    (h63 : n + m ≤ maxLen) (hbytes : (n + m) * bytes ≤ 140737488355328) (hbase : base ≤ w.heap.size)
    (h : ∀ v' w', w'.ownsRow base e size v' (n + m) (xs ++ news) → w.grownBy w' v.ownBlock → (v'.ownBlock = v.ownBlock ∨ v'.ownBlock = some w.heap.size) → wpList P ops Q rest (a.put o.dst v') w') : wpList P ops Q (o :: rest) a w :=
  wpList_plain hgd fun _ hK => wp_append_src s x t ho base e i z size bytes ht hi hz hsize hby hzs hsz v n xs hv hown A m c news hx hl hs h1 h63 hbytes hbase (fun v' w' a b c => hK _ _ (h v' w' a b c))
theorem fill1 {n : Nat} (hn : n = 1) (f : Fin n → Value) (a : Value) : (Array.ofFn f).setIfInBounds 0 a = #[a] := by
  subst hn
  apply Array.ext
  · simp
  · intro i h1 h2
    have hi : i < 1 := by simpa using h2
    match i, hi with
    | 0, _ => simp [Array.getElem_setIfInBounds]
theorem run_build_int {P : Program} (t e : TypeId) (i : TypeInfo) (ht : P.underlying t = some (.slice e)) (hi : P.info? e = some i) (hz : i.zero = some (.int .i64 0)) (hs : i.size = 1) (x : Int) (w : World) :
    (Instr.buildSlice t 1 #[(0, .int .i64 x)]).run P w = .ok (.slice (some ⟨w.heap.size, 0, none⟩) 1 1) (w.alloc (.cells #[.int .i64 x] e)) := by
  simp [Instr.buildSlice, Sem.run_bind, run_underlying ht, sizeOf, typeInfo, hi, hs, zeroValue, hz, Instr.fill, Value.cells, newRow, newObj, List.zipIdx, Array.range, Result.andThen, go_sem]
  rw [fill1 (by rw [hs])]
  rfl
section
variable {ops : Array Oper} {o : Oper} {a : Act} {w : World} {K : Act → World → Prop} {Q : Exit → Act → World → Prop}
theorem wp_build_int (t : TypeId) (x : Operand) (ho : o.op = .buildSlice t 1 #[(0, x)]) (e : TypeId) (i : TypeInfo) {P : Program} (ht : P.underlying t = some (.slice e)) (hi : P.info? e = some i) (hz : i.zero = some (.int .i64 0)) (hs : i.size = 1) (n : Int) (hx : a.eval x = .int .i64 n)
    (h : K (a.put o.dst (.slice (some ⟨w.heap.size, 0, none⟩) 1 1)) (w.alloc (.cells #[.int .i64 n] e))) : o.wp P a w K Q := by
  unfold Oper.wp execOp
  simp only [ho, Sem.run_bind, Sem.run_pure, Result.andThen_ok, List.map_toArray, List.map_cons, List.map_nil, hx, run_build_int t e i ht hi hz hs n w]
  exact h
end
end Go.Proofs.Ytlcldcbdobgdbaa
set_option linter.all false
set_option maxRecDepth 100000
namespace Go.Proofs.Ytlcldcbdobgdbaa
open Go Go.RowKit

def EnF (x : Array Value) : Prop := ∃ m v h d k, x = (endc m v h d k).toArray
theorem EnF.of (P : List (List Ev)) (s : Ps) : EnF (endP P s) := ⟨_, _, _, _, _, rfl⟩
theorem IsEnd.form {P : List (List Ev)} {x : Array Value} (h : IsEnd P x) : EnF x := by
  obtain ⟨ts, _, rfl⟩ := h
  exact .of P _
theorem eql_enf {x y : Array Value} (hx : EnF x) (hy : EnF y) : ∃ b : Bool, (∀ w, (binOp .eql 33 (.agg x) (.agg y)).run Try.prog w = .ok (.bool b) w) ∧ (b = true ↔ x = y) := by
  obtain ⟨m, v, h, d, k, rfl⟩ := hx
  obtain ⟨m', v', h', d', k', rfl⟩ := hy
  refine ⟨_, fun w => eql_endg m v h m' v' h' d k d' k' w, ?_⟩
  rw [endB_iff]
  constructor
  · intro e; rw [e]
  · intro e; simpa using e
def ltI : List Int → List Int → Prop
  | [], [] => False
  | [], _ :: _ => True
  | _ :: _, [] => False
  | a :: x, b :: y => a < b ∨ (a = b ∧ ltI x y)
theorem ltI_asym : ∀ {x y : List Int}, ltI x y → ¬ ltI y x
  | [], [] => fun h => h.elim
  | [], _ :: _ => fun _ g => g
  | _ :: _, [] => fun h => h.elim
  | a :: x, b :: y => fun h g => by
    rcases h with h | ⟨h, h'⟩ <;> rcases g with g | ⟨g, g'⟩
    · omega
    · omega
    · omega
    · exact ltI_asym h' g'
theorem ltI_tot : ∀ (x y : List Int), ltI x y ∨ x = y ∨ ltI y x
  | [], [] => .inr (.inl rfl)
  | [], _ :: _ => .inl trivial
  | _ :: _, [] => .inr (.inr trivial)
  | a :: x, b :: y => by
    rcases Int.lt_trichotomy a b with h | rfl | h
    · exact .inl (.inl h)
    · rcases ltI_tot x y with g | rfl | g
      · exact .inl (.inr ⟨rfl, g⟩)
      · exact .inr (.inl rfl)
      · exact .inr (.inr (.inr ⟨rfl, g⟩))
    · exact .inr (.inr (.inl h))
theorem ltI_trans : ∀ {x y z : List Int}, ltI x y → ltI y z → ltI x z
  | [], [], _, h, _ => h.elim
  | [], _ :: _, [], _, g => g.elim
  | [], _ :: _, _ :: _, _, _ => trivial
  | _ :: _, [], _, h, _ => h.elim
  | _ :: _, _ :: _, [], _, g => g.elim
  | a :: x, b :: y, c :: z, h, g => by
    rcases h with h | ⟨h, h'⟩ <;> rcases g with g | ⟨g, g'⟩
    · exact .inl (by omega)
    · exact .inl (by omega)
    · exact .inl (by omega)
    · exact .inr ⟨by omega, ltI_trans h' g'⟩
def vInt : Value → Int
  | .int _ n => n
  | .bool b => if b = true then 1 else 0
  | _ => 0
def enK (x : Array Value) : List Int := (x.toList.take 19).map vInt
theorem enK_c (m v h : Nat → Int) (d k : Bool) : enK (endc m v h d k).toArray = [m 0, m 1, m 2, m 3, m 4, m 5, m 6, m 7, v 0, v 1, v 2, v 3, h 0, h 1, h 2, h 3, h 4, h 5, if d = true then 1 else 0] := rfl
theorem end_key {P : List (List Ev)} {x y : Array Value} (hx : IsEnd P x) (hy : IsEnd P y) (h : enK x = enK y) : x = y := by
  obtain ⟨ts, gx, rfl⟩ := hx
  obtain ⟨us, gy, rfl⟩ := hy
  unfold endP at h ⊢
  rw [enK_c, enK_c] at h
  have hd : doneP P (runP P ts) = doneP P (runP P us) := by
    simp only [List.cons.injEq, and_true] at h
    have := h.2.2.2.2.2.2.2.2.2.2.2.2.2.2.2.2.2.2
    cases h1 : doneP P (runP P ts) <;> cases h2 : doneP P (runP P us) <;> simp [h1, h2] at this ⊢
  have hk : stuckP P (runP P ts) = stuckP P (runP P us) := by unfold stuckP; rw [gx, gy, hd]
  rw [hd, hk]
  simp only [List.cons.injEq, and_true] at h
  congr 1
  unfold endc
  simp only [List.cons.injEq, Value.int.injEq, true_and, and_true]
  exact ⟨h.1, h.2.1, h.2.2.1, h.2.2.2.1, h.2.2.2.2.1, h.2.2.2.2.2.1, h.2.2.2.2.2.2.1, h.2.2.2.2.2.2.2.1, h.2.2.2.2.2.2.2.2.1, h.2.2.2.2.2.2.2.2.2.1, h.2.2.2.2.2.2.2.2.2.2.1, h.2.2.2.2.2.2.2.2.2.2.2.1, h.2.2.2.2.2.2.2.2.2.2.2.2.1, h.2.2.2.2.2.2.2.2.2.2.2.2.2.1, h.2.2.2.2.2.2.2.2.2.2.2.2.2.2.1, h.2.2.2.2.2.2.2.2.2.2.2.2.2.2.2.1, h.2.2.2.2.2.2.2.2.2.2.2.2.2.2.2.2.1, h.2.2.2.2.2.2.2.2.2.2.2.2.2.2.2.2.2.1⟩
theorem sorted_uniq {α : Type} {R : α → α → Prop} (ha : ∀ a b, R a b → ¬ R b a) : ∀ {xs ys : List α}, xs.Pairwise R → ys.Pairwise R → (∀ a, a ∈ xs ↔ a ∈ ys) → xs = ys
  | [], [], _, _, _ => rfl
  | [], y :: ys, _, _, h => by have := (h y).2 (List.mem_cons_self ..); cases this
  | x :: xs, [], _, _, h => by have := (h x).1 (List.mem_cons_self ..); cases this
  | x :: xs, y :: ys, hx, hy, h => by
    obtain ⟨x1, x2⟩ := List.pairwise_cons.1 hx
    obtain ⟨y1, y2⟩ := List.pairwise_cons.1 hy
    have hxy : x = y := by
      rcases List.mem_cons.1 ((h x).1 (List.mem_cons_self ..)) with e | e
      · exact e
      · rcases List.mem_cons.1 ((h y).2 (List.mem_cons_self ..)) with e' | e'
        · exact e'.symm
        · exact absurd (x1 y e') (ha _ _ (y1 x e))
    subst hxy
    congr 1
    refine sorted_uniq ha x2 y2 fun a => ⟨fun hm => ?_, fun hm => ?_⟩
    · rcases List.mem_cons.1 ((h a).1 (List.mem_cons_of_mem _ hm)) with e | e
      · subst e; exact absurd (x1 a hm) fun q => ha _ _ q q
      · exact e
    · rcases List.mem_cons.1 ((h a).2 (List.mem_cons_of_mem _ hm)) with e | e
      · subst e; exact absurd (y1 a hm) fun q => ha _ _ q q
      · exact e
structure EndsOk (P : List (List Ev)) (xs : List (Array Value)) : Prop where
  ord : xs.Pairwise fun x y => ltI (enK x) (enK y)
  all : ∀ x, x ∈ xs ↔ IsEnd P x
theorem EndsOk.uniq {P : List (List Ev)} {xs ys : List (Array Value)} (h : EndsOk P xs) (k : EndsOk P ys) : xs = ys :=
  sorted_uniq (fun _ _ h g => ltI_asym h g) h.ord k.ord fun a => (h.all a).trans (k.all a).symm
theorem EndsOk.one {P : List (List Ev)} {xs : List (Array Value)} (h : EndsOk P xs) {x : Array Value} (hx : ∀ y, IsEnd P y ↔ y = x) : xs = [x] :=
  h.uniq ⟨List.pairwise_singleton _ _, fun a => by rw [List.mem_singleton]; exact (hx a).symm⟩
theorem EndsOk.pos {P : List (List Ev)} (hP : OkP P) {xs : List (Array Value)} (h : EndsOk P xs) : 0 < xs.length := by
  obtain ⟨x, hx⟩ := end_ex hP
  exact List.length_pos_of_mem ((h.all x).2 hx)
structure IsBest (P : List (List Ev)) (w : List Nat) : Prop where
  vl : VlP P ps0 w
  race : rcs (goS P ps0 w).L ≠ []
  least : ∀ v, VlP P ps0 v → rcs (goS P ps0 v).L ≠ [] → v = w ∨ btL w v
theorem no_best {P : List (List Ev)} (h : ∀ v, VlP P ps0 v → rcs (goS P ps0 v).L = []) (ts : List Int) : rcs (runP P ts).L = [] := by
  obtain ⟨hv, e⟩ := eff_vl (P := P) ts ps0
  rw [show runP P ts = goS P ps0 (effP P ps0 ts) from e.symm]
  exact h _ hv
def evC (P : List (List Ev)) : Int := if chkP P ≠ 0 then chkP P else if 10 < (P.map (·.length)).sum then 2 else 0
theorem evC_ok {P : List (List Ev)} (h : evC P = 0) : OkP P := by
  unfold evC at h
  split at h
  · contradiction
  · rename_i h0
    exact chk_ok.1 (by omega)
def ens (xs : List (Array Value)) : List Value := xs.flatMap (·.toList)
def RacesB (P : List (List Ev)) (b : Bool) (ws : List Nat) : Prop :=
  (evC P ≠ 0 ∧ b = false ∧ ws = []) ∨ (evC P = 0 ∧ b = false ∧ ws = [] ∧ ∀ ts, rcs (runP P ts).L = []) ∨ (evC P = 0 ∧ b = true ∧ IsBest P ws)
theorem IsBest.some_race {P : List (List Ev)} {w : List Nat} (h : IsBest P w) : ¬ ∀ ts, rcs (runP P ts).L = [] := fun g => h.race (by rw [← run_pks h.vl]; exact g _)
def EndsPost (w : World) (P : List (List Ev)) (e : Ending) (w' : World) : Prop :=
  ∃ v xs, e = .returned (.tuple #[v, .int .i64 (evC P)]) ∧ (evC P ≠ 0 → xs = []) ∧ (evC P = 0 → EndsOk P xs) ∧ w'.ownsRow w.heap.size 33 20 v xs.length (ens xs) ∧ Below w.heap.size w w'
def ERacesPost (w : World) (P : List (List Ev)) (e : Ending) (w' : World) : Prop :=
  ∃ b v ws, e = .returned (.tuple #[.bool b, v, .int .i64 (evC P)]) ∧ RacesB P b ws ∧ w'.ownsRow w.heap.size 3 1 v ws.length (intq (pks ws)) ∧ Below w.heap.size w w'
def EndsC : Prop := ∀ (A : Option Addr) (n c : Nat) (P : List (List Ev)) (w : World), Prg w A n P → n ≤ c → c ≤ maxLen → Calls Try.prog 15 #[.slice A n c] w (EndsPost w P)
def ERacesC : Prop := ∀ (A : Option Addr) (n c : Nat) (P : List (List Ev)) (w : World), Prg w A n P → n ≤ c → c ≤ maxLen → Calls Try.prog 22 #[.slice A n c] w (ERacesPost w P)
end Go.Proofs.Ytlcldcbdobgdbaa

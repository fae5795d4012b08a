import Derived.Test.YtlcldcbdobgdbaaZPp
import Derived.Test.YtlcldcbdobgdbaaZPr
import Derived.Test.YtlcldcbdobgdbaaZEn
set_option linter.all false
set_option maxRecDepth 100000
namespace Go.Proofs.Ytlcldcbdobgdbaa
open Go Go.RowKit

def intq (l : List Int) : List Value := l.map (Value.int .i64)
theorem intq_app (l m : List Int) : intq (l ++ m) = intq l ++ intq m := by simp [intq]
theorem intq_one (l : List Int) : ∀ u ∈ intq l, u.oneCell' = true := by
  intro u hu
  obtain ⟨x, _, rfl⟩ := List.mem_map.1 hu
  rfl
theorem qint_info : (Try.prog.info? 3).map (fun i => (i.zero, i.size, i.bytes)) = some (some (.int .i64 0), 1, 8) := by kernel_rfl
theorem wpList_append_src {P : Program} {ops : Array Oper} {rest : List Oper} {o : Oper} {a : Act} {w : World} {Q : Exit → Act → World → Prop} (hgd : o.guard = none) (s x : Operand) (t : TypeId)
    (ho : o.op = .call { callee := .builtin .append, args := #[s, x], argTypes := #[t, t] })
    (base : Nat) (e : TypeId) (i : TypeInfo) (z : Value) (size bytes : Nat) (ht : P.underlying t = some (.slice e)) (hi : P.info? e = some i) (hz : i.zero = some z)
    (hsize : i.size = size) (hby : i.bytes = bytes) (hzs : z.cells.size = size) (hsz : 0 < size)
    (v : Value) (n : Nat) (xs : List Value) (hv : a.eval s = v) (hown : w.ownsRow base e size v n xs)
    (A : Option Addr) (m c : Nat) (news : List Value) (hx : a.eval x = .slice A m c) (hl : news.length = m * size) (hs : Src w A m news) (h1 : ∀ u ∈ news, u.oneCell' = true)
    (h63 : n + m ≤ maxLen) (hbytes : (n + m) * bytes ≤ 140737488355328) (hbase : base ≤ w.heap.size)
    (h : ∀ v' w', w'.ownsRow base e size v' (n + m) (xs ++ news) → w.grownBy w' v.ownBlock → (v'.ownBlock = v.ownBlock ∨ v'.ownBlock = some w.heap.size) → wpList P ops Q rest (a.put o.dst v') w') : wpList P ops Q (o :: rest) a w :=
  wpList_plain hgd fun _ hK => wp_append_src s x t ho base e i z size bytes ht hi hz hsize hby hzs hsz v n xs hv hown A m c news hx hl hs h1 h63 hbytes hbase (fun v' w' a b c => hK _ _ (h v' w' a b c))
theorem SlI.src {w : World} {v : Value} {l : List Int} (h : SlI w v l) : ∃ A n c, v = .slice A n c ∧ l.length = n ∧ Src w A n (intq l) := by
  rcases h with ⟨rfl, rfl⟩ | ⟨b, o, n, c, rfl, hl, hm, hc⟩
  · exact ⟨none, 0, 0, rfl, rfl, .inl ⟨rfl, rfl, rfl⟩⟩
  · refine ⟨_, n, c, rfl, hl, .inr ⟨_, rfl, fun j u hu => ?_⟩⟩
    have hj : j < n := by have := (List.getElem?_eq_some_iff.1 hu).1; simp [intq] at this; omega
    have e : (⟨b, o, none⟩ : Addr).add j = ⟨b, o + j, none⟩ := by unfold Addr.add; split <;> simp_all
    rw [e, hc j hj]
    have h9 : l[j]? = some (l[j]?.getD 0) := by rw [List.getElem?_eq_getElem (by omega)]; rfl
    unfold intq at hu
    rw [List.getElem?_map, h9] at hu
    simpa using hu
theorem SlI.bel {w w' : World} {v : Value} {l : List Int} (h : SlI w v l) (hb : Bel w w') : SlI w' v l :=
  h.imp id fun ⟨b, o, n, c, h1, h2, h3, h4⟩ => ⟨b, o, n, c, h1, h2, h3, fun i hi => hb.cell (h4 i hi)⟩
def CopyPost (w : World) (l : List Int) (e : Ending) (w' : World) : Prop := ∃ v, e = .returned v ∧ w'.ownsRow w.heap.size 3 1 v l.length (intq l) ∧ Below w.heap.size w w'
set_option maxHeartbeats 2000000 in
theorem copyint_any (v : Value) (l : List Int) (w : World) (h : SlI w v l) (hn : l.length ≤ 1000) : Calls Try.prog 119 #[v] w (CopyPost w l) := by
  obtain ⟨A, n, c, rfl, hl, hs⟩ := h.src
  obtain ⟨i0, hi0, hz0, hz1, hz2⟩ := info_parts qint_info
  have HO := Lib.hid (World.ownsRow_nil w w.heap.size 3 1)
  have HS := Lib.hid hs
  have HLN := Lib.hid hl
  have HN := Lib.hid hn
  clear hs h hl hn
  go_enter Try.func119, Try.ntmps119
  go_wp2_with (at_builtin; refine wpList_append_src rfl (.const (.slice none 0 0)) (.tmp 3) _ rfl w.heap.size 3 i0 _ 1 8 Try.underlying36 hi0 hz0 hz1 hz2 rfl (by omega) (.slice none 0 0) 0 [] rfl HO.out A n c (intq l) rfl (by rw [← HLN.out]; simp [intq]) HS.out (intq_one l) (by have := HN.out; have := HLN.out; unfold maxLen; omega) (by have := HN.out; have := HLN.out; omega) (Nat.le_refl _) ?_; intro v2 w2 hown2 hg2 hat2)
  go_ret
  refine ⟨_, rfl, ?_, (Below.refl _ w).grown hg2 (Nat.le_refl _) (fun k hk => by cases hk)⟩
  rw [HLN.out]
  simpa using hown2
theorem sli_own {w : World} {base n : Nat} {v : Value} {l : List Int} (h : w.ownsRow base 3 1 v n (intq l)) : SlI w v l ∧ v.oneCell' = true := by
  have hl : l.length = n := by have := h.1; simp [intq] at this; omega
  rcases h.2 with ⟨rfl, h0⟩ | ⟨g, cap, cur, rfl, hg, hb, hn, hc, hs, ht⟩
  · exact ⟨.inl ⟨rfl, List.eq_nil_of_length_eq_zero (by omega)⟩, rfl⟩
  · refine ⟨.inr ⟨g, 0, n, cap, rfl, hl, by omega, fun i hi => ?_⟩, rfl⟩
    have hbx : Box w g cur 3 := hb
    rw [Nat.zero_add]
    refine hbx.cell i ?_
    have h1 : (intq l)[i]? = some (.int .i64 (l[i]?.getD 0)) := by unfold intq; rw [List.getElem?_map, List.getElem?_eq_getElem (by omega)]; rfl
    rw [← ht, List.getElem?_take, if_pos (by omega)] at h1
    simpa using h1
theorem fill1 {n : Nat} (hn : n = 1) (f : Fin n → Value) (a : Value) : (Array.ofFn f).setIfInBounds 0 a = #[a] := by
  subst hn
  apply Array.ext
  · simp
  · intro i h1 h2
    have hi : i < 1 := by simpa using h2
    match i, hi with
    | 0, _ => simp [Array.getElem_setIfInBounds]
theorem run_build_int {P : Program} (t e : TypeId) (i : TypeInfo) (ht : P.underlying t = some (.slice e)) (hi : P.info? e = some i) (hz : i.zero = some (.int .i64 0)) (hs : i.size = 1) (x : Int) (w : World) :
    (Instr.buildSlice t 1 #[(0, .int .i64 x)]).run P w = .ok (.slice (some ⟨w.heap.size, 0, none⟩) 1 1) (w.alloc (.cells #[.int .i64 x] e)) := by
  simp [Instr.buildSlice, Sem.run_bind, run_underlying ht, sizeOf, typeInfo, hi, hs, zeroValue, hz, Instr.fill, Value.cells, newRow, newObj, List.zipIdx, Array.range, Result.andThen, go_sem]
  rw [fill1 (by rw [hs])]
  rfl
section
variable {ops : Array Oper} {o : Oper} {a : Act} {w : World} {K : Act → World → Prop} {Q : Exit → Act → World → Prop}
theorem wp_build_int (t : TypeId) (x : Operand) (ho : o.op = .buildSlice t 1 #[(0, x)]) (e : TypeId) (i : TypeInfo) {P : Program} (ht : P.underlying t = some (.slice e)) (hi : P.info? e = some i) (hz : i.zero = some (.int .i64 0)) (hs : i.size = 1) (n : Int) (hx : a.eval x = .int .i64 n)
    (h : K (a.put o.dst (.slice (some ⟨w.heap.size, 0, none⟩) 1 1)) (w.alloc (.cells #[.int .i64 n] e))) : o.wp P a w K Q := by
  unfold Oper.wp execOp
  simp only [ho, Sem.run_bind, Sem.run_pure, Result.andThen_ok, List.map_toArray, List.map_cons, List.map_nil, hx, run_build_int t e i ht hi hz hs n w]
  exact h
end
end Go.Proofs.Ytlcldcbdobgdbaa
set_option linter.all false
set_option maxRecDepth 100000
namespace Go.Proofs.Ytlcldcbdobgdbaa
open Go Go.RowKit

def EnF (x : Array Value) : Prop := ∃ m v h d k, x = (endc m v h d k).toArray
theorem EnF.of (P : List (List Ev)) (s : Ps) : EnF (endP P s) := ⟨_, _, _, _, _, rfl⟩
theorem IsEnd.form {P : List (List Ev)} {x : Array Value} (h : IsEnd P x) : EnF x := by
  obtain ⟨ts, _, rfl⟩ := h
  exact .of P _
theorem eql_enf {x y : Array Value} (hx : EnF x) (hy : EnF y) : ∃ b : Bool, (∀ w, (binOp .eql 33 (.agg x) (.agg y)).run Try.prog w = .ok (.bool b) w) ∧ (b = true ↔ x = y) := by
  obtain ⟨m, v, h, d, k, rfl⟩ := hx
  obtain ⟨m', v', h', d', k', rfl⟩ := hy
  refine ⟨_, fun w => eql_endg m v h m' v' h' d k d' k' w, ?_⟩
  rw [endB_iff]
  constructor
  · intro e; rw [e]
  · intro e; simpa using e
def ltI : List Int → List Int → Prop
  | [], [] => False
  | [], _ :: _ => True
  | _ :: _, [] => False
  | a :: x, b :: y => a < b ∨ (a = b ∧ ltI x y)
theorem ltI_asym : ∀ {x y : List Int}, ltI x y → ¬ ltI y x
  | [], [] => fun h => h.elim
  | [], _ :: _ => fun _ g => g
  | _ :: _, [] => fun h => h.elim
  | a :: x, b :: y => fun h g => by
    rcases h with h | ⟨h, h'⟩ <;> rcases g with g | ⟨g, g'⟩
    · omega
    · omega
    · omega
    · exact ltI_asym h' g'
theorem ltI_tot : ∀ (x y : List Int), ltI x y ∨ x = y ∨ ltI y x
  | [], [] => .inr (.inl rfl)
  | [], _ :: _ => .inl trivial
  | _ :: _, [] => .inr (.inr trivial)
  | a :: x, b :: y => by
    rcases Int.lt_trichotomy a b with h | rfl | h
    · exact .inl (.inl h)
    · rcases ltI_tot x y with g | rfl | g
      · exact .inl (.inr ⟨rfl, g⟩)
      · exact .inr (.inl rfl)
      · exact .inr (.inr (.inr ⟨rfl, g⟩))
    · exact .inr (.inr (.inl h))
theorem ltI_trans : ∀ {x y z : List Int}, ltI x y → ltI y z → ltI x z
  | [], [], _, h, _ => h.elim
  | [], _ :: _, [], _, g => g.elim
  | [], _ :: _, _ :: _, _, _ => trivial
  | _ :: _, [], _, h, _ => h.elim
  | _ :: _, _ :: _, [], _, g => g.elim
  | a :: x, b :: y, c :: z, h, g => by
    rcases h with h | ⟨h, h'⟩ <;> rcases g with g | ⟨g, g'⟩
    · exact .inl (by omega)
    · exact .inl (by omega)
    · exact .inl (by omega)
    · exact .inr ⟨by omega, ltI_trans h' g'⟩
def vInt : Value → Int
  | .int _ n => n
  | .bool b => if b = true then 1 else 0
  | _ => 0
def enK (x : Array Value) : List Int := (x.toList.take 19).map vInt
theorem enK_c (m v h : Nat → Int) (d k : Bool) : enK (endc m v h d k).toArray = [m 0, m 1, m 2, m 3, m 4, m 5, m 6, m 7, v 0, v 1, v 2, v 3, h 0, h 1, h 2, h 3, h 4, h 5, if d = true then 1 else 0] := rfl
theorem end_key {P : List (List Ev)} {x y : Array Value} (hx : IsEnd P x) (hy : IsEnd P y) (h : enK x = enK y) : x = y := by
  obtain ⟨ts, gx, rfl⟩ := hx
  obtain ⟨us, gy, rfl⟩ := hy
  unfold endP at h ⊢
  rw [enK_c, enK_c] at h
  have hd : doneP P (runP P ts) = doneP P (runP P us) := by
    simp only [List.cons.injEq, and_true] at h
    have := h.2.2.2.2.2.2.2.2.2.2.2.2.2.2.2.2.2.2
    cases h1 : doneP P (runP P ts) <;> cases h2 : doneP P (runP P us) <;> simp [h1, h2] at this ⊢
  have hk : stuckP P (runP P ts) = stuckP P (runP P us) := by unfold stuckP; rw [gx, gy, hd]
  rw [hd, hk]
  simp only [List.cons.injEq, and_true] at h
  congr 1
  unfold endc
  simp only [List.cons.injEq, Value.int.injEq, true_and, and_true]
  exact ⟨h.1, h.2.1, h.2.2.1, h.2.2.2.1, h.2.2.2.2.1, h.2.2.2.2.2.1, h.2.2.2.2.2.2.1, h.2.2.2.2.2.2.2.1, h.2.2.2.2.2.2.2.2.1, h.2.2.2.2.2.2.2.2.2.1, h.2.2.2.2.2.2.2.2.2.2.1, h.2.2.2.2.2.2.2.2.2.2.2.1, h.2.2.2.2.2.2.2.2.2.2.2.2.1, h.2.2.2.2.2.2.2.2.2.2.2.2.2.1, h.2.2.2.2.2.2.2.2.2.2.2.2.2.2.1, h.2.2.2.2.2.2.2.2.2.2.2.2.2.2.2.1, h.2.2.2.2.2.2.2.2.2.2.2.2.2.2.2.2.1, h.2.2.2.2.2.2.2.2.2.2.2.2.2.2.2.2.2.1⟩
theorem sorted_uniq {α : Type} {R : α → α → Prop} (ha : ∀ a b, R a b → ¬ R b a) : ∀ {xs ys : List α}, xs.Pairwise R → ys.Pairwise R → (∀ a, a ∈ xs ↔ a ∈ ys) → xs = ys
  | [], [], _, _, _ => rfl
  | [], y :: ys, _, _, h => by have := (h y).2 (List.mem_cons_self ..); cases this
  | x :: xs, [], _, _, h => by have := (h x).1 (List.mem_cons_self ..); cases this
  | x :: xs, y :: ys, hx, hy, h => by
    obtain ⟨x1, x2⟩ := List.pairwise_cons.1 hx
    obtain ⟨y1, y2⟩ := List.pairwise_cons.1 hy
    have hxy : x = y := by
      rcases List.mem_cons.1 ((h x).1 (List.mem_cons_self ..)) with e | e
      · exact e
      · rcases List.mem_cons.1 ((h y).2 (List.mem_cons_self ..)) with e' | e'
        · exact e'.symm
        · exact absurd (x1 y e') (ha _ _ (y1 x e))
    subst hxy
    congr 1
    refine sorted_uniq ha x2 y2 fun a => ⟨fun hm => ?_, fun hm => ?_⟩
    · rcases List.mem_cons.1 ((h a).1 (List.mem_cons_of_mem _ hm)) with e | e
      · subst e; exact absurd (x1 a hm) fun q => ha _ _ q q
      · exact e
    · rcases List.mem_cons.1 ((h a).2 (List.mem_cons_of_mem _ hm)) with e | e
      · subst e; exact absurd (y1 a hm) fun q => ha _ _ q q
      · exact e
structure EndsOk (P : List (List Ev)) (xs : List (Array Value)) : Prop where
  ord : xs.Pairwise fun x y => ltI (enK x) (enK y)
  all : ∀ x, x ∈ xs ↔ IsEnd P x
theorem EndsOk.uniq {P : List (List Ev)} {xs ys : List (Array Value)} (h : EndsOk P xs) (k : EndsOk P ys) : xs = ys :=
  sorted_uniq (fun _ _ h g => ltI_asym h g) h.ord k.ord fun a => (h.all a).trans (k.all a).symm
structure IsWay (P : List (List Ev)) (x : Array Value) (w : List Nat) : Prop where
  vl : VlP P ps0 w
  stops : goesP P (goS P ps0 w) = false
  is : endP P (goS P ps0 w) = x
  least : ∀ v, VlP P ps0 v → goesP P (goS P ps0 v) = false → endP P (goS P ps0 v) = x → v = w ∨ lxL w v
theorem IsWay.uniq {P : List (List Ev)} {x : Array Value} {w v : List Nat} (h : IsWay P x w) (k : IsWay P x v) : w = v := by
  rcases h.least v k.vl k.stops k.is with e | e
  · exact e.symm
  · rcases k.least w h.vl h.stops h.is with g | g
    · exact g
    · exact absurd g (lx_asym e)
theorem IsWay.isEnd {P : List (List Ev)} {x : Array Value} {w : List Nat} (h : IsWay P x w) : IsEnd P x := ⟨pks w, by rw [run_pks h.vl]; exact h.stops, by rw [run_pks h.vl]; exact h.is.symm⟩
def evC (P : List (List Ev)) : Int := if chkP P ≠ 0 then chkP P else if 10 < (P.map (·.length)).sum then 2 else 0
theorem evC_ok {P : List (List Ev)} (h : evC P = 0) : OkP P := by
  unfold evC at h
  split at h
  · contradiction
  · rename_i h0
    exact chk_ok.1 (by omega)
def ens (xs : List (Array Value)) : List Value := xs.flatMap (·.toList)
def WayB (P : List (List Ev)) (x : Array Value) (ws : List Nat) (c : Int) : Prop :=
  (evC P ≠ 0 ∧ ws = [] ∧ c = evC P) ∨ (evC P = 0 ∧ ¬ IsEnd P x ∧ ws = [] ∧ c = 7) ∨ (evC P = 0 ∧ IsWay P x ws ∧ c = 0)
def EndsPost (w : World) (P : List (List Ev)) (e : Ending) (w' : World) : Prop :=
  ∃ v xs, e = .returned (.tuple #[v, .int .i64 (evC P)]) ∧ (evC P ≠ 0 → xs = []) ∧ (evC P = 0 → EndsOk P xs) ∧ w'.ownsRow w.heap.size 33 20 v xs.length (ens xs) ∧ Below w.heap.size w w'
def WayPost (w : World) (P : List (List Ev)) (x : Array Value) (e : Ending) (w' : World) : Prop :=
  ∃ v ws c, e = .returned (.tuple #[v, .int .i64 c]) ∧ WayB P x ws c ∧ w'.ownsRow w.heap.size 3 1 v ws.length (intq (pks ws)) ∧ Below w.heap.size w w'
def EndsC : Prop := ∀ (A : Option Addr) (n c : Nat) (P : List (List Ev)) (w : World), Prg w A n P → n ≤ c → c ≤ maxLen → Calls Try.prog 15 #[.slice A n c] w (EndsPost w P)
def WayC : Prop := ∀ (A : Option Addr) (n c : Nat) (P : List (List Ev)) (x : Array Value) (w : World), Prg w A n P → n ≤ c → c ≤ maxLen → EnF x → Calls Try.prog 19 #[.slice A n c, .agg x] w (WayPost w P x)
end Go.Proofs.Ytlcldcbdobgdbaa

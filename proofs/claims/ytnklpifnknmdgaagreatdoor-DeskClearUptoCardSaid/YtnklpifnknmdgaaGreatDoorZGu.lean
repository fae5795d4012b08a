import Derived.Maps.AppendAt
import Derived.Deep.AppendLies
import Derived.Test.YtnklpifnknmdgaaGreatDoorZGrow
import Derived.Test.YtnklpifnknmdgaaGreatDoorZTrace
import Derived.Test.YtnklpifnknmdgaaGreatDoorZTrace4
import Derived.Test.YtnklpifnknmdgaaGreatDoorZTr
set_option linter.all false
set_option maxRecDepth 100000
namespace Go.Proofs.YtnklpifnknmdgaaGreatDoor
open Go Go.RowKit

def Src (w : World) (A : Option Addr) (m : Nat) (news : List Value) : Prop := (A = none ∧ m = 0 ∧ news = []) ∨ ∃ ad, A = some ad ∧ ∀ j u, news[j]? = some u → w.cell? (ad.add j) = some u
theorem Src.keep {w w' : World} {A : Option Addr} {m : Nat} {news : List Value} (h : Src w A m news) (hb : Bel w w') : Src w' A m news :=
  h.imp id fun ⟨ad, h1, h2⟩ => ⟨ad, h1, fun j u hu => hb.cell (h2 j u hu)⟩
theorem Src.box {w : World} {B : Nat} {l : List Value} {t : TypeId} (h : Box w B l.toArray t) (m : Nat) : Src w (some ⟨B, 0, none⟩) m l := .inr ⟨_, rfl, fun j u hu => by
  have : (⟨B, 0, none⟩ : Addr).add j = ⟨B, j, none⟩ := by unfold Addr.add; split <;> simp_all
  rw [this]
  exact h.cell j (by simpa using hu)⟩
section
variable {P : Program} {w : World}
theorem run_append_src (base : Nat) (t ty e : TypeId) (i : TypeInfo) (z : Value) (size bytes : Nat) (ht : P.underlying t = some (.slice e)) (hi : P.info? e = some i) (hz : i.zero = some z)
    (hsize : i.size = size) (hby : i.bytes = bytes) (hzs : z.cells.size = size) (hsz : 0 < size)
    (v : Value) (n : Nat) (xs : List Value) (hown : w.ownsRow base e size v n xs)
    (A : Option Addr) (m c : Nat) (news : List Value) (hl : news.length = m * size) (hs : Src w A m news) (h1 : ∀ u ∈ news, u.oneCell' = true)
    (h63 : n + m ≤ maxLen) (hbytes : (n + m) * bytes ≤ 140737488355328) (hbase : base ≤ w.heap.size) :
    ∃ v' w', (Builtin.append_ #[t, t] ty #[v, .slice A m c]).run P w = .ok v' w' ∧ w'.ownsRow base e size v' (n + m) (xs ++ news) ∧ w.grownBy w' v.ownBlock ∧ (v'.ownBlock = v.ownBlock ∨ v'.ownBlock = some w.heap.size) := by
  rcases hs with ⟨rfl, rfl, rfl⟩ | ⟨ad, rfl, hc⟩
  · refine ⟨v, w, ?_, by simpa using hown, World.grownBy.refl w _, .inl rfl⟩
    rcases hown.2 with ⟨rfl, rfl⟩ | ⟨g, cap, cur, rfl, _, _, hnc, _⟩
    · simp [Builtin.append_, run_underlying ht, sizeOf, typeInfo, hi, Builtin.lenOf, Builtin.firstCells]
    · simp [Builtin.append_, run_underlying ht, sizeOf, typeInfo, hi, Builtin.lenOf, Builtin.firstCells, hnc, storeCells]
  · obtain ⟨v', w', hr, h2, h3, _, h5⟩ := run_append_own_at (P := P) w base t ty e i z size bytes ht hi hz hsize hby hzs hsz v n xs hown ad m c news hl hc h1 h63 hbytes hbase
    exact ⟨v', w', hr, h2, h3, h5⟩
theorem wp_append_src {o : Oper} {a : Act} {K : Act → World → Prop} {Q : Exit → Act → World → Prop} (s x : Operand) (t : TypeId)
    (ho : o.op = .call { callee := .builtin .append, args := #[s, x], argTypes := #[t, t] })
    (base : Nat) (e : TypeId) (i : TypeInfo) (z : Value) (size bytes : Nat) (ht : P.underlying t = some (.slice e)) (hi : P.info? e = some i) (hz : i.zero = some z)
    (hsize : i.size = size) (hby : i.bytes = bytes) (hzs : z.cells.size = size) (hsz : 0 < size)
    (v : Value) (n : Nat) (xs : List Value) (hv : a.eval s = v) (hown : w.ownsRow base e size v n xs)
    (A : Option Addr) (m c : Nat) (news : List Value) (hx : a.eval x = .slice A m c) (hl : news.length = m * size) (hs : Src w A m news) (h1 : ∀ u ∈ news, u.oneCell' = true)
    (h63 : n + m ≤ maxLen) (hbytes : (n + m) * bytes ≤ 140737488355328) (hbase : base ≤ w.heap.size)
    (h : ∀ v' w', w'.ownsRow base e size v' (n + m) (xs ++ news) → w.grownBy w' v.ownBlock → (v'.ownBlock = v.ownBlock ∨ v'.ownBlock = some w.heap.size) → K (a.put o.dst v') w') : o.wp P a w K Q := by
  obtain ⟨v', w', hr, h2, h3, h4⟩ := run_append_src (P := P) base t o.type e i z size bytes ht hi hz hsize hby hzs hsz v n xs hown A m c news hl hs h1 h63 hbytes hbase
  unfold Oper.wp execOp
  simp only [ho, resolve, invoke, builtin, Sem.run_bind, Sem.run_pure, Result.andThen_ok, List.map_toArray, List.map_cons, List.map_nil, hv, hx, hr]
  exact h v' w' h2 h3 h4
end
theorem own_bel {w w' : World} {base : Nat} {e : TypeId} {size n : Nat} {v : Value} {xs : List Value} (h : w.ownsRow base e size v n xs) (hb : Bel w w') : w'.ownsRow base e size v n xs :=
  ⟨h.1, h.2.imp id fun ⟨g, cap, cur, h1, h2, h3, h4⟩ => ⟨g, cap, cur, h1, h2, (hb.out.block g (Box.lt (w := w) (c := cur) (t := e) h3)).trans h3, h4⟩⟩
theorem grown_below {N : Nat} {w w' : World} {base : Nat} {e : TypeId} {size n : Nat} {v : Value} {xs : List Value} (hg : w.grownBy w' v.ownBlock) (h : w.ownsRow base e size v n xs) (hN : N ≤ base) (hw : N ≤ w.heap.size) : Below N w w' :=
  (Below.refl _ _).grown hg hw fun k hk => by
    rcases h.2 with ⟨rfl, _⟩ | ⟨g, cap, cur, rfl, hg, _⟩
    · cases hk
    · simp [Value.ownBlock] at hk; omega
theorem Box.grown {w w' : World} {B : Nat} {c : Array Value} {t : TypeId} (h : Box w B c t) {row : Option Nat} (hg : w.grownBy w' row) (hne : some B ≠ row) : Box w' B c t := (hg.block B h.lt hne).trans h
theorem Sl.src {w : World} {A : Option Addr} {n : Nat} {l : List Ev} (h : Sl w A n l) : Src w A n (evc l) := by
  rcases Nat.eq_zero_or_pos n with h0 | h0
  · have hl : l = [] := List.eq_nil_of_length_eq_zero (by rw [h.1, h0])
    subst hl
    cases A with
    | none => exact .inl ⟨rfl, h0, rfl⟩
    | some ad => exact .inr ⟨ad, rfl, fun j u hu => by simp [evc] at hu⟩
  · obtain ⟨b, off, rfl, hlt, hr⟩ := h.2 h0
    refine .inr ⟨_, rfl, fun j u hu => ?_⟩
    have : (⟨b, off, none⟩ : Addr).add j = ⟨b, off + j, none⟩ := by unfold Addr.add; split <;> simp_all
    rw [this]
    exact hr j u hu
theorem fill3 {n : Nat} (hn : n = 3) (f : Fin n → Value) (a b c : Value) : (((Array.ofFn f).setIfInBounds 0 a).setIfInBounds 1 b).setIfInBounds 2 c = #[a, b, c] := by
  subst hn
  apply Array.ext
  · simp
  · intro i h1 h2
    have hi : i < 3 := by simpa using h2
    match i, hi with
    | 0, _ => simp [Array.getElem_setIfInBounds]
    | 1, _ => simp [Array.getElem_setIfInBounds]
    | 2, _ => simp [Array.getElem_setIfInBounds]
theorem run_build1 {P : Program} (t e : TypeId) (i : TypeInfo) (ht : P.underlying t = some (.slice e)) (hi : P.info? e = some i) (hz : i.zero = some (.agg #[.int .i64 0, .int .i64 0, .int .i64 0])) (hs : i.size = 3) (x : Ev) (w : World) :
    (Instr.buildSlice t 1 #[(0, .agg (evv x))]).run P w = .ok (.slice (some ⟨w.heap.size, 0, none⟩) 1 1) (w.alloc (.cells (evv x) e)) := by
  simp [Instr.buildSlice, Sem.run_bind, run_underlying ht, sizeOf, typeInfo, hi, hs, zeroValue, hz, Instr.fill, Value.cells, evv, newRow, newObj, List.zipIdx, Array.range, Result.andThen, go_sem]
  rw [fill3 (by rw [hs])]
  rfl
theorem wp_build1 {P : Program} {o : Oper} {a : Act} {w : World} {K : Act → World → Prop} {Q : Exit → Act → World → Prop} (t : TypeId) (x : Operand) (ho : o.op = .buildSlice t 1 #[(0, x)]) (e : TypeId) (i : TypeInfo) (ht : P.underlying t = some (.slice e)) (hi : P.info? e = some i)
    (hz : i.zero = some (.agg #[.int .i64 0, .int .i64 0, .int .i64 0])) (hs : i.size = 3) (ev : Ev) (hx : a.eval x = .agg (evv ev))
    (h : K (a.put o.dst (.slice (some ⟨w.heap.size, 0, none⟩) 1 1)) (w.alloc (.cells (evv ev) e))) : o.wp P a w K Q := by
  unfold Oper.wp execOp
  simp only [ho, Sem.run_bind, Sem.run_pure, Result.andThen_ok, List.map_toArray, List.map_cons, List.map_nil, hx, run_build1 t e i ht hi hz hs ev w]
  exact h
theorem build1 {P : Program} {ops : Array Oper} {rest : List Oper} {o : Oper} {a : Act} {w : World} {Q : Exit → Act → World → Prop} (t : TypeId) (x : Operand) (ho : o.op = .buildSlice t 1 #[(0, x)]) (hgd : o.guard = none) (e : TypeId) (i : TypeInfo) (ht : P.underlying t = some (.slice e)) (hi : P.info? e = some i)
    (hz : i.zero = some (.agg #[.int .i64 0, .int .i64 0, .int .i64 0])) (hs : i.size = 3) (ev : Ev) (hx : a.eval x = .agg (evv ev))
    (h : wpList P ops Q rest (a.put o.dst (.slice (some ⟨w.heap.size, 0, none⟩) 1 1)) (w.alloc (.cells (evv ev) e))) : wpList P ops Q (o :: rest) a w :=
  wpList_plain hgd fun _ hK' => wp_build1 t x ho e i ht hi hz hs ev hx (hK' _ _ h)
end Go.Proofs.YtnklpifnknmdgaaGreatDoor
namespace Go.Proofs.YtnklpifnknmdgaaGreatDoor
open Go Go.RowKit

theorem own_keep {w w' : World} {base : Nat} {e : TypeId} {size n : Nat} {v : Value} {xs : List Value} (h : w.ownsRow base e size v n xs) (hk : ∀ g, v.ownBlock = some g → g < w.heap.size → w'.heap[g]? = w.heap[g]?) : w'.ownsRow base e size v n xs :=
  ⟨h.1, h.2.imp id fun ⟨g, cap, cur, h1, h2, h3, h4⟩ => ⟨g, cap, cur, h1, h2, (hk g (by rw [h1]; rfl) (Box.lt (w := w) (c := cur) (t := e) h3)).trans h3, h4⟩⟩
theorem own_lt {w : World} {base : Nat} {e : TypeId} {size n : Nat} {v : Value} {xs : List Value} (h : w.ownsRow base e size v n xs) {g : Nat} (hg : v.ownBlock = some g) : base ≤ g ∧ g < w.heap.size := by
  rcases h.2 with ⟨rfl, _⟩ | ⟨k, cap, cur, rfl, h2, h3, _⟩
  · cases hg
  · simp [Value.ownBlock] at hg; subst hg; exact ⟨h2, Box.lt (w := w) (c := cur) (t := e) h3⟩
theorem Box.bel {W w : World} {B : Nat} {c : Array Value} {t : TypeId} (h : Box W B c t) (hb : Bel W w) : Box w B c t := hb.box h
end Go.Proofs.YtnklpifnknmdgaaGreatDoor
set_option linter.all false
set_option maxRecDepth 100000
namespace Go.Proofs.YtnklpifnknmdgaaGreatDoor
open Go Go.RowKit

theorem gns_all (n : Nat) (g : Nat → Nat) : (ns n g).all (·.oneCell') = true := all_oneCell_toArray (nsl_one n g)
theorem gand_sets (f g : Nat → Bool) : bits .and .i64 (hset f) (hset g) = hset fun k => f k && g k := by
  have D : ∀ a b c d e a' b' c' d' e' : Bool, bits .and .i64 (hs5 a b c d e) (hs5 a' b' c' d' e') = hs5 (a && a') (b && b') (c && c') (d && d') (e && e') := by decide +kernel
  exact D ..
def lkN (p : Nat → Bool) : Nat := (hset p).toNat
theorem lkN_eq (p : Nat → Bool) : ((lkN p : Nat) : Int) = hset p := by unfold lkN; have := (hset_range p).1; omega
theorem hset_emp (p : Nat → Bool) : hset p = 0 ↔ emp p = true := by
  unfold emp hset hs5
  simp only [List.range, List.range.loop, List.all_cons, List.all_nil]
  cases p 0 <;> cases p 1 <;> cases p 2 <;> cases p 3 <;> cases p 4 <;> simp
def gev (g : Gd) : Ev := ⟨(g.st : Nat), (g.th : Nat), (lkN g.lk : Nat)⟩
def gG (f : Nat → Gd) : Nat → Nat := fun i => if i % 3 = 0 then (f (i / 3)).st else if i % 3 = 1 then (f (i / 3)).th else lkN (f (i / 3)).lk
theorem gG_0 (f : Nat → Gd) (x : Nat) : gG f (x * 3) = (f x).st := by unfold gG; rw [if_pos (by omega), show x * 3 / 3 = x by omega]
theorem gG_1 (f : Nat → Gd) (x : Nat) : gG f (x * 3 + 1) = (f x).th := by unfold gG; rw [if_neg (by omega), if_pos (by omega), show (x * 3 + 1) / 3 = x by omega]
theorem gG_2 (f : Nat → Gd) (x : Nat) : gG f (x * 3 + 2) = lkN (f x).lk := by unfold gG; rw [if_neg (by omega), if_neg (by omega), show (x * 3 + 2) / 3 = x by omega]
theorem gG_row {w : World} {B : Nat} {f : Nat → Gd} {t : TypeId} (h : Box w B (ns 24 (gG f)) t) {x : Nat} (hx : x < 8) : w.rangeAt B (x * 3) (evl (gev (f x))) := fun k v hv => by
  have h0 := h.cell (x * 3) (ns_get (gG f) (by omega))
  have h1 := h.cell (x * 3 + 1) (ns_get (gG f) (by omega))
  have h2 := h.cell (x * 3 + 2) (ns_get (gG f) (by omega))
  rw [gG_0] at h0
  rw [gG_1] at h1
  rw [gG_2] at h2
  match k, hv with
  | 0, hv => cases hv; exact h0
  | 1, hv => cases hv; exact h1
  | 2, hv => cases hv; exact h2
  | k + 3, hv => simp [evl] at hv
def upG (f : Nat → Gd) (x : Nat) (g : Gd) : Nat → Gd := fun y => if y = x then g else f y
theorem upG_at (f : Nat → Gd) (x : Nat) (g : Gd) : upG f x g x = g := if_pos rfl
theorem setCells_three (w : World) (B o : Nat) (e : Ev) : w.setCells B o (evl e) = (((w.setCell ⟨B, o, none⟩ (.int .i64 e.k)).setCell ⟨B, o + 1, none⟩ (.int .i64 e.t)).setCell ⟨B, o + 2, none⟩ (.int .i64 e.o)) := rfl
theorem box_three {w : World} {B : Nat} {f : Nat → Gd} {t : TypeId} (h : Box w B (ns 24 (gG f)) t) (x : Nat) (g : Gd) : Box (w.setCells B (x * 3) (evl (gev g))) B (ns 24 (gG (upG f x g))) t := by
  rw [setCells_three]
  have h0 := h.set (x * 3) (.int .i64 ((g.st : Nat) : Int)); rw [ns_set] at h0
  have h1 := h0.set (x * 3 + 1) (.int .i64 ((g.th : Nat) : Int)); rw [ns_set] at h1
  have h2 := h1.set (x * 3 + 2) (.int .i64 ((lkN g.lk : Nat) : Int)); rw [ns_set] at h2
  have e : ns 24 (gG (upG f x g)) = ns 24 (updN (updN (updN (gG f) (x * 3) g.st) (x * 3 + 1) g.th) (x * 3 + 2) (lkN g.lk)) := ns_congr fun i _ => by
    unfold updN
    by_cases h2 : i = x * 3 + 2
    · rw [if_pos h2, h2, gG_2, upG_at]
    · rw [if_neg h2]
      by_cases h1 : i = x * 3 + 1
      · rw [if_pos h1, h1, gG_1, upG_at]
      · rw [if_neg h1]
        by_cases h0 : i = x * 3
        · rw [if_pos h0, h0, gG_0, upG_at]
        · rw [if_neg h0]
          unfold gG upG
          rw [if_neg (show ¬ i / 3 = x by omega)]
  rw [e]
  exact h2
theorem there_three {w : World} {B : Nat} {g : Nat → Nat} {t : TypeId} (h : Box w B (ns 24 g) t) {o : Nat} (ho : o + 3 ≤ 24) : w.there B o 3 := fun j hj => ⟨by rw [h.cell (o + j) (ns_get g (by omega))]; rfl, h.frozen _⟩
structure GdOk (g : Gd) : Prop where
  st : g.st ≤ 3
  lk : g.st ≤ 1 → g.lk = fun _ => true
theorem GdOk.start : GdOk gdStart := ⟨Nat.zero_le _, fun _ => rfl⟩
theorem GdOk.step {g : Gd} (h : GdOk g) (k : Int) (t : Nat) (p : Nat → Bool) : GdOk (gdStep g k t p) := by
  unfold gdStep
  split
  · exact ⟨by dsimp only; omega, fun _ => h.lk (by omega)⟩
  · split
    · exact h
    · exact ⟨by dsimp only; split <;> omega, fun h9 => (by dsimp only at h9; split at h9 <;> omega)⟩
def acs (l : List Ev) (k : Nat) : List Nat := (List.range k).filter (acB l)
theorem acs_yes {l : List Ev} {k : Nat} (h : acB l k = true) : acs l (k + 1) = acs l k ++ [k] := by unfold acs; rw [List.range_succ, List.filter_append, List.filter_cons_of_pos h]; rfl
theorem acs_no {l : List Ev} {k : Nat} (h : acB l k = false) : acs l (k + 1) = acs l k := by unfold acs; rw [List.range_succ, List.filter_append, List.filter_cons_of_neg (by rw [h]; simp)]; simp
theorem acs_len (l : List Ev) : ∀ k, (acs l k).length ≤ k := fun k => by unfold acs; exact Nat.le_trans (List.length_filter_le _ _) (by simp)
def gdF (l : List Ev) (pre : List Nat) : Nat → Gd := pre.foldl (fun f x => upG f (oZ l x) (gdStep (f (oZ l x)) (kZ l x) (tZ l x) (hB l x))) fun _ => gdStart
def wnF (l : List Ev) (pre : List Nat) (x : Nat) : Bool := decide ((gdF l (pre ++ [x]) (oZ l x)).st = 3) && emp (gdF l (pre ++ [x]) (oZ l x)).lk
def wlS (l : List Ev) (s : List Nat × List Ev) (x : Nat) : List Nat × List Ev := (s.1 ++ [x], if wnF l s.1 x = true then s.2 ++ [⟨(x : Nat), (eZ l x).o, 0⟩] else s.2)
def wlF (l : List Ev) (pre : List Nat) : List Ev := (pre.foldl (wlS l) ([], [])).2
theorem gdF_snoc (l : List Ev) (pre : List Nat) (x : Nat) : gdF l (pre ++ [x]) = upG (gdF l pre) (oZ l x) (gdStep (gdF l pre (oZ l x)) (kZ l x) (tZ l x) (hB l x)) := by unfold gdF; rw [List.foldl_append]; rfl
theorem gdF_ok (l : List Ev) (y : Nat) (pre : List Nat) : GdOk (gdF l pre y) := by
  suffices H : ∀ (pre : List Nat) (f : Nat → Gd), (∀ y, GdOk (f y)) → ∀ y, GdOk (pre.foldl (fun f x => upG f (oZ l x) (gdStep (f (oZ l x)) (kZ l x) (tZ l x) (hB l x))) f y) from H pre _ (fun _ => GdOk.start) y
  intro pre
  induction pre with
  | nil => exact fun f h => h
  | cons x r ih =>
    intro f h
    refine ih _ fun y => ?_
    show GdOk (upG f (oZ l x) _ y)
    unfold upG
    split
    · exact (h _).step _ _ _
    · exact h y
theorem wl_fst (l : List Ev) : ∀ (pre : List Nat) (s : List Nat × List Ev), (pre.foldl (wlS l) s).1 = s.1 ++ pre
  | [], s => by simp
  | x :: r, s => by rw [List.foldl_cons, wl_fst l r]; simp [wlS]
theorem wlF_snoc (l : List Ev) (pre : List Nat) (x : Nat) : wlF l (pre ++ [x]) = if wnF l pre x = true then wlF l pre ++ [⟨(x : Nat), (eZ l x).o, 0⟩] else wlF l pre := by
  unfold wlF
  rw [List.foldl_append, List.foldl_cons, List.foldl_nil]
  have := wl_fst l pre ([], [])
  generalize pre.foldl (wlS l) ([], []) = s at *
  unfold wlS
  rw [show s.1 = pre by simpa using this]
theorem wlF_len (l : List Ev) (pre : List Nat) : (wlF l pre).length ≤ pre.length := by
  suffices H : ∀ (pre : List Nat) (s : List Nat × List Ev), (pre.foldl (wlS l) s).2.length ≤ s.2.length + pre.length by have := H pre ([], []); simpa [wlF] using this
  intro pre
  induction pre with
  | nil => intro s; simp
  | cons x r ih =>
    intro s
    have h := ih (wlS l s x)
    rw [List.foldl_cons, List.length_cons]
    have : (wlS l s x).2.length ≤ s.2.length + 1 := by
      unfold wlS
      dsimp only
      split
      · simp
      · omega
    omega
def gdT (l : List Ev) (k : Nat) : Nat → Gd := fun x => gdTo l x k
theorem gdF_acs (l : List Ev) : ∀ k, gdF l (acs l k) = gdT l k
  | 0 => rfl
  | k + 1 => by
    cases h : acB l k
    · rw [acs_no h, gdF_acs l k]
      funext x
      unfold gdT
      rw [gdTo, if_neg (fun h9 => by rw [h] at h9; cases h9.1)]
    · rw [acs_yes h, gdF_snoc, gdF_acs l k]
      funext x
      unfold gdT upG
      rw [gdTo]
      by_cases e : x = oZ l k
      · rw [if_pos e, if_pos ⟨h, e.symm⟩, e]
      · rw [if_neg e, if_neg (fun h9 => e h9.2.symm)]
theorem wlF_acs (l : List Ev) : ∀ k, wlF l (acs l k) = wl l k
  | 0 => rfl
  | k + 1 => by
    cases h : acB l k
    · rw [acs_no h, wlF_acs l k, wl_no (by unfold wn; rw [h]; rfl)]
    · have hw : wnF l (acs l k) k = wn l k := by
        unfold wnF wn
        rw [← acs_yes h, gdF_acs, h, Bool.true_and]
        rfl
      rw [acs_yes h, wlF_snoc, hw, wlF_acs l k, wl]
def hN (l : List Ev) (k : Nat) : Int := held (l.take k) (eZ l k).t
theorem acB_k {l : List Ev} {k : Nat} (h : acB l k = true) : (eZ l k).k = 1 ∨ (eZ l k).k = 2 := of_decide_eq_true h
end Go.Proofs.YtnklpifnknmdgaaGreatDoor
set_option linter.all false
set_option maxRecDepth 100000
namespace Go.Proofs.YtnklpifnknmdgaaGreatDoor
open Go Go.RowKit Go.Shelf
attribute [local go_sem] Oper.semAt_some

structure Acc (l : List Ev) where
  i : Nat
  lt : i < l.length
  ac : acB l i = true
def accE (l : List Ev) (x : Acc l) : Array Value := #[.int .i64 ((x.i : Nat) : Int), .int .i64 (hN l x.i)]
theorem rangeAt_heapG {w w' : World} {b off : Nat} {cs : List Value} (h : w'.heap[b]? = w.heap[b]?) (hr : w.rangeAt b off cs) : w'.rangeAt b off cs := fun j v hv => by
  have := hr j v hv
  unfold World.cell? at this ⊢
  rw [h]
  exact this
theorem Sl.ks {N : Nat → Prop} {w w' : World} {A : Option Addr} {n : Nat} {l : List Ev} (h : Sl w A n l) (hk : Ks N w w') (hA : 0 < n → ∀ b off, A = some ⟨b, off, none⟩ → N b) : Sl w' A n l :=
  ⟨h.1, fun h0 => by
    obtain ⟨b, off, hA', hlt, hr⟩ := h.2 h0
    exact ⟨b, off, hA', Nat.lt_of_lt_of_le hlt hk.1, rangeAt_heapG (hk.2 b (hA h0 b off hA') hlt) hr⟩⟩
theorem held_acc (A : Option Addr) (n c k : Nat) (l : List Ev) (w : World) (hl : Sl w A n l) (hm : may l = 0) (hk : k < n) :
    Calls Tryz.prog 147 #[.slice A k c, .int .i64 (eZ l k).t] w fun e w' => e = .returned (.tuple #[.int .i64 (hN l k), .int .i64 0]) ∧ Below w.heap.size w w' := by
  have h := held_any A k c (l.take k) (eZ l k).t w (hl.take (Nat.le_of_lt hk))
  have ht := isEv_t (eZ_ok hm (i := k) (by rw [hl.1]; exact hk))
  have e : pheld (l.take k) (eZ l k).t = (hN l k, 0) := by unfold pheld; rw [if_pos (may_take hm k), inB_yes ht.1 ht.2]; rfl
  rw [e] at h
  exact h
set_option maxHeartbeats 8000000 in
theorem acc1_in (d : Nat) (hd : 1 ≤ d) (lp Bs M : Nat) (N : Nat → Prop) (A : Option Addr) (n c : Nat) (l : List Ev) (hm : may l = 0) (hnc : n ≤ c) (J Jx : List (Acc l) → World → Prop) (hJ : AbidesFrom M J)
    (hY : ∀ pre x W, J pre W → pre.length < n → YieldAt Fence.wide (d - 1) Tryz.prog lp (accE l x) W fun e W' =>
      (e = .returned (.bool true) ∧ J (pre ++ [x]) W' ∧ Ks N W W') ∨ (e = .returned (.bool false) ∧ Jx (pre ++ [x]) W'))
    (W : World) (hBs : Box W Bs #[.slice A n c] 30) (hN : N Bs) (hl : Sl W A n l) (hA : 0 < n → ∀ b off, A = some ⟨b, off, none⟩ → N b) (h0 : J [] W) :
    CallsIn Fence.wide d Tryz.prog 190 #[.func (.yield lp) #[] #[], .pointer (some ⟨Bs, 0, none⟩)] W fun e W' => (∃ v, e = .returned v) ∧
      ((∃ ys : List (Acc l), ys.map Acc.i = acs l n ∧ J ys W') ∨ (∃ pre, True ∧ Jx pre W')) := by
  have hn80 : n ≤ 80 := by rw [← hl.1]; exact ((may_iff l).1 hm).1
  have HBs := Lib.hid hBs
  have HL := Lib.hid hl
  have HA := Lib.hid hA
  have HM := Lib.hid hm
  have HJ := Lib.hid hJ
  have HY := Lib.hid hY
  have HNB := Lib.hid hN
  have cB := hBs.cell 0 (v := .slice A n c) rfl
  clear hBs hl hA hm hJ hY hN
  refine callsIn_of_wp Tryz.func190 rfl trivial ?_ rfl
  simp only [Tryz.ntmps190, List.size_toArray, List.length_cons, List.length_nil, Nat.reduceAdd, Nat.reduceSub, Array.replicate_succ, Array.replicate_zero, List.push_toArray, List.append_toArray, List.nil_append, List.cons_append]
  gi_wp2
  gi_loopw [9] (fun i wr => ∃ (k : Nat) (pre : List (Acc l)), k ≤ n ∧ i = .int .i64 (k : Nat) ∧ pre.map Acc.i = acs l k ∧ J pre wr ∧ Ks N W wr) (fun i _ => n - (intOf i).toNat)
  case atStart => exact ⟨0, [], Nat.zero_le _, rfl, rfl, h0, Ks.of (Bel.refl W)⟩
  case round =>
    obtain ⟨k, pre, hk, rfl, hpre, hJs, hks⟩ := hrel
    clear cB
    by_cases hlt : k < n
    · have hlt' : (k : Int) < n := by omega
      have hkl : k < l.length := by rw [HL.out.1]; exact hlt
      obtain ⟨bb, off, e, hAe, hbb, he, hrg⟩ := (HL.out.ks hks HA.out).at_ hlt
      subst hAe
      obtain rfl : e = eZ l k := (eZ_at he).symm
      have hk80 : k < 80 := by omega
      have hR := Lib.hid hrg
      have HX := Lib.hid (Box.new wr (evv (eZ l k)) 45)
      have HKW := Lib.hid (hks.trans (Ks.of ((Bel.refl wr).alloc (.cells (evv (eZ l k)) 45))))
      have HJW := Lib.hid (show J pre (wr.alloc (.cells (evv (eZ l k)) 45)) from HJ.out pre wr _ none hJs (World.grownBy_alloc wr _ none) (fun r h => by cases h))
      have HP := Lib.hid hpre
      have HKN := Lib.hid hlt
      have HKL := Lib.hid hkl
      have d0 := HX.out.cell 0 (v := .int .i64 (eZ l k).k) rfl
      have HE80 := Lib.hid hn80
      have HNC := Lib.hid hnc
      clear hks hJs hpre he hrg hbb hn80 hnc h0
      generalize hW1 : wr.alloc (.cells (evv (eZ l k)) 45) = W1 at *
      by_cases h1 : (eZ l k).k = 1
      · have b1 : ((eZ l k).k != 1) = false := by simp [h1]
        have HAC := Lib.hid (show acB l k = true by unfold acB kZ; simp [h1])
        clear h1
        have d1 := HX.out.cell 1 (v := .int .i64 (eZ l k).t) rfl
        gi_wp2_with (first | (refine load_rowIn _ _ rfl rfl rfl hR.out T36 (evv (eZ l k)) rfl ?_) | (refine store_newIn 45 _ _ rfl rfl (c := #[.int .i64 0, .int .i64 0, .int .i64 0]) (c' := evv (eZ l k)) (t := 45) rfl rfl rfl T36 (evv_all _) ?_))
        refine wpIn_wide.2 ?_
        have hc1 : (k : Int) ≤ c := by have := HNC.out; omega
        have F1 := fun (w' : World) (h : Bel W1 w') => (h.box ((HKW.out.box HNB.out HBs.out))).cell 0 (v := .slice (some ⟨bb, off, none⟩) n c) rfl
        have F2 := fun (w' : World) (h : Bel W1 w') => (h.box HX.out).cell 1 (v := .int .i64 (eZ l k).t) rfl
        have HF1 := Lib.hid F1
        have HF2 := Lib.hid F2
        clear F1 F2 d0 d1 hW1
        (refine region_bel (by kernel_rfl) (by kernel_rfl) ?_; (repeat (first | ((with_reducible refine BigFrame.wpQuiet_skip ?_ ?_); exact rfl; simp only [Act.put, Act.eval, List.setIfInBounds_toArray, List.set_cons_zero, List.set_cons_succ, Array.getD_eq_getD_getElem?, List.getElem?_toArray, List.getElem?_cons_zero, List.getElem?_cons_succ, Option.getD_some]) | (refine q_move _ rfl rfl ?_; simp only [Act.put, Act.eval, List.setIfInBounds_toArray, List.set_cons_zero, List.set_cons_succ, Array.getD_eq_getD_getElem?, List.getElem?_toArray, List.getElem?_cons_zero, List.getElem?_cons_succ, Option.getD_some]) | (refine q_assign _ rfl rfl ?_; simp only [Act.put, Act.eval, List.setIfInBounds_toArray, List.set_cons_zero, List.set_cons_succ, Array.getD_eq_getD_getElem?, List.getElem?_toArray, List.getElem?_cons_zero, List.getElem?_cons_succ, Option.getD_some]) | (refine q_any rfl ?_; apply Exists.intro; refine ⟨fun w hw => ?_, ?_⟩; (have fct0 := HF1.out w hw; have fct1 := HF2.out w hw; go_simp; first | exact ⟨rfl, rfl⟩ | rfl | (go_at_call 147; (with_reducible refine (held_acc (some ⟨bb, off, none⟩) n c k l _ ((HL.out.ks HKW.out HA.out).bel hw.out) HM.out HKN.out).mono ?_); rintro e w' ⟨rfl, hb⟩; exact ⟨rfl, hw.call hb⟩)); simp only [Act.put, Act.eval, List.setIfInBounds_toArray, List.set_cons_zero, List.set_cons_succ, Array.getD_eq_getD_getElem?, List.getElem?_toArray, List.getElem?_cons_zero, List.getElem?_cons_succ, Option.getD_some]))); refine wpQuiet_nil ?_; intro w2 hw2)
        have HK2 := Lib.hid (HKW.out.trans (Ks.of hw2))
        have HJ2 := HJ.out pre W1 w2 none HJW.out (chg_bel hw2 none) (fun r h => by cases h)
        obtain ⟨fn, tmps, assign, body, hy, hRd⟩ := HY.out pre ⟨k, HKL.out, HAC.out⟩ w2 HJ2 (by
          have h9 := congrArg List.length HP.out
          rw [List.length_map] at h9
          have := acs_len l k
          have := HKN.out
          omega)
        clear HJ2 hw2
        unfold accE at hy
        dsimp only at hy
        gi_wp2_with fail
        refine hRd.mono ?_
        rintro e W3 (⟨rfl, hJ3, hk3⟩ | ⟨rfl, hJx3⟩)
        · have HK3 := Lib.hid (HK2.out.trans hk3)
          gi_wp2
          go_roundw
          case rel => exact ⟨k + 1, _, by omega, by go_num, by rw [List.map_append, HP.out, acs_yes HAC.out]; rfl, hJ3, HK3.out⟩
          case measure => simp [intOf]; omega
        · gi_wp2
          refine bodyPost_ret (results_none rfl _ _ _) rfl ?_
          exact ⟨⟨_, rfl⟩, .inr ⟨_, trivial, hJx3⟩⟩
      · by_cases h2 : (eZ l k).k = 2
        · have b1 : ((eZ l k).k != 1) = true := by simp [h2]
          have b2 : ((eZ l k).k != 2) = false := by simp [h2]
          have HAC := Lib.hid (show acB l k = true by unfold acB kZ; simp [h2])
          clear h1 h2
          have d1 := HX.out.cell 1 (v := .int .i64 (eZ l k).t) rfl
          gi_wp2_with (first | (refine load_rowIn _ _ rfl rfl rfl hR.out T36 (evv (eZ l k)) rfl ?_) | (refine store_newIn 45 _ _ rfl rfl (c := #[.int .i64 0, .int .i64 0, .int .i64 0]) (c' := evv (eZ l k)) (t := 45) rfl rfl rfl T36 (evv_all _) ?_))
          refine wpIn_wide.2 ?_
          have hc1 : (k : Int) ≤ c := by have := HNC.out; omega
          have F1 := fun (w' : World) (h : Bel W1 w') => (h.box ((HKW.out.box HNB.out HBs.out))).cell 0 (v := .slice (some ⟨bb, off, none⟩) n c) rfl
          have F2 := fun (w' : World) (h : Bel W1 w') => (h.box HX.out).cell 1 (v := .int .i64 (eZ l k).t) rfl
          have HF1 := Lib.hid F1
          have HF2 := Lib.hid F2
          clear F1 F2 d0 d1 hW1
          (refine region_bel (by kernel_rfl) (by kernel_rfl) ?_; (repeat (first | ((with_reducible refine BigFrame.wpQuiet_skip ?_ ?_); exact rfl; simp only [Act.put, Act.eval, List.setIfInBounds_toArray, List.set_cons_zero, List.set_cons_succ, Array.getD_eq_getD_getElem?, List.getElem?_toArray, List.getElem?_cons_zero, List.getElem?_cons_succ, Option.getD_some]) | (refine q_move _ rfl rfl ?_; simp only [Act.put, Act.eval, List.setIfInBounds_toArray, List.set_cons_zero, List.set_cons_succ, Array.getD_eq_getD_getElem?, List.getElem?_toArray, List.getElem?_cons_zero, List.getElem?_cons_succ, Option.getD_some]) | (refine q_assign _ rfl rfl ?_; simp only [Act.put, Act.eval, List.setIfInBounds_toArray, List.set_cons_zero, List.set_cons_succ, Array.getD_eq_getD_getElem?, List.getElem?_toArray, List.getElem?_cons_zero, List.getElem?_cons_succ, Option.getD_some]) | (refine q_any rfl ?_; apply Exists.intro; refine ⟨fun w hw => ?_, ?_⟩; (have fct0 := HF1.out w hw; have fct1 := HF2.out w hw; go_simp; first | exact ⟨rfl, rfl⟩ | rfl | (go_at_call 147; (with_reducible refine (held_acc (some ⟨bb, off, none⟩) n c k l _ ((HL.out.ks HKW.out HA.out).bel hw.out) HM.out HKN.out).mono ?_); rintro e w' ⟨rfl, hb⟩; exact ⟨rfl, hw.call hb⟩)); simp only [Act.put, Act.eval, List.setIfInBounds_toArray, List.set_cons_zero, List.set_cons_succ, Array.getD_eq_getD_getElem?, List.getElem?_toArray, List.getElem?_cons_zero, List.getElem?_cons_succ, Option.getD_some]))); refine wpQuiet_nil ?_; intro w2 hw2)
          have HK2 := Lib.hid (HKW.out.trans (Ks.of hw2))
          have HJ2 := HJ.out pre W1 w2 none HJW.out (chg_bel hw2 none) (fun r h => by cases h)
          obtain ⟨fn, tmps, assign, body, hy, hRd⟩ := HY.out pre ⟨k, HKL.out, HAC.out⟩ w2 HJ2 (by
            have h9 := congrArg List.length HP.out
            rw [List.length_map] at h9
            have := acs_len l k
            have := HKN.out
            omega)
          clear HJ2 hw2
          unfold accE at hy
          dsimp only at hy
          gi_wp2_with fail
          refine hRd.mono ?_
          rintro e W3 (⟨rfl, hJ3, hk3⟩ | ⟨rfl, hJx3⟩)
          · have HK3 := Lib.hid (HK2.out.trans hk3)
            gi_wp2
            go_roundw
            case rel => exact ⟨k + 1, _, by omega, by go_num, by rw [List.map_append, HP.out, acs_yes HAC.out]; rfl, hJ3, HK3.out⟩
            case measure => simp [intOf]; omega
          · gi_wp2
            refine bodyPost_ret (results_none rfl _ _ _) rfl ?_
            exact ⟨⟨_, rfl⟩, .inr ⟨_, trivial, hJx3⟩⟩
        · have b1 : ((eZ l k).k != 1) = true := by simpa using h1
          have b2 : ((eZ l k).k != 2) = true := by simpa using h2
          have HNO := Lib.hid (show acB l k = false by unfold acB kZ; simp [h1, h2])
          clear h1 h2
          gi_wp2_with (first | (refine load_rowIn _ _ rfl rfl rfl hR.out T36 (evv (eZ l k)) rfl ?_) | (refine store_newIn 45 _ _ rfl rfl (c := #[.int .i64 0, .int .i64 0, .int .i64 0]) (c' := evv (eZ l k)) (t := 45) rfl rfl rfl T36 (evv_all _) ?_))
          go_roundw
          case rel => exact ⟨k + 1, pre, by omega, by go_num, by rw [HP.out, acs_no HNO.out], HJW.out, HKW.out⟩
          case measure => simp [intOf]; omega
    · obtain rfl : k = n := by omega
      gi_wp2
      go_end0
      exact ⟨⟨_, rfl⟩, .inl ⟨_, hpre, hJs⟩⟩
end Go.Proofs.YtnklpifnknmdgaaGreatDoor
set_option linter.all false
set_option maxRecDepth 100000
namespace Go.Proofs.YtnklpifnknmdgaaGreatDoor
open Go Go.RowKit

theorem TGs : RowTy Tryz.prog 69 24 := ⟨_, Tryz.underlying69, rfl, by kernel_rfl⟩
theorem TGz (g : Nat → Nat) : RowTy Tryz.prog 69 (ns 24 g).size := by rw [ns_size]; exact TGs
theorem TGd : RowTy Tryz.prog 68 3 := ⟨_, Tryz.underlying68, rfl, by kernel_rfl⟩
def gQ (k : Nat) : Nat → Nat := fun i => if i % 3 = 2 ∧ i / 3 < k then 31 else 0
theorem gQ_up {k : Nat} : ns 24 (updN (gQ k) (k * 3 + 2) 31) = ns 24 (gQ (k + 1)) := ns_congr fun i _ => by
  unfold updN gQ
  by_cases h : i = k * 3 + 2
  · rw [if_pos h, if_pos ⟨by omega, by omega⟩]
  · rw [if_neg h]
    by_cases h2 : i % 3 = 2 ∧ i / 3 < k
    · rw [if_pos h2, if_pos ⟨h2.1, by omega⟩]
    · rw [if_neg h2, if_neg (by omega)]
def gdZ : Nat → Gd := fun _ => gdStart
theorem gQ_all : ns 24 (gQ 8) = ns 24 (gG gdZ) := ns_congr fun i hi => by
  unfold gQ gG gdZ gdStart
  by_cases h0 : i % 3 = 0
  · rw [if_neg (by omega), if_pos h0]
  · by_cases h1 : i % 3 = 1
    · rw [if_neg (by omega), if_neg h0, if_pos h1]
    · rw [if_pos (by omega), if_neg h0, if_neg h1]; rfl
structure StG (w : World) (k : Nat) (wr : World) : Prop where
  res : Box wr w.heap.size (ns 24 fun _ => 0) 69
  now : Box wr (w.heap.size + 1) (ns 24 (gQ k)) 69
  below : Below w.heap.size w wr
set_option maxHeartbeats 4000000 in
theorem gstart_any (w : World) : Calls Tryz.prog 170 #[] w fun e w' => e = .returned (.agg (ns 24 (gG gdZ))) ∧ Below w.heap.size w w' := by
  obtain ⟨b1, b2, hB, hs⟩ := boxes2 w (ns 24 fun _ => 0) (ns 24 (gQ 0)) 69 69
  have H0 := Lib.hid (StG.mk b1 b2 hB)
  clear b1 b2 hB hs
  go_enter Tryz.func170, Tryz.ntmps170
  go_wp2
  change Code.wp _ _ _ _ ((w.alloc (.cells (ns 24 fun _ => 0) 69)).alloc (.cells (ns 24 (gQ 0)) 69))
  generalize ((w.alloc (.cells (ns 24 fun _ => 0) 69)).alloc (.cells (ns 24 (gQ 0)) 69)) = W at *
  go_loopw [3] (fun t wr => ∃ k : Nat, k ≤ 8 ∧ t = .int .i64 k ∧ StG w k wr) (fun t _ => 8 - (intOf t).toNat)
  case atStart => exact ⟨0, by omega, rfl, H0.out⟩
  case round =>
    obtain ⟨k, hk, rfl, hr⟩ := hrel
    have HR := Lib.hid hr
    clear hr H0
    by_cases hlt : k < 8
    · have hlt' : (k : Int) < 8 := by omega
      have c0 := HR.out.now.cell (k * 3 + 2) (ns_get _ (by omega))
      have g0 := HR.out.now.frozen (k * 3 + 2)
      go_wp2
      go_roundw
      case rel => exact ⟨k + 1, by omega, by go_num, ⟨HR.out.res.set_ne _ _ (by simp), by have := HR.out.now.set (k * 3 + 2) (.int .i64 ((31 : Nat) : Int)); rw [ns_set, gQ_up] at this; exact this, HR.out.below.setCell (by simp) _⟩⟩
      case measure => simp [intOf]; omega
    · obtain rfl : k = 8 := by omega
      have hn := HR.out.now
      rw [gQ_all] at hn
      have hr := HR.out.res
      go_wp2_with (first | (refine loadB _ _ rfl rfl rfl hn (TGz _) ?_) | (refine storeB _ _ _ rfl rfl rfl rfl hr (by rw [ns_size, ns_size]) (TGz _) (gns_all _ _) ?_))
      refine bodyPost_ret (res_c Tryz.results170 rfl (hr.setRow (ns 24 (gG gdZ))) (TGz _)) rfl ⟨rfl, ?_⟩
      exact below_setRow' HR.out.below _ _ (Nat.le_refl _)

end Go.Proofs.YtnklpifnknmdgaaGreatDoor

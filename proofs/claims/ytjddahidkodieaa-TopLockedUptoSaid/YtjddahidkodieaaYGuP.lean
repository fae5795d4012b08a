import Derived.Test.YtjddahidkodieaaYGd
import Derived.Test.YtjddahidkodieaaYIn
import Derived.Test.YtjddahidkodieaaYKeepTw
import Derived.Test.YtjddahidkodieaaYRr
set_option linter.all false
set_option maxRecDepth 100000
namespace Go.Proofs.Ytjddahidkodieaa
open Go Go.RowKit

theorem gns_all (n : Nat) (g : Nat → Nat) : (ns n g).all (·.oneCell') = true := all_oneCell_toArray (nsl_one n g)
theorem gand_sets (f g : Nat → Bool) : bits .and .i64 (hset f) (hset g) = hset fun k => f k && g k := by
  have D : ∀ a b c d e a' b' c' d' e' : Bool, bits .and .i64 (hs5 a b c d e) (hs5 a' b' c' d' e') = hs5 (a && a') (b && b') (c && c') (d && d') (e && e') := by decide +kernel
  exact D ..
def lkN (p : Nat → Bool) : Nat := (hset p).toNat
theorem lkN_eq (p : Nat → Bool) : ((lkN p : Nat) : Int) = hset p := by unfold lkN; have := (hset_range p).1; omega
theorem hset_emp (p : Nat → Bool) : hset p = 0 ↔ emp p = true := by
  unfold emp hset hs5
  simp only [List.range, List.range.loop, List.all_cons, List.all_nil]
  cases p 0 <;> cases p 1 <;> cases p 2 <;> cases p 3 <;> cases p 4 <;> simp
def gev (g : Gd) : Ev := ⟨(g.st : Nat), (g.th : Nat), (lkN g.lk : Nat)⟩
def gG (f : Nat → Gd) : Nat → Nat := fun i => if i % 3 = 0 then (f (i / 3)).st else if i % 3 = 1 then (f (i / 3)).th else lkN (f (i / 3)).lk
theorem gG_0 (f : Nat → Gd) (x : Nat) : gG f (x * 3) = (f x).st := by unfold gG; rw [if_pos (by omega), show x * 3 / 3 = x by omega]
theorem gG_1 (f : Nat → Gd) (x : Nat) : gG f (x * 3 + 1) = (f x).th := by unfold gG; rw [if_neg (by omega), if_pos (by omega), show (x * 3 + 1) / 3 = x by omega]
theorem gG_2 (f : Nat → Gd) (x : Nat) : gG f (x * 3 + 2) = lkN (f x).lk := by unfold gG; rw [if_neg (by omega), if_neg (by omega), show (x * 3 + 2) / 3 = x by omega]
theorem gG_row {w : World} {B : Nat} {f : Nat → Gd} {t : TypeId} (h : Box w B (ns 24 (gG f)) t) {x : Nat} (hx : x < 8) : w.rangeAt B (x * 3) (evl (gev (f x))) := fun k v hv => by
  have h0 := h.cell (x * 3) (ns_get (gG f) (by omega))
  have h1 := h.cell (x * 3 + 1) (ns_get (gG f) (by omega))
  have h2 := h.cell (x * 3 + 2) (ns_get (gG f) (by omega))
  rw [gG_0] at h0
  rw [gG_1] at h1
  rw [gG_2] at h2
  match k, hv with
  | 0, hv => cases hv; exact h0
  | 1, hv => cases hv; exact h1
  | 2, hv => cases hv; exact h2
  | k + 3, hv => simp [evl] at hv
def upG (f : Nat → Gd) (x : Nat) (g : Gd) : Nat → Gd := fun y => if y = x then g else f y
theorem upG_at (f : Nat → Gd) (x : Nat) (g : Gd) : upG f x g x = g := if_pos rfl
theorem setCells_three (w : World) (B o : Nat) (e : Ev) : w.setCells B o (evl e) = (((w.setCell ⟨B, o, none⟩ (.int .i64 e.k)).setCell ⟨B, o + 1, none⟩ (.int .i64 e.t)).setCell ⟨B, o + 2, none⟩ (.int .i64 e.o)) := rfl
theorem box_three {w : World} {B : Nat} {f : Nat → Gd} {t : TypeId} (h : Box w B (ns 24 (gG f)) t) (x : Nat) (g : Gd) : Box (w.setCells B (x * 3) (evl (gev g))) B (ns 24 (gG (upG f x g))) t := by
  rw [setCells_three]
  have h0 := h.set (x * 3) (.int .i64 ((g.st : Nat) : Int)); rw [ns_set] at h0
  have h1 := h0.set (x * 3 + 1) (.int .i64 ((g.th : Nat) : Int)); rw [ns_set] at h1
  have h2 := h1.set (x * 3 + 2) (.int .i64 ((lkN g.lk : Nat) : Int)); rw [ns_set] at h2
  have e : ns 24 (gG (upG f x g)) = ns 24 (updN (updN (updN (gG f) (x * 3) g.st) (x * 3 + 1) g.th) (x * 3 + 2) (lkN g.lk)) := ns_congr fun i _ => by
    unfold updN
    by_cases h2 : i = x * 3 + 2
    · rw [if_pos h2, h2, gG_2, upG_at]
    · rw [if_neg h2]
      by_cases h1 : i = x * 3 + 1
      · rw [if_pos h1, h1, gG_1, upG_at]
      · rw [if_neg h1]
        by_cases h0 : i = x * 3
        · rw [if_pos h0, h0, gG_0, upG_at]
        · rw [if_neg h0]
          unfold gG upG
          rw [if_neg (show ¬ i / 3 = x by omega)]
  rw [e]
  exact h2
theorem there_three {w : World} {B : Nat} {g : Nat → Nat} {t : TypeId} (h : Box w B (ns 24 g) t) {o : Nat} (ho : o + 3 ≤ 24) : w.there B o 3 := fun j hj => ⟨by rw [h.cell (o + j) (ns_get g (by omega))]; rfl, h.frozen _⟩
structure GdOk (g : Gd) : Prop where
  st : g.st ≤ 3
  lk : g.st ≤ 1 → g.lk = fun _ => true
theorem GdOk.start : GdOk gdStart := ⟨Nat.zero_le _, fun _ => rfl⟩
theorem GdOk.step {g : Gd} (h : GdOk g) (k : Int) (t : Nat) (p : Nat → Bool) : GdOk (gdStep g k t p) := by
  unfold gdStep
  split
  · exact ⟨by dsimp only; omega, fun _ => h.lk (by omega)⟩
  · split
    · exact h
    · exact ⟨by dsimp only; split <;> omega, fun h9 => (by dsimp only at h9; split at h9 <;> omega)⟩
def acs (l : List Ev) (k : Nat) : List Nat := (List.range k).filter (acB l)
theorem acs_yes {l : List Ev} {k : Nat} (h : acB l k = true) : acs l (k + 1) = acs l k ++ [k] := by unfold acs; rw [List.range_succ, List.filter_append, List.filter_cons_of_pos h]; rfl
theorem acs_no {l : List Ev} {k : Nat} (h : acB l k = false) : acs l (k + 1) = acs l k := by unfold acs; rw [List.range_succ, List.filter_append, List.filter_cons_of_neg (by rw [h]; simp)]; simp
theorem acs_len (l : List Ev) : ∀ k, (acs l k).length ≤ k := fun k => by unfold acs; exact Nat.le_trans (List.length_filter_le _ _) (by simp)
def gdF (l : List Ev) (pre : List Nat) : Nat → Gd := pre.foldl (fun f x => upG f (oZ l x) (gdStep (f (oZ l x)) (kZ l x) (tZ l x) (hB l x))) fun _ => gdStart
def wnF (l : List Ev) (pre : List Nat) (x : Nat) : Bool := decide ((gdF l (pre ++ [x]) (oZ l x)).st = 3) && emp (gdF l (pre ++ [x]) (oZ l x)).lk
def wlS (l : List Ev) (s : List Nat × List Ev) (x : Nat) : List Nat × List Ev := (s.1 ++ [x], if wnF l s.1 x = true then s.2 ++ [⟨(x : Nat), (eZ l x).o, 0⟩] else s.2)
def wlF (l : List Ev) (pre : List Nat) : List Ev := (pre.foldl (wlS l) ([], [])).2
theorem gdF_snoc (l : List Ev) (pre : List Nat) (x : Nat) : gdF l (pre ++ [x]) = upG (gdF l pre) (oZ l x) (gdStep (gdF l pre (oZ l x)) (kZ l x) (tZ l x) (hB l x)) := by unfold gdF; rw [List.foldl_append]; rfl
theorem gdF_ok (l : List Ev) (y : Nat) (pre : List Nat) : GdOk (gdF l pre y) := by
  suffices H : ∀ (pre : List Nat) (f : Nat → Gd), (∀ y, GdOk (f y)) → ∀ y, GdOk (pre.foldl (fun f x => upG f (oZ l x) (gdStep (f (oZ l x)) (kZ l x) (tZ l x) (hB l x))) f y) from H pre _ (fun _ => GdOk.start) y
  intro pre
  induction pre with
  | nil => exact fun f h => h
  | cons x r ih =>
    intro f h
    refine ih _ fun y => ?_
    show GdOk (upG f (oZ l x) _ y)
    unfold upG
    split
    · exact (h _).step _ _ _
    · exact h y
theorem wl_fst (l : List Ev) : ∀ (pre : List Nat) (s : List Nat × List Ev), (pre.foldl (wlS l) s).1 = s.1 ++ pre
  | [], s => by simp
  | x :: r, s => by rw [List.foldl_cons, wl_fst l r]; simp [wlS]
theorem wlF_snoc (l : List Ev) (pre : List Nat) (x : Nat) : wlF l (pre ++ [x]) = if wnF l pre x = true then wlF l pre ++ [⟨(x : Nat), (eZ l x).o, 0⟩] else wlF l pre := by
  unfold wlF
  rw [List.foldl_append, List.foldl_cons, List.foldl_nil]
  have := wl_fst l pre ([], [])
  generalize pre.foldl (wlS l) ([], []) = s at *
  unfold wlS
  rw [show s.1 = pre by simpa using this]
theorem wlF_len (l : List Ev) (pre : List Nat) : (wlF l pre).length ≤ pre.length := by
  suffices H : ∀ (pre : List Nat) (s : List Nat × List Ev), (pre.foldl (wlS l) s).2.length ≤ s.2.length + pre.length by have := H pre ([], []); simpa [wlF] using this
  intro pre
  induction pre with
  | nil => intro s; simp
  | cons x r ih =>
    intro s
    have h := ih (wlS l s x)
    rw [List.foldl_cons, List.length_cons]
    have : (wlS l s x).2.length ≤ s.2.length + 1 := by
      unfold wlS
      dsimp only
      split
      · simp
      · omega
    omega
def gdT (l : List Ev) (k : Nat) : Nat → Gd := fun x => gdTo l x k
theorem gdF_acs (l : List Ev) : ∀ k, gdF l (acs l k) = gdT l k
  | 0 => rfl
  | k + 1 => by
    cases h : acB l k
    · rw [acs_no h, gdF_acs l k]
      funext x
      unfold gdT
      rw [gdTo, if_neg (fun h9 => by rw [h] at h9; cases h9.1)]
    · rw [acs_yes h, gdF_snoc, gdF_acs l k]
      funext x
      unfold gdT upG
      rw [gdTo]
      by_cases e : x = oZ l k
      · rw [if_pos e, if_pos ⟨h, e.symm⟩, e]
      · rw [if_neg e, if_neg (fun h9 => e h9.2.symm)]
theorem wlF_acs (l : List Ev) : ∀ k, wlF l (acs l k) = wl l k
  | 0 => rfl
  | k + 1 => by
    cases h : acB l k
    · rw [acs_no h, wlF_acs l k, wl_no (by unfold wn; rw [h]; rfl)]
    · have hw : wnF l (acs l k) k = wn l k := by
        unfold wnF wn
        rw [← acs_yes h, gdF_acs, h, Bool.true_and]
        rfl
      rw [acs_yes h, wlF_snoc, hw, wlF_acs l k, wl]
def hN (l : List Ev) (k : Nat) : Int := held (l.take k) (eZ l k).t
theorem acB_k {l : List Ev} {k : Nat} (h : acB l k = true) : (eZ l k).k = 1 ∨ (eZ l k).k = 2 := of_decide_eq_true h
end Go.Proofs.Ytjddahidkodieaa

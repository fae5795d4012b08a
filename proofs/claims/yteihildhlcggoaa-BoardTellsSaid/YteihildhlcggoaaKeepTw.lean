/- Contracts of small functions beside the laws: wrong, two, may. -/
import Derived.Test.YteihildhlcggoaaTrace
set_option linter.all false
set_option maxRecDepth 100000
namespace Go.Proofs.Yteihildhlcggoaa
open Go.RowKit

theorem Bel.size {W w : World} (h : Bel W w) : W.heap.size ≤ w.heap.size := Below.size h
def WrongPost (w : World) (e : Ending) (w' : World) : Prop := ∃ A c, e = .returned (.slice A 1 c) ∧ Sl w' A 1 [⟨0, 0, 0⟩] ∧ 1 ≤ c ∧ c ≤ 80 ∧ Below w.heap.size w w'
theorem Sl.box {w : World} {B : Nat} {l : List Ev} {t : TypeId} (h : Box w B (evc l).toArray t) (n : Nat) (hn : l.length = n) : Sl w (some ⟨B, 0, none⟩) n l := ⟨hn, fun _ => ⟨B, 0, rfl, h.lt, h.range⟩⟩
theorem wrong_any (w : World) : Calls Try.prog 14 #[] w (WrongPost w) := by
  go_enter Try.func14, Try.ntmps14
  go_wp2
  go_ret
  exact ⟨_, _, rfl, Sl.box (Box.new w (evc [⟨0, 0, 0⟩]).toArray _) 1 rfl, by omega, by omega, (Below.refl _ _).alloc (Nat.le_refl _) _⟩
theorem check_wrong : check [⟨0, 0, 0⟩] = (0, 1) := by decide +kernel
def twoL : List Ev := [⟨5, 0, 1⟩, ⟨2, 0, 0⟩, ⟨2, 1, 0⟩]
theorem ev_info : (Try.prog.info? 50).map (fun i => (i.zero, i.size, i.bytes)) = some (some (.agg #[.int .i64 0, .int .i64 0, .int .i64 0]), 3, 24) := by kernel_rfl
def TwoPost (w : World) (e : Ending) (w' : World) : Prop := ∃ v, e = .returned v ∧ w'.ownsRow w.heap.size 50 3 v 3 (evc twoL) ∧ Below w.heap.size w w'
theorem Box.news {w : World} {B : Nat} {l : List Value} {t : TypeId} (h : Box w B l.toArray t) (j : Nat) (u : Value) (hu : l[j]? = some u) : w.cell? ((⟨B, 0, none⟩ : Addr).add j) = some u := by
  have : (⟨B, 0, none⟩ : Addr).add j = ⟨B, j, none⟩ := by unfold Addr.add; split <;> simp_all
  rw [this]
  exact h.cell j (by simpa using hu)
theorem own_lit {w : World} {B base : Nat} {c : Array Value} {t : TypeId} (h : Box w B c t) (hb : base ≤ B) (n size : Nat) (hn : n ≤ maxLen) (hs : c.size = n * size) : w.ownsRow base t size (.slice (some ⟨B, 0, none⟩) n n) n c.toList :=
  ⟨by rw [Array.length_toList]; exact hs, .inr ⟨B, n, c, rfl, hb, h, Nat.le_refl _, hn, hs, by rw [← hs, ← Array.length_toList, List.take_length]⟩⟩
theorem two_any (w : World) : Calls Try.prog 38 #[] w (TwoPost w) := by
  go_enter Try.func38, Try.ntmps38
  go_wp2
  go_ret
  exact ⟨_, rfl, own_lit (Box.new w (evc twoL).toArray _) (Nat.le_refl _) 3 3 (by simp [maxLen]) rfl, (Below.refl _ _).alloc (Nat.le_refl _) _⟩
/-- A row of the call's own, read as a trace. -/
theorem Sl.own {w : World} {base : Nat} {t : TypeId} {v : Value} {n : Nat} {l : List Ev} (h : w.ownsRow base t 3 v n (evc l)) : ∃ A c, v = .slice A n c ∧ Sl w A n l ∧ n ≤ c ∧ c ≤ maxLen := by
  have hl : l.length = n := by have := h.1; rw [evc_length] at this; omega
  rcases h.2 with ⟨rfl, rfl⟩ | ⟨g, cap, cur, rfl, hg, hh, hn, hc, hs, ht⟩
  · exact ⟨none, 0, rfl, ⟨hl, fun h => absurd h (by omega)⟩, by omega, by omega⟩
  · have hb : Box w g cur t := hh
    refine ⟨_, cap, rfl, ⟨hl, fun _ => ⟨g, 0, rfl, hb.lt, fun j v hv => ?_⟩⟩, hn, hc⟩
    rw [Nat.zero_add]
    refine hb.cell j ?_
    rw [← ht, List.getElem?_take] at hv
    split at hv
    · simpa using hv
    · cases hv
theorem own_drop_alloc {w : World} {base : Nat} {e : TypeId} {size n : Nat} {v : Value} {xs : List Value} (h : w.ownsRow base e size v n xs) {b : Nat} (hb : b ≤ base) : w.ownsRow b e size v n xs :=
  ⟨h.1, h.2.imp id fun ⟨g, cap, cur, h1, h2, h3⟩ => ⟨g, cap, cur, h1, Nat.le_trans hb h2, h3⟩⟩
theorem may_any (A : Option Addr) (n c : Nat) (l : List Ev) (w : World) (hl : Sl w A n l) :
    Calls Try.prog 24 #[.slice A n c] w fun e w' => e = .returned (.bool (may l == 0)) ∧ Below w.heap.size w w' := by
  have HL := Lib.hid hl
  clear hl
  go_enter Try.func24, Try.ntmps24
  go_wp2_with fail
  refine (check_any A n c l _ HL.out).mono ?_
  rintro e w1 ⟨rfl, hb⟩
  go_wp2
  go_ret
  exact ⟨rfl, hb⟩
theorem Sl.drop {w : World} {A : Option Addr} {n : Nat} {l : List Ev} (h : Sl w A n l) {j c : Nat} (hj : j ≤ n) (hc : n ≤ c) : Sl w (if c = j then A else Option.map (fun x => x.add (j * 3)) A) (n - j) (l.drop j) := by
  refine ⟨by rw [List.length_drop, h.1], fun h0 => ?_⟩
  obtain ⟨b, off, rfl, hlt, hr⟩ := h.2 (by omega)
  rw [if_neg (by omega)]
  refine ⟨b, off + j * 3, ?_, hlt, fun i v hv => ?_⟩
  · simp only [Option.map_some]
    congr 1
    unfold Addr.add; split <;> simp_all
  · rw [← evc_drop, List.getElem?_drop] at hv
    rw [Nat.add_assoc]
    exact hr _ v hv
theorem take_cons_drop {l : List Ev} {k : Nat} {e : Ev} (h : l[k]? = some e) : l.take k ++ e :: l.drop (k + 1) = l := by
  have h1 := List.getElem?_eq_some_iff.1 h
  rw [← h1.2, List.getElem_cons_drop, List.take_append_drop]
end Go.Proofs.Yteihildhlcggoaa

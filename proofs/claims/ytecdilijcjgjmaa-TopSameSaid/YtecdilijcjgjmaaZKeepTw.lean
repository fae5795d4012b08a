import Derived.Test.YtecdilijcjgjmaaZTrace
set_option linter.all false
set_option maxRecDepth 100000
namespace Go.Proofs.Ytecdilijcjgjmaa
open Go.RowKit

theorem Bel.size {W w : World} (h : Bel W w) : W.heap.size ≤ w.heap.size := Below.size h
theorem Sl.box {w : World} {B : Nat} {l : List Ev} {t : TypeId} (h : Box w B (evc l).toArray t) (n : Nat) (hn : l.length = n) : Sl w (some ⟨B, 0, none⟩) n l := ⟨hn, fun _ => ⟨B, 0, rfl, h.lt, h.range⟩⟩
def twoL : List Ev := [⟨5, 0, 1⟩, ⟨2, 0, 0⟩, ⟨2, 1, 0⟩]
theorem ev_info : (Try.prog.info? 37).map (fun i => (i.zero, i.size, i.bytes)) = some (some (.agg #[.int .i64 0, .int .i64 0, .int .i64 0]), 3, 24) := by kernel_rfl
theorem Box.news {w : World} {B : Nat} {l : List Value} {t : TypeId} (h : Box w B l.toArray t) (j : Nat) (u : Value) (hu : l[j]? = some u) : w.cell? ((⟨B, 0, none⟩ : Addr).add j) = some u := by
  have : (⟨B, 0, none⟩ : Addr).add j = ⟨B, j, none⟩ := by unfold Addr.add; split <;> simp_all
  rw [this]
  exact h.cell j (by simpa using hu)
theorem Sl.own {w : World} {base : Nat} {t : TypeId} {v : Value} {n : Nat} {l : List Ev} (h : w.ownsRow base t 3 v n (evc l)) : ∃ A c, v = .slice A n c ∧ Sl w A n l ∧ n ≤ c ∧ c ≤ maxLen := by
  have hl : l.length = n := by have := h.1; rw [evc_length] at this; omega
  rcases h.2 with ⟨rfl, rfl⟩ | ⟨g, cap, cur, rfl, hg, hh, hn, hc, hs, ht⟩
  · exact ⟨none, 0, rfl, ⟨hl, fun h => absurd h (by omega)⟩, by omega, by omega⟩
  · have hb : Box w g cur t := hh
    refine ⟨_, cap, rfl, ⟨hl, fun _ => ⟨g, 0, rfl, hb.lt, fun j v hv => ?_⟩⟩, hn, hc⟩
    rw [Nat.zero_add]
    refine hb.cell j ?_
    rw [← ht, List.getElem?_take] at hv
    split at hv
    · simpa using hv
    · cases hv
theorem own_drop_alloc {w : World} {base : Nat} {e : TypeId} {size n : Nat} {v : Value} {xs : List Value} (h : w.ownsRow base e size v n xs) {b : Nat} (hb : b ≤ base) : w.ownsRow b e size v n xs :=
  ⟨h.1, h.2.imp id fun ⟨g, cap, cur, h1, h2, h3⟩ => ⟨g, cap, cur, h1, Nat.le_trans hb h2, h3⟩⟩
end Go.Proofs.Ytecdilijcjgjmaa

/- Contracts of small functions beside the laws: wrong, two, traced, may. -/
import Derived.Test.YtioejkjbokcppaaTrace4
import Derived.Test.YtioejkjbokcppaaEqInt
set_option linter.all false
namespace Go.Proofs.Ytioejkjbokcppaa
open Go.RowKit

theorem Bel.size {W w : World} (h : Bel W w) : W.heap.size ≤ w.heap.size := Below.size h
def WrongPost (w : World) (e : Ending) (w' : World) : Prop := ∃ A c, e = .returned (.slice A 1 c) ∧ Sl w' A 1 [⟨0, 0, 0⟩] ∧ 1 ≤ c ∧ c ≤ 80 ∧ Below w.heap.size w w'
theorem Sl.box {w : World} {B : Nat} {l : List Ev} {t : TypeId} (h : Box w B (evc l).toArray t) (n : Nat) (hn : l.length = n) : Sl w (some ⟨B, 0, none⟩) n l := ⟨hn, fun _ => ⟨B, 0, rfl, h.lt, h.range⟩⟩
theorem wrong_any (w : World) : Calls Try.prog 15 #[] w (WrongPost w) := by
  go_enter Try.func15, Try.ntmps15
  go_wp2
  go_ret
  exact ⟨_, _, rfl, Sl.box (Box.new w (evc [⟨0, 0, 0⟩]).toArray _) 1 rfl, by omega, by omega, (Below.refl _ _).alloc (Nat.le_refl _) _⟩
theorem check_wrong : check [⟨0, 0, 0⟩] = (0, 1) := by decide +kernel
def twoL : List Ev := [⟨5, 0, 1⟩, ⟨2, 0, 0⟩, ⟨2, 1, 0⟩]
theorem ev_info : (Try.prog.info? 36).map (fun i => (i.zero, i.size, i.bytes)) = some (some (.agg #[.int .i64 0, .int .i64 0, .int .i64 0]), 3, 24) := by kernel_rfl
def TwoPost (w : World) (e : Ending) (w' : World) : Prop := ∃ v, e = .returned v ∧ w'.ownsRow w.heap.size 36 3 v 3 (evc twoL) ∧ Below w.heap.size w w'
theorem Box.news {w : World} {B : Nat} {l : List Value} {t : TypeId} (h : Box w B l.toArray t) (j : Nat) (u : Value) (hu : l[j]? = some u) : w.cell? ((⟨B, 0, none⟩ : Addr).add j) = some u := by
  have : (⟨B, 0, none⟩ : Addr).add j = ⟨B, j, none⟩ := by unfold Addr.add; split <;> simp_all
  rw [this]
  exact h.cell j (by simpa using hu)
theorem own_lit {w : World} {B base : Nat} {c : Array Value} {t : TypeId} (h : Box w B c t) (hb : base ≤ B) (n size : Nat) (hn : n ≤ maxLen) (hs : c.size = n * size) : w.ownsRow base t size (.slice (some ⟨B, 0, none⟩) n n) n c.toList :=
  ⟨by rw [Array.length_toList]; exact hs, .inr ⟨B, n, c, rfl, hb, h, Nat.le_refl _, hn, hs, by rw [← hs, ← Array.length_toList, List.take_length]⟩⟩
theorem two_any (w : World) : Calls Try.prog 34 #[] w (TwoPost w) := by
  go_enter Try.func34, Try.ntmps34
  go_wp2
  go_ret
  exact ⟨_, rfl, own_lit (Box.new w (evc twoL).toArray _) (Nat.le_refl _) 3 3 (by simp [maxLen]) rfl, (Below.refl _ _).alloc (Nat.le_refl _) _⟩
/-- A row of the call's own, read as a trace. -/
theorem Sl.own {w : World} {base : Nat} {t : TypeId} {v : Value} {n : Nat} {l : List Ev} (h : w.ownsRow base t 3 v n (evc l)) : ∃ A c, v = .slice A n c ∧ Sl w A n l ∧ n ≤ c ∧ c ≤ maxLen := by
  have hl : l.length = n := by have := h.1; rw [evc_length] at this; omega
  rcases h.2 with ⟨rfl, rfl⟩ | ⟨g, cap, cur, rfl, hg, hh, hn, hc, hs, ht⟩
  · exact ⟨none, 0, rfl, ⟨hl, fun h => absurd h (by omega)⟩, by omega, by omega⟩
  · have hb : Box w g cur t := hh
    refine ⟨_, cap, rfl, ⟨hl, fun _ => ⟨g, 0, rfl, hb.lt, fun j v hv => ?_⟩⟩, hn, hc⟩
    rw [Nat.zero_add]
    refine hb.cell j ?_
    rw [← ht, List.getElem?_take] at hv
    split at hv
    · simpa using hv
    · cases hv
theorem own_drop_alloc {w : World} {base : Nat} {e : TypeId} {size n : Nat} {v : Value} {xs : List Value} (h : w.ownsRow base e size v n xs) {b : Nat} (hb : b ≤ base) : w.ownsRow b e size v n xs :=
  ⟨h.1, h.2.imp id fun ⟨g, cap, cur, h1, h2, h3⟩ => ⟨g, cap, cur, h1, Nat.le_trans hb h2, h3⟩⟩
theorem may_any (A : Option Addr) (n c : Nat) (l : List Ev) (w : World) (hl : Sl w A n l) :
    Calls Try.prog 22 #[.slice A n c] w fun e w' => e = .returned (.bool (may l == 0)) ∧ Below w.heap.size w w' := by
  have HL := Lib.hid hl
  clear hl
  go_enter Try.func22, Try.ntmps22
  go_wp2_with fail
  refine (check_any A n c l _ HL.out).mono ?_
  rintro e w1 ⟨rfl, hb⟩
  go_wp2
  go_ret
  exact ⟨rfl, hb⟩
theorem SlI.own {w : World} {base : Nat} {t : TypeId} {v : Value} {n : Nat} {l : List Int} (h : w.ownsRow base t 1 v n (intv l)) : SlI w v l := by
  have hl : l.length = n := by have := h.1; simp [intv] at this; omega
  rcases h.2 with ⟨rfl, rfl⟩ | ⟨g, cap, cur, rfl, hg, hh, hn, hc, hs, ht⟩
  · exact .inl ⟨rfl, List.eq_nil_of_length_eq_zero hl⟩
  · have hb : Box w g cur t := hh
    refine .inr ⟨g, 0, n, cap, rfl, hl, by omega, fun i hi => ?_⟩
    rw [Nat.zero_add]
    refine hb.cell i ?_
    have hv : (intv l)[i]? = some (.int .i64 (l[i]?.getD 0)) := by
      simp [intv, List.getElem?_eq_getElem (show i < l.length by omega)]
    rw [← ht, List.getElem?_take] at hv
    split at hv
    · simpa using hv
    · cases hv
theorem SlI.keep {w w' : World} {v : Value} {l : List Int} (h : SlI w v l) (hb : Bel w w') : SlI w' v l :=
  h.imp id fun ⟨b, o, n, c, hv, hl, hm, hc⟩ => ⟨b, o, n, c, hv, hl, hm, fun i hi => hb.cell (hc i hi)⟩
theorem SlI.alloc {w : World} {v : Value} {l : List Int} (h : SlI w v l) (o : Obj) : SlI (w.alloc o) v l := h.keep ((Bel.refl w).alloc o)
theorem threads_two : threads twoL = [0, 1] ∧ may twoL = 0 := by decide +kernel
theorem check_four : check (twoL ++ [⟨4, 0, 0⟩]) = (3, 10) := by decide +kernel
set_option maxHeartbeats 2000000 in
theorem traced_any (W : World) : Calls Try.prog 21 #[] W fun e w' => e = .returned (.bool true) ∧ Below W.heap.size W w' := by
  have hw0 : Bel W W := Bel.refl _
  obtain ⟨i0, hi0, hz0, hz1, hz2⟩ := info_parts ev_info
  have J := Lib.hid (And.intro hi0 (And.intro hz0 (And.intro hz1 hz2)))
  clear hi0 hz0 hz1 hz2
  go_enter Try.func21, Try.ntmps21
  go_wp2_with fail
  refine (two_any _).mono ?_
  rintro e1 w1 ⟨v1, rfl, hown1, hb1⟩
  have hw1 : Bel W w1 := hw0.call hb1
  clear hb1
  have HO := Lib.hid hown1
  clear hown1
  obtain ⟨hi0, hz0, hz1, hz2⟩ := J.out
  have HOA := Lib.hid (own_alloc HO.out (.cells #[.int .i64 4, .int .i64 0, .int .i64 0] 36))
  have hs1 := hw1.size
  go_wp2_with (at_builtin; refine wpList_append_own_at _ rfl (.tmp 6) (.tmp 8) _ rfl W.heap.size 36 i0 _ 3 24 Try.underlying22 hi0 hz0 hz1 hz2 rfl (by omega) v1 3 (evc twoL) rfl HOA.out ⟨w1.heap.size, 0, none⟩ 1 1 (evc [⟨4, 0, 0⟩]) rfl rfl (Box.news (l := evc [⟨4, 0, 0⟩]) (Box.new w1 _ _)) (by simp [evc, Value.oneCell']) (by simp [maxLen]) (by omega) (by simp; omega) ?_; intro v2 w2 hown2 hg2 hn2 hat2)
  have hw2 : Bel W w2 := (hw1.alloc _).out.grown hg2 (by simp; omega) (own_block_ge HO.out)
  obtain ⟨A2, c2, rfl, hs2, hc2, hm2⟩ := Sl.own (l := twoL ++ [⟨4, 0, 0⟩]) (by rw [evc_append]; exact hown2)
  have HS2 := Lib.hid hs2
  clear hown2 hg2 hn2 hat2 hs2 hi0 hz0 hz1 hz2
  have HC := Lib.hid check_four
  go_wp2_with fail
  refine (check_any A2 4 c2 _ _ HS2.out).mono ?_
  rintro e3 w3 ⟨rfl, hb3⟩
  have hw3 : Bel W w3 := hw2.call hb3
  clear hb3
  rw [HC.out]
  go_wp2_with fail
  refine (two_any _).mono ?_
  rintro e4 w4 ⟨v4, rfl, hown4, hb4⟩
  have hw4 : Bel W w4 := hw3.call hb4
  clear hb4
  obtain ⟨A4, c4, rfl, hs4, hc4, hm4⟩ := Sl.own hown4
  have HS4 := Lib.hid hs4
  clear hown4 hs4
  go_wp2_with fail
  refine (threads_any A4 3 c4 _ _ HS4.out).mono ?_
  rintro e5 w5 ⟨v5, rfl, hown5, hb5⟩
  have hw5 : Bel W w5 := hw4.call hb5
  clear hb5
  rw [threads_two.2]
  have HI := Lib.hid (SlI.own hown5)
  clear hown5
  have HT := Lib.hid threads_two.1
  go_wp2_with fail
  refine (eqint_any v5 _ (threads twoL) [0, 1] _ ?_ ?_).mono ?_
  · exact HI.out.alloc _
  · exact SlI.lit (l := [0, 1]) (Box.new w5 _ _) 2 rfl (by simp [maxLen]) 2
  rintro e6 w6 ⟨rfl, rfl⟩
  rw [HT.out]
  go_wp2
  go_ret
  exact ⟨rfl, hw5.alloc _⟩
theorem Sl.drop {w : World} {A : Option Addr} {n : Nat} {l : List Ev} (h : Sl w A n l) {j c : Nat} (hj : j ≤ n) (hc : n ≤ c) : Sl w (if c = j then A else Option.map (fun x => x.add (j * 3)) A) (n - j) (l.drop j) := by
  refine ⟨by rw [List.length_drop, h.1], fun h0 => ?_⟩
  obtain ⟨b, off, rfl, hlt, hr⟩ := h.2 (by omega)
  rw [if_neg (by omega)]
  refine ⟨b, off + j * 3, ?_, hlt, fun i v hv => ?_⟩
  · simp only [Option.map_some]
    congr 1
    unfold Addr.add; split <;> simp_all
  · rw [← evc_drop, List.getElem?_drop] at hv
    rw [Nat.add_assoc]
    exact hr _ v hv
theorem take_cons_drop {l : List Ev} {k : Nat} {e : Ev} (h : l[k]? = some e) : l.take k ++ e :: l.drop (k + 1) = l := by
  have h1 := List.getElem?_eq_some_iff.1 h
  rw [← h1.2, List.getElem_cons_drop, List.take_append_drop]
end Go.Proofs.Ytioejkjbokcppaa

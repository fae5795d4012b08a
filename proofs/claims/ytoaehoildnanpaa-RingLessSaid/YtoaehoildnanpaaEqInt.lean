/- Slices of integers, read; the reference's Eq over them. | The reference's Has over integers. -/
import Derived.Test.YtoaehoildnanpaaRows
import Derived.Test.YtoaehoildnanpaaBase
import Derived.WalkKit
import Derived.WalkSpells
import Derived.WalkLawsBesides
import Derived.Lib.Hide
set_option linter.all false
set_option maxRecDepth 100000
namespace Go.Proofs.Ytoaehoildnanpaa
open Go Go.RowKit

/-- The value is a slice of the numbers l. -/
def SlI (w : World) (v : Value) (l : List Int) : Prop :=
  (v = .slice none 0 0 ∧ l = []) ∨ ∃ b o n c, v = .slice (some ⟨b, o, none⟩) n c ∧ l.length = n ∧ n ≤ maxLen ∧ ∀ i, i < n → w.cell? ⟨b, o + i, none⟩ = some (.int .i64 (l[i]?.getD 0))

def ints (l : List Int) : Array Value := (l.map (Value.int .i64)).toArray
theorem ints_get (l : List Int) (i : Nat) (h : i < l.length) : (ints l)[i]? = some (.int .i64 (l[i]?.getD 0)) := by
  simp [ints, List.getElem?_eq_getElem h]
theorem SlI.lit {w : World} {B : Nat} {l : List Int} {t : TypeId} (h : Box w B (ints l) t) (n : Nat) (hn : l.length = n) (hm : n ≤ maxLen) (c : Nat) : SlI w (.slice (some ⟨B, 0, none⟩) n c) l :=
  .inr ⟨B, 0, n, c, rfl, hn, hm, fun i hi => by
    have := h.cell i (ints_get l i (by omega))
    simpa using this⟩
theorem list_eq_of {la lb : List Int} (hl : la.length = lb.length) (h : UpTo (fun j => la[j]?.getD 0 = lb[j]?.getD 0) la.length) : la = lb :=
  List.ext_getElem hl fun i h1 h2 => by
    have := h i h1
    simpa [List.getElem?_eq_getElem h1, List.getElem?_eq_getElem h2] using this

set_option maxHeartbeats 1000000 in
theorem eqint_any (va vb : Value) (la lb : List Int) (w : World) (ha : SlI w va la) (hb : SlI w vb lb) :
    Calls Try.prog 19 #[va, vb] w fun e w' => e = .returned (.bool (la == lb)) ∧ w = w' := by
  by_cases hl : la.length = lb.length
  · rcases ha with ⟨rfl, rfl⟩ | ⟨b, o, n, c, rfl, hn, hm, hc⟩
    · obtain rfl : lb = [] := by simpa using hl.symm
      rcases hb with ⟨rfl, _⟩ | ⟨b, o, n, c, rfl, hn, hm, hc⟩
      · go_enter Try.func19, Try.ntmps19
        go_wp2
        go_loop [14] (fun i => i = .int .i64 0) (fun i => 0)
        case atStart => rfl
        case round =>
          subst hrel
          go_wp2
          go_ret
          exact ⟨rfl, rfl⟩
      · obtain rfl : n = 0 := by simpa using hn.symm
        clear hc hn hl
        go_enter Try.func19, Try.ntmps19
        go_wp2
        go_loop [14] (fun i => i = .int .i64 0) (fun i => 0)
        case atStart => rfl
        case round =>
          subst hrel
          go_wp2
          go_ret
          exact ⟨rfl, rfl⟩
    · rcases hb with ⟨rfl, rfl⟩ | ⟨b', o', n', c', rfl, hn', hm', hc'⟩
      · obtain rfl : la = [] := by simpa using hl
        obtain rfl : n = 0 := by simpa using hn.symm
        clear hc hn hl
        go_enter Try.func19, Try.ntmps19
        go_wp2
        go_loop [14] (fun i => i = .int .i64 0) (fun i => 0)
        case atStart => rfl
        case round =>
          subst hrel
          go_wp2
          go_ret
          exact ⟨rfl, rfl⟩
      · obtain rfl : n = n' := by omega
        have HL := Lib.hid hn'
        have HN := Lib.hid hn
        have HC := Lib.hid hc
        have HC' := Lib.hid hc'
        unfold maxLen at hm
        clear hl hn hn' hc hc' hm'
        go_enter Try.func19, Try.ntmps19
        go_wp2
        go_loop [14] (fun i => ∃ k : Nat, k ≤ n ∧ i = .int .i64 k ∧ UpTo (fun j => la[j]?.getD 0 = lb[j]?.getD 0) k) (fun i => n - (intOf i).toNat)
        case atStart => exact ⟨0, by omega, rfl, UpTo.zero⟩
        case round =>
          obtain ⟨k, hk, rfl, hu⟩ := hrel
          have HU := Lib.hid hu
          clear hu
          by_cases hlt : k < n
          · have hlt' : (k : Int) < n := by omega
            have c1 := HC.out k hlt
            have c2 := HC'.out k hlt
            by_cases he : la[k]?.getD 0 = lb[k]?.getD 0
            · have he' : (la[k]?.getD 0 != lb[k]?.getD 0) = false := by simpa using he
              have HE := Lib.hid he
              clear he
              go_wp2
              go_round
              case rel => exact ⟨k + 1, by omega, by go_num, HU.out.succ HE.out⟩
              case measure => simp [intOf]; omega
            · have he' : (la[k]?.getD 0 != lb[k]?.getD 0) = true := by simpa using he
              have hF : (la == lb) = false := by
                rw [beq_eq_false_iff_ne]
                intro h
                subst h
                exact he rfl
              have HF := Lib.hid hF
              clear hF he
              go_wp2
              go_ret
              exact ⟨by rw [HF.out]; rfl, rfl⟩
          · have hF : (la == lb) = true := by
              have h1 : la = lb := list_eq_of (by have := HN.out; have := HL.out; omega) (fun j hj => HU.out j (by have := HN.out; omega))
              simp [h1]
            have HF := Lib.hid hF
            clear hF
            go_wp2
            go_ret
            exact ⟨by rw [HF.out]; rfl, rfl⟩
  · have hF : (la == lb) = false := by
      rw [beq_eq_false_iff_ne]
      intro h
      exact hl (by rw [h])
    have HF := Lib.hid hF
    clear hF
    have HL := Lib.hid hl
    clear hl
    rcases ha with ⟨rfl, h1⟩ | ⟨b, o, n, c, rfl, hn, hm, hc⟩
    · rcases hb with ⟨rfl, h2⟩ | ⟨b', o', n', c', rfl, hn', hm', hc'⟩
      · exact absurd (by rw [h1, h2]) HL.out
      · have hl' : ((0 : Int) != (n' : Int)) = true := by have h3 := HL.out; rw [h1] at h3; simp only [List.length_nil] at h3; rw [bne_iff_ne]; omega
        clear hn' hc' h1
        go_enter Try.func19, Try.ntmps19
        go_wp2
        go_ret
        exact ⟨by rw [HF.out]; rfl, rfl⟩
    · rcases hb with ⟨rfl, h2⟩ | ⟨b', o', n', c', rfl, hn', hm', hc'⟩
      · have hl' : ((n : Int) != (0 : Int)) = true := by have h3 := HL.out; rw [h2] at h3; simp only [List.length_nil] at h3; rw [bne_iff_ne]; omega
        clear hn hc h2
        go_enter Try.func19, Try.ntmps19
        go_wp2
        go_ret
        exact ⟨by rw [HF.out]; rfl, rfl⟩
      · have hl' : ((n : Int) != (n' : Int)) = true := by have h3 := HL.out; rw [hn, hn'] at h3; rw [bne_iff_ne]; omega
        clear hn hc hn' hc'
        go_enter Try.func19, Try.ntmps19
        go_wp2
        go_ret
        exact ⟨by rw [HF.out]; rfl, rfl⟩
end Go.Proofs.Ytoaehoildnanpaa
namespace Go.Proofs.Ytoaehoildnanpaa
open Go Go.RowKit

/-- A slice of the numbers l, nil let in, its value written out. -/
def SI (w : World) (A : Option Addr) (n : Nat) (l : List Int) : Prop :=
  l.length = n ∧ (0 < n → ∃ b o, A = some ⟨b, o, none⟩ ∧ ∀ i, i < n → w.cell? ⟨b, o + i, none⟩ = some (.int .i64 (l[i]?.getD 0)))
theorem SlI.form {w : World} {v : Value} {l : List Int} (h : SlI w v l) : ∃ A n c, v = .slice A n c ∧ SI w A n l ∧ n ≤ maxLen := by
  rcases h with ⟨rfl, rfl⟩ | ⟨b, o, n, c, rfl, hl, hm, hc⟩
  · exact ⟨none, 0, 0, rfl, ⟨rfl, fun h => absurd h (by omega)⟩, by omega⟩
  · exact ⟨_, n, c, rfl, ⟨hl, fun _ => ⟨b, o, rfl, hc⟩⟩, hm⟩
theorem SI.keep {w w' : World} {A : Option Addr} {n : Nat} {l : List Int} (h : SI w A n l) (hb : Bel w w') : SI w' A n l :=
  ⟨h.1, fun h0 => by
    obtain ⟨b, o, hA, hc⟩ := h.2 h0
    exact ⟨b, o, hA, fun i hi => hb.cell (hc i hi)⟩⟩
theorem mem_take_succ {l : List Int} {k : Nat} (h : k < l.length) (x : Int) : x ∈ l.take (k + 1) ↔ x ∈ l.take k ∨ x = l[k]?.getD 0 := by
  rw [List.take_succ_eq_append_getElem h, List.mem_append, List.mem_singleton, List.getElem?_eq_getElem h, Option.getD_some]
set_option maxHeartbeats 1000000 in
theorem hasint_any (A : Option Addr) (n c : Nat) (l : List Int) (x : Int) (w : World) (h : SI w A n l) (hm : n ≤ 9223372036854775807) :
    Calls Try.prog 25 #[.slice A n c, .int .i64 x] w fun e w' => e = .returned (.bool (decide (x ∈ l))) ∧ w = w' := by
  have H := Lib.hid h
  go_enter Try.func25, Try.ntmps25
  go_wp2
  go_loop [9] (fun t => ∃ k : Nat, k ≤ n ∧ t = .int .i64 k ∧ x ∉ l.take k) (fun t => n - (intOf t).toNat)
  case atStart => exact ⟨0, by omega, rfl, by simp⟩
  case round =>
    obtain ⟨k, hk, rfl, hd⟩ := hrel
    have HD := Lib.hid hd
    clear hd
    by_cases hlt : k < n
    · obtain ⟨b, o, rfl, hc⟩ := h.2 (by omega)
      have hc1 := hc k hlt
      clear hc
      have hlt' : (k : Int) < n := by omega
      have hkl : k < l.length := by rw [H.out.1]; exact hlt
      have HM := Lib.hid (mem_take_succ hkl x)
      have hmem : l[k]?.getD 0 ∈ l := by rw [List.getElem?_eq_getElem hkl]; exact List.getElem_mem _
      have HX := Lib.hid hmem
      clear h hmem
      generalize l[k]?.getD 0 = y at *
      cases he : (x == y)
      · go_wp2
        go_round
        case rel => exact ⟨k + 1, by omega, by go_num, by rw [HM.out]; exact fun hh => hh.elim HD.out (by simpa using he)⟩
        case measure => simp [intOf]; omega
      · go_wp2
        go_ret
        exact ⟨ret_val (by rw [decide_eq_true (by rw [eq_of_beq he]; exact HX.out)]; rfl), rfl⟩
    · obtain rfl : k = n := by omega
      have HF := Lib.hid (show decide (x ∈ l) = false by rw [decide_eq_false_iff_not]; have := HD.out; rwa [← h.1, List.take_length] at this)
      clear h
      go_wp2
      go_ret
      exact ⟨by rw [HF.out]; rfl, rfl⟩
end Go.Proofs.Ytoaehoildnanpaa

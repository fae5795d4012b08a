/- Slices of integers, read; the reference's Eq over them. -/
import Derived.Test.YtdgoeibaekkhmaaRows
import Derived.Test.YtdgoeibaekkhmaaBase
import Derived.WalkKit
import Derived.WalkSpells
import Derived.WalkLawsBesides
import Derived.Lib.Hide
set_option linter.all false
set_option maxRecDepth 100000
namespace Go.Proofs.Ytdgoeibaekkhmaa
open Go Go.RowKit

/-- The value is a slice of the numbers l. -/
def SlI (w : World) (v : Value) (l : List Int) : Prop :=
  (v = .slice none 0 0 ∧ l = []) ∨ ∃ b o n c, v = .slice (some ⟨b, o, none⟩) n c ∧ l.length = n ∧ n ≤ maxLen ∧ ∀ i, i < n → w.cell? ⟨b, o + i, none⟩ = some (.int .i64 (l[i]?.getD 0))

def ints (l : List Int) : Array Value := (l.map (Value.int .i64)).toArray
theorem ints_get (l : List Int) (i : Nat) (h : i < l.length) : (ints l)[i]? = some (.int .i64 (l[i]?.getD 0)) := by
  simp [ints, List.getElem?_eq_getElem h]
theorem SlI.lit {w : World} {B : Nat} {l : List Int} {t : TypeId} (h : Box w B (ints l) t) (n : Nat) (hn : l.length = n) (hm : n ≤ maxLen) (c : Nat) : SlI w (.slice (some ⟨B, 0, none⟩) n c) l :=
  .inr ⟨B, 0, n, c, rfl, hn, hm, fun i hi => by
    have := h.cell i (ints_get l i (by omega))
    simpa using this⟩
theorem list_eq_of {la lb : List Int} (hl : la.length = lb.length) (h : UpTo (fun j => la[j]?.getD 0 = lb[j]?.getD 0) la.length) : la = lb :=
  List.ext_getElem hl fun i h1 h2 => by
    have := h i h1
    simpa [List.getElem?_eq_getElem h1, List.getElem?_eq_getElem h2] using this

set_option maxHeartbeats 1000000 in
theorem eqint_any (va vb : Value) (la lb : List Int) (w : World) (ha : SlI w va la) (hb : SlI w vb lb) :
    Calls Try.prog 17 #[va, vb] w fun e w' => e = .returned (.bool (la == lb)) ∧ w = w' := by
  by_cases hl : la.length = lb.length
  · rcases ha with ⟨rfl, rfl⟩ | ⟨b, o, n, c, rfl, hn, hm, hc⟩
    · obtain rfl : lb = [] := by simpa using hl.symm
      rcases hb with ⟨rfl, _⟩ | ⟨b, o, n, c, rfl, hn, hm, hc⟩
      · go_enter Try.func17, Try.ntmps17
        go_wp2
        go_loop [14] (fun i => i = .int .i64 0) (fun i => 0)
        case atStart => rfl
        case round =>
          subst hrel
          go_wp2
          go_ret
          exact ⟨rfl, rfl⟩
      · obtain rfl : n = 0 := by simpa using hn.symm
        clear hc hn hl
        go_enter Try.func17, Try.ntmps17
        go_wp2
        go_loop [14] (fun i => i = .int .i64 0) (fun i => 0)
        case atStart => rfl
        case round =>
          subst hrel
          go_wp2
          go_ret
          exact ⟨rfl, rfl⟩
    · rcases hb with ⟨rfl, rfl⟩ | ⟨b', o', n', c', rfl, hn', hm', hc'⟩
      · obtain rfl : la = [] := by simpa using hl
        obtain rfl : n = 0 := by simpa using hn.symm
        clear hc hn hl
        go_enter Try.func17, Try.ntmps17
        go_wp2
        go_loop [14] (fun i => i = .int .i64 0) (fun i => 0)
        case atStart => rfl
        case round =>
          subst hrel
          go_wp2
          go_ret
          exact ⟨rfl, rfl⟩
      · obtain rfl : n = n' := by omega
        have HL := Lib.hid hn'
        have HN := Lib.hid hn
        have HC := Lib.hid hc
        have HC' := Lib.hid hc'
        unfold maxLen at hm
        clear hl hn hn' hc hc' hm'
        go_enter Try.func17, Try.ntmps17
        go_wp2
        go_loop [14] (fun i => ∃ k : Nat, k ≤ n ∧ i = .int .i64 k ∧ UpTo (fun j => la[j]?.getD 0 = lb[j]?.getD 0) k) (fun i => n - (intOf i).toNat)
        case atStart => exact ⟨0, by omega, rfl, UpTo.zero⟩
        case round =>
          obtain ⟨k, hk, rfl, hu⟩ := hrel
          have HU := Lib.hid hu
          clear hu
          by_cases hlt : k < n
          · have hlt' : (k : Int) < n := by omega
            have c1 := HC.out k hlt
            have c2 := HC'.out k hlt
            by_cases he : la[k]?.getD 0 = lb[k]?.getD 0
            · have he' : (la[k]?.getD 0 != lb[k]?.getD 0) = false := by simpa using he
              have HE := Lib.hid he
              clear he
              go_wp2
              go_round
              case rel => exact ⟨k + 1, by omega, by go_num, HU.out.succ HE.out⟩
              case measure => simp [intOf]; omega
            · have he' : (la[k]?.getD 0 != lb[k]?.getD 0) = true := by simpa using he
              have hF : (la == lb) = false := by
                rw [beq_eq_false_iff_ne]
                intro h
                subst h
                exact he rfl
              have HF := Lib.hid hF
              clear hF he
              go_wp2
              go_ret
              exact ⟨by rw [HF.out]; rfl, rfl⟩
          · have hF : (la == lb) = true := by
              have h1 : la = lb := list_eq_of (by have := HN.out; have := HL.out; omega) (fun j hj => HU.out j (by have := HN.out; omega))
              simp [h1]
            have HF := Lib.hid hF
            clear hF
            go_wp2
            go_ret
            exact ⟨by rw [HF.out]; rfl, rfl⟩
  · have hF : (la == lb) = false := by
      rw [beq_eq_false_iff_ne]
      intro h
      exact hl (by rw [h])
    have HF := Lib.hid hF
    clear hF
    have HL := Lib.hid hl
    clear hl
    rcases ha with ⟨rfl, h1⟩ | ⟨b, o, n, c, rfl, hn, hm, hc⟩
    · rcases hb with ⟨rfl, h2⟩ | ⟨b', o', n', c', rfl, hn', hm', hc'⟩
      · exact absurd (by rw [h1, h2]) HL.out
      · have hl' : ((0 : Int) != (n' : Int)) = true := by have h3 := HL.out; rw [h1] at h3; simp only [List.length_nil] at h3; rw [bne_iff_ne]; omega
        clear hn' hc' h1
        go_enter Try.func17, Try.ntmps17
        go_wp2
        go_ret
        exact ⟨by rw [HF.out]; rfl, rfl⟩
    · rcases hb with ⟨rfl, h2⟩ | ⟨b', o', n', c', rfl, hn', hm', hc'⟩
      · have hl' : ((n : Int) != (0 : Int)) = true := by have h3 := HL.out; rw [h2] at h3; simp only [List.length_nil] at h3; rw [bne_iff_ne]; omega
        clear hn hc h2
        go_enter Try.func17, Try.ntmps17
        go_wp2
        go_ret
        exact ⟨by rw [HF.out]; rfl, rfl⟩
      · have hl' : ((n : Int) != (n' : Int)) = true := by have h3 := HL.out; rw [hn, hn'] at h3; rw [bne_iff_ne]; omega
        clear hn hc hn' hc'
        go_enter Try.func17, Try.ntmps17
        go_wp2
        go_ret
        exact ⟨by rw [HF.out]; rfl, rfl⟩
end Go.Proofs.Ytdgoeibaekkhmaa

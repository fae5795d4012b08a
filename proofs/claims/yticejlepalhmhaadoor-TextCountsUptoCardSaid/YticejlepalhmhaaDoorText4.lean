/- Contracts of the package text: the lines of a text, Read. -/
import Derived.Test.YticejlepalhmhaaDoorText2
import Derived.Lib.SplitLaws
import Derived.Lib.IndexBytes
set_option linter.all false
set_option maxRecDepth 100000
namespace Go.Proofs.YticejlepalhmhaaDoor
open Go Go.RowKit

theorem indexB_lf (l : List UInt8) : Lib.indexB (str l) ⟨#[10]⟩ = Lib.indexByte l 10 := by
  show Lib.index (str l).data.toList [10] = _
  rw [str_all, Lib.index_one]
theorem split_lines : ∀ (k : Nat) (l : List UInt8), Lib.countB (str l) ⟨#[10]⟩ = k → Lib.splitB ⟨#[10]⟩ 0 k (str l) = (linesL l).map str
  | 0, l, hk => by
    have hm : Lib.indexByte l 10 < 0 := by
      rcases Int.lt_or_le (Lib.indexByte l 10) 0 with h | h
      · exact h
      · obtain ⟨i, hi⟩ := Int.eq_ofNat_of_zero_le h
        rw [Lib.countB_hit (str l) ⟨#[10]⟩ i (by decide) (by rw [indexB_lf, hi])] at hk
        omega
    rw [linesL_cut, (index_miss hm).2.2]
    rfl
  | k + 1, l, hk => by
    rcases cut_of_index l 10 with ⟨h, _⟩ | ⟨i, hi, h1, h2, h3, h4⟩
    · have := Lib.indexByte_ge l 10
      rw [Lib.countB_miss (str l) ⟨#[10]⟩ (by rw [indexB_lf]; omega)] at hk
      omega
    · have hix : Lib.indexB (str l) ⟨#[10]⟩ = i := by rw [indexB_lf, hi]
      have he : (str l).extract (i + (⟨#[10]⟩ : ByteArray).size) (str l).size = str (l.drop (i + 1)) := by
        rw [str_extract, str_sz, List.take_of_length_le (Nat.le_refl _)]; rfl
      have hc := Lib.countB_hit (str l) ⟨#[10]⟩ i (by decide) hix
      rw [he] at hc
      rw [Lib.splitB_hit _ _ _ _ i hix, he, split_lines k _ (by omega), linesL_cut l, h3, if_pos rfl, h1, h2, List.map_cons, str_extract]
      rfl
theorem count_lines (l : List UInt8) : Lib.countB (str l) ⟨#[10]⟩ + 1 = (linesL l).length := by
  have h1 := Lib.splitB_all ⟨#[10]⟩ (by decide) 0 _ (str l) rfl
  rw [split_lines _ l rfl, List.length_map] at h1
  exact h1.symm
theorem linesL_len (l : List UInt8) : (linesL l).length ≤ l.length + 1 := by
  have h := Lib.countB_le ⟨#[10]⟩ (by decide) _ (str l) (Nat.le_refl _)
  rw [str_sz] at h
  have := count_lines l
  omega
theorem linesL_part : ∀ (l x : List UInt8), x ∈ linesL l → x.length ≤ l.length
  | [], x, h => by simp [linesL] at h; subst h; simp
  | c :: l, x, h => by
    unfold linesL at h
    split at h
    · rcases List.mem_cons.1 h with rfl | h
      · simp
      · have := linesL_part l x h; simp; omega
    · have ih := linesL_part l
      cases hq : linesL l with
      | nil => exact absurd hq (linesL_ne l)
      | cons y r =>
        rw [hq] at h ih
        rcases List.mem_cons.1 h with rfl | h
        · have := ih y (List.mem_cons_self ..); simp; omega
        · have := ih x (List.mem_cons_of_mem _ h); simp; omega
/-- A slice of texts. -/
def SlS (w : World) (A : Option Addr) (ls : List (List UInt8)) : Prop :=
  0 < ls.length → ∃ b, A = some ⟨b, 0, none⟩ ∧ b < w.heap.size ∧ ∀ j x, ls[j]? = some x → w.cell? ⟨b, 0 + j, none⟩ = some (.string (str x))
theorem SlS.bel {w w' : World} {A : Option Addr} {ls : List (List UInt8)} (h : SlS w A ls) (hb : Bel w w') : SlS w' A ls := fun h0 => by
  obtain ⟨b, h1, h2, h3⟩ := h h0
  exact ⟨b, h1, Nat.lt_of_lt_of_le h2 hb.size, fun j x hx => hb.cell (h3 j x hx)⟩
def LinesPost (w : World) (ls : List (List UInt8)) (e : Ending) (w' : World) : Prop := ∃ A c, e = .returned (.slice A ls.length c) ∧ SlS w' A ls ∧ ls.length ≤ c ∧ Below w.heap.size w w'
theorem split_any (s : List UInt8) (hs : s.length < 4294967281) (m : Int) (w : World) (hm : w.cell? ⟨0, 0, none⟩ = some (.int .i64 m)) :
    Calls Tryd.prog 23 #[.string (str s), .string ⟨#[10]⟩] w (LinesPost w (linesL s)) := by
  refine (Tryd.strings_Split (str s) ⟨#[10]⟩ m w (by rw [str_sz]; exact hs) hm (by decide)).mono fun e w' ⟨he, hw⟩ => ?_
  rw [split_lines _ s rfl] at hw
  have hb := Box.new w (((linesL s).map str).map Value.string).toArray 9
  refine ⟨some ⟨w.heap.size, 0, none⟩, Lib.countB (str s) ⟨#[10]⟩ + 1, by rw [he, count_lines], fun _ => ⟨w.heap.size, rfl, by rw [hw]; simp, fun j x hx => ?_⟩, by rw [count_lines]; exact Nat.le_refl _, by rw [hw]; exact (Below.refl _ _).alloc (Nat.le_refl _) _⟩
  rw [hw, Nat.zero_add]
  refine hb.cell j ?_
  rw [List.getElem?_toArray, List.getElem?_map, List.getElem?_map, hx]
  rfl
set_option maxHeartbeats 1000000 in
theorem linesOf_any (s : List UInt8) (hs : s.length ≤ 2000) (m : Int) (w : World) (hm : w.cell? ⟨0, 0, none⟩ = some (.int .i64 m)) :
    Calls Tryd.prog 33 #[.string (str s)] w (LinesPost w (linesT s)) := by
  have he := str_isEmpty s
  have hw0 := Lib.hid (Below.refl w.heap.size w)
  cases s with
  | nil =>
    have he2 : (str []).toList.isEmpty = true := he
    clear hm he
    go_enter Tryd.func33, Tryd.ntmps33
    go_wp2
    go_ret
    exact ⟨none, 0, rfl, fun h => absurd h (by simp [linesT]), Nat.zero_le _, hw0.out⟩
  | cons b r =>
    have he2 : (str (b :: r)).toList.isEmpty = false := he
    clear he
    have HL := Lib.hid (show linesT (b :: r) = linesL (b :: r) by simp [linesT])
    have HS := Lib.hid (split_any (b :: r) (by omega) m w hm)
    generalize b :: r = s at *
    clear hm
    go_enter Tryd.func33, Tryd.ntmps33
    go_wp2_with fail
    refine HS.out.mono ?_
    rintro e w1 ⟨A, c, rfl, h1, h2, h3⟩
    have H := Lib.hid (And.intro h1 (And.intro h2 h3))
    clear h1 h2 h3
    go_wp2
    go_ret
    exact ⟨A, c, by rw [HL.out]; rfl, by rw [HL.out]; exact H.out.1, by rw [HL.out]; exact H.out.2.1, H.out.2.2⟩
end Go.Proofs.YticejlepalhmhaaDoor

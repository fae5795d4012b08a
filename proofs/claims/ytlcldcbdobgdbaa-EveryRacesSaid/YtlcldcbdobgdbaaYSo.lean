import Derived.Test.YtlcldcbdobgdbaaShelf2
import Derived.Shelf.SlSortCmp.NoneTotal
import Derived.Test.YtlcldcbdobgdbaaYCm
import Derived.Test.YtlcldcbdobgdbaaYVe
set_option linter.all false
set_option maxRecDepth 100000
namespace Go.Proofs.Ytlcldcbdobgdbaa
open Go Go.RowKit Go.Shelf Go.Sort

theorem cmpL_lt : ∀ {a b : List Int}, a.length = b.length → (cmpL a b < 0 ↔ ltI a b) ∧ (cmpL a b = 0 ↔ a = b)
  | [], [], _ => ⟨by simp [cmpL, ltI], by simp [cmpL]⟩
  | [], _ :: _, h => by simp at h
  | _ :: _, [], h => by simp at h
  | a :: x, b :: y, h => by
    have ih := cmpL_lt (a := x) (b := y) (by simpa using h)
    unfold cmpL ltI
    by_cases h1 : a < b
    · rw [if_pos h1]
      exact ⟨⟨fun _ => .inl h1, fun _ => by omega⟩, ⟨fun e => by omega, fun e => by simp at e; omega⟩⟩
    · rw [if_neg h1]
      by_cases h2 : b < a
      · rw [if_pos h2]
        refine ⟨⟨fun e => by omega, fun e => by rcases e with e | ⟨e, _⟩ <;> omega⟩, ⟨fun e => by omega, fun e => by simp at e; omega⟩⟩
      · rw [if_neg h2]
        have he : a = b := by omega
        subst he
        refine ⟨⟨fun e => .inr ⟨rfl, ih.1.1 e⟩, fun e => by rcases e with e | ⟨_, e⟩; exact absurd e h1; exact ih.1.2 e⟩, ⟨fun e => by rw [ih.2.1 e], fun e => ih.2.2 (by simpa using e)⟩⟩
theorem ltI_app : ∀ {a b a' b' : List Int}, a.length = b.length → (ltI (a ++ a') (b ++ b') ↔ ltI a b ∨ (a = b ∧ ltI a' b'))
  | [], [], a', b', _ => by simp [ltI]
  | [], _ :: _, _, _, h => by simp at h
  | _ :: _, [], _, _, h => by simp at h
  | a :: x, b :: y, a', b', h => by
    have ih := ltI_app (a := x) (b := y) (a' := a') (b' := b') (by simpa using h)
    show (a < b ∨ (a = b ∧ ltI (x ++ a') (y ++ b'))) ↔ (a < b ∨ (a = b ∧ ltI x y)) ∨ (a :: x = b :: y ∧ ltI a' b')
    rw [ih]
    simp only [List.cons.injEq]
    constructor
    · rintro (e | ⟨e, g | ⟨g, k⟩⟩)
      · exact .inl (.inl e)
      · exact .inl (.inr ⟨e, g⟩)
      · exact .inr ⟨⟨e, g⟩, k⟩
    · rintro ((e | ⟨e, g⟩) | ⟨⟨e, g⟩, k⟩)
      · exact .inl e
      · exact .inr ⟨e, .inl g⟩
      · exact .inr ⟨e, .inr ⟨g, k⟩⟩
theorem orI_lt {a b c d : Int} : orI [a, b, c, d] < 0 ↔ a < 0 ∨ (a = 0 ∧ (b < 0 ∨ (b = 0 ∧ (c < 0 ∨ (c = 0 ∧ d < 0))))) := by
  unfold orI orI orI orI orI
  repeat' split
  all_goals omega
structure En where
  m : Nat → Int
  v : Nat → Int
  h : Nat → Int
  d : Bool
  k : Bool
instance : Inhabited En := ⟨⟨fun _ => 0, fun _ => 0, fun _ => 0, false, false⟩⟩
def enE (x : En) : List Value := endc x.m x.v x.h x.d x.k
def enA (x : En) : Array Value := (enE x).toArray
def cfE (x y : En) : Int := cmpE x.m x.v x.h y.m y.v y.h x.d y.d
theorem enE_len (x : En) : (enE x).length = 20 := rfl
theorem enK_app (x : En) : enK (enA x) = toL 8 x.m ++ (toL 4 x.v ++ (toL 6 x.h ++ [nb x.d])) := by
  unfold enA enE
  rw [enK_c]
  rfl
theorem cfE_lt (x y : En) : cfE x y < 0 ↔ ltI (enK (enA x)) (enK (enA y)) := by
  rw [enK_app, enK_app, ltI_app (by simp [toL]), ltI_app (by simp [toL]), ltI_app (by simp [toL])]
  unfold cfE cmpE
  rw [orI_lt]
  have h8 := cmpL_lt (a := toL 8 x.m) (b := toL 8 y.m) (by simp [toL])
  have h4 := cmpL_lt (a := toL 4 x.v) (b := toL 4 y.v) (by simp [toL])
  have h6 := cmpL_lt (a := toL 6 x.h) (b := toL 6 y.h) (by simp [toL])
  rw [h8.1, h8.2, h4.1, h4.2, h6.1, h6.2]
  have hd : Lib.compareInt (nb x.d) (nb y.d) < 0 ↔ ltI [nb x.d] [nb y.d] := by
    unfold Lib.compareInt ltI ltI
    cases x.d <;> cases y.d <;> simp [nb]
  rw [hd]
theorem swo_en : SWO (ltOf cfE) where
  irrefl x := by
    unfold ltOf
    rw [decide_eq_false_iff_not, cfE_lt]
    exact fun h => ltI_asym h h
  trans x y z h1 h2 := by
    unfold ltOf at *
    rw [decide_eq_true_iff, cfE_lt] at *
    exact ltI_trans h1 h2
  ntrans x y z h1 h2 := by
    unfold ltOf at *
    rw [decide_eq_false_iff_not, cfE_lt] at *
    intro h
    rcases ltI_tot (enK (enA x)) (enK (enA y)) with g | g | g
    · exact h1 g
    · rw [g] at h; exact h2 h
    · exact h2 (ltI_trans g h)
def enRow (ds : List En) : List Value := ds.flatMap enE
theorem ens_row (ds : List En) : ens (ds.map enA) = enRow ds := by unfold ens enRow; rw [List.flatMap_map]; rfl
theorem row_len (ds : List En) : (enRow ds).length = ds.length * 20 := by
  unfold enRow
  induction ds with
  | nil => rfl
  | cons x ds ih => rw [List.flatMap_cons, List.length_append, ih, enE_len, List.length_cons]; omega
theorem row_at : ∀ {ds : List En} {t : Nat}, t < ds.length * 20 → (enRow ds)[t]? = (enE (ds[t / 20]?.getD default))[t % 20]?
  | [], t, h => by simp at h
  | x :: ds, t, h => by
    unfold enRow
    rw [List.flatMap_cons]
    by_cases h20 : t < 20
    · rw [List.getElem?_append_left (by rw [enE_len]; exact h20), Nat.div_eq_of_lt h20, Nat.mod_eq_of_lt h20]; rfl
    · rw [List.getElem?_append_right (by rw [enE_len]; omega), enE_len]
      have hl : t - 20 < ds.length * 20 := by rw [List.length_cons] at h; omega
      have := row_at hl
      unfold enRow at this
      rw [this, show t / 20 = (t - 20) / 20 + 1 by omega, show (t - 20) % 20 = t % 20 by omega]
      rfl
theorem flat_row (ds : List En) : (flatK enE 20 ds.toArray).toList = enRow ds := by
  apply List.ext_getElem?
  intro t
  by_cases ht : t < ds.length * 20
  · rw [row_at ht]
    have h2 : t / 20 < ds.length := by omega
    have h3 : t % 20 < 20 := by omega
    unfold flatK
    rw [Array.getElem?_toList]
    rw [Array.getElem?_map, Array.getElem?_range, if_pos (by simpa using ht)]
    simp only [Option.map_some]
    have e1 : ds.toArray[t / 20]! = ds[t / 20]?.getD default := by
      rw [List.getElem?_eq_getElem h2]
      simp [h2]
    rw [e1]
    have h4 : t % 20 < (enE (ds[t / 20]?.getD default)).length := by rw [enE_len]; exact h3
    rw [List.getElem?_eq_getElem h4]
    simp [h4]
  · rw [List.getElem?_eq_none (by rw [Array.length_toList, size_flatK]; simpa using ht), List.getElem?_eq_none (by rw [row_len]; omega)]
theorem agg_end (w : World) : (isAgg 33).run Try.prog w = .ok true w := by kernel_rfl
theorem size_end (w : World) : (Go.sizeOf 33).run Try.prog w = .ok 20 w := by kernel_rfl
theorem cmp_lays (blk off size : Nat) (w : World) : CmpLays Try.prog 42 #[] enE 20 cfE blk off size w := fun m os dk _ x y =>
  (compare_any x.m x.v x.h y.m y.v y.h x.d x.k y.d y.k _).mono fun _ _ ⟨he, os', hw⟩ => ⟨he, 1, os', hw⟩
theorem heap_putK {w : World} {g n : Nat} {os : Array Obj} {cur : Array Value} {e : TypeId} {fr : Nat × Nat} (F : Array Value) (hb : w.heap[g]? = some (.cells cur e fr)) :
    (grow (putRow id (Sort.ahead w n) g 0 F) os).heap[g]? = some (.cells (putCells id 0 F cur) e fr) := by
  have hg : g < w.heap.size := (Array.getElem?_eq_some_iff.1 hb).1
  rw [heap_grow_old _ _ (by simpa using hg)]
  simp [putRow, mapBlock, Sort.ahead, Array.getElem?_modify, hb, onCells]
theorem grown_putK {w : World} {g n : Nat} {os : Array Obj} (F : Array Value) : w.grownBy (grow (putRow id (Sort.ahead w n) g 0 F) os) (some g) := by
  refine ⟨rfl, rfl, rfl, by simp, fun k hk hne => ?_⟩
  rw [heap_grow_old _ _ (by simpa using hk)]
  have : g ≠ k := fun e => hne (by rw [e])
  simp [putRow, mapBlock, Sort.ahead, Array.getElem?_modify, this]
theorem take_putK (cur F : Array Value) (h : F.size ≤ cur.size) : (putCells id 0 F cur).toList.take F.size = F.toList := by
  apply List.ext_getElem?
  intro j
  by_cases hj : j < F.size
  · rw [List.getElem?_take_of_lt hj, Array.getElem?_toList]
    simp [putCells, hj, show j < cur.size by omega]
  · rw [List.getElem?_take_eq_none (by omega), List.getElem?_eq_none (by simp; omega)]
theorem sort_any {w : World} {base : Nat} {v : Value} {ds : List En} (h : w.ownsRow base 33 20 v ds.length (enRow ds)) (hlen : ds.length < 4611686018427387904) :
    Calls Try.prog 41 #[v, .func (.func 42) #[] #[]] w fun e w' => e = .returned (.tuple #[]) ∧ ∃ ds' : List En, ds'.Perm ds ∧ ds'.Pairwise (fun x y => ¬ ltI (enK (enA y)) (enK (enA x))) ∧ w'.ownsRow base 33 20 v ds.length (enRow ds') ∧ w.grownBy w' v.ownBlock := by
  rcases h.2 with ⟨hv, h0⟩ | ⟨g, cap, cur, hv, hg, hh, hn, hcap, hs, ht⟩
  · subst hv
    have hd : ds = [] := List.eq_nil_of_length_eq_zero h0
    subst hd
    refine (AnyF.slices_SortFunc_none Try.sortEnd none 0 _ w).mono ?_
    rintro e w' ⟨rfl, rfl⟩
    exact ⟨rfl, [], List.Perm.refl _, List.Pairwise.nil, h, World.grownBy.refl _ _⟩
  · subst hv
    have hF := flat_row ds
    have hsz : (flatK enE 20 ds.toArray).size = ds.length * 20 := by rw [size_flatK]; simp
    have hH : HoldsK enE 20 w g 0 ds.toArray := fun j hj => by
      rw [hsz] at hj
      have hbx : Box w g cur 33 := hh
      refine ⟨?_, by rw [Nat.zero_add]; exact hbx.frozen j⟩
      rw [Nat.zero_add]
      refine hbx.cell j ?_
      have h9 : (cur.toList.take (ds.length * 20))[j]? = (enRow ds)[j]? := by rw [ht]
      rw [List.getElem?_take_of_lt hj, ← hF, Array.getElem?_toList, Array.getElem?_toList] at h9
      rw [h9, Array.getElem?_eq_getElem (by rw [hsz]; exact hj)]
      simp [hsz, hj]
    refine (AnyQ.slices_SortFunc Try.sortEnd 20 agg_end size_end enE enE_len (fun x u hu => endc_one _ _ _ _ _ u hu) cfE swo_en 42 #[] g 0 cap ds.toArray w (enters_of Try.func42 (by kernel_rfl) rfl) (cmp_lays _ _ _ _) hH (Array.getElem?_eq_some_iff.1 hh).1 (by simpa using hlen)).mono ?_
    rintro e w' ⟨rfl, d', n, os, hp, hso, hw⟩
    have hsd : d'.size = ds.length := by rw [hp.1]; simp
    refine ⟨rfl, d'.toList, ?_, ?_, ?_, ?_⟩
    · have := hp.2.2
      rw [show (d'.extract 0 ds.toArray.size) = d' by rw [show ds.toArray.size = d'.size by rw [hsd]; simp]; simp] at this
      simpa using this
    · rw [List.pairwise_iff_getElem]
      intro i j hi hj hij
      have := hso i j (Nat.zero_le _) hij (by simpa [hsd] using hj)
      unfold ltOf at this
      rw [decide_eq_false_iff_not, cfE_lt] at this
      have e1 : d'[j]! = d'.toList[j] := by simp at hj; simp [hj]
      have e2 : d'[i]! = d'.toList[i] := by simp at hi; simp [hi]
      rw [e1, e2] at this
      exact this
    · have hF' := flat_row d'.toList
      have hsz' : (flatK enE 20 d'.toList.toArray).size = ds.length * 20 := by rw [size_flatK]; simp [hsd]
      rw [hw]
      refine ⟨by rw [row_len]; simp [hsd], .inr ⟨g, cap, _, rfl, hg, heap_putK _ hh, hn, hcap, by simp [putCells, hs], ?_⟩⟩
      rw [← hsz', ← hF']
      simp only [Array.toArray_toList]
      exact take_putK _ _ (by rw [size_flatK, hsd, hs]; exact Nat.mul_le_mul_right _ hn)
    · rw [hw]
      exact grown_putK _
end Go.Proofs.Ytlcldcbdobgdbaa

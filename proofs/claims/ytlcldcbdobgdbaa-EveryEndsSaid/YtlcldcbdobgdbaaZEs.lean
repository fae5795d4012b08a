import Derived.Test.YtlcldcbdobgdbaaZEc
set_option linter.all false
set_option maxRecDepth 100000
namespace Go.Proofs.Ytlcldcbdobgdbaa
open Go Go.RowKit

def insR {α : Type} (r : α → α → Bool) (x : α) : List α → List α
  | [] => [x]
  | y :: ys => if r y x = true then y :: insR r x ys else x :: y :: ys
def insK {α : Type} (r : α → α → Bool) (x : α) : List α → Nat
  | [] => 0
  | y :: ys => if r y x = true then insK r x ys + 1 else 0
theorem insK_le {α : Type} {r : α → α → Bool} {x : α} : ∀ xs : List α, insK r x xs ≤ xs.length
  | [] => Nat.le_refl _
  | y :: ys => by
    unfold insK
    have := insK_le (r := r) (x := x) ys
    split
    · simp only [List.length_cons]; omega
    · exact Nat.zero_le _
theorem insR_split {α : Type} {r : α → α → Bool} {x : α} : ∀ xs : List α, insR r x xs = xs.take (insK r x xs) ++ x :: xs.drop (insK r x xs)
  | [] => rfl
  | y :: ys => by
    unfold insR insK
    split
    · rw [insR_split ys]; rfl
    · rfl
theorem insK_low {α : Type} {r : α → α → Bool} {x : α} : ∀ {xs : List α} {j : Nat} {y : α}, j < insK r x xs → xs[j]? = some y → r y x = true
  | [], _, _, h, _ => absurd h (Nat.not_lt_zero _)
  | z :: zs, j, y, h, hy => by
    unfold insK at h
    split at h
    · rename_i hz
      cases j with
      | zero => simp only [List.getElem?_cons_zero, Option.some.injEq] at hy; subst hy; exact hz
      | succ j => exact insK_low (xs := zs) (Nat.lt_of_succ_lt_succ h) (by simpa using hy)
    · exact absurd h (Nat.not_lt_zero _)
theorem insK_at {α : Type} {r : α → α → Bool} {x : α} : ∀ {xs : List α} {y : α}, xs[insK r x xs]? = some y → r y x = false
  | [], _, h => by simp [insK] at h
  | z :: zs, y, h => by
    unfold insK at h
    split at h
    · exact insK_at (xs := zs) (by simpa using h)
    · rename_i hz
      simp only [List.getElem?_cons_zero, Option.some.injEq] at h
      subst h
      simpa using hz
theorem insK_is {α : Type} {r : α → α → Bool} {x : α} {xs : List α} {k : Nat} (hk : k ≤ xs.length) (hl : ∀ j y, j < k → xs[j]? = some y → r y x = true) (ha : ∀ y, xs[k]? = some y → r y x = false) : insK r x xs = k := by
  rcases Nat.lt_trichotomy (insK r x xs) k with h | h | h
  · have hy := List.getElem?_eq_getElem (show insK r x xs < xs.length by omega)
    have h1 := hl _ _ h hy
    rw [insK_at hy] at h1
    cases h1
  · exact h
  · have hle := insK_le (r := r) (x := x) xs
    have hy := List.getElem?_eq_getElem (show k < xs.length by omega)
    have h1 := insK_low h hy
    rw [ha _ hy] at h1
    cases h1
theorem mem_ins {α : Type} {r : α → α → Bool} {x a : α} : ∀ {xs : List α}, a ∈ insR r x xs ↔ a = x ∨ a ∈ xs
  | [] => by simp [insR]
  | y :: ys => by
    unfold insR
    split
    · rw [List.mem_cons, mem_ins (xs := ys), List.mem_cons]
      constructor
      · rintro (h | h | h)
        · exact .inr (.inl h)
        · exact .inl h
        · exact .inr (.inr h)
      · rintro (h | h | h)
        · exact .inr (.inl h)
        · exact .inl h
        · exact .inr (.inr h)
    · rw [List.mem_cons]
theorem ins_sorted {α : Type} {R : α → α → Prop} {r : α → α → Bool} (hr : ∀ a b, r a b = true ↔ R a b) (ht : ∀ a b c, R a b → R b c → R a c) {x : α} : ∀ {xs : List α}, xs.Pairwise R → (∀ a ∈ xs, R a x ∨ R x a) → (insR r x xs).Pairwise R
  | [], _, _ => List.pairwise_singleton _ _
  | y :: ys, h, hx => by
    obtain ⟨h1, h2⟩ := List.pairwise_cons.1 h
    unfold insR
    split
    · rename_i hy
      refine List.pairwise_cons.2 ⟨fun a ha => ?_, ins_sorted hr ht h2 fun a ha => hx a (List.mem_cons_of_mem _ ha)⟩
      rcases mem_ins.1 ha with e | e
      · rw [e]; exact (hr _ _).1 hy
      · exact h1 a e
    · rename_i hy
      have hxy : R x y := by
        rcases hx y (List.mem_cons_self ..) with g | g
        · exact absurd ((hr _ _).2 g) hy
        · exact g
      refine List.pairwise_cons.2 ⟨fun a ha => ?_, h⟩
      rcases List.mem_cons.1 ha with e | e
      · rw [e]; exact hxy
      · exact ht _ _ _ hxy (h1 a e)
def ltB : List Int → List Int → Bool
  | [], [] => false
  | [], _ :: _ => true
  | _ :: _, [] => false
  | a :: x, b :: y => decide (a < b) || (decide (a = b) && ltB x y)
theorem ltB_iff : ∀ {x y : List Int}, ltB x y = true ↔ ltI x y
  | [], [] => by simp [ltB, ltI]
  | [], _ :: _ => by simp [ltB, ltI]
  | _ :: _, [] => by simp [ltB, ltI]
  | a :: x, b :: y => by
    simp only [ltB, ltI, Bool.or_eq_true, Bool.and_eq_true, decide_eq_true_iff, ltB_iff (x := x) (y := y)]
def enLt (x y : Array Value) : Bool := ltB (enK x) (enK y)
theorem enLt_iff {x y : Array Value} : enLt x y = true ↔ ltI (enK x) (enK y) := ltB_iff
theorem ends_fold {P : List (List Ev)} : ∀ {es xs : List (Array Value)}, (∀ e ∈ es, IsEnd P e) → (∀ x ∈ xs, IsEnd P x) → es.Pairwise (· ≠ ·) → (∀ e ∈ es, e ∉ xs) → xs.Pairwise (fun x y => ltI (enK x) (enK y)) →
    (es.foldl (fun xs e => insR enLt e xs) xs).Pairwise (fun x y => ltI (enK x) (enK y)) ∧ ∀ a, a ∈ es.foldl (fun xs e => insR enLt e xs) xs ↔ a ∈ es ∨ a ∈ xs
  | [], xs, _, _, _, _, h => ⟨h, fun a => by simp⟩
  | e :: es, xs, he, hx, hd, hn, h => by
    obtain ⟨d1, d2⟩ := List.pairwise_cons.1 hd
    have hs : (insR enLt e xs).Pairwise (fun x y => ltI (enK x) (enK y)) := ins_sorted (R := fun x y => ltI (enK x) (enK y)) (r := enLt) (fun a b => enLt_iff) (fun a b c => ltI_trans) h fun a ha => by
      rcases ltI_tot (enK a) (enK e) with g | g | g
      · exact .inl g
      · exact absurd (end_key (hx a ha) (he e (List.mem_cons_self ..)) g ▸ ha) (hn e (List.mem_cons_self ..))
      · exact .inr g
    obtain ⟨g1, g2⟩ := ends_fold (es := es) (xs := insR enLt e xs) (fun a ha => he a (List.mem_cons_of_mem _ ha)) (fun a ha => by
      rcases mem_ins.1 ha with q | q
      · rw [q]; exact he e (List.mem_cons_self ..)
      · exact hx a q) d2 (fun a ha hm => by
      rcases mem_ins.1 hm with q | q
      · exact d1 a ha q.symm
      · exact hn a (List.mem_cons_of_mem _ ha) q) hs
    refine ⟨g1, fun a => ?_⟩
    rw [List.foldl_cons, g2 a, mem_ins, List.mem_cons]
    constructor
    · rintro (q | q | q)
      · exact .inl (.inr q)
      · exact .inl (.inl q)
      · exact .inr q
    · rintro ((q | q) | q)
      · exact .inr (.inl q)
      · exact .inl q
      · exact .inr (.inr q)
theorem ends_made {P : List (List Ev)} {es : List (Array Value)} (he : ∀ a, a ∈ es ↔ IsEnd P a) (hd : es.Pairwise (· ≠ ·)) : EndsOk P (es.foldl (fun xs e => insR enLt e xs) []) := by
  obtain ⟨h1, h2⟩ := ends_fold (P := P) (es := es) (xs := []) (fun e h => (he e).1 h) (fun x h => by cases h) hd (fun e _ h => by cases h) List.Pairwise.nil
  exact ⟨h1, fun a => by rw [h2 a, he a]; simp⟩
end Go.Proofs.Ytlcldcbdobgdbaa

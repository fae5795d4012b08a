import Derived.Test.YtlcldcbdobgdbaaZEy
import Derived.Test.YtlcldcbdobgdbaaZPp
import Derived.Test.YtlcldcbdobgdbaaZKeepPg
set_option linter.all false
set_option maxRecDepth 100000
namespace Go.Proofs.Ytlcldcbdobgdbaa
open Go Go.RowKit

def rnsP (P : List (List Ev)) : Nat → Ps → List (List Nat)
  | 0, _ => [[]]
  | n + 1, s => [] :: ((List.range P.length).filter (canP P s)).flatMap fun t => (rnsP P n (stepP P s t)).map (t :: ·)
theorem mem_rns {P : List (List Ev)} : ∀ {n : Nat} {s : Ps} {w : List Nat}, w ∈ rnsP P n s ↔ VlP P s w ∧ w.length ≤ n
  | 0, s, w => by
    simp only [rnsP, List.mem_singleton]
    constructor
    · rintro rfl; exact ⟨trivial, Nat.le_refl _⟩
    · intro h; exact List.eq_nil_of_length_eq_zero (by omega)
  | n + 1, s, w => by
    simp only [rnsP, List.mem_cons, List.mem_flatMap, List.mem_filter, List.mem_range, List.mem_map]
    constructor
    · rintro (rfl | ⟨t, ⟨ht, hc⟩, v, hv, rfl⟩)
      · exact ⟨trivial, Nat.zero_le _⟩
      · have h := mem_rns.1 hv
        exact ⟨⟨hc, h.1⟩, by rw [List.length_cons]; omega⟩
    · intro h
      cases w with
      | nil => exact .inl rfl
      | cons t v =>
        refine .inr ⟨t, ⟨(can_op h.1.1).1, h.1.1⟩, v, mem_rns.2 ⟨h.1.2, ?_⟩, rfl⟩
        have := h.2
        rw [List.length_cons] at this
        omega
theorem vl_len {P : List (List Ev)} (hP : OkP P) : ∀ {w : List Nat} {s : Ps}, VlP P s w → w.length + lftP P (goS P s w) = lftP P s
  | [], _, _ => Nat.zero_add _
  | t :: w, s, h => by
    have h1 := lft_step hP h.1
    have h2 := vl_len hP h.2
    rw [List.length_cons]
    show w.length + 1 + lftP P (goS P (stepP P s t) w) = _
    omega
def pks (w : List Nat) : List Int := w.map fun (t : Nat) => (t : Int)
theorem run_pks {P : List (List Ev)} {w : List Nat} (h : VlP P ps0 w) : runP P (pks w) = goS P ps0 w := go_run w ps0 h
theorem vl_app {P : List (List Ev)} : ∀ {w v : List Nat} {s : Ps}, VlP P s (w ++ v) ↔ VlP P s w ∧ VlP P (goS P s w) v
  | [], v, s => ⟨fun h => ⟨trivial, h⟩, fun h => h.2⟩
  | t :: w, v, s => by
    show (canP P s t = true ∧ VlP P (stepP P s t) (w ++ v)) ↔ (canP P s t = true ∧ VlP P (stepP P s t) w) ∧ VlP P (goS P (stepP P s t) w) v
    rw [vl_app, and_assoc]
def lxL : List Nat → List Nat → Prop
  | [], [] => False
  | [], _ :: _ => True
  | _ :: _, [] => False
  | a :: x, b :: y => a < b ∨ (a = b ∧ lxL x y)
theorem lx_asym : ∀ {x y : List Nat}, lxL x y → ¬ lxL y x
  | [], [] => fun h => h.elim
  | [], _ :: _ => fun _ g => g
  | _ :: _, [] => fun h => h.elim
  | a :: x, b :: y => fun h g => by
    rcases h with h | ⟨h, h'⟩ <;> rcases g with g | ⟨g, g'⟩
    · omega
    · omega
    · omega
    · exact lx_asym h' g'
theorem lx_tot : ∀ (x y : List Nat), lxL x y ∨ x = y ∨ lxL y x
  | [], [] => .inr (.inl rfl)
  | [], _ :: _ => .inl trivial
  | _ :: _, [] => .inr (.inr trivial)
  | a :: x, b :: y => by
    rcases Nat.lt_trichotomy a b with h | rfl | h
    · exact .inl (.inl h)
    · rcases lx_tot x y with g | rfl | g
      · exact .inl (.inr ⟨rfl, g⟩)
      · exact .inr (.inl rfl)
      · exact .inr (.inr (.inr ⟨rfl, g⟩))
    · exact .inr (.inr (.inl h))
theorem rns_sorted {P : List (List Ev)} : ∀ (n : Nat) (s : Ps), (rnsP P n s).Pairwise lxL
  | 0, _ => List.pairwise_singleton _ _
  | n + 1, s => by
    simp only [rnsP]
    refine List.pairwise_cons.2 ⟨fun w hw => ?_, List.pairwise_flatMap.2 ⟨fun t _ => ?_, ?_⟩⟩
    · obtain ⟨t, _, hw⟩ := List.mem_flatMap.1 hw
      obtain ⟨v, _, rfl⟩ := List.mem_map.1 hw
      trivial
    · exact List.pairwise_map.2 ((rns_sorted n _).imp fun h => .inr ⟨rfl, h⟩)
    · refine (List.pairwise_lt_range.filter _).imp fun {a b} hab x hx y hy => ?_
      obtain ⟨v, _, rfl⟩ := List.mem_map.1 hx
      obtain ⟨u, _, rfl⟩ := List.mem_map.1 hy
      exact .inl hab
end Go.Proofs.Ytlcldcbdobgdbaa
set_option linter.all false
set_option maxRecDepth 100000
namespace Go.Proofs.Ytlcldcbdobgdbaa
open Go Go.RowKit

def IsEnd (P : List (List Ev)) (x : Array Value) : Prop := ∃ ts, goesP P (runP P ts) = false ∧ x = endP P (runP P ts)
theorem goes_end {P : List (List Ev)} {s : Ps} : goesP P s = false ↔ (doneP P s = true ∨ stuckP P s = true) := by
  unfold stuckP
  cases hd : doneP P s
  · cases hg : goesP P s <;> simp
  · rw [done_goes hd]; simp
end Go.Proofs.Ytlcldcbdobgdbaa
set_option linter.all false
set_option maxRecDepth 100000
namespace Go.Proofs.Ytlcldcbdobgdbaa
open Go Go.RowKit

theorem items_g (xs ys : Array Value) (f g : Nat → Int) (w : World) : ∀ is : List Nat, (∀ i ∈ is, xs[i]? = some (.int .i64 (f i)) ∧ ys[i]? = some (.int .i64 (g i))) → (Op.eqItems 9998 3 1 xs ys is).run Try.prog w = .ok (is.all fun i => f i == g i) w
  | [], _ => rfl
  | i :: is, h => by
    obtain ⟨h1, h2⟩ := h i (List.mem_cons_self ..)
    have hp : (part 3 xs (i * 1)).run Try.prog w = .ok (.int .i64 (f i)) w := run_part_int Try.underlying3 xs _ _ (by rw [Nat.mul_one]; exact h1) w
    have hq : (part 3 ys (i * 1)).run Try.prog w = .ok (.int .i64 (g i)) w := run_part_int Try.underlying3 ys _ _ (by rw [Nat.mul_one]; exact h2) w
    have he : (Op.equalIn 9998 3 (.int .i64 (f i)) (.int .i64 (g i))).run Try.prog w = .ok (f i == g i) w := run_equalIn_int w 9997 3 .i64 .i64 (f i) (g i) Try.underlying3
    simp only [Op.eqItems, Sem.run_bind, hp, hq, Result.andThen_ok, he]
    rw [List.all_cons]
    cases f i == g i
    · rfl
    · simp only [Bool.not_true, Bool.false_eq_true, if_false, Bool.true_and]
      exact items_g xs ys f g w is fun j hj => h j (List.mem_cons_of_mem _ hj)
theorem eq_intsg (t : TypeId) (n : Nat) (hT : Try.prog.underlying t = some (.array n 3)) (xs ys : Array Value) (f g : Nat → Int) (hx : ∀ i, i < n → xs[i]? = some (.int .i64 (f i)) ∧ ys[i]? = some (.int .i64 (g i))) (w : World) :
    (Op.equalIn 9999 t (.agg xs) (.agg ys)).run Try.prog w = .ok ((List.range n).all fun i => f i == g i) w := by
  obtain ⟨j, hj, _⟩ := enint_info
  rw [run_equalIn_array w 9998 xs ys hT hj, cells_int]
  exact items_g xs ys f g w _ fun i hi => hx i (List.mem_range.1 hi)
theorem eqf_g (xs ys : Array Value) (w : World) (B : TypeId → Nat → Bool) : ∀ fs : List Field, (∀ f ∈ fs, (f.name != "_") = true ∧ ∃ v u, (part f.type xs f.offset).run Try.prog w = .ok v w ∧ (part f.type ys f.offset).run Try.prog w = .ok u w ∧ (Op.equalIn 9999 f.type v u).run Try.prog w = .ok (B f.type f.offset) w) →
    (Op.eqFields 9999 xs ys fs).run Try.prog w = .ok (fs.all fun f => B f.type f.offset) w
  | [], _ => rfl
  | f :: fs, h => by
    obtain ⟨h0, v, u, h1, h2, h3⟩ := h f (List.mem_cons_self ..)
    have ih := eqf_g xs ys w B fs fun g hg => h g (List.mem_cons_of_mem _ hg)
    have hn : f.name ≠ "_" := by simpa using h0
    unfold Op.eqFields
    rw [if_pos hn, List.all_cons]
    simp only [Sem.run_bind, h1, h2, Result.andThen_ok, h3]
    cases B f.type f.offset
    · rfl
    · simp only [Bool.not_true, Bool.false_eq_true, if_false, Bool.true_and]
      exact ih
def endB (m v h m' v' h' : Nat → Int) (d k d' k' : Bool) : Bool := ((List.range 8).all fun i => m i == m' i) && (((List.range 4).all fun i => v i == v' i) && (((List.range 6).all fun i => h i == h' i) && (d == d' && (k == k' && true))))
theorem endB_iff {m v h m' v' h' : Nat → Int} {d k d' k' : Bool} : endB m v h m' v' h' d k d' k' = true ↔ endc m v h d k = endc m' v' h' d' k' := by
  unfold endB endc
  simp [List.range, List.range.loop, and_assoc]
theorem eql_endg (m v h m' v' h' : Nat → Int) (d k d' k' : Bool) (w : World) : (binOp .eql 33 (.agg (endc m v h d k).toArray) (.agg (endc m' v' h' d' k').toArray)).run Try.prog w = .ok (.bool (endB m v h m' v' h' d k d' k')) w := by
  have e8 := eq_intsg 29 8 Try.underlying29 #[.int .i64 (m 0), .int .i64 (m 1), .int .i64 (m 2), .int .i64 (m 3), .int .i64 (m 4), .int .i64 (m 5), .int .i64 (m 6), .int .i64 (m 7)] #[.int .i64 (m' 0), .int .i64 (m' 1), .int .i64 (m' 2), .int .i64 (m' 3), .int .i64 (m' 4), .int .i64 (m' 5), .int .i64 (m' 6), .int .i64 (m' 7)] m m' (fun i hi => by
    match i, hi with
    | 0, _ => exact ⟨rfl, rfl⟩ | 1, _ => exact ⟨rfl, rfl⟩ | 2, _ => exact ⟨rfl, rfl⟩ | 3, _ => exact ⟨rfl, rfl⟩ | 4, _ => exact ⟨rfl, rfl⟩ | 5, _ => exact ⟨rfl, rfl⟩ | 6, _ => exact ⟨rfl, rfl⟩ | 7, _ => exact ⟨rfl, rfl⟩) w
  have e4 := eq_intsg 30 4 Try.underlying30 #[.int .i64 (v 0), .int .i64 (v 1), .int .i64 (v 2), .int .i64 (v 3)] #[.int .i64 (v' 0), .int .i64 (v' 1), .int .i64 (v' 2), .int .i64 (v' 3)] v v' (fun i hi => by
    match i, hi with
    | 0, _ => exact ⟨rfl, rfl⟩ | 1, _ => exact ⟨rfl, rfl⟩ | 2, _ => exact ⟨rfl, rfl⟩ | 3, _ => exact ⟨rfl, rfl⟩) w
  have e6 := eq_intsg 31 6 Try.underlying31 #[.int .i64 (h 0), .int .i64 (h 1), .int .i64 (h 2), .int .i64 (h 3), .int .i64 (h 4), .int .i64 (h 5)] #[.int .i64 (h' 0), .int .i64 (h' 1), .int .i64 (h' 2), .int .i64 (h' 3), .int .i64 (h' 4), .int .i64 (h' 5)] h h' (fun i hi => by
    match i, hi with
    | 0, _ => exact ⟨rfl, rfl⟩ | 1, _ => exact ⟨rfl, rfl⟩ | 2, _ => exact ⟨rfl, rfl⟩ | 3, _ => exact ⟨rfl, rfl⟩ | 4, _ => exact ⟨rfl, rfl⟩ | 5, _ => exact ⟨rfl, rfl⟩) w
  rw [run_eql_struct]
  unfold endc
  have hnm : (Try.prog.fieldsOf 33).toList.all (fun f => f.name != "_") = true := by kernel_rfl
  have hB : (Try.prog.fieldsOf 33).toList.all (fun f => (fun (_ : TypeId) (off : Nat) => if off = 0 then (List.range 8).all (fun i => m i == m' i) else if off = 8 then (List.range 4).all (fun i => v i == v' i) else if off = 12 then (List.range 6).all (fun i => h i == h' i) else if off = 18 then d == d' else k == k') f.type f.offset) = endB m v h m' v' h' d k d' k' := by
    have hm := ends_fields
    have hg : ∀ fs : List Field, fs.all (fun f => (fun (_ : TypeId) (off : Nat) => if off = 0 then (List.range 8).all (fun i => m i == m' i) else if off = 8 then (List.range 4).all (fun i => v i == v' i) else if off = 12 then (List.range 6).all (fun i => h i == h' i) else if off = 18 then d == d' else k == k') f.type f.offset)
        = (fs.map fun f => (f.type, f.offset)).all (fun p => (fun (_ : TypeId) (off : Nat) => if off = 0 then (List.range 8).all (fun i => m i == m' i) else if off = 8 then (List.range 4).all (fun i => v i == v' i) else if off = 12 then (List.range 6).all (fun i => h i == h' i) else if off = 18 then d == d' else k == k') p.1 p.2) := fun fs => by
      rw [List.all_map]; rfl
    rw [hg, hm]
    rfl
  rw [run_equalIn_struct w 9999 33 _ _ Try.underlying33 (by kernel_rfl), eqf_g _ _ w (fun (_ : TypeId) (off : Nat) => if off = 0 then (List.range 8).all (fun i => m i == m' i) else if off = 8 then (List.range 4).all (fun i => v i == v' i) else if off = 12 then (List.range 6).all (fun i => h i == h' i) else if off = 18 then d == d' else k == k')]
  · rw [← hB]; rfl
  · intro f hf
    refine ⟨List.all_eq_true.1 hnm f hf, ?_⟩
    have hm : (f.type, f.offset) ∈ ((Try.prog.fieldsOf 33).toList.map fun f => (f.type, f.offset)) := List.mem_map.2 ⟨f, hf, rfl⟩
    rw [ends_fields] at hm
    simp only [List.mem_cons, List.not_mem_nil, or_false, Prod.mk.injEq] at hm
    rcases hm with ⟨h1, h2⟩ | ⟨h1, h2⟩ | ⟨h1, h2⟩ | ⟨h1, h2⟩ | ⟨h1, h2⟩ <;> rw [h1, h2]
    · exact ⟨_, _, part_arr _ 8 Try.underlying29 (by kernel_rfl) _ _ w, part_arr _ 8 Try.underlying29 (by kernel_rfl) _ _ w, e8⟩
    · exact ⟨_, _, part_arr _ 4 Try.underlying30 (by kernel_rfl) _ _ w, part_arr _ 4 Try.underlying30 (by kernel_rfl) _ _ w, e4⟩
    · exact ⟨_, _, part_arr _ 6 Try.underlying31 (by kernel_rfl) _ _ w, part_arr _ 6 Try.underlying31 (by kernel_rfl) _ _ w, e6⟩
    · exact ⟨.bool d, .bool d', run_part_plain w (by kernel_rfl) rfl, run_part_plain w (by kernel_rfl) rfl, run_equalIn_bool w 9998 4 d d' Try.underlying4⟩
    · exact ⟨.bool k, .bool k', run_part_plain w (by kernel_rfl) rfl, run_part_plain w (by kernel_rfl) rfl, run_equalIn_bool w 9998 4 k k' Try.underlying4⟩
end Go.Proofs.Ytlcldcbdobgdbaa

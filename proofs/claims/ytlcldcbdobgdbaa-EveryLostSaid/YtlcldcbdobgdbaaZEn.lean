import Derived.Test.YtlcldcbdobgdbaaZEy
import Derived.Test.YtlcldcbdobgdbaaZPp
import Derived.Test.YtlcldcbdobgdbaaZKeepPg
set_option linter.all false
set_option maxRecDepth 100000
namespace Go.Proofs.Ytlcldcbdobgdbaa
open Go Go.RowKit

theorem vl_len {P : List (List Ev)} (hP : OkP P) : ∀ {w : List Nat} {s : Ps}, VlP P s w → w.length + lftP P (goS P s w) = lftP P s
  | [], _, _ => Nat.zero_add _
  | t :: w, s, h => by
    have h1 := lft_step hP h.1
    have h2 := vl_len hP h.2
    rw [List.length_cons]
    show w.length + 1 + lftP P (goS P (stepP P s t) w) = _
    omega
def pks (w : List Nat) : List Int := w.map fun (t : Nat) => (t : Int)
theorem run_pks {P : List (List Ev)} {w : List Nat} (h : VlP P ps0 w) : runP P (pks w) = goS P ps0 w := go_run w ps0 h
theorem vl_app {P : List (List Ev)} : ∀ {w v : List Nat} {s : Ps}, VlP P s (w ++ v) ↔ VlP P s w ∧ VlP P (goS P s w) v
  | [], v, s => ⟨fun h => ⟨trivial, h⟩, fun h => h.2⟩
  | t :: w, v, s => by
    show (canP P s t = true ∧ VlP P (stepP P s t) (w ++ v)) ↔ (canP P s t = true ∧ VlP P (stepP P s t) w) ∧ VlP P (goS P (stepP P s t) w) v
    rw [vl_app, and_assoc]
def lxL : List Nat → List Nat → Prop
  | [], [] => False
  | [], _ :: _ => True
  | _ :: _, [] => False
  | a :: x, b :: y => a < b ∨ (a = b ∧ lxL x y)
theorem lx_tot : ∀ (x y : List Nat), lxL x y ∨ x = y ∨ lxL y x
  | [], [] => .inr (.inl rfl)
  | [], _ :: _ => .inl trivial
  | _ :: _, [] => .inr (.inr trivial)
  | a :: x, b :: y => by
    rcases Nat.lt_trichotomy a b with h | rfl | h
    · exact .inl (.inl h)
    · rcases lx_tot x y with g | rfl | g
      · exact .inl (.inr ⟨rfl, g⟩)
      · exact .inr (.inl rfl)
      · exact .inr (.inr (.inr ⟨rfl, g⟩))
    · exact .inr (.inr (.inl h))
def btL (w v : List Nat) : Prop := w.length < v.length ∨ (w.length = v.length ∧ lxL w v)
end Go.Proofs.Ytlcldcbdobgdbaa
set_option linter.all false
set_option maxRecDepth 100000
namespace Go.Proofs.Ytlcldcbdobgdbaa
open Go Go.RowKit

def IsEnd (P : List (List Ev)) (x : Array Value) : Prop := ∃ ts, goesP P (runP P ts) = false ∧ x = endP P (runP P ts)
theorem goes_end {P : List (List Ev)} {s : Ps} : goesP P s = false ↔ (doneP P s = true ∨ stuckP P s = true) := by
  unfold stuckP
  cases hd : doneP P s
  · cases hg : goesP P s <;> simp
  · rw [done_goes hd]; simp
theorem end_ex {P : List (List Ev)} (hP : OkP P) : ∃ x, IsEnd P x := by
  obtain ⟨w, h1, h2⟩ := to_end hP _ ps0 (Nat.le_refl _)
  exact ⟨_, pks w, by rw [run_pks h1]; exact h2, rfl⟩
theorem end_sam {P : List (List Ev)} (hf : FrP P) {s r : Ps} (h : Sam s r) : endP P s = endP P r := by
  unfold endP stuckP
  rw [done_sam h, goes_sam hf h, h.mem, h.vol, h.has]
theorem free_one {P : List (List Ev)} (hP : OkP P) (hf : FrP P) (hr : ∀ ts, rcs (runP P ts).L = []) : ∃ x, ∀ y, IsEnd P y ↔ y = x := by
  obtain ⟨x, hx⟩ := end_ex hP
  refine ⟨x, fun y => ⟨fun hy => ?_, fun e => e ▸ hx⟩⟩
  obtain ⟨ts, h1, rfl⟩ := hx
  obtain ⟨us, h2, rfl⟩ := hy
  exact end_sam hf (free_same hP hf hr h2 h1)
theorem one_vl {ops : List Ev} : ∀ {w : List Nat} {s : Ps}, VlP [ops] s w → w = List.replicate w.length 0
  | [], _, _ => rfl
  | t :: w, s, h => by
    have ht := (can_op h.1).1
    have h0 : t = 0 := by simp at ht; exact ht
    subst h0
    rw [List.length_cons, List.replicate_succ, ← one_vl h.2]
theorem one_all {ops : List Ev} (hP : OkP [ops]) {ts : List Int} (h : goesP [ops] (runP [ops] ts) = false) : runP [ops] ts = oneS ops ops.length := by
  obtain ⟨v, e⟩ := eff_vl (P := [ops]) ts ps0
  have hw := one_vl v
  have hl := vl_len hP v
  have hle : (effP [ops] ps0 ts).length ≤ ops.length := by
    have : lftP [ops] ps0 = ops.length := by unfold lftP ps0 opsP; simp
    omega
  have h1 : runP [ops] ts = oneS ops (effP [ops] ps0 ts).length := by
    rw [show runP [ops] ts = goS [ops] ps0 (effP [ops] ps0 ts) from e.symm, ← run_pks v]
    unfold oneS pks
    rw [hw, List.map_replicate, List.length_replicate]; rfl
  have hn : canP [ops] (oneS ops (effP [ops] ps0 ts).length) 0 = false := by
    rw [← h1]
    unfold goesP at h
    rw [List.any_eq_false] at h
    have := h 0 (by simp)
    simpa using this
  rw [h1, ← one_stuck hn (ops.length - (effP [ops] ps0 ts).length)]
  congr 1
  omega
theorem one_ends {ops : List Ev} (hP : OkP [ops]) (y : Array Value) : IsEnd [ops] y ↔ y = endP [ops] (oneS ops ops.length) := by
  obtain ⟨x, hx⟩ := end_ex hP
  have hall : ∀ z, IsEnd [ops] z → z = endP [ops] (oneS ops ops.length) := fun z ⟨ts, h, e⟩ => by rw [e, one_all hP h]
  exact ⟨hall y, fun e => by rw [e, ← hall x hx]; exact hx⟩
theorem own_t {P : List (List Ev)} (t : Int) (ht : ∀ u, u < P.length → (u : Int) = t) : ∀ (ts : List Int) (s : Ps), (∀ e ∈ s.L, e.t = t) → ∀ e ∈ (ts.foldl (pickP P) s).L, e.t = t
  | [], _, h => h
  | x :: ts, s, h => by
    rw [List.foldl_cons]
    refine own_t t ht ts _ fun e he => ?_
    unfold pickP at he
    split at he
    · rename_i hc
      obtain ⟨h1, _, o, ho, _⟩ := can_op hc.2
      rw [step_op ho] at he
      rcases List.mem_append.1 he with he | he
      · exact h e he
      · unfold evO at he
        split at he
        · cases he
        · simp only [List.mem_singleton] at he
          subst he
          exact ht _ h1
    · exact h e he
theorem one_norace {ops : List Ev} (hP : OkP [ops]) (ts : List Int) : rcs (runP [ops] ts).L = [] := by
  have hm := (runP_ok hP ts).may hP
  have ho := own_t (P := [ops]) 0 (fun u hu => by simp at hu; omega) ts ps0 (fun e he => by cases he)
  rw [rcs_ok hm]
  refine List.map_eq_nil_iff.2 (List.eq_nil_iff_forall_not_mem.2 fun p hp => ?_)
  obtain ⟨h1, h2, h3⟩ := mem_prsA.1 hp
  have hlt := racB_lt h3
  have ha := List.getElem?_eq_getElem (l := (runP [ops] ts).L) h1
  have hb := List.getElem?_eq_getElem (l := (runP [ops] ts).L) h2
  rw [racB_at ha hb hlt, Bool.and_eq_true, Bool.not_eq_true'] at h3
  have hd : dirB (runP [ops] ts).L p.1 p.2 = true := by
    rw [dirB_at ha hb, decide_eq_true hlt, Bool.true_and]
    unfold directly
    rw [ho _ (List.getElem_mem h1), ho _ (List.getElem_mem h2)]
    simp
  rw [dir_bef hd] at h3
  exact Bool.noConfusion h3.2
end Go.Proofs.Ytlcldcbdobgdbaa
set_option linter.all false
set_option maxRecDepth 100000
namespace Go.Proofs.Ytlcldcbdobgdbaa
open Go Go.RowKit

theorem items_g (xs ys : Array Value) (f g : Nat → Int) (w : World) : ∀ is : List Nat, (∀ i ∈ is, xs[i]? = some (.int .i64 (f i)) ∧ ys[i]? = some (.int .i64 (g i))) → (Op.eqItems 9998 3 1 xs ys is).run Try.prog w = .ok (is.all fun i => f i == g i) w
  | [], _ => rfl
  | i :: is, h => by
    obtain ⟨h1, h2⟩ := h i (List.mem_cons_self ..)
    have hp : (part 3 xs (i * 1)).run Try.prog w = .ok (.int .i64 (f i)) w := run_part_int Try.underlying3 xs _ _ (by rw [Nat.mul_one]; exact h1) w
    have hq : (part 3 ys (i * 1)).run Try.prog w = .ok (.int .i64 (g i)) w := run_part_int Try.underlying3 ys _ _ (by rw [Nat.mul_one]; exact h2) w
    have he : (Op.equalIn 9998 3 (.int .i64 (f i)) (.int .i64 (g i))).run Try.prog w = .ok (f i == g i) w := run_equalIn_int w 9997 3 .i64 .i64 (f i) (g i) Try.underlying3
    simp only [Op.eqItems, Sem.run_bind, hp, hq, Result.andThen_ok, he]
    rw [List.all_cons]
    cases f i == g i
    · rfl
    · simp only [Bool.not_true, Bool.false_eq_true, if_false, Bool.true_and]
      exact items_g xs ys f g w is fun j hj => h j (List.mem_cons_of_mem _ hj)
theorem eq_intsg (t : TypeId) (n : Nat) (hT : Try.prog.underlying t = some (.array n 3)) (xs ys : Array Value) (f g : Nat → Int) (hx : ∀ i, i < n → xs[i]? = some (.int .i64 (f i)) ∧ ys[i]? = some (.int .i64 (g i))) (w : World) :
    (Op.equalIn 9999 t (.agg xs) (.agg ys)).run Try.prog w = .ok ((List.range n).all fun i => f i == g i) w := by
  obtain ⟨j, hj, _⟩ := enint_info
  rw [run_equalIn_array w 9998 xs ys hT hj, cells_int]
  exact items_g xs ys f g w _ fun i hi => hx i (List.mem_range.1 hi)
theorem eqf_g (xs ys : Array Value) (w : World) (B : TypeId → Nat → Bool) : ∀ fs : List Field, (∀ f ∈ fs, (f.name != "_") = true ∧ ∃ v u, (part f.type xs f.offset).run Try.prog w = .ok v w ∧ (part f.type ys f.offset).run Try.prog w = .ok u w ∧ (Op.equalIn 9999 f.type v u).run Try.prog w = .ok (B f.type f.offset) w) →
    (Op.eqFields 9999 xs ys fs).run Try.prog w = .ok (fs.all fun f => B f.type f.offset) w
  | [], _ => rfl
  | f :: fs, h => by
    obtain ⟨h0, v, u, h1, h2, h3⟩ := h f (List.mem_cons_self ..)
    have ih := eqf_g xs ys w B fs fun g hg => h g (List.mem_cons_of_mem _ hg)
    have hn : f.name ≠ "_" := by simpa using h0
    unfold Op.eqFields
    rw [if_pos hn, List.all_cons]
    simp only [Sem.run_bind, h1, h2, Result.andThen_ok, h3]
    cases B f.type f.offset
    · rfl
    · simp only [Bool.not_true, Bool.false_eq_true, if_false, Bool.true_and]
      exact ih
def endB (m v h m' v' h' : Nat → Int) (d k d' k' : Bool) : Bool := ((List.range 8).all fun i => m i == m' i) && (((List.range 4).all fun i => v i == v' i) && (((List.range 6).all fun i => h i == h' i) && (d == d' && (k == k' && true))))
theorem endB_iff {m v h m' v' h' : Nat → Int} {d k d' k' : Bool} : endB m v h m' v' h' d k d' k' = true ↔ endc m v h d k = endc m' v' h' d' k' := by
  unfold endB endc
  simp [List.range, List.range.loop, and_assoc]
theorem eql_endg (m v h m' v' h' : Nat → Int) (d k d' k' : Bool) (w : World) : (binOp .eql 33 (.agg (endc m v h d k).toArray) (.agg (endc m' v' h' d' k').toArray)).run Try.prog w = .ok (.bool (endB m v h m' v' h' d k d' k')) w := by
  have e8 := eq_intsg 29 8 Try.underlying29 #[.int .i64 (m 0), .int .i64 (m 1), .int .i64 (m 2), .int .i64 (m 3), .int .i64 (m 4), .int .i64 (m 5), .int .i64 (m 6), .int .i64 (m 7)] #[.int .i64 (m' 0), .int .i64 (m' 1), .int .i64 (m' 2), .int .i64 (m' 3), .int .i64 (m' 4), .int .i64 (m' 5), .int .i64 (m' 6), .int .i64 (m' 7)] m m' (fun i hi => by
    match i, hi with
    | 0, _ => exact ⟨rfl, rfl⟩ | 1, _ => exact ⟨rfl, rfl⟩ | 2, _ => exact ⟨rfl, rfl⟩ | 3, _ => exact ⟨rfl, rfl⟩ | 4, _ => exact ⟨rfl, rfl⟩ | 5, _ => exact ⟨rfl, rfl⟩ | 6, _ => exact ⟨rfl, rfl⟩ | 7, _ => exact ⟨rfl, rfl⟩) w
  have e4 := eq_intsg 30 4 Try.underlying30 #[.int .i64 (v 0), .int .i64 (v 1), .int .i64 (v 2), .int .i64 (v 3)] #[.int .i64 (v' 0), .int .i64 (v' 1), .int .i64 (v' 2), .int .i64 (v' 3)] v v' (fun i hi => by
    match i, hi with
    | 0, _ => exact ⟨rfl, rfl⟩ | 1, _ => exact ⟨rfl, rfl⟩ | 2, _ => exact ⟨rfl, rfl⟩ | 3, _ => exact ⟨rfl, rfl⟩) w
  have e6 := eq_intsg 31 6 Try.underlying31 #[.int .i64 (h 0), .int .i64 (h 1), .int .i64 (h 2), .int .i64 (h 3), .int .i64 (h 4), .int .i64 (h 5)] #[.int .i64 (h' 0), .int .i64 (h' 1), .int .i64 (h' 2), .int .i64 (h' 3), .int .i64 (h' 4), .int .i64 (h' 5)] h h' (fun i hi => by
    match i, hi with
    | 0, _ => exact ⟨rfl, rfl⟩ | 1, _ => exact ⟨rfl, rfl⟩ | 2, _ => exact ⟨rfl, rfl⟩ | 3, _ => exact ⟨rfl, rfl⟩ | 4, _ => exact ⟨rfl, rfl⟩ | 5, _ => exact ⟨rfl, rfl⟩) w
  rw [run_eql_struct]
  unfold endc
  have hnm : (Try.prog.fieldsOf 33).toList.all (fun f => f.name != "_") = true := by kernel_rfl
  have hB : (Try.prog.fieldsOf 33).toList.all (fun f => (fun (_ : TypeId) (off : Nat) => if off = 0 then (List.range 8).all (fun i => m i == m' i) else if off = 8 then (List.range 4).all (fun i => v i == v' i) else if off = 12 then (List.range 6).all (fun i => h i == h' i) else if off = 18 then d == d' else k == k') f.type f.offset) = endB m v h m' v' h' d k d' k' := by
    have hm := ends_fields
    have hg : ∀ fs : List Field, fs.all (fun f => (fun (_ : TypeId) (off : Nat) => if off = 0 then (List.range 8).all (fun i => m i == m' i) else if off = 8 then (List.range 4).all (fun i => v i == v' i) else if off = 12 then (List.range 6).all (fun i => h i == h' i) else if off = 18 then d == d' else k == k') f.type f.offset)
        = (fs.map fun f => (f.type, f.offset)).all (fun p => (fun (_ : TypeId) (off : Nat) => if off = 0 then (List.range 8).all (fun i => m i == m' i) else if off = 8 then (List.range 4).all (fun i => v i == v' i) else if off = 12 then (List.range 6).all (fun i => h i == h' i) else if off = 18 then d == d' else k == k') p.1 p.2) := fun fs => by
      rw [List.all_map]; rfl
    rw [hg, hm]
    rfl
  rw [run_equalIn_struct w 9999 33 _ _ Try.underlying33 (by kernel_rfl), eqf_g _ _ w (fun (_ : TypeId) (off : Nat) => if off = 0 then (List.range 8).all (fun i => m i == m' i) else if off = 8 then (List.range 4).all (fun i => v i == v' i) else if off = 12 then (List.range 6).all (fun i => h i == h' i) else if off = 18 then d == d' else k == k')]
  · rw [← hB]; rfl
  · intro f hf
    refine ⟨List.all_eq_true.1 hnm f hf, ?_⟩
    have hm : (f.type, f.offset) ∈ ((Try.prog.fieldsOf 33).toList.map fun f => (f.type, f.offset)) := List.mem_map.2 ⟨f, hf, rfl⟩
    rw [ends_fields] at hm
    simp only [List.mem_cons, List.not_mem_nil, or_false, Prod.mk.injEq] at hm
    rcases hm with ⟨h1, h2⟩ | ⟨h1, h2⟩ | ⟨h1, h2⟩ | ⟨h1, h2⟩ | ⟨h1, h2⟩ <;> rw [h1, h2]
    · exact ⟨_, _, part_arr _ 8 Try.underlying29 (by kernel_rfl) _ _ w, part_arr _ 8 Try.underlying29 (by kernel_rfl) _ _ w, e8⟩
    · exact ⟨_, _, part_arr _ 4 Try.underlying30 (by kernel_rfl) _ _ w, part_arr _ 4 Try.underlying30 (by kernel_rfl) _ _ w, e4⟩
    · exact ⟨_, _, part_arr _ 6 Try.underlying31 (by kernel_rfl) _ _ w, part_arr _ 6 Try.underlying31 (by kernel_rfl) _ _ w, e6⟩
    · exact ⟨.bool d, .bool d', run_part_plain w (by kernel_rfl) rfl, run_part_plain w (by kernel_rfl) rfl, run_equalIn_bool w 9998 4 d d' Try.underlying4⟩
    · exact ⟨.bool k, .bool k', run_part_plain w (by kernel_rfl) rfl, run_part_plain w (by kernel_rfl) rfl, run_equalIn_bool w 9998 4 k k' Try.underlying4⟩
end Go.Proofs.Ytlcldcbdobgdbaa

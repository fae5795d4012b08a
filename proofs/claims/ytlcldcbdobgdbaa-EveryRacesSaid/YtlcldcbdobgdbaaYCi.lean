import Derived.Test.YtlcldcbdobgdbaaYKeepPg
import Derived.Test.YtlcldcbdobgdbaaYEz
import Derived.Test.YtlcldcbdobgdbaaYPp
import Derived.Test.YtlcldcbdobgdbaaYKeepTw
set_option linter.all false
set_option maxRecDepth 100000
namespace Go.Proofs.Ytlcldcbdobgdbaa
open Go Go.RowKit

theorem items_g (xs ys : Array Value) (f g : Nat → Int) (w : World) : ∀ is : List Nat, (∀ i ∈ is, xs[i]? = some (.int .i64 (f i)) ∧ ys[i]? = some (.int .i64 (g i))) → (Op.eqItems 9998 3 1 xs ys is).run Try.prog w = .ok (is.all fun i => f i == g i) w
  | [], _ => rfl
  | i :: is, h => by
    obtain ⟨h1, h2⟩ := h i (List.mem_cons_self ..)
    have hp : (part 3 xs (i * 1)).run Try.prog w = .ok (.int .i64 (f i)) w := run_part_int Try.underlying3 xs _ _ (by rw [Nat.mul_one]; exact h1) w
    have hq : (part 3 ys (i * 1)).run Try.prog w = .ok (.int .i64 (g i)) w := run_part_int Try.underlying3 ys _ _ (by rw [Nat.mul_one]; exact h2) w
    have he : (Op.equalIn 9998 3 (.int .i64 (f i)) (.int .i64 (g i))).run Try.prog w = .ok (f i == g i) w := run_equalIn_int w 9997 3 .i64 .i64 (f i) (g i) Try.underlying3
    simp only [Op.eqItems, Sem.run_bind, hp, hq, Result.andThen_ok, he]
    rw [List.all_cons]
    cases f i == g i
    · rfl
    · simp only [Bool.not_true, Bool.false_eq_true, if_false, Bool.true_and]
      exact items_g xs ys f g w is fun j hj => h j (List.mem_cons_of_mem _ hj)
theorem eq_intsg (t : TypeId) (n : Nat) (hT : Try.prog.underlying t = some (.array n 3)) (xs ys : Array Value) (f g : Nat → Int) (hx : ∀ i, i < n → xs[i]? = some (.int .i64 (f i)) ∧ ys[i]? = some (.int .i64 (g i))) (w : World) :
    (Op.equalIn 9999 t (.agg xs) (.agg ys)).run Try.prog w = .ok ((List.range n).all fun i => f i == g i) w := by
  obtain ⟨j, hj, _⟩ := enint_info
  rw [run_equalIn_array w 9998 xs ys hT hj, cells_int]
  exact items_g xs ys f g w _ fun i hi => hx i (List.mem_range.1 hi)
theorem eqf_g (xs ys : Array Value) (w : World) (B : TypeId → Nat → Bool) : ∀ fs : List Field, (∀ f ∈ fs, (f.name != "_") = true ∧ ∃ v u, (part f.type xs f.offset).run Try.prog w = .ok v w ∧ (part f.type ys f.offset).run Try.prog w = .ok u w ∧ (Op.equalIn 9999 f.type v u).run Try.prog w = .ok (B f.type f.offset) w) →
    (Op.eqFields 9999 xs ys fs).run Try.prog w = .ok (fs.all fun f => B f.type f.offset) w
  | [], _ => rfl
  | f :: fs, h => by
    obtain ⟨h0, v, u, h1, h2, h3⟩ := h f (List.mem_cons_self ..)
    have ih := eqf_g xs ys w B fs fun g hg => h g (List.mem_cons_of_mem _ hg)
    have hn : f.name ≠ "_" := by simpa using h0
    unfold Op.eqFields
    rw [if_pos hn, List.all_cons]
    simp only [Sem.run_bind, h1, h2, Result.andThen_ok, h3]
    cases B f.type f.offset
    · rfl
    · simp only [Bool.not_true, Bool.false_eq_true, if_false, Bool.true_and]
      exact ih
def endB (m v h m' v' h' : Nat → Int) (d k d' k' : Bool) : Bool := ((List.range 8).all fun i => m i == m' i) && (((List.range 4).all fun i => v i == v' i) && (((List.range 6).all fun i => h i == h' i) && (d == d' && (k == k' && true))))
theorem endB_iff {m v h m' v' h' : Nat → Int} {d k d' k' : Bool} : endB m v h m' v' h' d k d' k' = true ↔ endc m v h d k = endc m' v' h' d' k' := by
  unfold endB endc
  simp [List.range, List.range.loop, and_assoc]
theorem eql_endg (m v h m' v' h' : Nat → Int) (d k d' k' : Bool) (w : World) : (binOp .eql 33 (.agg (endc m v h d k).toArray) (.agg (endc m' v' h' d' k').toArray)).run Try.prog w = .ok (.bool (endB m v h m' v' h' d k d' k')) w := by
  have e8 := eq_intsg 29 8 Try.underlying29 #[.int .i64 (m 0), .int .i64 (m 1), .int .i64 (m 2), .int .i64 (m 3), .int .i64 (m 4), .int .i64 (m 5), .int .i64 (m 6), .int .i64 (m 7)] #[.int .i64 (m' 0), .int .i64 (m' 1), .int .i64 (m' 2), .int .i64 (m' 3), .int .i64 (m' 4), .int .i64 (m' 5), .int .i64 (m' 6), .int .i64 (m' 7)] m m' (fun i hi => by
    match i, hi with
    | 0, _ => exact ⟨rfl, rfl⟩ | 1, _ => exact ⟨rfl, rfl⟩ | 2, _ => exact ⟨rfl, rfl⟩ | 3, _ => exact ⟨rfl, rfl⟩ | 4, _ => exact ⟨rfl, rfl⟩ | 5, _ => exact ⟨rfl, rfl⟩ | 6, _ => exact ⟨rfl, rfl⟩ | 7, _ => exact ⟨rfl, rfl⟩) w
  have e4 := eq_intsg 30 4 Try.underlying30 #[.int .i64 (v 0), .int .i64 (v 1), .int .i64 (v 2), .int .i64 (v 3)] #[.int .i64 (v' 0), .int .i64 (v' 1), .int .i64 (v' 2), .int .i64 (v' 3)] v v' (fun i hi => by
    match i, hi with
    | 0, _ => exact ⟨rfl, rfl⟩ | 1, _ => exact ⟨rfl, rfl⟩ | 2, _ => exact ⟨rfl, rfl⟩ | 3, _ => exact ⟨rfl, rfl⟩) w
  have e6 := eq_intsg 31 6 Try.underlying31 #[.int .i64 (h 0), .int .i64 (h 1), .int .i64 (h 2), .int .i64 (h 3), .int .i64 (h 4), .int .i64 (h 5)] #[.int .i64 (h' 0), .int .i64 (h' 1), .int .i64 (h' 2), .int .i64 (h' 3), .int .i64 (h' 4), .int .i64 (h' 5)] h h' (fun i hi => by
    match i, hi with
    | 0, _ => exact ⟨rfl, rfl⟩ | 1, _ => exact ⟨rfl, rfl⟩ | 2, _ => exact ⟨rfl, rfl⟩ | 3, _ => exact ⟨rfl, rfl⟩ | 4, _ => exact ⟨rfl, rfl⟩ | 5, _ => exact ⟨rfl, rfl⟩) w
  rw [run_eql_struct]
  unfold endc
  have hnm : (Try.prog.fieldsOf 33).toList.all (fun f => f.name != "_") = true := by kernel_rfl
  have hB : (Try.prog.fieldsOf 33).toList.all (fun f => (fun (_ : TypeId) (off : Nat) => if off = 0 then (List.range 8).all (fun i => m i == m' i) else if off = 8 then (List.range 4).all (fun i => v i == v' i) else if off = 12 then (List.range 6).all (fun i => h i == h' i) else if off = 18 then d == d' else k == k') f.type f.offset) = endB m v h m' v' h' d k d' k' := by
    have hm := ends_fields
    have hg : ∀ fs : List Field, fs.all (fun f => (fun (_ : TypeId) (off : Nat) => if off = 0 then (List.range 8).all (fun i => m i == m' i) else if off = 8 then (List.range 4).all (fun i => v i == v' i) else if off = 12 then (List.range 6).all (fun i => h i == h' i) else if off = 18 then d == d' else k == k') f.type f.offset)
        = (fs.map fun f => (f.type, f.offset)).all (fun p => (fun (_ : TypeId) (off : Nat) => if off = 0 then (List.range 8).all (fun i => m i == m' i) else if off = 8 then (List.range 4).all (fun i => v i == v' i) else if off = 12 then (List.range 6).all (fun i => h i == h' i) else if off = 18 then d == d' else k == k') p.1 p.2) := fun fs => by
      rw [List.all_map]; rfl
    rw [hg, hm]
    rfl
  rw [run_equalIn_struct w 9999 33 _ _ Try.underlying33 (by kernel_rfl), eqf_g _ _ w (fun (_ : TypeId) (off : Nat) => if off = 0 then (List.range 8).all (fun i => m i == m' i) else if off = 8 then (List.range 4).all (fun i => v i == v' i) else if off = 12 then (List.range 6).all (fun i => h i == h' i) else if off = 18 then d == d' else k == k')]
  · rw [← hB]; rfl
  · intro f hf
    refine ⟨List.all_eq_true.1 hnm f hf, ?_⟩
    have hm : (f.type, f.offset) ∈ ((Try.prog.fieldsOf 33).toList.map fun f => (f.type, f.offset)) := List.mem_map.2 ⟨f, hf, rfl⟩
    rw [ends_fields] at hm
    simp only [List.mem_cons, List.not_mem_nil, or_false, Prod.mk.injEq] at hm
    rcases hm with ⟨h1, h2⟩ | ⟨h1, h2⟩ | ⟨h1, h2⟩ | ⟨h1, h2⟩ | ⟨h1, h2⟩ <;> rw [h1, h2]
    · exact ⟨_, _, part_arr _ 8 Try.underlying29 (by kernel_rfl) _ _ w, part_arr _ 8 Try.underlying29 (by kernel_rfl) _ _ w, e8⟩
    · exact ⟨_, _, part_arr _ 4 Try.underlying30 (by kernel_rfl) _ _ w, part_arr _ 4 Try.underlying30 (by kernel_rfl) _ _ w, e4⟩
    · exact ⟨_, _, part_arr _ 6 Try.underlying31 (by kernel_rfl) _ _ w, part_arr _ 6 Try.underlying31 (by kernel_rfl) _ _ w, e6⟩
    · exact ⟨.bool d, .bool d', run_part_plain w (by kernel_rfl) rfl, run_part_plain w (by kernel_rfl) rfl, run_equalIn_bool w 9998 4 d d' Try.underlying4⟩
    · exact ⟨.bool k, .bool k', run_part_plain w (by kernel_rfl) rfl, run_part_plain w (by kernel_rfl) rfl, run_equalIn_bool w 9998 4 k k' Try.underlying4⟩
end Go.Proofs.Ytlcldcbdobgdbaa
set_option linter.all false
set_option maxRecDepth 100000
namespace Go.Proofs.Ytlcldcbdobgdbaa
open Go Go.RowKit

def intq (l : List Int) : List Value := l.map (Value.int .i64)
theorem intq_app (l m : List Int) : intq (l ++ m) = intq l ++ intq m := by simp [intq]
theorem intq_one (l : List Int) : ∀ u ∈ intq l, u.oneCell' = true := by
  intro u hu
  obtain ⟨x, _, rfl⟩ := List.mem_map.1 hu
  rfl
theorem qint_info : (Try.prog.info? 3).map (fun i => (i.zero, i.size, i.bytes)) = some (some (.int .i64 0), 1, 8) := by kernel_rfl
theorem wpList_append_src {P : Program} {ops : Array Oper} {rest : List Oper} {o : Oper} {a : Act} {w : World} {Q : Exit → Act → World → Prop} (hgd : o.guard = none) (s x : Operand) (t : TypeId)
    (ho : o.op = .call { callee := .builtin .append, args := #[s, x], argTypes := #[t, t] })
    (base : Nat) (e : TypeId) (i : TypeInfo) (z : Value) (size bytes : Nat) (ht : P.underlying t = some (.slice e)) (hi : P.info? e = some i) (hz : i.zero = some z)
    (hsize : i.size = size) (hby : i.bytes = bytes) (hzs : z.cells.size = size) (hsz : 0 < size)
    (v : Value) (n : Nat) (xs : List Value) (hv : a.eval s = v) (hown : w.ownsRow base e size v n xs)
    (A : Option Addr) (m c : Nat) (news : List Value) (hx : a.eval x = .slice A m c) (hl : news.length = m * size) (hs : Src w A m news) (h1 : ∀ u ∈ news, u.oneCell' = true)
    (h63 : n + m ≤ maxLen) (hbytes : (n + m) * bytes ≤ 140737488355328) (hbase : base ≤ w.heap.size)
    (h : ∀ v' w', w'.ownsRow base e size v' (n + m) (xs ++ news) → w.grownBy w' v.ownBlock → (v'.ownBlock = v.ownBlock ∨ v'.ownBlock = some w.heap.size) → wpList P ops Q rest (a.put o.dst v') w') : wpList P ops Q (o :: rest) a w :=
  wpList_plain hgd fun _ hK => wp_append_src s x t ho base e i z size bytes ht hi hz hsize hby hzs hsz v n xs hv hown A m c news hx hl hs h1 h63 hbytes hbase (fun v' w' a b c => hK _ _ (h v' w' a b c))
theorem SlI.src {w : World} {v : Value} {l : List Int} (h : SlI w v l) : ∃ A n c, v = .slice A n c ∧ l.length = n ∧ Src w A n (intq l) := by
  rcases h with ⟨rfl, rfl⟩ | ⟨b, o, n, c, rfl, hl, hm, hc⟩
  · exact ⟨none, 0, 0, rfl, rfl, .inl ⟨rfl, rfl, rfl⟩⟩
  · refine ⟨_, n, c, rfl, hl, .inr ⟨_, rfl, fun j u hu => ?_⟩⟩
    have hj : j < n := by have := (List.getElem?_eq_some_iff.1 hu).1; simp [intq] at this; omega
    have e : (⟨b, o, none⟩ : Addr).add j = ⟨b, o + j, none⟩ := by unfold Addr.add; split <;> simp_all
    rw [e, hc j hj]
    have h9 : l[j]? = some (l[j]?.getD 0) := by rw [List.getElem?_eq_getElem (by omega)]; rfl
    unfold intq at hu
    rw [List.getElem?_map, h9] at hu
    simpa using hu
theorem SlI.bel {w w' : World} {v : Value} {l : List Int} (h : SlI w v l) (hb : Bel w w') : SlI w' v l :=
  h.imp id fun ⟨b, o, n, c, h1, h2, h3, h4⟩ => ⟨b, o, n, c, h1, h2, h3, fun i hi => hb.cell (h4 i hi)⟩
def CopyPost (w : World) (l : List Int) (e : Ending) (w' : World) : Prop := ∃ v, e = .returned v ∧ w'.ownsRow w.heap.size 3 1 v l.length (intq l) ∧ Below w.heap.size w w'
set_option maxHeartbeats 2000000 in
theorem copyint_any (v : Value) (l : List Int) (w : World) (h : SlI w v l) (hn : l.length ≤ 1000) : Calls Try.prog 119 #[v] w (CopyPost w l) := by
  obtain ⟨A, n, c, rfl, hl, hs⟩ := h.src
  obtain ⟨i0, hi0, hz0, hz1, hz2⟩ := info_parts qint_info
  have HO := Lib.hid (World.ownsRow_nil w w.heap.size 3 1)
  have HS := Lib.hid hs
  have HLN := Lib.hid hl
  have HN := Lib.hid hn
  clear hs h hl hn
  go_enter Try.func119, Try.ntmps119
  go_wp2_with (at_builtin; refine wpList_append_src rfl (.const (.slice none 0 0)) (.tmp 3) _ rfl w.heap.size 3 i0 _ 1 8 Try.underlying36 hi0 hz0 hz1 hz2 rfl (by omega) (.slice none 0 0) 0 [] rfl HO.out A n c (intq l) rfl (by rw [← HLN.out]; simp [intq]) HS.out (intq_one l) (by have := HN.out; have := HLN.out; unfold maxLen; omega) (by have := HN.out; have := HLN.out; omega) (Nat.le_refl _) ?_; intro v2 w2 hown2 hg2 hat2)
  go_ret
  refine ⟨_, rfl, ?_, (Below.refl _ w).grown hg2 (Nat.le_refl _) (fun k hk => by cases hk)⟩
  rw [HLN.out]
  simpa using hown2
theorem sli_own {w : World} {base n : Nat} {v : Value} {l : List Int} (h : w.ownsRow base 3 1 v n (intq l)) : SlI w v l ∧ v.oneCell' = true := by
  have hl : l.length = n := by have := h.1; simp [intq] at this; omega
  rcases h.2 with ⟨rfl, h0⟩ | ⟨g, cap, cur, rfl, hg, hb, hn, hc, hs, ht⟩
  · exact ⟨.inl ⟨rfl, List.eq_nil_of_length_eq_zero (by omega)⟩, rfl⟩
  · refine ⟨.inr ⟨g, 0, n, cap, rfl, hl, by omega, fun i hi => ?_⟩, rfl⟩
    have hbx : Box w g cur 3 := hb
    rw [Nat.zero_add]
    refine hbx.cell i ?_
    have h1 : (intq l)[i]? = some (.int .i64 (l[i]?.getD 0)) := by unfold intq; rw [List.getElem?_map, List.getElem?_eq_getElem (by omega)]; rfl
    rw [← ht, List.getElem?_take, if_pos (by omega)] at h1
    simpa using h1
theorem fill1 {n : Nat} (hn : n = 1) (f : Fin n → Value) (a : Value) : (Array.ofFn f).setIfInBounds 0 a = #[a] := by
  subst hn
  apply Array.ext
  · simp
  · intro i h1 h2
    have hi : i < 1 := by simpa using h2
    match i, hi with
    | 0, _ => simp [Array.getElem_setIfInBounds]
theorem run_build_int {P : Program} (t e : TypeId) (i : TypeInfo) (ht : P.underlying t = some (.slice e)) (hi : P.info? e = some i) (hz : i.zero = some (.int .i64 0)) (hs : i.size = 1) (x : Int) (w : World) :
    (Instr.buildSlice t 1 #[(0, .int .i64 x)]).run P w = .ok (.slice (some ⟨w.heap.size, 0, none⟩) 1 1) (w.alloc (.cells #[.int .i64 x] e)) := by
  simp [Instr.buildSlice, Sem.run_bind, run_underlying ht, sizeOf, typeInfo, hi, hs, zeroValue, hz, Instr.fill, Value.cells, newRow, newObj, List.zipIdx, Array.range, Result.andThen, go_sem]
  rw [fill1 (by rw [hs])]
  rfl
section
variable {ops : Array Oper} {o : Oper} {a : Act} {w : World} {K : Act → World → Prop} {Q : Exit → Act → World → Prop}
theorem wp_build_int (t : TypeId) (x : Operand) (ho : o.op = .buildSlice t 1 #[(0, x)]) (e : TypeId) (i : TypeInfo) {P : Program} (ht : P.underlying t = some (.slice e)) (hi : P.info? e = some i) (hz : i.zero = some (.int .i64 0)) (hs : i.size = 1) (n : Int) (hx : a.eval x = .int .i64 n)
    (h : K (a.put o.dst (.slice (some ⟨w.heap.size, 0, none⟩) 1 1)) (w.alloc (.cells #[.int .i64 n] e))) : o.wp P a w K Q := by
  unfold Oper.wp execOp
  simp only [ho, Sem.run_bind, Sem.run_pure, Result.andThen_ok, List.map_toArray, List.map_cons, List.map_nil, hx, run_build_int t e i ht hi hz hs n w]
  exact h
end
end Go.Proofs.Ytlcldcbdobgdbaa

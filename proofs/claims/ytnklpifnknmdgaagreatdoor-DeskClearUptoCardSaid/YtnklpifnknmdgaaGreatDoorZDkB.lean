import Derived.Lib.ItoaLen
import Derived.Test.YtnklpifnknmdgaaGreatDoorZEqFl
import Derived.Test.YtnklpifnknmdgaaGreatDoorZRgS
set_option linter.all false
set_option maxRecDepth 100000
namespace Go.Proofs.YtnklpifnknmdgaaGreatDoor
open Go Go.RowKit

theorem itoa_s (n : Int) (h : 0 ≤ n ∧ n < 100) (w : World) : Calls Tryz.prog 18 #[.int .i64 n] w fun e w' => e = .returned (.string (str (Lib.itoa n))) ∧ Below w.heap.size w w' := by
  obtain ⟨m, rfl⟩ := Int.eq_ofNat_of_zero_le h.1
  refine (Tryz.strconv_Itoa_small m (by omega) w).mono fun e w' ⟨he, hw⟩ => ⟨?_, hw ▸ Below.refl _ _⟩
  rw [he]
  show _ = Ending.returned (Value.string (str (Lib.itoa ((m : Nat) : Int))))
  rw [Lib.itoa_nonneg]
  rfl
theorem itoa_len (n : Int) (h : 0 ≤ n ∧ n < 100) : (Lib.itoa n).length ≤ 21 := Lib.itoa_length_le n (by omega) (by omega)
theorem SmF.kind {f : Ev} (h : SmF f) : 0 ≤ f.o ∧ f.o < 100 := ⟨h.2.2.1, h.2.2.2⟩
def wdsC (xs : List Wd) (n i : Nat) : Array Value := (((xs.take i).map fun x => Value.string (str x)) ++ List.replicate (n - i) (Value.string ⟨#[]⟩)).toArray
theorem wdsC_zero (xs : List Wd) (n : Nat) : wdsC xs n 0 = Array.replicate n (Value.string ⟨#[]⟩) := by simp [wdsC]
theorem wdsC_get {xs : List Wd} {n i : Nat} (hl : xs.length = n) (hi : i < n) : (wdsC xs n i)[i]? = some (Value.string ⟨#[]⟩) := by
  simp only [wdsC, List.getElem?_toArray]
  rw [List.getElem?_append_right (by simp; omega)]
  simp only [List.length_map, List.length_take, List.getElem?_replicate]
  rw [if_pos (by omega)]
theorem wdsC_set {xs : List Wd} {n i : Nat} (hl : xs.length = n) {x : Wd} (hx : xs[i]? = some x) : (wdsC xs n i).setIfInBounds i (.string (str x)) = wdsC xs n (i + 1) := by
  have hi : i < n := by have := (List.getElem?_eq_some_iff.1 hx).1; omega
  simp only [wdsC, List.setIfInBounds_toArray]
  congr 1
  rw [List.take_succ, hx, Option.toList_some, List.map_append, List.append_assoc]
  rw [List.set_append_right _ _ (by simp; omega)]
  congr 1
  have h1 : n - i = (n - (i + 1)) + 1 := by omega
  have h2 : i - ((xs.take i).map fun x => Value.string (str x)).length = 0 := by simp; have := (List.getElem?_eq_some_iff.1 hx).1; omega
  rw [h2, h1, List.replicate_succ]
  rfl
theorem wdsC_all {xs : List Wd} {n : Nat} (hl : xs.length = n) : wdsC xs n n = (xs.map fun x => Value.string (str x)).toArray := by
  simp only [wdsC, Nat.sub_self, List.replicate_zero, List.append_nil]
  rw [List.take_of_length_le (by omega)]
theorem join_len (M : Nat) (sep : List UInt8) : ∀ xs : List Wd, (∀ x ∈ xs, x.length ≤ M) → (Lib.join xs sep).length ≤ xs.length * (M + sep.length)
  | [], _ => Nat.zero_le _
  | [x], h => by rw [Lib.join_one]; have := h x (List.mem_cons_self ..); simp only [List.length_cons, List.length_nil]; omega
  | x :: y :: r, h => by
    have h2 : Lib.join (x :: y :: r) sep = x ++ sep ++ Lib.join (y :: r) sep := by
      rw [Lib.join_cons, Lib.join_cons]
      simp [Lib.joinTail]
    have ih := join_len M sep (y :: r) fun z hz => h z (List.mem_cons_of_mem _ hz)
    have hx := h x (List.mem_cons_self ..)
    rw [h2, List.length_append, List.length_append]
    simp only [List.length_cons] at ih ⊢
    rw [Nat.add_mul, Nat.one_mul]
    omega
def WS (w : World) (A : Option Addr) (n : Nat) (xs : List Wd) : Prop := xs.length = n ∧ (0 < n → ∃ b off, A = some ⟨b, off, none⟩ ∧ b < w.heap.size ∧ ∀ i x, xs[i]? = some x → w.cell? ⟨b, off + i, none⟩ = some (.string (str x)))
theorem WS.bel {w w' : World} {A : Option Addr} {n : Nat} {xs : List Wd} (h : WS w A n xs) (hb : Bel w w') : WS w' A n xs :=
  ⟨h.1, fun hn => by
    obtain ⟨b, off, hA, hlt, hr⟩ := h.2 hn
    refine ⟨b, off, hA, Nat.lt_of_lt_of_le hlt hb.size, fun i x hx => ?_⟩
    have := hr i x hx
    unfold World.cell? at this ⊢
    rw [hb.out.block b hlt]
    exact this⟩
theorem WS.at_ {w : World} {A : Option Addr} {n : Nat} {xs : List Wd} (h : WS w A n xs) {i : Nat} (hi : i < n) : ∃ b off x, A = some ⟨b, off, none⟩ ∧ b < w.heap.size ∧ xs[i]? = some x ∧ w.cell? ⟨b, off + i, none⟩ = some (.string (str x)) := by
  obtain ⟨b, off, hA, hlt, hr⟩ := h.2 (by omega)
  have hx := List.getElem?_eq_getElem (show i < xs.length by rw [h.1]; exact hi)
  exact ⟨b, off, _, hA, hlt, hx, hr i _ hx⟩
theorem WS.box {w : World} {B : Nat} {xs : List Wd} {n : Nat} (h : Box w B (wdsC xs n n) 9) (hl : xs.length = n) : WS w (some ⟨B, 0, none⟩) n xs :=
  ⟨hl, fun _ => ⟨B, 0, rfl, h.lt, fun i x hx => by
    rw [Nat.zero_add]
    refine h.cell i ?_
    rw [wdsC_all hl, List.getElem?_toArray, List.getElem?_map, hx]; rfl⟩⟩
theorem row_cells2 {w : World} {base : Nat} {e : TypeId} {v : Value} {n : Nat} {xs : List Value} {size : Nat} (h : w.ownsRow base e size v n xs) (h0 : 0 < n) : ∃ g cap, v = .slice (some ⟨g, 0, none⟩) n cap ∧ base ≤ g ∧ n ≤ cap ∧ cap ≤ maxLen ∧ g < w.heap.size ∧ ∀ t u, xs[t]? = some u → w.cell? ⟨g, t, none⟩ = some u := by
  rcases h.2 with ⟨_, h1⟩ | ⟨g, cap, cur, rfl, h2, h3, h4, h5, h6, h7⟩
  · omega
  · have hbx : Box w g cur e := h3
    refine ⟨g, cap, rfl, h2, h4, h5, hbx.lt, fun t u hu => ?_⟩
    refine hbx.cell t ?_
    have ht : t < n * size := by have := (List.getElem?_eq_some_iff.1 hu).1; rw [h.1] at this; exact this
    rw [← h7, List.getElem?_take_of_lt ht] at hu
    rw [← Array.getElem?_toList]; exact hu
theorem WS.own {w : World} {base n : Nat} {A : Option Addr} {c : Nat} {xs : List Wd} (h : w.ownsRow base 9 1 (.slice A n c) n (xs.map fun x => .string (str x))) (hl : xs.length = n) : WS w A n xs :=
  ⟨hl, fun hn => by
    obtain ⟨g, cap, h1, _, _, _, h2, h3⟩ := row_cells2 h hn
    cases h1
    exact ⟨g, 0, rfl, h2, fun i x hx => by rw [Nat.zero_add]; exact h3 i _ (by rw [List.getElem?_map, hx]; rfl)⟩⟩
theorem wjoin_any (A : Option Addr) (n c : Nat) (xs : List Wd) (M : Nat) (w : World) (h : WS w A n xs) (hnc : n ≤ c) (hM : ∀ x ∈ xs, x.length ≤ M) (hb : n * (M + 1) ≤ 140737488355328) :
    Calls Tryz.prog 23 #[.slice A n c, .string ⟨#[32]⟩] w fun e w' => e = .returned (.string (str (Lib.join xs [32]))) ∧ Below w.heap.size w w' := by
  by_cases h0 : n = 0
  · subst h0
    obtain rfl : xs = [] := List.length_eq_zero_iff.1 h.1
    exact (Tryz.strings_Join_none A c ⟨#[32]⟩ w).mono fun e w' ⟨he, hw⟩ => ⟨he, hw ▸ Below.refl _ _⟩
  · obtain ⟨b, off, rfl, hlt, hr⟩ := h.2 (by omega)
    have hm : (xs.map str).map (·.data.toList) = xs := by
      rw [List.map_map]
      exact (List.map_congr_left fun x _ => str_all x).trans (List.map_id xs)
    have hl : (Lib.join xs [32]).length ≤ n * (M + 1) := by have := join_len M [32] xs hM; rw [h.1] at this; exact this
    have hj : Lib.join ((xs.map str).map (·.data.toList)) (⟨#[32]⟩ : ByteArray).data.toList = Lib.join xs [32] := by rw [hm]
    have h1 := h.1
    have q := Tryz.strings_Join b off c (xs.map str) ⟨#[32]⟩ w (fun j x hx => by
      rw [List.getElem?_map] at hx
      cases hq : xs[j]? with
      | none => rw [hq] at hx; cases hx
      | some e => rw [hq] at hx; simp only [Option.map_some, Option.some.injEq] at hx; rw [← hx]; exact hr j e hq) hlt (by rw [List.length_map, h1]; exact Nat.le_trans (Nat.le_mul_of_pos_right _ (by omega)) hb) (by rw [List.length_map]; omega) (by rw [hj]; omega)
    rw [hj, List.length_map, h1] at q
    exact q
theorem si_later {w wr : World} {b o n : Nat} {l : List Int} {i : Nat} {e : Int} (h : SI w (some ⟨b, o, none⟩) n l) (hi : i < n) (he : l[i]? = some e) (hb : Below w.heap.size w wr) : wr.cell? ⟨b, o + i, none⟩ = some (.int .i64 e) := by
  have h1 := (SI.keep h (Bel.of hb)).2 (by omega)
  obtain ⟨b', o', hA, hc⟩ := h1
  cases hA
  have := hc i hi
  rwa [he] at this
structure PRel (w : World) (xs : List Wd) (n B i : Nat) (wr : World) : Prop where
  box : Box wr B (wdsC xs n i) 9
  below : Below w.heap.size w wr
  ge : w.heap.size ≤ B
theorem map_at {α β : Type} {f : α → β} {l : List α} {i : Nat} {x : α} (h : l[i]? = some x) : (l.map f)[i]? = some (f x) := by rw [List.getElem?_map, h]; rfl

set_option maxHeartbeats 2000000 in
theorem racesT_any (r : Rc) (h : r.a < 100 ∧ r.b < 100) (w : World) : Calls Tryz.prog 97 #[.agg (rcv r)] w fun e w' => e = .returned (.string (str (rcT r))) ∧ Below w.heap.size w w' := by
  obtain ⟨b1, hB, hs⟩ := boxes1 w (rcv r) 58
  have HX := Lib.hid b1
  have HB := Lib.hid (Bel.of hB)
  have H := Lib.hid h
  have F := fun (w1 : World) (hw : Bel (w.alloc (.cells (rcv r) 58)) w1) => (⟨(hw.box HX.out).cell 0 rfl, (hw.box HX.out).cell 1 rfl⟩ : w1.cell? ⟨w.heap.size, 0, none⟩ = some (.int .i64 (r.a : Nat)) ∧ w1.cell? ⟨w.heap.size, 1, none⟩ = some (.int .i64 (r.b : Nat)))
  have HE := Lib.hid (show str (Lib.itoa (r.a : Nat)) ++ str [45] ++ str (Lib.itoa (r.b : Nat)) = str (rcT r) by unfold rcT; rw [str_app, str_app, List.append_assoc]; rfl)
  have y0 : (str (Lib.itoa (r.a : Nat))).size ≤ 21 := by rw [str_sz]; exact itoa_len _ (by omega)
  have y1 : (str (Lib.itoa (r.b : Nat))).size ≤ 21 := by rw [str_sz]; exact itoa_len _ (by omega)
  have z3 : ¬ 9223372036854775807 < (str (Lib.itoa (r.a : Nat))).size + 1 := by omega
  have z4 : ¬ 9223372036854775807 < (str (Lib.itoa (r.a : Nat))).size + 1 + (str (Lib.itoa (r.b : Nat))).size := by omega
  obtain ⟨ha, hb⟩ := h
  clear b1 hB hs
  go_enter Tryz.func97, Tryz.ntmps97
  go_wp2_with fail
  (refine region_bel (by kernel_rfl) (by kernel_rfl) ?_; (repeat (first | ((with_reducible refine BigFrame.wpQuiet_skip ?_ ?_); exact rfl; simp only [Act.put, Act.eval, List.setIfInBounds_toArray, List.set_cons_zero, List.set_cons_succ, Array.getD_eq_getD_getElem?, List.getElem?_toArray, List.getElem?_cons_zero, List.getElem?_cons_succ, Option.getD_some]) | (refine q_move _ rfl rfl ?_; simp only [Act.put, Act.eval, List.setIfInBounds_toArray, List.set_cons_zero, List.set_cons_succ, Array.getD_eq_getD_getElem?, List.getElem?_toArray, List.getElem?_cons_zero, List.getElem?_cons_succ, Option.getD_some]) | (refine q_assign _ rfl rfl ?_; simp only [Act.put, Act.eval, List.setIfInBounds_toArray, List.set_cons_zero, List.set_cons_succ, Array.getD_eq_getD_getElem?, List.getElem?_toArray, List.getElem?_cons_zero, List.getElem?_cons_succ, Option.getD_some]) | (refine q_any rfl ?_; apply Exists.intro; refine ⟨fun w hw => ?_, ?_⟩; (have fct0 := F w hw; go_simp; first | exact ⟨rfl, rfl⟩ | rfl | (go_at_call 18; (with_reducible refine (itoa_s _ (by omega) _).mono ?_); rintro e w' ⟨rfl, hb⟩; exact ⟨rfl, hw.call hb⟩)); simp only [Act.put, Act.eval, List.setIfInBounds_toArray, List.set_cons_zero, List.set_cons_succ, Array.getD_eq_getD_getElem?, List.getElem?_toArray, List.getElem?_cons_zero, List.getElem?_cons_succ, Option.getD_some]))); refine wpQuiet_nil ?_; intro w2 hw2)
  go_wp2
  go_ret
  exact ⟨congrArg (fun s => Ending.returned (.string s)) HE.out, HB.out.trans hw2⟩
set_option maxHeartbeats 2000000 in
theorem place_any (f : Ev) (h : SmF f) (w : World) : Calls Tryz.prog 104 #[.agg (evv f)] w fun e w' => e = .returned (.string (str (plT f))) ∧ Below w.heap.size w w' := by
  have HX := Lib.hid (Box.new w (evv f) 107)
  have HB := Lib.hid ((Bel.refl w).alloc (.cells (evv f) 107))
  have HF := Lib.hid h
  clear h
  have c0 := HX.out.cell 0 (v := .int .i64 f.k) rfl
  go_enter Tryz.func104, Tryz.ntmps104
  go_wp2_with fail
  refine (itoa_s f.k ⟨HF.out.1, HF.out.2.1⟩ _).mono ?_
  rintro e w1 ⟨rfl, hb1⟩
  have HW := Lib.hid (HB.out.call hb1)
  clear hb1 c0
  go_wp2
  go_ret
  exact ⟨rfl, HW.out⟩
set_option maxHeartbeats 2000000 in
theorem placeKind_any (f : Ev) (h : SmF f) (w : World) : Calls Tryz.prog 101 #[.agg (evv f)] w fun e w' => e = .returned (.string (str (pkT f))) ∧ Below w.heap.size w w' := by
  obtain ⟨b1, hB, hs⟩ := boxes1 w (evv f) 107
  have HX := Lib.hid b1
  have HX0 := b1
  have HB := Lib.hid (Bel.of hB)
  have H := Lib.hid h
  have F := fun (w1 : World) (hw : Bel (w.alloc (.cells (evv f) 107)) w1) => ((hw.box HX.out).cell 2 rfl : w1.cell? ⟨w.heap.size, 2, none⟩ = some (.int .i64 f.o))
  have HE := Lib.hid (show str (plT f) ++ str [58] ++ str (Lib.itoa f.o) = str (pkT f) by unfold pkT plT; rw [str_app, str_app, List.append_assoc]; rfl)
  have y0 : (str (plT f)).size ≤ 21 := by rw [str_sz]; exact itoa_len _ ⟨h.1, h.2.1⟩
  have y1 : (str (Lib.itoa f.o)).size ≤ 21 := by rw [str_sz]; exact itoa_len _ ⟨h.2.2.1, h.2.2.2⟩
  have z3 : ¬ 9223372036854775807 < (str (plT f)).size + 1 := by omega
  have z4 : ¬ 9223372036854775807 < (str (plT f)).size + 1 + (str (Lib.itoa f.o)).size := by omega
  clear b1 hB hs h
  go_enter Tryz.func101, Tryz.ntmps101
  go_wp2_with fail
  refine region_bel (by kernel_rfl) (by kernel_rfl) ?_
  refine q_load _ _ rfl rfl rfl HX0 TFl ?_
  simp only [Act.put, Act.eval, List.setIfInBounds_toArray, List.set_cons_zero, List.set_cons_succ, Array.getD_eq_getD_getElem?, List.getElem?_toArray, List.getElem?_cons_zero, List.getElem?_cons_succ, Option.getD_some]
  refine q_any rfl ?_
  apply Exists.intro
  refine ⟨fun w hw => ?_, ?_⟩
  · go_simp
    go_at_call 104
    (with_reducible refine (place_any f H.out _).mono ?_)
    rintro e w' ⟨rfl, hb⟩; exact ⟨rfl, hw.call hb⟩
  simp only [Act.put, Act.eval, List.setIfInBounds_toArray, List.set_cons_zero, List.set_cons_succ, Array.getD_eq_getD_getElem?, List.getElem?_toArray, List.getElem?_cons_zero, List.getElem?_cons_succ, Option.getD_some]
  refine q_any rfl ?_
  apply Exists.intro
  refine ⟨fun w hw => ?_, ?_⟩
  · go_simp
    first | exact ⟨rfl, rfl⟩ | rfl
  simp only [Act.put, Act.eval, List.setIfInBounds_toArray, List.set_cons_zero, List.set_cons_succ, Array.getD_eq_getD_getElem?, List.getElem?_toArray, List.getElem?_cons_zero, List.getElem?_cons_succ, Option.getD_some]
  refine q_any rfl ?_
  apply Exists.intro
  refine ⟨fun w hw => ?_, ?_⟩
  · go_simp
    first | exact ⟨rfl, rfl⟩ | rfl
  simp only [Act.put, Act.eval, List.setIfInBounds_toArray, List.set_cons_zero, List.set_cons_succ, Array.getD_eq_getD_getElem?, List.getElem?_toArray, List.getElem?_cons_zero, List.getElem?_cons_succ, Option.getD_some]
  refine q_any rfl ?_
  apply Exists.intro
  refine ⟨fun w hw => ?_, ?_⟩
  · have fct := F w hw
    go_simp
    first | exact ⟨rfl, rfl⟩ | rfl
  simp only [Act.put, Act.eval, List.setIfInBounds_toArray, List.set_cons_zero, List.set_cons_succ, Array.getD_eq_getD_getElem?, List.getElem?_toArray, List.getElem?_cons_zero, List.getElem?_cons_succ, Option.getD_some]
  refine q_any rfl ?_
  apply Exists.intro
  refine ⟨fun w hw => ?_, ?_⟩
  · go_simp
    go_at_call 18
    (with_reducible refine (itoa_s _ H.out.kind _).mono ?_)
    rintro e w' ⟨rfl, hb⟩; exact ⟨rfl, hw.call hb⟩
  simp only [Act.put, Act.eval, List.setIfInBounds_toArray, List.set_cons_zero, List.set_cons_succ, Array.getD_eq_getD_getElem?, List.getElem?_toArray, List.getElem?_cons_zero, List.getElem?_cons_succ, Option.getD_some]
  refine q_any rfl ?_
  apply Exists.intro
  refine ⟨fun w hw => ?_, ?_⟩
  · go_simp
    first | exact ⟨rfl, rfl⟩ | rfl
  simp only [Act.put, Act.eval, List.setIfInBounds_toArray, List.set_cons_zero, List.set_cons_succ, Array.getD_eq_getD_getElem?, List.getElem?_toArray, List.getElem?_cons_zero, List.getElem?_cons_succ, Option.getD_some]
  refine q_assign _ rfl rfl ?_
  simp only [Act.put, Act.eval, List.setIfInBounds_toArray, List.set_cons_zero, List.set_cons_succ, Array.getD_eq_getD_getElem?, List.getElem?_toArray, List.getElem?_cons_zero, List.getElem?_cons_succ, Option.getD_some]
  refine wpQuiet_nil ?_
  intro w2 hw2
  go_wp2
  go_ret
  exact ⟨congrArg (fun s => Ending.returned (.string s)) HE.out, HB.out.trans hw2⟩
theorem rcT_len {r : Rc} (h : r.a < 100 ∧ r.b < 100) : (rcT r).length ≤ 43 := by
  unfold rcT
  have h1 := itoa_len r.a (by omega)
  have h2 := itoa_len r.b (by omega)
  rw [List.length_append, List.length_cons]
  omega
theorem plT_len {f : Ev} (h : SmF f) : (plT f).length ≤ 43 := Nat.le_trans (itoa_len f.k ⟨h.1, h.2.1⟩) (by decide)
theorem pkT_len {f : Ev} (h : SmF f) : (pkT f).length ≤ 43 := by
  unfold pkT
  have h1 := itoa_len f.k ⟨h.1, h.2.1⟩
  have h2 := itoa_len f.o ⟨h.2.2.1, h.2.2.2⟩
  rw [List.length_append, List.length_cons]
  omega
theorem inT_len {x : Int} (h : 0 ≤ x ∧ x < 100) : (Lib.itoa x).length ≤ 43 := Nat.le_trans (itoa_len x h) (by decide)
set_option maxHeartbeats 8000000 in
theorem printed_race (A : Option Addr) (n c : Nat) (l : List Rc) (w : World) (hl : SlR w A n l) (hn : n ≤ 6480) (hs : ∀ x ∈ l, x.a < 100 ∧ x.b < 100) :
    Calls Tryz.prog 94 #[.slice A n c, .func (.func 97) #[] #[]] w fun e w' => e = .returned (.string (str (prt (l.map rcT)))) ∧ Below w.heap.size w w' := by
  have HL := Lib.hid hl
  have hw0 : Bel w w := Bel.refl w
  have HN := Lib.hid (show (l.map rcT).length = n by rw [List.length_map]; exact hl.1)
  have EF : ∀ args w, (callFunc 97 args).run Tryz.prog w = .ok (.enter 97 args) w := enters_of Tryz.func97 (by kernel_rfl) rfl
  by_cases h0 : n = 0
  · have HP := Lib.hid (show prt (l.map rcT) = [45] by have := HN.out; rw [h0] at this; unfold prt; rw [if_pos (List.length_eq_zero_iff.1 this)])
    subst h0
    clear hl hs
    go_enter Tryz.func94, Tryz.ntmps94
    go_wp2
    go_ret
    exact ⟨by rw [HP.out]; rfl, hw0⟩
  · have HP := Lib.hid (show prt (l.map rcT) = Lib.join (l.map rcT) [32] by unfold prt; rw [if_neg (fun e => h0 (by have := HN.out; rw [e] at this; exact this.symm))])
    have h0' : ((n : Int) == 0) = false := by simpa using h0
    have HS := Lib.hid hs
    have HM := Lib.hid (show ∀ x ∈ l.map rcT, x.length ≤ 43 from fun x hx => by
      obtain ⟨y, hy, rfl⟩ := List.mem_map.1 hx
      exact rcT_len (hs y hy))
    clear hl hs
    go_enter Tryz.func94, Tryz.ntmps94
    have hbx := Box.new w (wdsC (l.map rcT) n 0) 9
    rw [wdsC_zero] at hbx
    have H0 := Lib.hid (PRel.mk (by rw [wdsC_zero]; exact hbx) (hw0.alloc (.cells (Array.replicate n (.string ⟨#[]⟩)) 9)) hw0.size : PRel w (l.map rcT) n w.heap.size 0 _)
    clear hbx
    go_wp2_with (refine makeStr _ _ rfl rfl n (by omega) rfl rfl ?_)
    generalize w.alloc (.cells (Array.replicate n (.string ⟨#[]⟩)) 9) = w2 at *
    have HWS := Lib.hid (show Bel w w2 from Bel.of H0.out.below)
    generalize hB : w.heap.size = B at *
    go_loopw [16] (fun t wr => ∃ i : Nat, i ≤ n ∧ t = .int .i64 i ∧ PRel w (l.map rcT) n B i wr) (fun t _ => n - (intOf t).toNat)
    case atStart => exact ⟨0, by omega, rfl, H0.out⟩
    case round =>
      obtain ⟨i, hi, rfl, hr⟩ := hrel
      have HR := Lib.hid hr
      clear hr H0
      by_cases hlt : i < n
      · obtain ⟨bb, off, e, rfl, hbb, he, hrg⟩ := HL.out.at_ hlt
        have hR := Lib.hid (rangeAt_below HR.out.below (hB ▸ hbb) hrg)
        have HE := Lib.hid he
        have HSM := Lib.hid (HS.out e (List.mem_of_getElem? he))
        have HEB := Lib.hid (show Bel wr _ from rwld_below wr e 58)
        clear he hrg hbb
        have hlt' : (i : Int) < n := by omega
        have HEX := Lib.hid (rwld_box wr e 58)
        go_wp2_with (first | (refine load_rc TRc _ rfl rfl rfl hR.out ?_) | (refine rwld_store TRc _ _ rfl rfl _ rfl rfl rfl ?_) | (refine loadB _ _ rfl rfl rfl HEX.out TRc ?_))
        refine (racesT_any e HSM.out _).mono ?_
        rintro e5 w5 ⟨rfl, hb5⟩
        have hwb := HEB.out.call hb5
        have hbx := hwb.box HR.out.box
        have c1 := hbx.cell i (wdsC_get HN.out hlt)
        have g1 := hbx.frozen i
        have HB5 := Lib.hid ((Bel.of (w := w) HR.out.below).trans hwb)
        have HX5 := Lib.hid hbx
        clear hb5 hwb hbx
        go_wp2
        go_roundw
        case rel => exact ⟨i + 1, by omega, by go_num, ⟨by rw [← wdsC_set HN.out (map_at HE.out)]; exact HX5.out.set i _, HB5.out.out.setCell HR.out.ge _, HR.out.ge⟩⟩
        case measure => simp [intOf]; omega
      · obtain rfl : i = n := by omega
        have HB2 := Lib.hid HR.out.below
        go_wp2_with fail
        refine (wjoin_any _ i i (l.map rcT) 43 _ (WS.box HR.out.box HN.out) (Nat.le_refl _) HM.out (by omega)).mono ?_
        rintro e5 w5 ⟨rfl, hb5⟩
        go_wp2
        go_ret
        exact ⟨by rw [HP.out]; rfl, (Bel.of (w := w) HB2.out).call hb5⟩
set_option maxHeartbeats 8000000 in
theorem printed_place (A : Option Addr) (n c : Nat) (l : List Ev) (w : World) (hl : Sl w A n l) (hn : n ≤ 1000) (hs : ∀ x ∈ l, SmF x) :
    Calls Tryz.prog 98 #[.slice A n c, .func (.func 104) #[] #[]] w fun e w' => e = .returned (.string (str (prt (l.map plT)))) ∧ Below w.heap.size w w' := by
  have HL := Lib.hid hl
  have hw0 : Bel w w := Bel.refl w
  have HN := Lib.hid (show (l.map plT).length = n by rw [List.length_map]; exact hl.1)
  have EF : ∀ args w, (callFunc 104 args).run Tryz.prog w = .ok (.enter 104 args) w := enters_of Tryz.func104 (by kernel_rfl) rfl
  by_cases h0 : n = 0
  · have HP := Lib.hid (show prt (l.map plT) = [45] by have := HN.out; rw [h0] at this; unfold prt; rw [if_pos (List.length_eq_zero_iff.1 this)])
    subst h0
    clear hl hs
    go_enter Tryz.func98, Tryz.ntmps98
    go_wp2
    go_ret
    exact ⟨by rw [HP.out]; rfl, hw0⟩
  · have HP := Lib.hid (show prt (l.map plT) = Lib.join (l.map plT) [32] by unfold prt; rw [if_neg (fun e => h0 (by have := HN.out; rw [e] at this; exact this.symm))])
    have h0' : ((n : Int) == 0) = false := by simpa using h0
    have HS := Lib.hid hs
    have HM := Lib.hid (show ∀ x ∈ l.map plT, x.length ≤ 43 from fun x hx => by
      obtain ⟨y, hy, rfl⟩ := List.mem_map.1 hx
      exact plT_len (hs y hy))
    clear hl hs
    go_enter Tryz.func98, Tryz.ntmps98
    have hbx := Box.new w (wdsC (l.map plT) n 0) 9
    rw [wdsC_zero] at hbx
    have H0 := Lib.hid (PRel.mk (by rw [wdsC_zero]; exact hbx) (hw0.alloc (.cells (Array.replicate n (.string ⟨#[]⟩)) 9)) hw0.size : PRel w (l.map plT) n w.heap.size 0 _)
    clear hbx
    go_wp2_with (refine makeStr _ _ rfl rfl n (by omega) rfl rfl ?_)
    generalize w.alloc (.cells (Array.replicate n (.string ⟨#[]⟩)) 9) = w2 at *
    have HWS := Lib.hid (show Bel w w2 from Bel.of H0.out.below)
    generalize hB : w.heap.size = B at *
    go_loopw [16] (fun t wr => ∃ i : Nat, i ≤ n ∧ t = .int .i64 i ∧ PRel w (l.map plT) n B i wr) (fun t _ => n - (intOf t).toNat)
    case atStart => exact ⟨0, by omega, rfl, H0.out⟩
    case round =>
      obtain ⟨i, hi, rfl, hr⟩ := hrel
      have HR := Lib.hid hr
      clear hr H0
      by_cases hlt : i < n
      · obtain ⟨bb, off, e, rfl, hbb, he, hrg⟩ := HL.out.at_ hlt
        have hR := Lib.hid (rangeAt_below HR.out.below (hB ▸ hbb) hrg)
        have HE := Lib.hid he
        have HSM := Lib.hid (HS.out e (List.mem_of_getElem? he))
        have HEB := Lib.hid (show Bel wr _ from ewld_below wr e 107)
        clear he hrg hbb
        have hlt' : (i : Int) < n := by omega
        have HEX := Lib.hid (ewld_box wr e 107)
        go_wp2_with (first | (refine load_ev TFl _ rfl rfl rfl hR.out ?_) | (refine ewld_store TFl _ _ rfl rfl _ rfl rfl rfl ?_) | (refine loadB _ _ rfl rfl rfl HEX.out TFl ?_))
        refine (place_any e HSM.out _).mono ?_
        rintro e5 w5 ⟨rfl, hb5⟩
        have hwb := HEB.out.call hb5
        have hbx := hwb.box HR.out.box
        have c1 := hbx.cell i (wdsC_get HN.out hlt)
        have g1 := hbx.frozen i
        have HB5 := Lib.hid ((Bel.of (w := w) HR.out.below).trans hwb)
        have HX5 := Lib.hid hbx
        clear hb5 hwb hbx
        go_wp2
        go_roundw
        case rel => exact ⟨i + 1, by omega, by go_num, ⟨by rw [← wdsC_set HN.out (map_at HE.out)]; exact HX5.out.set i _, HB5.out.out.setCell HR.out.ge _, HR.out.ge⟩⟩
        case measure => simp [intOf]; omega
      · obtain rfl : i = n := by omega
        have HB2 := Lib.hid HR.out.below
        go_wp2_with fail
        refine (wjoin_any _ i i (l.map plT) 43 _ (WS.box HR.out.box HN.out) (Nat.le_refl _) HM.out (by omega)).mono ?_
        rintro e5 w5 ⟨rfl, hb5⟩
        go_wp2
        go_ret
        exact ⟨by rw [HP.out]; rfl, (Bel.of (w := w) HB2.out).call hb5⟩
set_option maxHeartbeats 8000000 in
theorem printed_kind (A : Option Addr) (n c : Nat) (l : List Ev) (w : World) (hl : Sl w A n l) (hn : n ≤ 1000) (hs : ∀ x ∈ l, SmF x) :
    Calls Tryz.prog 98 #[.slice A n c, .func (.func 101) #[] #[]] w fun e w' => e = .returned (.string (str (prt (l.map pkT)))) ∧ Below w.heap.size w w' := by
  have HL := Lib.hid hl
  have hw0 : Bel w w := Bel.refl w
  have HN := Lib.hid (show (l.map pkT).length = n by rw [List.length_map]; exact hl.1)
  have EF : ∀ args w, (callFunc 101 args).run Tryz.prog w = .ok (.enter 101 args) w := enters_of Tryz.func101 (by kernel_rfl) rfl
  by_cases h0 : n = 0
  · have HP := Lib.hid (show prt (l.map pkT) = [45] by have := HN.out; rw [h0] at this; unfold prt; rw [if_pos (List.length_eq_zero_iff.1 this)])
    subst h0
    clear hl hs
    go_enter Tryz.func98, Tryz.ntmps98
    go_wp2
    go_ret
    exact ⟨by rw [HP.out]; rfl, hw0⟩
  · have HP := Lib.hid (show prt (l.map pkT) = Lib.join (l.map pkT) [32] by unfold prt; rw [if_neg (fun e => h0 (by have := HN.out; rw [e] at this; exact this.symm))])
    have h0' : ((n : Int) == 0) = false := by simpa using h0
    have HS := Lib.hid hs
    have HM := Lib.hid (show ∀ x ∈ l.map pkT, x.length ≤ 43 from fun x hx => by
      obtain ⟨y, hy, rfl⟩ := List.mem_map.1 hx
      exact pkT_len (hs y hy))
    clear hl hs
    go_enter Tryz.func98, Tryz.ntmps98
    have hbx := Box.new w (wdsC (l.map pkT) n 0) 9
    rw [wdsC_zero] at hbx
    have H0 := Lib.hid (PRel.mk (by rw [wdsC_zero]; exact hbx) (hw0.alloc (.cells (Array.replicate n (.string ⟨#[]⟩)) 9)) hw0.size : PRel w (l.map pkT) n w.heap.size 0 _)
    clear hbx
    go_wp2_with (refine makeStr _ _ rfl rfl n (by omega) rfl rfl ?_)
    generalize w.alloc (.cells (Array.replicate n (.string ⟨#[]⟩)) 9) = w2 at *
    have HWS := Lib.hid (show Bel w w2 from Bel.of H0.out.below)
    generalize hB : w.heap.size = B at *
    go_loopw [16] (fun t wr => ∃ i : Nat, i ≤ n ∧ t = .int .i64 i ∧ PRel w (l.map pkT) n B i wr) (fun t _ => n - (intOf t).toNat)
    case atStart => exact ⟨0, by omega, rfl, H0.out⟩
    case round =>
      obtain ⟨i, hi, rfl, hr⟩ := hrel
      have HR := Lib.hid hr
      clear hr H0
      by_cases hlt : i < n
      · obtain ⟨bb, off, e, rfl, hbb, he, hrg⟩ := HL.out.at_ hlt
        have hR := Lib.hid (rangeAt_below HR.out.below (hB ▸ hbb) hrg)
        have HE := Lib.hid he
        have HSM := Lib.hid (HS.out e (List.mem_of_getElem? he))
        have HEB := Lib.hid (show Bel wr _ from ewld_below wr e 107)
        clear he hrg hbb
        have hlt' : (i : Int) < n := by omega
        have HEX := Lib.hid (ewld_box wr e 107)
        go_wp2_with (first | (refine load_ev TFl _ rfl rfl rfl hR.out ?_) | (refine ewld_store TFl _ _ rfl rfl _ rfl rfl rfl ?_) | (refine loadB _ _ rfl rfl rfl HEX.out TFl ?_))
        refine (placeKind_any e HSM.out _).mono ?_
        rintro e5 w5 ⟨rfl, hb5⟩
        have hwb := HEB.out.call hb5
        have hbx := hwb.box HR.out.box
        have c1 := hbx.cell i (wdsC_get HN.out hlt)
        have g1 := hbx.frozen i
        have HB5 := Lib.hid ((Bel.of (w := w) HR.out.below).trans hwb)
        have HX5 := Lib.hid hbx
        clear hb5 hwb hbx
        go_wp2
        go_roundw
        case rel => exact ⟨i + 1, by omega, by go_num, ⟨by rw [← wdsC_set HN.out (map_at HE.out)]; exact HX5.out.set i _, HB5.out.out.setCell HR.out.ge _, HR.out.ge⟩⟩
        case measure => simp [intOf]; omega
      · obtain rfl : i = n := by omega
        have HB2 := Lib.hid HR.out.below
        go_wp2_with fail
        refine (wjoin_any _ i i (l.map pkT) 43 _ (WS.box HR.out.box HN.out) (Nat.le_refl _) HM.out (by omega)).mono ?_
        rintro e5 w5 ⟨rfl, hb5⟩
        go_wp2
        go_ret
        exact ⟨by rw [HP.out]; rfl, (Bel.of (w := w) HB2.out).call hb5⟩
set_option maxHeartbeats 8000000 in
theorem printed_int (A : Option Addr) (n c : Nat) (l : List Int) (w : World) (hl : SI w A n l) (hn : n ≤ 1000) (hs : ∀ x ∈ l, 0 ≤ x ∧ x < 100) :
    Calls Tryz.prog 110 #[.slice A n c, .func (.func 18) #[] #[]] w fun e w' => e = .returned (.string (str (prt (l.map Lib.itoa)))) ∧ Below w.heap.size w w' := by
  have HL := Lib.hid hl
  have hw0 : Bel w w := Bel.refl w
  have HN := Lib.hid (show (l.map Lib.itoa).length = n by rw [List.length_map]; exact hl.1)
  have EF : ∀ args w, (callFunc 18 args).run Tryz.prog w = .ok (.enter 18 args) w := enters_of Tryz.func18 (by kernel_rfl) rfl
  by_cases h0 : n = 0
  · have HP := Lib.hid (show prt (l.map Lib.itoa) = [45] by have := HN.out; rw [h0] at this; unfold prt; rw [if_pos (List.length_eq_zero_iff.1 this)])
    subst h0
    clear hl hs
    go_enter Tryz.func110, Tryz.ntmps110
    go_wp2
    go_ret
    exact ⟨by rw [HP.out]; rfl, hw0⟩
  · have HP := Lib.hid (show prt (l.map Lib.itoa) = Lib.join (l.map Lib.itoa) [32] by unfold prt; rw [if_neg (fun e => h0 (by have := HN.out; rw [e] at this; exact this.symm))])
    have h0' : ((n : Int) == 0) = false := by simpa using h0
    have HS := Lib.hid hs
    have HM := Lib.hid (show ∀ x ∈ l.map Lib.itoa, x.length ≤ 43 from fun x hx => by
      obtain ⟨y, hy, rfl⟩ := List.mem_map.1 hx
      exact inT_len (hs y hy))
    clear hl hs
    go_enter Tryz.func110, Tryz.ntmps110
    have hbx := Box.new w (wdsC (l.map Lib.itoa) n 0) 9
    rw [wdsC_zero] at hbx
    have H0 := Lib.hid (PRel.mk (by rw [wdsC_zero]; exact hbx) (hw0.alloc (.cells (Array.replicate n (.string ⟨#[]⟩)) 9)) hw0.size : PRel w (l.map Lib.itoa) n w.heap.size 0 _)
    clear hbx
    go_wp2_with (refine makeStr _ _ rfl rfl n (by omega) rfl rfl ?_)
    generalize w.alloc (.cells (Array.replicate n (.string ⟨#[]⟩)) 9) = w2 at *
    have HWS := Lib.hid (show Bel w w2 from Bel.of H0.out.below)
    generalize hB : w.heap.size = B at *
    go_loopw [16] (fun t wr => ∃ i : Nat, i ≤ n ∧ t = .int .i64 i ∧ PRel w (l.map Lib.itoa) n B i wr) (fun t _ => n - (intOf t).toNat)
    case atStart => exact ⟨0, by omega, rfl, H0.out⟩
    case round =>
      obtain ⟨i, hi, rfl, hr⟩ := hrel
      have HR := Lib.hid hr
      clear hr H0
      by_cases hlt : i < n
      · obtain ⟨bb, off, rfl, hcs⟩ := HL.out.2 (by omega)
        have he : l[i]? = some (l[i]?.getD 0) := by rw [List.getElem?_eq_getElem (show i < l.length by rw [HL.out.1]; exact hlt)]; rfl
        have hc0 := hcs i hlt
        generalize l[i]?.getD 0 = e at *
        have hc1 : wr.cell? ⟨bb, off + i, none⟩ = some (.int .i64 e) := si_later HL.out hlt he HR.out.below
        have HE := Lib.hid he
        have HSM := Lib.hid (HS.out e (List.mem_of_getElem? he))
        clear he
        have hlt' : (i : Int) < n := by omega
        go_wp2_with fail
        refine (itoa_s e HSM.out _).mono ?_
        rintro e5 w5 ⟨rfl, hb5⟩
        have hwb := (Bel.refl _).call hb5
        have hbx := hwb.box HR.out.box
        have c1 := hbx.cell i (wdsC_get HN.out hlt)
        have g1 := hbx.frozen i
        have HB5 := Lib.hid ((Bel.of (w := w) HR.out.below).trans hwb)
        have HX5 := Lib.hid hbx
        clear hb5 hwb hbx
        go_wp2
        go_roundw
        case rel => exact ⟨i + 1, by omega, by go_num, ⟨by rw [← wdsC_set HN.out (map_at HE.out)]; exact HX5.out.set i _, HB5.out.out.setCell HR.out.ge _, HR.out.ge⟩⟩
        case measure => simp [intOf]; omega
      · obtain rfl : i = n := by omega
        have HB2 := Lib.hid HR.out.below
        go_wp2_with fail
        refine (wjoin_any _ i i (l.map Lib.itoa) 43 _ (WS.box HR.out.box HN.out) (Nat.le_refl _) HM.out (by omega)).mono ?_
        rintro e5 w5 ⟨rfl, hb5⟩
        go_wp2
        go_ret
        exact ⟨by rw [HP.out]; rfl, (Bel.of (w := w) HB2.out).call hb5⟩
end Go.Proofs.YtnklpifnknmdgaaGreatDoor

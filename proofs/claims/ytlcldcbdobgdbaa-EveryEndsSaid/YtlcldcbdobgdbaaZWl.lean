import Derived.Deep.DeepCutAuto
import Derived.Test.YtlcldcbdobgdbaaZEs
import Derived.Test.YtlcldcbdobgdbaaZCm
import Derived.Test.YtlcldcbdobgdbaaZPr
import Derived.Test.YtlcldcbdobgdbaaZGrow
set_option linter.all false
set_option maxRecDepth 100000
namespace Go.Proofs.Ytlcldcbdobgdbaa
open Go Go.RowKit

theorem ltB_app : ∀ (a x y : List Int), ltB (a ++ x) (a ++ y) = ltB x y
  | [], _, _ => rfl
  | i :: a, x, y => by
    have := ltB_app a x y
    simp only [List.cons_append, ltB, this, Int.lt_irrefl, decide_false, Bool.false_or, decide_true, Bool.true_and]
theorem ltB_at : ∀ {x y : List Int} {i : Nat} {a b : Int}, (∀ j, j < i → x[j]? = y[j]?) → x[i]? = some a → y[i]? = some b → a ≠ b → ltB x y = decide (a < b)
  | [], _, _, _, _, _, h, _, _ => by simp at h
  | _ :: _, [], _, _, _, _, _, h, _ => by simp at h
  | p :: x, q :: y, 0, a, b, _, h1, h2, h => by
    simp only [List.getElem?_cons_zero, Option.some.injEq] at h1 h2
    subst h1 h2
    simp [ltB, h]
  | p :: x, q :: y, i + 1, a, b, hj, h1, h2, h => by
    have h0 := hj 0 (Nat.succ_pos i)
    simp only [List.getElem?_cons_zero, Option.some.injEq] at h0
    subst h0
    have := ltB_at (x := x) (y := y) (i := i) (fun j hl => by simpa using hj (j + 1) (by omega)) (by simpa using h1) (by simpa using h2) h
    simp only [ltB, this, Int.lt_irrefl, decide_false, Bool.false_or, decide_true, Bool.true_and]
def num18 (m v h : Nat → Int) : List Int := toL 8 m ++ toL 4 v ++ toL 6 h
theorem enK_num (m v h : Nat → Int) (d k : Bool) : enK (endc m v h d k).toArray = num18 m v h ++ [nb d] := rfl
theorem num_len (m v h : Nat → Int) : (num18 m v h).length = 18 := rfl
theorem enLt_at {m v h m' v' h' : Nat → Int} {d k d' k' : Bool} {i : Nat} (hj : ∀ j, j < i → (num18 m v h)[j]? = (num18 m' v' h')[j]?) {a b : Int} (h1 : (num18 m v h)[i]? = some a) (h2 : (num18 m' v' h')[i]? = some b) (hn : a ≠ b) :
    enLt (endc m v h d k).toArray (endc m' v' h' d' k').toArray = decide (a < b) := by
  unfold enLt
  rw [enK_num, enK_num]
  have hi : i < 18 := by rw [← num_len m v h]; exact (List.getElem?_eq_some_iff.1 h1).1
  refine ltB_at (i := i) (fun j hl => ?_) ?_ ?_ hn
  · rw [List.getElem?_append_left (by rw [num_len]; omega), List.getElem?_append_left (by rw [num_len]; omega)]; exact hj j hl
  · rw [List.getElem?_append_left (by rw [num_len]; omega)]; exact h1
  · rw [List.getElem?_append_left (by rw [num_len]; omega)]; exact h2
theorem enLt_same {m v h m' v' h' : Nat → Int} {d k d' k' : Bool} (hj : ∀ j, j < 18 → (num18 m v h)[j]? = (num18 m' v' h')[j]?) :
    enLt (endc m v h d k).toArray (endc m' v' h' d' k').toArray = (!d && d') := by
  unfold enLt
  rw [enK_num, enK_num]
  have e : num18 m v h = num18 m' v' h' := List.ext_getElem? fun j => by
    rcases Nat.lt_or_ge j 18 with g | g
    · exact hj j g
    · rw [List.getElem?_eq_none (by rw [num_len]; omega), List.getElem?_eq_none (by rw [num_len]; omega)]
  rw [e, ltB_app]
  cases d <;> cases d' <;> rfl
theorem src_part {w : World} {B o n : Nat} {c : Array Value} {t : TypeId} {f : Nat → Int} (hb : Box w B c t) (hc : ∀ i, i < n → c[o + i]? = some (.int .i64 (f i))) : Src w (some ⟨B, o, none⟩) n (intq (toL n f)) := by
  refine .inr ⟨_, rfl, fun j u hu => ?_⟩
  have hj : j < n := by have := (List.getElem?_eq_some_iff.1 hu).1; simpa [intq, toL] using this
  have : (⟨B, o, none⟩ : Addr).add j = ⟨B, o + j, none⟩ := by unfold Addr.add; split <;> simp_all
  rw [this]
  refine hb.cell _ ?_
  rw [hc j hj]
  unfold intq toL at hu
  rw [List.getElem?_map, List.getElem?_map, List.getElem?_range hj] at hu
  exact hu
theorem own_si {w : World} {base n : Nat} {v : Value} {l : List Int} (h : w.ownsRow base 3 1 v n (intq l)) (h0 : 0 < n) : ∃ g c, v = .slice (some ⟨g, 0, none⟩) n c ∧ n ≤ c ∧ (∀ j, j < n → w.cell? ⟨g, j, none⟩ = some (.int .i64 (l[j]?.getD 0))) := by
  have hl : l.length = n := by have := h.1; simp [intq] at this; omega
  rcases h.2 with ⟨_, h2⟩ | ⟨g, cap, cur, rfl, _, hb, hn, _, _, ht⟩
  · subst h2
    have := h.1
    simp at this
    omega
  · refine ⟨g, cap, rfl, hn, fun i hi => ?_⟩
    have hbx : Box w g cur 3 := hb
    refine hbx.cell i ?_
    have h1 : (intq l)[i]? = some (.int .i64 (l[i]?.getD 0)) := by unfold intq; rw [List.getElem?_map, List.getElem?_eq_getElem (by omega)]; rfl
    rw [← ht, List.getElem?_take, if_pos (by omega)] at h1
    simpa using h1
set_option maxHeartbeats 16000000 in
theorem endless_any (m v h m' v' h' : Nat → Int) (d k d' k' : Bool) (w : World) :
    Calls Try.prog 48 #[.agg (endc m v h d k).toArray, .agg (endc m' v' h' d' k').toArray] w fun e w' => e = .returned (.bool (enLt (endc m v h d k).toArray (endc m' v' h' d' k').toArray)) ∧ Below w.heap.size w w' := by
  obtain ⟨hb1, hb2, hb3, _⟩ := boxes2 w (endc m v h d k).toArray (endc m' v' h' d' k').toArray 33 33
  have HB1 := Lib.hid hb1
  have HB2 := Lib.hid hb2
  have HW0 := Lib.hid (show Bel w ((w.alloc (.cells (endc m v h d k).toArray 33)).alloc (.cells (endc m' v' h' d' k').toArray 33)) from hb3)
  have HNE := Lib.hid (show w.heap.size + 1 ≠ w.heap.size by omega)
  obtain ⟨i0, hi0, hz0, hz1, hz2⟩ := info_parts qint_info
  clear hb1 hb2 hb3
  go_enter Try.func48, Try.ntmps48
  go_upto_region 1 with fail
  generalize (w.alloc (.cells (endc m v h d k).toArray 33)).alloc (.cells (endc m' v' h' d' k').toArray 33) = w0 at *
  refine region_grow (by kernel_rfl) ?_
  (repeat (first | ((first | refine wpG_go 0 (by simp only [List.getElem?_toArray, List.getElem?_cons_zero, List.getElem?_cons_succ] <;> rfl) (by decide +kernel) (by decide +kernel) (by kernel_rfl) (by rfl) (by exact fun _ _ _ _ h => h) (Nat.le_refl _) ?_ | refine wpG_go 1 (by simp only [List.getElem?_toArray, List.getElem?_cons_zero, List.getElem?_cons_succ] <;> rfl) (by decide +kernel) (by decide +kernel) (by kernel_rfl) (by rfl) (by exact fun _ _ _ _ h => h) (Nat.le_refl _) ?_ | refine wpG_go 3 (by simp only [List.getElem?_toArray, List.getElem?_cons_zero, List.getElem?_cons_succ] <;> rfl) (by decide +kernel) (by decide +kernel) (by kernel_rfl) (by rfl) (by exact fun _ _ _ _ h => h) (Nat.le_refl _) ?_ | refine wpG_go 4 (by simp only [List.getElem?_toArray, List.getElem?_cons_zero, List.getElem?_cons_succ] <;> rfl) (by decide +kernel) (by decide +kernel) (by kernel_rfl) (by rfl) (by exact fun _ _ _ _ h => h) (Nat.le_refl _) ?_ | refine wpG_go 6 (by simp only [List.getElem?_toArray, List.getElem?_cons_zero, List.getElem?_cons_succ] <;> rfl) (by decide +kernel) (by decide +kernel) (by kernel_rfl) (by rfl) (by exact fun _ _ _ _ h => h) (Nat.le_refl _) ?_ | refine wpG_go 7 (by simp only [List.getElem?_toArray, List.getElem?_cons_zero, List.getElem?_cons_succ] <;> rfl) (by decide +kernel) (by decide +kernel) (by kernel_rfl) (by rfl) (by exact fun _ _ _ _ h => h) (Nat.le_refl _) ?_); apply Exists.intro; refine ⟨fun w1 h1 => ?_, ?_⟩; (first | exact g_move _ rfl | exact g_assign _ rfl | (go_simp; first | exact ⟨rfl, rfl⟩ | rfl)); simp only [Act.put, Act.eval, List.setIfInBounds_toArray, List.set_cons_zero, List.set_cons_succ, Array.getD_eq_getD_getElem?, List.getElem?_toArray, List.getElem?_cons_zero, List.getElem?_cons_succ, Option.getD_some]) | ((first | refine wpG_skip 0 (by simp only [List.getElem?_toArray, List.getElem?_cons_zero, List.getElem?_cons_succ] <;> rfl) (by decide +kernel) (by decide +kernel) (by kernel_rfl) (by rfl) (by exact fun _ _ _ _ h => h) (Nat.le_refl _) ?_ | refine wpG_skip 1 (by simp only [List.getElem?_toArray, List.getElem?_cons_zero, List.getElem?_cons_succ] <;> rfl) (by decide +kernel) (by decide +kernel) (by kernel_rfl) (by rfl) (by exact fun _ _ _ _ h => h) (Nat.le_refl _) ?_ | refine wpG_skip 3 (by simp only [List.getElem?_toArray, List.getElem?_cons_zero, List.getElem?_cons_succ] <;> rfl) (by decide +kernel) (by decide +kernel) (by kernel_rfl) (by rfl) (by exact fun _ _ _ _ h => h) (Nat.le_refl _) ?_ | refine wpG_skip 4 (by simp only [List.getElem?_toArray, List.getElem?_cons_zero, List.getElem?_cons_succ] <;> rfl) (by decide +kernel) (by decide +kernel) (by kernel_rfl) (by rfl) (by exact fun _ _ _ _ h => h) (Nat.le_refl _) ?_ | refine wpG_skip 6 (by simp only [List.getElem?_toArray, List.getElem?_cons_zero, List.getElem?_cons_succ] <;> rfl) (by decide +kernel) (by decide +kernel) (by kernel_rfl) (by rfl) (by exact fun _ _ _ _ h => h) (Nat.le_refl _) ?_ | refine wpG_skip 7 (by simp only [List.getElem?_toArray, List.getElem?_cons_zero, List.getElem?_cons_succ] <;> rfl) (by decide +kernel) (by decide +kernel) (by kernel_rfl) (by rfl) (by exact fun _ _ _ _ h => h) (Nat.le_refl _) ?_); simp only [Act.put, Act.eval, List.setIfInBounds_toArray, List.set_cons_zero, List.set_cons_succ, Array.getD_eq_getD_getElem?, List.getElem?_toArray, List.getElem?_cons_zero, List.getElem?_cons_succ, Option.getD_some])))
  have hC0 : Bel w0 w0 := Bel.refl _
  (refine wpG_one 2 (by decide +kernel) ?_; intro ya2 hya2; refine op_wanted (by simp only [List.getElem?_toArray, List.getElem?_cons_zero, List.getElem?_cons_succ] <;> rfl) rfl ?_)
  have hE2 := hC0.trans hya2
  refine wp_append_src (.const (.slice none 0 0)) (.tmp 9) 36 rfl w0.heap.size 3 i0 _ 1 8 Try.underlying36 hi0 hz0 hz1 hz2 rfl (by omega) (.slice none 0 0) 0 [] rfl (World.ownsRow_nil _ _ _ _) (some ⟨w.heap.size, 0, none⟩) 8 8 (intq (toL 8 m)) rfl rfl (src_part (hE2.box HB1.out) (fun i hi => by rw [endc_cell _ _ _ _ _ (by omega)]; unfold endF; rw [if_pos (by omega), Nat.zero_add])) (intq_one _) (by unfold maxLen; omega) (by omega) hE2.size ?_
  intro v2 ua2 ho2 hg2 hat2
  refine ⟨grown_below hg2 (World.ownsRow_nil ya2 w0.heap.size 3 1) (Nat.le_refl _) hE2.size, ?_⟩
  simp only [Act.put, Act.eval, List.setIfInBounds_toArray, List.set_cons_zero, List.set_cons_succ, Array.getD_eq_getD_getElem?, List.getElem?_toArray, List.getElem?_cons_zero, List.getElem?_cons_succ, Option.getD_some]
  have hC2 : Bel w0 ua2 := Bel.of (hE2.out.trans (grown_below hg2 (World.ownsRow_nil ya2 w0.heap.size 3 1) (Nat.le_refl _) hE2.size))
  rw [Nat.zero_add, List.nil_append] at ho2
  clear hg2 hat2
  (refine wpG_one 5 (by decide +kernel) ?_; intro ya5 hya5; refine op_wanted (by simp only [List.getElem?_toArray, List.getElem?_cons_zero, List.getElem?_cons_succ] <;> rfl) rfl ?_)
  have hE5 := hC2.trans hya5
  have ho2 := own_bel ho2 hya5
  refine wp_append_src (.tmp 10) (.tmp 12) 36 rfl w0.heap.size 3 i0 _ 1 8 Try.underlying36 hi0 hz0 hz1 hz2 rfl (by omega) _ 8 (intq (toL 8 m)) rfl ho2 (some ⟨w.heap.size, 8, none⟩) 4 4 (intq (toL 4 v)) rfl rfl (src_part (hE5.box HB1.out) (fun i hi => by rw [endc_cell _ _ _ _ _ (by omega)]; unfold endF; rw [if_neg (by omega), if_pos (by omega), Nat.add_sub_cancel_left])) (intq_one _) (by unfold maxLen; omega) (by omega) hE5.size ?_
  intro v5 ua5 ho5 hg5 hat5
  refine ⟨grown_below hg5 ho2 (Nat.le_refl _) hE5.size, ?_⟩
  simp only [Act.put, Act.eval, List.setIfInBounds_toArray, List.set_cons_zero, List.set_cons_succ, Array.getD_eq_getD_getElem?, List.getElem?_toArray, List.getElem?_cons_zero, List.getElem?_cons_succ, Option.getD_some]
  have hC5 : Bel w0 ua5 := Bel.of (hE5.out.trans (grown_below hg5 ho2 (Nat.le_refl _) hE5.size))
  rw [← intq_app] at ho5
  clear hg5 hat5
  (refine wpG_one 8 (by decide +kernel) ?_; intro ya8 hya8; refine op_wanted (by simp only [List.getElem?_toArray, List.getElem?_cons_zero, List.getElem?_cons_succ] <;> rfl) rfl ?_)
  have hE8 := hC5.trans hya8
  have ho5 := own_bel ho5 hya8
  refine wp_append_src (.tmp 13) (.tmp 15) 36 rfl w0.heap.size 3 i0 _ 1 8 Try.underlying36 hi0 hz0 hz1 hz2 rfl (by omega) _ 12 (intq ((toL 8 m) ++ toL 4 v)) rfl ho5 (some ⟨w.heap.size, 12, none⟩) 6 6 (intq (toL 6 h)) rfl rfl (src_part (hE8.box HB1.out) (fun i hi => by rw [endc_cell _ _ _ _ _ (by omega)]; unfold endF; rw [if_neg (by omega), if_neg (by omega), if_pos (by omega), Nat.add_sub_cancel_left])) (intq_one _) (by unfold maxLen; omega) (by omega) hE8.size ?_
  intro v8 ua8 ho8 hg8 hat8
  refine ⟨grown_below hg8 ho5 (Nat.le_refl _) hE8.size, ?_⟩
  simp only [Act.put, Act.eval, List.setIfInBounds_toArray, List.set_cons_zero, List.set_cons_succ, Array.getD_eq_getD_getElem?, List.getElem?_toArray, List.getElem?_cons_zero, List.getElem?_cons_succ, Option.getD_some]
  have hC8 : Bel w0 ua8 := Bel.of (hE8.out.trans (grown_below hg8 ho5 (Nat.le_refl _) hE8.size))
  rw [← intq_app] at ho8
  clear hg8 hat8
  (repeat (first | ((first | refine wpG_go 9 (by simp only [List.getElem?_toArray, List.getElem?_cons_zero, List.getElem?_cons_succ] <;> rfl) (by decide +kernel) (by decide +kernel) (by kernel_rfl) (by rfl) (by exact fun _ _ _ _ h => h) hC8.size ?_); apply Exists.intro; refine ⟨fun w1 h1 => ?_, ?_⟩; (first | exact g_move _ rfl | exact g_assign _ rfl | (go_simp; first | exact ⟨rfl, rfl⟩ | rfl)); simp only [Act.put, Act.eval, List.setIfInBounds_toArray, List.set_cons_zero, List.set_cons_succ, Array.getD_eq_getD_getElem?, List.getElem?_toArray, List.getElem?_cons_zero, List.getElem?_cons_succ, Option.getD_some]) | ((first | refine wpG_skip 9 (by simp only [List.getElem?_toArray, List.getElem?_cons_zero, List.getElem?_cons_succ] <;> rfl) (by decide +kernel) (by decide +kernel) (by kernel_rfl) (by rfl) (by exact fun _ _ _ _ h => h) hC8.size ?_); simp only [Act.put, Act.eval, List.setIfInBounds_toArray, List.set_cons_zero, List.set_cons_succ, Array.getD_eq_getD_getElem?, List.getElem?_toArray, List.getElem?_cons_zero, List.getElem?_cons_succ, Option.getD_some])))
  (refine wpG_done (by decide +kernel) ?_ _; intro wa hwa; try simp only [Act.put, Act.eval, List.setIfInBounds_toArray, List.set_cons_zero, List.set_cons_succ, Array.getD_eq_getD_getElem?, List.getElem?_toArray, List.getElem?_cons_zero, List.getElem?_cons_succ, Option.getD_some])
  obtain ⟨ga, ca, rfl, hca, hxa⟩ := own_si (n := 18) (own_bel ho8 hwa) (by omega)
  have HXA := Lib.hid hxa
  have HCA := Lib.hid hca
  have HWA := Lib.hid (hC8.trans hwa)
  clear hxa hca hC0 hC2 hC5 hC8 hE2 hE5 hE8 hya2 hya5 hya8 ho2 ho5 ho8 hwa
  have HB2a := Lib.hid (HWA.out.box HB2.out)
  go_upto_region 2 with fail
  refine region_grow (by kernel_rfl) ?_
  (repeat (first | ((first | refine wpG_go 0 (by simp only [List.getElem?_toArray, List.getElem?_cons_zero, List.getElem?_cons_succ] <;> rfl) (by decide +kernel) (by decide +kernel) (by kernel_rfl) (by rfl) (by exact fun _ _ _ _ h => h) (Nat.le_refl _) ?_ | refine wpG_go 1 (by simp only [List.getElem?_toArray, List.getElem?_cons_zero, List.getElem?_cons_succ] <;> rfl) (by decide +kernel) (by decide +kernel) (by kernel_rfl) (by rfl) (by exact fun _ _ _ _ h => h) (Nat.le_refl _) ?_ | refine wpG_go 3 (by simp only [List.getElem?_toArray, List.getElem?_cons_zero, List.getElem?_cons_succ] <;> rfl) (by decide +kernel) (by decide +kernel) (by kernel_rfl) (by rfl) (by exact fun _ _ _ _ h => h) (Nat.le_refl _) ?_ | refine wpG_go 4 (by simp only [List.getElem?_toArray, List.getElem?_cons_zero, List.getElem?_cons_succ] <;> rfl) (by decide +kernel) (by decide +kernel) (by kernel_rfl) (by rfl) (by exact fun _ _ _ _ h => h) (Nat.le_refl _) ?_ | refine wpG_go 6 (by simp only [List.getElem?_toArray, List.getElem?_cons_zero, List.getElem?_cons_succ] <;> rfl) (by decide +kernel) (by decide +kernel) (by kernel_rfl) (by rfl) (by exact fun _ _ _ _ h => h) (Nat.le_refl _) ?_ | refine wpG_go 7 (by simp only [List.getElem?_toArray, List.getElem?_cons_zero, List.getElem?_cons_succ] <;> rfl) (by decide +kernel) (by decide +kernel) (by kernel_rfl) (by rfl) (by exact fun _ _ _ _ h => h) (Nat.le_refl _) ?_); apply Exists.intro; refine ⟨fun w1 h1 => ?_, ?_⟩; (first | exact g_move _ rfl | exact g_assign _ rfl | (go_simp; first | exact ⟨rfl, rfl⟩ | rfl)); simp only [Act.put, Act.eval, List.setIfInBounds_toArray, List.set_cons_zero, List.set_cons_succ, Array.getD_eq_getD_getElem?, List.getElem?_toArray, List.getElem?_cons_zero, List.getElem?_cons_succ, Option.getD_some]) | ((first | refine wpG_skip 0 (by simp only [List.getElem?_toArray, List.getElem?_cons_zero, List.getElem?_cons_succ] <;> rfl) (by decide +kernel) (by decide +kernel) (by kernel_rfl) (by rfl) (by exact fun _ _ _ _ h => h) (Nat.le_refl _) ?_ | refine wpG_skip 1 (by simp only [List.getElem?_toArray, List.getElem?_cons_zero, List.getElem?_cons_succ] <;> rfl) (by decide +kernel) (by decide +kernel) (by kernel_rfl) (by rfl) (by exact fun _ _ _ _ h => h) (Nat.le_refl _) ?_ | refine wpG_skip 3 (by simp only [List.getElem?_toArray, List.getElem?_cons_zero, List.getElem?_cons_succ] <;> rfl) (by decide +kernel) (by decide +kernel) (by kernel_rfl) (by rfl) (by exact fun _ _ _ _ h => h) (Nat.le_refl _) ?_ | refine wpG_skip 4 (by simp only [List.getElem?_toArray, List.getElem?_cons_zero, List.getElem?_cons_succ] <;> rfl) (by decide +kernel) (by decide +kernel) (by kernel_rfl) (by rfl) (by exact fun _ _ _ _ h => h) (Nat.le_refl _) ?_ | refine wpG_skip 6 (by simp only [List.getElem?_toArray, List.getElem?_cons_zero, List.getElem?_cons_succ] <;> rfl) (by decide +kernel) (by decide +kernel) (by kernel_rfl) (by rfl) (by exact fun _ _ _ _ h => h) (Nat.le_refl _) ?_ | refine wpG_skip 7 (by simp only [List.getElem?_toArray, List.getElem?_cons_zero, List.getElem?_cons_succ] <;> rfl) (by decide +kernel) (by decide +kernel) (by kernel_rfl) (by rfl) (by exact fun _ _ _ _ h => h) (Nat.le_refl _) ?_); simp only [Act.put, Act.eval, List.setIfInBounds_toArray, List.set_cons_zero, List.set_cons_succ, Array.getD_eq_getD_getElem?, List.getElem?_toArray, List.getElem?_cons_zero, List.getElem?_cons_succ, Option.getD_some])))
  have hC0 : Bel wa wa := Bel.refl _
  (refine wpG_one 2 (by decide +kernel) ?_; intro yb2 hyb2; refine op_wanted (by simp only [List.getElem?_toArray, List.getElem?_cons_zero, List.getElem?_cons_succ] <;> rfl) rfl ?_)
  have hE2 := hC0.trans hyb2
  refine wp_append_src (.const (.slice none 0 0)) (.tmp 18) 36 rfl wa.heap.size 3 i0 _ 1 8 Try.underlying36 hi0 hz0 hz1 hz2 rfl (by omega) (.slice none 0 0) 0 [] rfl (World.ownsRow_nil _ _ _ _) (some ⟨w.heap.size + 1, 0, none⟩) 8 8 (intq (toL 8 m')) rfl rfl (src_part (hE2.box HB2a.out) (fun i hi => by rw [endc_cell _ _ _ _ _ (by omega)]; unfold endF; rw [if_pos (by omega), Nat.zero_add])) (intq_one _) (by unfold maxLen; omega) (by omega) hE2.size ?_
  intro v2 ub2 ho2 hg2 hat2
  refine ⟨grown_below hg2 (World.ownsRow_nil yb2 wa.heap.size 3 1) (Nat.le_refl _) hE2.size, ?_⟩
  simp only [Act.put, Act.eval, List.setIfInBounds_toArray, List.set_cons_zero, List.set_cons_succ, Array.getD_eq_getD_getElem?, List.getElem?_toArray, List.getElem?_cons_zero, List.getElem?_cons_succ, Option.getD_some]
  have hC2 : Bel wa ub2 := Bel.of (hE2.out.trans (grown_below hg2 (World.ownsRow_nil yb2 wa.heap.size 3 1) (Nat.le_refl _) hE2.size))
  rw [Nat.zero_add, List.nil_append] at ho2
  clear hg2 hat2
  (refine wpG_one 5 (by decide +kernel) ?_; intro yb5 hyb5; refine op_wanted (by simp only [List.getElem?_toArray, List.getElem?_cons_zero, List.getElem?_cons_succ] <;> rfl) rfl ?_)
  have hE5 := hC2.trans hyb5
  have ho2 := own_bel ho2 hyb5
  refine wp_append_src (.tmp 19) (.tmp 21) 36 rfl wa.heap.size 3 i0 _ 1 8 Try.underlying36 hi0 hz0 hz1 hz2 rfl (by omega) _ 8 (intq (toL 8 m')) rfl ho2 (some ⟨w.heap.size + 1, 8, none⟩) 4 4 (intq (toL 4 v')) rfl rfl (src_part (hE5.box HB2a.out) (fun i hi => by rw [endc_cell _ _ _ _ _ (by omega)]; unfold endF; rw [if_neg (by omega), if_pos (by omega), Nat.add_sub_cancel_left])) (intq_one _) (by unfold maxLen; omega) (by omega) hE5.size ?_
  intro v5 ub5 ho5 hg5 hat5
  refine ⟨grown_below hg5 ho2 (Nat.le_refl _) hE5.size, ?_⟩
  simp only [Act.put, Act.eval, List.setIfInBounds_toArray, List.set_cons_zero, List.set_cons_succ, Array.getD_eq_getD_getElem?, List.getElem?_toArray, List.getElem?_cons_zero, List.getElem?_cons_succ, Option.getD_some]
  have hC5 : Bel wa ub5 := Bel.of (hE5.out.trans (grown_below hg5 ho2 (Nat.le_refl _) hE5.size))
  rw [← intq_app] at ho5
  clear hg5 hat5
  (refine wpG_one 8 (by decide +kernel) ?_; intro yb8 hyb8; refine op_wanted (by simp only [List.getElem?_toArray, List.getElem?_cons_zero, List.getElem?_cons_succ] <;> rfl) rfl ?_)
  have hE8 := hC5.trans hyb8
  have ho5 := own_bel ho5 hyb8
  refine wp_append_src (.tmp 22) (.tmp 24) 36 rfl wa.heap.size 3 i0 _ 1 8 Try.underlying36 hi0 hz0 hz1 hz2 rfl (by omega) _ 12 (intq ((toL 8 m') ++ toL 4 v')) rfl ho5 (some ⟨w.heap.size + 1, 12, none⟩) 6 6 (intq (toL 6 h')) rfl rfl (src_part (hE8.box HB2a.out) (fun i hi => by rw [endc_cell _ _ _ _ _ (by omega)]; unfold endF; rw [if_neg (by omega), if_neg (by omega), if_pos (by omega), Nat.add_sub_cancel_left])) (intq_one _) (by unfold maxLen; omega) (by omega) hE8.size ?_
  intro v8 ub8 ho8 hg8 hat8
  refine ⟨grown_below hg8 ho5 (Nat.le_refl _) hE8.size, ?_⟩
  simp only [Act.put, Act.eval, List.setIfInBounds_toArray, List.set_cons_zero, List.set_cons_succ, Array.getD_eq_getD_getElem?, List.getElem?_toArray, List.getElem?_cons_zero, List.getElem?_cons_succ, Option.getD_some]
  have hC8 : Bel wa ub8 := Bel.of (hE8.out.trans (grown_below hg8 ho5 (Nat.le_refl _) hE8.size))
  rw [← intq_app] at ho8
  clear hg8 hat8
  (repeat (first | ((first | refine wpG_go 9 (by simp only [List.getElem?_toArray, List.getElem?_cons_zero, List.getElem?_cons_succ] <;> rfl) (by decide +kernel) (by decide +kernel) (by kernel_rfl) (by rfl) (by exact fun _ _ _ _ h => h) hC8.size ?_); apply Exists.intro; refine ⟨fun w1 h1 => ?_, ?_⟩; (first | exact g_move _ rfl | exact g_assign _ rfl | (go_simp; first | exact ⟨rfl, rfl⟩ | rfl)); simp only [Act.put, Act.eval, List.setIfInBounds_toArray, List.set_cons_zero, List.set_cons_succ, Array.getD_eq_getD_getElem?, List.getElem?_toArray, List.getElem?_cons_zero, List.getElem?_cons_succ, Option.getD_some]) | ((first | refine wpG_skip 9 (by simp only [List.getElem?_toArray, List.getElem?_cons_zero, List.getElem?_cons_succ] <;> rfl) (by decide +kernel) (by decide +kernel) (by kernel_rfl) (by rfl) (by exact fun _ _ _ _ h => h) hC8.size ?_); simp only [Act.put, Act.eval, List.setIfInBounds_toArray, List.set_cons_zero, List.set_cons_succ, Array.getD_eq_getD_getElem?, List.getElem?_toArray, List.getElem?_cons_zero, List.getElem?_cons_succ, Option.getD_some])))
  (refine wpG_done (by decide +kernel) ?_ _; intro wb hwb; try simp only [Act.put, Act.eval, List.setIfInBounds_toArray, List.set_cons_zero, List.set_cons_succ, Array.getD_eq_getD_getElem?, List.getElem?_toArray, List.getElem?_cons_zero, List.getElem?_cons_succ, Option.getD_some])
  obtain ⟨gb, cb, rfl, hcb, hxb⟩ := own_si (n := 18) (own_bel ho8 hwb) (by omega)
  have HWB := Lib.hid (hC8.trans hwb)
  have HXB := Lib.hid hxb
  have HCB := Lib.hid hcb
  have HXA2 := Lib.hid (fun (w9 : World) (h9 : Bel wb w9) (j : Nat) (hj : j < 18) => And.intro (h9.cell (HWB.out.cell (HXA.out j hj))) (h9.cell (HXB.out j hj)))
  have HB1b := Lib.hid (HWB.out.box (HWA.out.box HB1.out))
  have HB2b := Lib.hid (HWB.out.box HB2a.out)
  have HWW := Lib.hid (HW0.out.trans (HWA.out.trans HWB.out))
  clear hxb hcb hC0 hC2 hC5 hC8 hE2 hE5 hE8 hyb2 hyb5 hyb8 ho2 ho5 ho8 hwb
  have hca18 : (18 : Int) ≤ ca := by have := HCA.out; omega
  have hcb18 : (18 : Int) ≤ cb := by have := HCB.out; omega
  go_wp2_with fail
  go_loopw [28] (fun t wr => ∃ i : Nat, i ≤ 18 ∧ t = .int .i64 i ∧ (∀ j, j < i → (num18 m v h)[j]? = (num18 m' v' h')[j]?) ∧ Bel wb wr) (fun t _ => 18 - (intOf t).toNat)
  case atStart => exact ⟨0, by omega, rfl, fun j h => by omega, Bel.refl _⟩
  case round =>
    obtain ⟨i, hi, rfl, hd, hbr⟩ := hrel
    have HD := Lib.hid hd
    have HB := Lib.hid hbr
    clear hd hbr
    by_cases hlt : i < 18
    · have hlt' : (i : Int) < 18 := by omega
      have hA := List.getElem?_eq_getElem (show i < (num18 m v h).length from hlt)
      have hB := List.getElem?_eq_getElem (show i < (num18 m' v' h').length from hlt)
      generalize hpa : (num18 m v h)[i]'hlt = pa at *
      generalize hpb : (num18 m' v' h')[i]'hlt = pb at *
      clear hpa hpb
      have FF := fun (w9 : World) (h9 : Bel wr w9) => (show w9.cell? ⟨ga, i, none⟩ = some (.int .i64 pa) ∧ w9.cell? ⟨gb, i, none⟩ = some (.int .i64 pb) by
        have := HXA2.out w9 (HB.out.trans h9) i hlt
        have e1 : (num18 m v h)[i]?.getD 0 = pa := by rw [hA]; rfl
        have e2 : (num18 m' v' h')[i]?.getD 0 = pb := by rw [hB]; rfl
        exact ⟨this.1.trans (congrArg (fun x => some (Value.int .i64 x)) e1), this.2.trans (congrArg (fun x => some (Value.int .i64 x)) e2)⟩)
      have HFF := Lib.hid FF
      have HAB := Lib.hid (And.intro hA hB)
      clear hA hB FF
      go_upto_region 6 with fail
      (refine region_bel (by kernel_rfl) (by kernel_rfl) ?_; (repeat (first | ((with_reducible refine BigFrame.wpQuiet_skip ?_ ?_); exact rfl; simp only [Act.put, Act.eval, List.setIfInBounds_toArray, List.set_cons_zero, List.set_cons_succ, Array.getD_eq_getD_getElem?, List.getElem?_toArray, List.getElem?_cons_zero, List.getElem?_cons_succ, Option.getD_some]) | (refine q_move _ rfl rfl ?_; simp only [Act.put, Act.eval, List.setIfInBounds_toArray, List.set_cons_zero, List.set_cons_succ, Array.getD_eq_getD_getElem?, List.getElem?_toArray, List.getElem?_cons_zero, List.getElem?_cons_succ, Option.getD_some]) | (refine q_assign _ rfl rfl ?_; simp only [Act.put, Act.eval, List.setIfInBounds_toArray, List.set_cons_zero, List.set_cons_succ, Array.getD_eq_getD_getElem?, List.getElem?_toArray, List.getElem?_cons_zero, List.getElem?_cons_succ, Option.getD_some]) | (refine q_any rfl ?_; apply Exists.intro; refine ⟨fun w hw => ?_, ?_⟩; (have fct0 := HFF.out w hw; go_simp; first | exact ⟨rfl, rfl⟩ | rfl); simp only [Act.put, Act.eval, List.setIfInBounds_toArray, List.set_cons_zero, List.set_cons_succ, Array.getD_eq_getD_getElem?, List.getElem?_toArray, List.getElem?_cons_zero, List.getElem?_cons_succ, Option.getD_some]))); refine wpQuiet_nil ?_; intro w2 hw2)
      cases hne : (pa != pb)
      · have HE := Lib.hid (show pa = pb by simpa using hne)
        have HDN := Lib.hid (show ∀ j, j < i + 1 → (num18 m v h)[j]? = (num18 m' v' h')[j]? from fun j hj => by
          rcases Nat.lt_succ_iff_lt_or_eq.1 hj with hj | rfl
          · exact HD.out j hj
          · rw [HAB.out.1, HAB.out.2, HE.out])
        have HB2 := Lib.hid (HB.out.trans hw2)
        clear hne hw2
        go_wp2
        go_roundw
        case rel => exact ⟨i + 1, by omega, by go_num, HDN.out, HB2.out⟩
        case measure => simp [intOf]; omega
      · have HE := Lib.hid (show enLt (endc m v h d k).toArray (endc m' v' h' d' k').toArray = decide (pa < pb) from enLt_at HD.out HAB.out.1 HAB.out.2 (by simpa using hne))
        have HB2 := Lib.hid (HB.out.trans hw2)
        have HFF2 := Lib.hid (fun (w9 : World) (h9 : Bel w2 w9) => HFF.out w9 (hw2.trans h9))
        clear hne hw2
        go_upto_region 7 with fail
        (refine region_bel (by kernel_rfl) (by kernel_rfl) ?_; (repeat (first | ((with_reducible refine BigFrame.wpQuiet_skip ?_ ?_); exact rfl; simp only [Act.put, Act.eval, List.setIfInBounds_toArray, List.set_cons_zero, List.set_cons_succ, Array.getD_eq_getD_getElem?, List.getElem?_toArray, List.getElem?_cons_zero, List.getElem?_cons_succ, Option.getD_some]) | (refine q_move _ rfl rfl ?_; simp only [Act.put, Act.eval, List.setIfInBounds_toArray, List.set_cons_zero, List.set_cons_succ, Array.getD_eq_getD_getElem?, List.getElem?_toArray, List.getElem?_cons_zero, List.getElem?_cons_succ, Option.getD_some]) | (refine q_assign _ rfl rfl ?_; simp only [Act.put, Act.eval, List.setIfInBounds_toArray, List.set_cons_zero, List.set_cons_succ, Array.getD_eq_getD_getElem?, List.getElem?_toArray, List.getElem?_cons_zero, List.getElem?_cons_succ, Option.getD_some]) | (refine q_any rfl ?_; apply Exists.intro; refine ⟨fun w hw => ?_, ?_⟩; (have fct0 := HFF2.out w hw; go_simp; first | exact ⟨rfl, rfl⟩ | rfl); simp only [Act.put, Act.eval, List.setIfInBounds_toArray, List.set_cons_zero, List.set_cons_succ, Array.getD_eq_getD_getElem?, List.getElem?_toArray, List.getElem?_cons_zero, List.getElem?_cons_succ, Option.getD_some]))); refine wpQuiet_nil ?_; intro w2 hw2)
        have HB3 := Lib.hid (HB2.out.trans hw2)
        clear hw2
        go_wp2
        go_ret
        exact ⟨by rw [HE.out]; rfl, (HWW.out.trans HB3.out).out⟩
    · obtain rfl : i = 18 := by omega
      have HE := Lib.hid (show enLt (endc m v h d k).toArray (endc m' v' h' d' k').toArray = (!d && d') from enLt_same HD.out)
      have c1 := (HB.out.box HB1b.out).cell 18 (v := .bool d) rfl
      have c2 := (HB.out.box HB2b.out).cell 18 (v := .bool d') rfl
      cases d
      · go_wp2
        go_ret
        exact ⟨by rw [HE.out]; rfl, (HWW.out.trans HB.out).out⟩
      · go_wp2
        go_ret
        exact ⟨by rw [HE.out]; rfl, (HWW.out.trans HB.out).out⟩
end Go.Proofs.Ytlcldcbdobgdbaa

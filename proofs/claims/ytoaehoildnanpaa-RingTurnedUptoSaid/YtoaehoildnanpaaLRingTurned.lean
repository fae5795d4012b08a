/- 'deadheatkeep.RingTurned' returns true, and leaves its arguments as they are, for every number and every list of pairs that come to at most 1048576 values together: nothing else is asked. -/
import Derived.Test.YtoaehoildnanpaaKeepRg
import Derived.Test.YtoaehoildnanpaaRgK
import Derived.Deep.CondSized
set_option linter.all false
set_option maxRecDepth 100000
namespace Go.Proofs.Ytoaehoildnanpaa.LRingTurned
open Go Go.ChangeShapes Go.WideShapes Go.ChangeAt Go.RowKit

theorem SlQ.drop {w : World} {A : Option Addr} {n : Nat} {l : List (Int × Int)} (h : SlQ w A n l) {j c : Nat} (hj : j ≤ n) (hc : n ≤ c) : SlQ w (if c = j then A else Option.map (fun x => x.add (j * 2)) A) (n - j) (l.drop j) := by
  refine ⟨by rw [List.length_drop, h.1], fun h0 => ?_⟩
  obtain ⟨b, off, rfl, hlt, hr⟩ := h.2 (by omega)
  rw [if_neg (by omega)]
  refine ⟨b, off + j * 2, ?_, hlt, fun i v hv => ?_⟩
  · simp only [Option.map_some]
    congr 1
    unfold Addr.add; split <;> simp_all
  · have hl : (qrc (l.take j)).length = j * 2 := by rw [qrc_length, List.length_take, h.1]; omega
    have := hr (j * 2 + i) v (by
      conv => lhs; rw [← List.take_append_drop j l]
      rw [qrc_append, List.getElem?_append_right (by omega), hl, show j * 2 + i - j * 2 = i by omega]
      exact hv)
    rw [Nat.add_assoc]; exact this
theorem SlQ.src {w : World} {A : Option Addr} {n : Nat} {l : List (Int × Int)} (h : SlQ w A n l) : Src w A n (qrc l) := by
  rcases Nat.eq_zero_or_pos n with h0 | h0
  · have hl : l = [] := List.eq_nil_of_length_eq_zero (by rw [h.1, h0])
    subst hl
    cases A with
    | none => exact .inl ⟨rfl, h0, rfl⟩
    | some ad => exact .inr ⟨ad, rfl, fun j u hu => by simp [qrc] at hu⟩
  · obtain ⟨b, off, rfl, _, hr⟩ := h.2 h0
    refine .inr ⟨_, rfl, fun j u hu => ?_⟩
    have e : (⟨b, off, none⟩ : Addr).add j = ⟨b, off + j, none⟩ := by unfold Addr.add; split <;> simp_all
    rw [e]; exact hr j u hu
theorem qrc_one (l : List (Int × Int)) : ∀ u ∈ qrc l, u.oneCell' = true := by
  induction l with
  | nil => intro u hu; cases hu
  | cons p l ih =>
    intro u hu
    simp only [qrc, List.mem_cons] at hu
    rcases hu with rfl | rfl | hu
    · rfl
    · rfl
    · exact ih u hu
def turn (q : List (Int × Int)) (i : Nat) : List (Int × Int) := q.drop i ++ q.take i ++ q.drop i
theorem turn_mem (q : List (Int × Int)) (i : Nat) (x : Int × Int) : x ∈ turn q i ↔ x ∈ q := by
  unfold turn
  constructor
  · intro h
    rcases List.mem_append.1 h with h | h
    · rcases List.mem_append.1 h with h | h
      · exact List.mem_of_mem_drop h
      · exact List.mem_of_mem_take h
    · exact List.mem_of_mem_drop h
  · intro h
    rw [← List.take_append_drop i q] at h
    rcases List.mem_append.1 h with h | h
    · exact List.mem_append.2 (.inl (List.mem_append.2 (.inr h)))
    · exact List.mem_append.2 (.inr h)
theorem turn_pq (q : List (Int × Int)) (i : Nat) : Pq (turn q i) = Pq q := by
  funext a b
  unfold Pq
  rw [Bool.eq_iff_iff, decide_eq_true_iff, decide_eq_true_iff]
  exact turn_mem q i _
theorem turn_in {q : List (Int × Int)} (h : q.any qbad = false) (i : Nat) : (turn q i).any qbad = false := by
  rw [List.any_eq_false] at h ⊢
  exact fun x hx => h x ((turn_mem q i x).1 hx)
theorem rankB_turn {q : List (Int × Int)} {i : Nat} {r s : List Nat} {c d : Int} (h : q.any qbad = false) (h1 : RankB q r c) (h2 : RankB (turn q i) s d) : r = s ∧ c = d := by
  refine rankB_uniq h1 ?_
  unfold RankB at h2 ⊢
  rw [turn_pq, turn_in h i] at h2
  rw [h]; exact h2
set_option maxHeartbeats 8000000 in
theorem walkH (HR : RingC) (HQ : RankC) (W : World) (A : Option Addr) (n c : Nat) (l : List (Int × Int)) (s : SlQ W A n l) (m : n ≤ c) (x : c ≤ maxLen) (g : ∀ e ∈ l, QrOk e) (y : n ≤ 1048576) (a : Int) (k : In64 a) :
    Calls Try.prog 11 #[.slice A n c, .int .i64 a] W fun e w' => e = .returned (.bool true) ∧ Below W.heap.size W w' := by
  have HL := Lib.hid s
  have HRC := Lib.hid HR
  have HQC := Lib.hid HQ
  have HG := Lib.hid g
  have HK := Lib.hid k
  clear m x s HR g k HQ
  have hn : (n : Int) ≤ 8796093022207 := by omega
  obtain ⟨i, hi⟩ := Int.eq_ofNat_of_zero_le (Int.emod_nonneg a (show (n : Int) + 1 ≠ 0 by omega))
  have hin : i ≤ n := by have := Int.emod_lt_of_pos a (show 0 < (n : Int) + 1 by omega); omega
  have HI := Lib.hid hi
  clear hi
  obtain ⟨i0, hi0, hz0, hz1, hz2⟩ := info_parts pr_info
  have J := Lib.hid (And.intro hi0 (And.intro hz0 (And.intro hz1 hz2)))
  clear hi0 hz0 hz1 hz2
  go_enter Try.func11, Try.ntmps11
  go_wp2_with fail
  refine (ringed_any HRC.out W).mono ?_
  rintro e w1 ⟨rfl, hb1⟩
  have HW1 := Lib.hid (Bel.of hb1)
  clear hb1
  go_wp2_with fail
  refine (locks_any A n c l w1 (HL.out.bel HW1.out) (by omega) HG.out).mono ?_
  rintro e w2 ⟨v2, rfl, ho2, hb2⟩
  rw [HL.out.1] at ho2
  obtain ⟨A2, c2, rfl, hs2, hm2, hx2⟩ := SlQ.own ho2
  have HS2 := Lib.hid hs2
  have HX2 := Lib.hid (And.intro hm2 hx2)
  have HW2 := Lib.hid (HW1.out.call hb2)
  have HIN := Lib.hid (lk_in l)
  clear ho2 hs2 hb2
  generalize l.map lk = q at *
  go_wp2_with fail
  refine (rest_any a _ HK.out (by omega) (by omega) _).mono ?_
  rintro e w3 ⟨rfl, rfl⟩
  rw [HI.out]
  have hic : (i : Int) ≤ c2 := by omega
  have hin' : (i : Int) ≤ n := by omega
  have hnc : (n : Int) ≤ c2 := by omega
  go_wp2_with fail
  refine region_grow (by kernel_rfl) ?_
  (repeat (first | (refine wpG_go 0 (by simp only [List.getElem?_toArray, List.getElem?_cons_zero, List.getElem?_cons_succ] <;> rfl) (by decide +kernel) (by decide +kernel) (by kernel_rfl) (by rfl) (by exact fun _ _ _ _ h => h) (Nat.le_refl _) ?_; apply Exists.intro; refine ⟨fun w1 h1 => ?_, ?_⟩; (first | exact g_move _ rfl | exact g_assign _ rfl | (go_simp; first | exact ⟨rfl, rfl⟩ | rfl)); simp only [Act.put, Act.eval, List.setIfInBounds_toArray, List.set_cons_zero, List.set_cons_succ, Array.getD_eq_getD_getElem?, List.getElem?_toArray, List.getElem?_cons_zero, List.getElem?_cons_succ, Option.getD_some]) | (refine wpG_go 1 (by simp only [List.getElem?_toArray, List.getElem?_cons_zero, List.getElem?_cons_succ] <;> rfl) (by decide +kernel) (by decide +kernel) (by kernel_rfl) (by rfl) (by exact fun _ _ _ _ h => h) (Nat.le_refl _) ?_; apply Exists.intro; refine ⟨fun w1 h1 => ?_, ?_⟩; (first | exact g_move _ rfl | exact g_assign _ rfl | (go_simp; first | exact ⟨rfl, rfl⟩ | rfl)); simp only [Act.put, Act.eval, List.setIfInBounds_toArray, List.set_cons_zero, List.set_cons_succ, Array.getD_eq_getD_getElem?, List.getElem?_toArray, List.getElem?_cons_zero, List.getElem?_cons_succ, Option.getD_some]) | (refine wpG_go 2 (by simp only [List.getElem?_toArray, List.getElem?_cons_zero, List.getElem?_cons_succ] <;> rfl) (by decide +kernel) (by decide +kernel) (by kernel_rfl) (by rfl) (by exact fun _ _ _ _ h => h) (Nat.le_refl _) ?_; apply Exists.intro; refine ⟨fun w1 h1 => ?_, ?_⟩; (first | exact g_move _ rfl | exact g_assign _ rfl | (go_simp; first | exact ⟨rfl, rfl⟩ | rfl)); simp only [Act.put, Act.eval, List.setIfInBounds_toArray, List.set_cons_zero, List.set_cons_succ, Array.getD_eq_getD_getElem?, List.getElem?_toArray, List.getElem?_cons_zero, List.getElem?_cons_succ, Option.getD_some]) | (refine wpG_go 4 (by simp only [List.getElem?_toArray, List.getElem?_cons_zero, List.getElem?_cons_succ] <;> rfl) (by decide +kernel) (by decide +kernel) (by kernel_rfl) (by rfl) (by exact fun _ _ _ _ h => h) (Nat.le_refl _) ?_; apply Exists.intro; refine ⟨fun w1 h1 => ?_, ?_⟩; (first | exact g_move _ rfl | exact g_assign _ rfl | (go_simp; first | exact ⟨rfl, rfl⟩ | rfl)); simp only [Act.put, Act.eval, List.setIfInBounds_toArray, List.set_cons_zero, List.set_cons_succ, Array.getD_eq_getD_getElem?, List.getElem?_toArray, List.getElem?_cons_zero, List.getElem?_cons_succ, Option.getD_some]) | (refine wpG_go 5 (by simp only [List.getElem?_toArray, List.getElem?_cons_zero, List.getElem?_cons_succ] <;> rfl) (by decide +kernel) (by decide +kernel) (by kernel_rfl) (by rfl) (by exact fun _ _ _ _ h => h) (Nat.le_refl _) ?_; apply Exists.intro; refine ⟨fun w1 h1 => ?_, ?_⟩; (first | exact g_move _ rfl | exact g_assign _ rfl | (go_simp; first | exact ⟨rfl, rfl⟩ | rfl)); simp only [Act.put, Act.eval, List.setIfInBounds_toArray, List.set_cons_zero, List.set_cons_succ, Array.getD_eq_getD_getElem?, List.getElem?_toArray, List.getElem?_cons_zero, List.getElem?_cons_succ, Option.getD_some]) | (refine wpG_go 6 (by simp only [List.getElem?_toArray, List.getElem?_cons_zero, List.getElem?_cons_succ] <;> rfl) (by decide +kernel) (by decide +kernel) (by kernel_rfl) (by rfl) (by exact fun _ _ _ _ h => h) (Nat.le_refl _) ?_; apply Exists.intro; refine ⟨fun w1 h1 => ?_, ?_⟩; (first | exact g_move _ rfl | exact g_assign _ rfl | (go_simp; first | exact ⟨rfl, rfl⟩ | rfl)); simp only [Act.put, Act.eval, List.setIfInBounds_toArray, List.set_cons_zero, List.set_cons_succ, Array.getD_eq_getD_getElem?, List.getElem?_toArray, List.getElem?_cons_zero, List.getElem?_cons_succ, Option.getD_some]) | (refine wpG_go 8 (by simp only [List.getElem?_toArray, List.getElem?_cons_zero, List.getElem?_cons_succ] <;> rfl) (by decide +kernel) (by decide +kernel) (by kernel_rfl) (by rfl) (by exact fun _ _ _ _ h => h) (Nat.le_refl _) ?_; apply Exists.intro; refine ⟨fun w1 h1 => ?_, ?_⟩; (first | exact g_move _ rfl | exact g_assign _ rfl | (go_simp; first | exact ⟨rfl, rfl⟩ | rfl)); simp only [Act.put, Act.eval, List.setIfInBounds_toArray, List.set_cons_zero, List.set_cons_succ, Array.getD_eq_getD_getElem?, List.getElem?_toArray, List.getElem?_cons_zero, List.getElem?_cons_succ, Option.getD_some]) | (refine wpG_go 9 (by simp only [List.getElem?_toArray, List.getElem?_cons_zero, List.getElem?_cons_succ] <;> rfl) (by decide +kernel) (by decide +kernel) (by kernel_rfl) (by rfl) (by exact fun _ _ _ _ h => h) (Nat.le_refl _) ?_; apply Exists.intro; refine ⟨fun w1 h1 => ?_, ?_⟩; (first | exact g_move _ rfl | exact g_assign _ rfl | (go_simp; first | exact ⟨rfl, rfl⟩ | rfl)); simp only [Act.put, Act.eval, List.setIfInBounds_toArray, List.set_cons_zero, List.set_cons_succ, Array.getD_eq_getD_getElem?, List.getElem?_toArray, List.getElem?_cons_zero, List.getElem?_cons_succ, Option.getD_some]) | (refine wpG_go 10 (by simp only [List.getElem?_toArray, List.getElem?_cons_zero, List.getElem?_cons_succ] <;> rfl) (by decide +kernel) (by decide +kernel) (by kernel_rfl) (by rfl) (by exact fun _ _ _ _ h => h) (Nat.le_refl _) ?_; apply Exists.intro; refine ⟨fun w1 h1 => ?_, ?_⟩; (first | exact g_move _ rfl | exact g_assign _ rfl | (go_simp; first | exact ⟨rfl, rfl⟩ | rfl)); simp only [Act.put, Act.eval, List.setIfInBounds_toArray, List.set_cons_zero, List.set_cons_succ, Array.getD_eq_getD_getElem?, List.getElem?_toArray, List.getElem?_cons_zero, List.getElem?_cons_succ, Option.getD_some]) | (refine wpG_skip 0 (by simp only [List.getElem?_toArray, List.getElem?_cons_zero, List.getElem?_cons_succ] <;> rfl) (by decide +kernel) (by decide +kernel) (by kernel_rfl) (by rfl) (by exact fun _ _ _ _ h => h) (Nat.le_refl _) ?_; simp only [Act.put, Act.eval, List.setIfInBounds_toArray, List.set_cons_zero, List.set_cons_succ, Array.getD_eq_getD_getElem?, List.getElem?_toArray, List.getElem?_cons_zero, List.getElem?_cons_succ, Option.getD_some]) | (refine wpG_skip 1 (by simp only [List.getElem?_toArray, List.getElem?_cons_zero, List.getElem?_cons_succ] <;> rfl) (by decide +kernel) (by decide +kernel) (by kernel_rfl) (by rfl) (by exact fun _ _ _ _ h => h) (Nat.le_refl _) ?_; simp only [Act.put, Act.eval, List.setIfInBounds_toArray, List.set_cons_zero, List.set_cons_succ, Array.getD_eq_getD_getElem?, List.getElem?_toArray, List.getElem?_cons_zero, List.getElem?_cons_succ, Option.getD_some]) | (refine wpG_skip 2 (by simp only [List.getElem?_toArray, List.getElem?_cons_zero, List.getElem?_cons_succ] <;> rfl) (by decide +kernel) (by decide +kernel) (by kernel_rfl) (by rfl) (by exact fun _ _ _ _ h => h) (Nat.le_refl _) ?_; simp only [Act.put, Act.eval, List.setIfInBounds_toArray, List.set_cons_zero, List.set_cons_succ, Array.getD_eq_getD_getElem?, List.getElem?_toArray, List.getElem?_cons_zero, List.getElem?_cons_succ, Option.getD_some]) | (refine wpG_skip 4 (by simp only [List.getElem?_toArray, List.getElem?_cons_zero, List.getElem?_cons_succ] <;> rfl) (by decide +kernel) (by decide +kernel) (by kernel_rfl) (by rfl) (by exact fun _ _ _ _ h => h) (Nat.le_refl _) ?_; simp only [Act.put, Act.eval, List.setIfInBounds_toArray, List.set_cons_zero, List.set_cons_succ, Array.getD_eq_getD_getElem?, List.getElem?_toArray, List.getElem?_cons_zero, List.getElem?_cons_succ, Option.getD_some]) | (refine wpG_skip 5 (by simp only [List.getElem?_toArray, List.getElem?_cons_zero, List.getElem?_cons_succ] <;> rfl) (by decide +kernel) (by decide +kernel) (by kernel_rfl) (by rfl) (by exact fun _ _ _ _ h => h) (Nat.le_refl _) ?_; simp only [Act.put, Act.eval, List.setIfInBounds_toArray, List.set_cons_zero, List.set_cons_succ, Array.getD_eq_getD_getElem?, List.getElem?_toArray, List.getElem?_cons_zero, List.getElem?_cons_succ, Option.getD_some]) | (refine wpG_skip 6 (by simp only [List.getElem?_toArray, List.getElem?_cons_zero, List.getElem?_cons_succ] <;> rfl) (by decide +kernel) (by decide +kernel) (by kernel_rfl) (by rfl) (by exact fun _ _ _ _ h => h) (Nat.le_refl _) ?_; simp only [Act.put, Act.eval, List.setIfInBounds_toArray, List.set_cons_zero, List.set_cons_succ, Array.getD_eq_getD_getElem?, List.getElem?_toArray, List.getElem?_cons_zero, List.getElem?_cons_succ, Option.getD_some]) | (refine wpG_skip 8 (by simp only [List.getElem?_toArray, List.getElem?_cons_zero, List.getElem?_cons_succ] <;> rfl) (by decide +kernel) (by decide +kernel) (by kernel_rfl) (by rfl) (by exact fun _ _ _ _ h => h) (Nat.le_refl _) ?_; simp only [Act.put, Act.eval, List.setIfInBounds_toArray, List.set_cons_zero, List.set_cons_succ, Array.getD_eq_getD_getElem?, List.getElem?_toArray, List.getElem?_cons_zero, List.getElem?_cons_succ, Option.getD_some]) | (refine wpG_skip 9 (by simp only [List.getElem?_toArray, List.getElem?_cons_zero, List.getElem?_cons_succ] <;> rfl) (by decide +kernel) (by decide +kernel) (by kernel_rfl) (by rfl) (by exact fun _ _ _ _ h => h) (Nat.le_refl _) ?_; simp only [Act.put, Act.eval, List.setIfInBounds_toArray, List.set_cons_zero, List.set_cons_succ, Array.getD_eq_getD_getElem?, List.getElem?_toArray, List.getElem?_cons_zero, List.getElem?_cons_succ, Option.getD_some]) | (refine wpG_skip 10 (by simp only [List.getElem?_toArray, List.getElem?_cons_zero, List.getElem?_cons_succ] <;> rfl) (by decide +kernel) (by decide +kernel) (by kernel_rfl) (by rfl) (by exact fun _ _ _ _ h => h) (Nat.le_refl _) ?_; simp only [Act.put, Act.eval, List.setIfInBounds_toArray, List.set_cons_zero, List.set_cons_succ, Array.getD_eq_getD_getElem?, List.getElem?_toArray, List.getElem?_cons_zero, List.getElem?_cons_succ, Option.getD_some])))
  obtain ⟨hi0, hz0, hz1, hz2⟩ := J.out
  (refine wpG_one 3 (by decide +kernel) ?_; intro w3 hw3; refine op_wanted (by simp only [List.getElem?_toArray, List.getElem?_cons_zero, List.getElem?_cons_succ] <;> rfl) rfl ?_)
  have hs3 := HS2.out.bel hw3
  refine wp_append_src (.const (.slice none 0 0)) (.tmp 25) _ rfl w2.heap.size 31 i0 _ 2 16 Try.underlying23 hi0 hz0 hz1 hz2 rfl (by omega) (.slice none 0 0) 0 [] rfl (World.ownsRow_nil ..) _ (n - i) _ (qrc (q.drop i)) rfl (by rw [qrc_length, (SlQ.drop (c := c2) hs3 hin HX2.out.1).1]) (SlQ.src (SlQ.drop (c := c2) hs3 hin HX2.out.1)) (qrc_one _) (by simp only [maxLen]; omega) (by omega) hw3.size fun v4 w4 hown4 hg4 _ => ⟨grown_below hg4 (World.ownsRow_nil _ w2.heap.size 31 2) (Nat.le_refl _) hw3.size, ?_⟩
  have hw4 : Bel w2 w4 := hw3.out.trans (grown_below hg4 (World.ownsRow_nil _ w2.heap.size 31 2) (Nat.le_refl _) hw3.size)
  (refine wpG_one 7 (by decide +kernel) ?_; intro w5 hw5; refine op_wanted (by simp only [List.getElem?_toArray, List.getElem?_cons_zero, List.getElem?_cons_succ] <;> rfl) rfl ?_)
  have hs5 := HS2.out.bel (hw4.trans hw5)
  have ho5 := own_bel hown4 hw5
  refine wp_append_src (.tmp 26) (.tmp 29) _ rfl w2.heap.size 31 i0 _ 2 16 Try.underlying23 hi0 hz0 hz1 hz2 rfl (by omega) v4 (0 + (n - i)) ([] ++ qrc (q.drop i)) rfl ho5 _ i _ (qrc (q.take i)) rfl (by rw [qrc_length, (SlQ.take hs5 hin).1]) (SlQ.src (SlQ.take hs5 hin)) (qrc_one _) (by simp only [maxLen]; omega) (by omega) (hw4.trans hw5).size fun v6 w6 hown6 hg6 _ => ⟨grown_below hg6 ho5 (Nat.le_refl _) (hw4.trans hw5).size, ?_⟩
  have hw6 : Bel w2 w6 := (hw4.trans hw5).out.trans (grown_below hg6 ho5 (Nat.le_refl _) (hw4.trans hw5).size)
  (refine wpG_one 11 (by decide +kernel) ?_; intro w7 hw7; refine op_wanted (by simp only [List.getElem?_toArray, List.getElem?_cons_zero, List.getElem?_cons_succ] <;> rfl) rfl ?_)
  have hs7 := HS2.out.bel (hw6.trans hw7)
  have ho7 := own_bel hown6 hw7
  refine wp_append_src (.tmp 30) (.tmp 33) _ rfl w2.heap.size 31 i0 _ 2 16 Try.underlying23 hi0 hz0 hz1 hz2 rfl (by omega) v6 (0 + (n - i) + i) ([] ++ qrc (q.drop i) ++ qrc (q.take i)) rfl ho7 _ (n - i) _ (qrc (q.drop i)) rfl (by rw [qrc_length, (SlQ.drop (c := c2) hs7 hin HX2.out.1).1]) (SlQ.src (SlQ.drop (c := c2) hs7 hin HX2.out.1)) (qrc_one _) (by simp only [maxLen]; omega) (by omega) (hw6.trans hw7).size fun v8 w8 hown8 hg8 _ => ⟨grown_below hg8 ho7 (Nat.le_refl _) (hw6.trans hw7).size, ?_⟩
  have hw8 : Bel w2 w8 := (hw6.trans hw7).out.trans (grown_below hg8 ho7 (Nat.le_refl _) (hw6.trans hw7).size)
  have hN8 := hw8.size
  have hm8 : w8.ownsRow w2.heap.size 31 2 v8 (0 + (n - i) + i + (n - i)) (qrc (turn q i)) := by unfold turn; rw [qrc_append, qrc_append]; simpa using hown8
  clear hown4 hown6 hown8 ho5 ho7 hs3 hs5 hs7 hg4 hg6 hg8 hi0 hz0 hz1 hz2
  (repeat (first | (refine wpG_go 12 (by simp only [List.getElem?_toArray, List.getElem?_cons_zero, List.getElem?_cons_succ] <;> rfl) (by decide +kernel) (by decide +kernel) (by kernel_rfl) (by rfl) (by exact fun _ _ _ _ h => h) hN8 ?_; apply Exists.intro; refine ⟨fun w1 h1 => ?_, ?_⟩; (first | exact g_move _ rfl | exact g_assign _ rfl | (go_simp; first | exact ⟨rfl, rfl⟩ | rfl)); simp only [Act.put, Act.eval, List.setIfInBounds_toArray, List.set_cons_zero, List.set_cons_succ, Array.getD_eq_getD_getElem?, List.getElem?_toArray, List.getElem?_cons_zero, List.getElem?_cons_succ, Option.getD_some]) | (refine wpG_skip 12 (by simp only [List.getElem?_toArray, List.getElem?_cons_zero, List.getElem?_cons_succ] <;> rfl) (by decide +kernel) (by decide +kernel) (by kernel_rfl) (by rfl) (by exact fun _ _ _ _ h => h) hN8 ?_; simp only [Act.put, Act.eval, List.setIfInBounds_toArray, List.set_cons_zero, List.set_cons_succ, Array.getD_eq_getD_getElem?, List.getElem?_toArray, List.getElem?_cons_zero, List.getElem?_cons_succ, Option.getD_some])))
  (refine wpG_done (by decide +kernel) ?_ _; intro w9 hw9; try simp only [Act.put, Act.eval, List.setIfInBounds_toArray, List.set_cons_zero, List.set_cons_succ, Array.getD_eq_getD_getElem?, List.getElem?_toArray, List.getElem?_cons_zero, List.getElem?_cons_succ, Option.getD_some])
  obtain ⟨A9, c9, rfl, hs9, hc9, hm9⟩ := SlQ.own (own_bel hm8 hw9)
  have HS9 := Lib.hid hs9
  have HX9 := Lib.hid (And.intro hc9 hm9)
  have HB9 := Lib.hid (hw8.trans hw9)
  have HW9 := Lib.hid (HW2.out.trans HB9.out)
  clear hm8 hs9 hw3 hw4 hw5 hw6 hw7 hw8 hw9 hN8 hc9 hm9
  generalize 0 + (n - i) + i + (n - i) = n9 at *
  generalize (if c2 = i then A2 else Option.map (fun x => x.add (i * 2)) A2) = A0 at *
  go_wp2_with fail
  refine (HRC.out A2 n c2 q w9 (HS2.out.bel HB9.out) HX2.out.1 HX2.out.2).mono ?_
  rintro e w10 ⟨v10, r10, c10, rfl, hB10, hs10, hb10⟩
  obtain ⟨rfl, hR10⟩ := ringB_in HIN.out hB10
  have HR10 := Lib.hid hR10
  have HS10 := Lib.hid hs10
  have HB10 := Lib.hid (Bel.of hb10)
  have HW10 := Lib.hid (HW9.out.call hb10)
  clear hB10 hs10 hb10 hR10
  go_wp2_with fail
  refine (HRC.out A9 n9 c9 (turn q i) w10 (HS9.out.bel HB10.out) HX9.out.1 HX9.out.2).mono ?_
  rintro e w11 ⟨v11, r11, c11, rfl, hB11, hs11, hb11⟩
  obtain ⟨rfl, hR11⟩ := ringB_in (turn_in HIN.out i) hB11
  rw [turn_pq] at hR11
  obtain rfl := ring_uniq HR10.out hR11
  have HS11 := Lib.hid hs11
  have HB11 := Lib.hid (Bel.of hb11)
  have HW11 := Lib.hid (HW10.out.call hb11)
  clear hB11 hs11 hb11 hR11
  go_wp2_with fail
  refine (HQC.out A2 n c2 q w11 (HS2.out.bel (HB9.out.trans (HB10.out.trans HB11.out))) HX2.out.1 HX2.out.2).mono ?_
  rintro e w12 ⟨v12, r12, c12, rfl, hB12, hs12, hb12⟩
  have HQ12 := Lib.hid hB12
  have HS12 := Lib.hid hs12
  have HB12 := Lib.hid (Bel.of hb12)
  have HW12 := Lib.hid (HW11.out.call hb12)
  clear hB12 hs12 hb12
  go_wp2_with fail
  refine (HQC.out A9 n9 c9 (turn q i) w12 (HS9.out.bel (HB10.out.trans (HB11.out.trans HB12.out))) HX9.out.1 HX9.out.2).mono ?_
  rintro e w13 ⟨v13, r13, c13, rfl, hB13, hs13, hb13⟩
  obtain ⟨rfl, rfl⟩ := rankB_turn HIN.out HQ12.out hB13
  have HS13 := Lib.hid hs13
  have HB13 := Lib.hid (Bel.of hb13)
  have HW13 := Lib.hid (HW12.out.call hb13)
  clear hB13 hs13 hb13
  have HE := Lib.hid (show (toI r10 == toI r10) = true by simp)
  have HE2 := Lib.hid (show (toI r12 == toI r12) = true by simp)
  go_wp2_with fail
  refine (eqint_any _ _ (toI r10) (toI r10) w13 (HS10.out.bel (HB11.out.trans (HB12.out.trans HB13.out))) (HS11.out.bel (HB12.out.trans HB13.out))).mono ?_
  rintro e w14 ⟨rfl, rfl⟩
  rw [HE.out]
  go_wp2_with fail
  refine (eqint_any _ _ (toI r12) (toI r12) w13 (HS12.out.bel HB13.out) HS13.out).mono ?_
  rintro e w15 ⟨rfl, rfl⟩
  rw [HE2.out]
  go_wp2
  go_ret
  exact ⟨rfl, HW13.out⟩
theorem bulk_pos {H : Type} (d : DataW H) : 1 ≤ Rows.uptoBulk d := by
  cases d with
  | lit l => cases l <;> simp [Rows.uptoBulk]
  | _ => simp [Rows.uptoBulk]
theorem bulk_len {H : Type} : ∀ es : List (DataW H), es.length ≤ Rows.uptoBulkAll es
  | [] => Nat.zero_le _
  | d :: es => by
    have h1 := bulk_pos d
    have h2 := bulk_len es
    simp only [Rows.uptoBulkAll, List.length_cons]
    omega
theorem bulk_sl {H : Type} {d : DataW H} {n : Nat} (h : (d = .nil ∧ n = 0) ∨ ∃ es sp, d = .slice es sp ∧ es.length = n) : n ≤ Rows.uptoBulk d := by
  rcases h with ⟨_, rfl⟩ | ⟨es, sp, rfl, rfl⟩
  · exact Nat.zero_le _
  · have := bulk_len es
    simp only [Rows.uptoBulk]
    omega
theorem walk (W : World) (A : Option Addr) (n c : Nat) (l : List (Int × Int)) (s : SlQ W A n l) (m : n ≤ c) (x : c ≤ maxLen) (g : ∀ e ∈ l, QrOk e) (a : Int) (k : In64 a) (y : n ≤ 1048576) :
    Calls Try.prog 11 #[.slice A n c, .int .i64 a] W fun e w' => e = .returned (.bool true) ∧ Below W.heap.size W w' := walkH ring_any rank_any W A n c l s m x g y a k
set_option maxRecDepth 100000 in
theorem lifted (os : Os) (started : os.Started) (H : Type) (enc : TypeId × Value → H) (F : Stop.Interp) :
    ReturnsInHanded {} Try.checked os 11 .any ((Rows.OpenSpec.upto Rows.ringTurnedSpec).pre6 enc Try.prog Try.f11 Rows.ringTurnedUptoRow.domain false) (((Rows.OpenSpec.upto Rows.ringTurnedSpec).at F).post enc Try.prog Try.f11 false true false false) := by
  refine returnsInHanded_of_cond_sized (C := Try.checked) (s := Rows.OpenSpec.upto Rows.ringTurnedSpec) (k := Rows.uptoSmall) rfl own started (by kernel_rfl) Try.func11
    (OpenSpec.witness (enc := enc) (C := Try.checked) (s := Rows.OpenSpec.upto Rows.ringTurnedSpec) (k := Rows.uptoSmall) rfl false ⟨#[], #[.slice none 0 0, .int .i64 0], []⟩ 8 (by kernel_rfl) (by kernel_rfl) (by kernel_rfl)
      (x := ([.nil, .lit (.int .i64 0)], [], [])) (by kernel_rfl) rfl (by kernel_rfl)) ?_
  intro W base args ds gs before hval0 hW hcnd hk hsz0 _
  have hsz : (DataW.weightsEach Try.prog (Try.f11.params.toList ++ Rows.ringTurnedSpec.plain.varTypes Try.prog) (ds ++ gs)).all (· ≤ reachBytes) = true := hsz0
  clear hsz0
  have hval : ∀ (j : Nat) t v, Try.f11.params[j]? = some t → args[j]? = some v → Value.okWide Try.prog W .any base t v := hval0
  have hW' := hW
  obtain ⟨p, q, hA0, hV, rfl, hfz, hnd⟩ := hW
  have hA : DataW.TrodAll enc Try.prog W 0 (fun _ => true) true Try.f11.params.toList args.toList ds p := hA0
  rw [Try.params11] at hA hval hsz
  obtain ⟨v0, vs0, d0, ds0, p0, q0, hargs, rfl, rfl, h0, r0⟩ := trodAll_cons hA
  obtain ⟨v1, vs1, d1, ds1, p1, q1, rfl, rfl, rfl, h1, r1⟩ := trodAll_cons r0
  obtain ⟨rfl, rfl, rfl⟩ := trodAll_nil r1
  obtain rfl : args = #[v0, v1] := by cases args; simp_all
  obtain ⟨rfl, rfl⟩ := trodVars_none hV
  have t0 := h0
  have lt0 : ∀ x ∈ p0, x.block < W.heap.size := by obtain ⟨m, hm⟩ := t0; exact DataW.trod_lt m _ _ _ hm
  have t1 := h1
  have lt1 : ∀ x ∈ p1, x.block < W.heap.size := by obtain ⟨m, hm⟩ := t1; exact DataW.trod_lt m _ _ _ hm
  obtain ⟨A0, n0, c0, l0, rfl, s0, m0, x0, g0, z0⟩ := open_prs Try.underlying23 Try.underlying31 ⟨rfl, rfl⟩ (by kernel_rfl) (by kernel_rfl) Try.underlying3 (hval 0 23 v0 rfl rfl) h0
  have y0 := reach_sl hsz (j := 0) rfl rfl Try.underlying23 (b := 16) (by kernel_rfl) z0
  have b0 := bulk_sl z0
  obtain ⟨a1, rfl, _, _, x1⟩ := open_int Try.underlying3 (hval 1 3 v1 rfl rfl) h1
  have k1 := in64_of x1
  clear hA0 hval0
  have hk := of_decide_eq_true hk
  simp only [Rows.uptoBulkAll, Rows.uptoBulk, List.cons_append, List.nil_append, List.append_nil] at hk
  refine (walk W A0 n0 c0 l0 s0 m0 x0 g0 a1 k1 (by omega)).mono fun e W' ⟨he, bel⟩ => ?_
  subst he
  exact ⟨_, rfl, _, _, _, [], _, [], hW', trodAll_mk1 (shut_bool Try.underlying4 _), (trodAll_cons_mk (Below.trod laidOut (by kernel_rfl) (of_decide_eq_true (by kernel_rfl)) t0 bel lt0) (trodAll_cons_mk (Below.trod laidOut (by kernel_rfl) (of_decide_eq_true (by kernel_rfl)) t1 bel lt1) trodAll_mk0)), rfl, bel.frame _, fun h => by cases h⟩

theorem over : Rows.ringTurnedUptoRow.holds Try.pinned (Rows.OpenSpec.upto Rows.ringTurnedSpec) :=
  OpenClaim.holds_of_cond 11 Try.f11 rfl rfl rfl rfl rfl rfl rfl ⟨rfl, rfl, rfl, rfl, rfl⟩ rfl rfl rfl rfl rfl (by kernel_rfl) Try.func11 (by kernel_rfl)
    (of_decide_eq_true (by kernel_rfl)) (by unfold Func.isWrapper; first | (rw [if_pos (by decide +kernel)]; kernel_rfl) | (rw [if_neg (by decide +kernel)]; exact ⟨rfl, rfl⟩))
    (fun os started H enc _ F => lifted os started H enc F)

theorem proved : Rows.RingTurnedUptoSaid := over
#print axioms proved
end Go.Proofs.Ytoaehoildnanpaa.LRingTurned

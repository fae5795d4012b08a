/- 'deadheatkeep.ProgPicks' returns true for every input and leaves its arguments as they are. No condition. -/
import Derived.Test.YtbcohpkeljjhbaaKeepPg
import Derived.Test.YtbcohpkeljjhbaaOpenInz
import Derived.Test.YtbcohpkeljjhbaaKeepTw
import Derived.Test.YtbcohpkeljjhbaaEqEv
import Derived.Test.YtbcohpkeljjhbaaRest
import Derived.Test.YtbcohpkeljjhbaaCi
import Derived.Test.YtbcohpkeljjhbaaFo
import Derived.Deep.DeepCutAuto
set_option linter.all false
set_option maxRecDepth 100000
namespace Go.Proofs.Ytbcohpkeljjhbaa.LProgPicks
open Go Go.ChangeShapes Go.WideShapes Go.ChangeAt Go.RowKit

/-- The pick that is of no thread. -/
def noT (i : Int) (n : Nat) : Int := if 0 ≤ i ∧ i < n then -1 else i
theorem noT_out (i : Int) (n : Nat) : noT i n < 0 ∨ (n : Int) ≤ noT i n := by unfold noT; split <;> omega
theorem si_own {w : World} {base n : Nat} {v : Value} {l : List Int} (h : w.ownsRow base 3 1 v n (intq l)) : ∃ A c, v = .slice A n c ∧ SI w A n l ∧ n ≤ c ∧ c ≤ maxLen := by
  have hl : l.length = n := by have := h.1; simp [intq] at this; omega
  rcases h.2 with ⟨rfl, rfl⟩ | ⟨g, cap, cur, rfl, hg, hb, hn, hc, hs, ht⟩
  · exact ⟨none, 0, rfl, ⟨hl, fun h => absurd h (by omega)⟩, by omega, by omega⟩
  · refine ⟨_, cap, rfl, ⟨hl, fun _ => ⟨g, 0, rfl, fun i hi => ?_⟩⟩, hn, hc⟩
    have hbx : Box w g cur 3 := hb
    rw [Nat.zero_add]
    refine hbx.cell i ?_
    have h1 : (intq l)[i]? = some (.int .i64 (l[i]?.getD 0)) := by unfold intq; rw [List.getElem?_map, List.getElem?_eq_getElem (by omega)]; rfl
    rw [← ht, List.getElem?_take, if_pos (by omega)] at h1
    simpa using h1
theorem si_src {w : World} {A : Option Addr} {n : Nat} {l : List Int} (h : SI w A n l) : Src w A n (intq l) := by
  rcases Nat.eq_zero_or_pos n with h0 | h0
  · have hl : l = [] := List.eq_nil_of_length_eq_zero (by rw [h.1, h0])
    subst hl
    cases A with
    | none => exact .inl ⟨rfl, h0, rfl⟩
    | some a => exact .inr ⟨_, rfl, fun j u hu => by simp [intq] at hu⟩
  · obtain ⟨b, o, rfl, hc⟩ := h.2 h0
    refine .inr ⟨_, rfl, fun j u hu => ?_⟩
    have hj : j < n := by have := (List.getElem?_eq_some_iff.1 hu).1; rw [intq, List.length_map, h.1] at this; exact this
    have e : (⟨b, o, none⟩ : Addr).add j = ⟨b, o + j, none⟩ := by unfold Addr.add; split <;> simp_all
    rw [e, hc j hj]
    have h9 : l[j]? = some (l[j]?.getD 0) := by rw [List.getElem?_eq_getElem (by rw [h.1]; exact hj)]; rfl
    unfold intq at hu
    rw [List.getElem?_map, h9] at hu
    simpa using hu
theorem si_drop {w : World} {A : Option Addr} {n j d : Nat} {l : List Int} (h : SI w A n l) (hj : j ≤ n) (hd : n ≤ d) : SI w (if d = j then A else Option.map (fun x => x.add j) A) (n - j) (l.drop j) :=
  ⟨by rw [List.length_drop, h.1], fun h0 => by
    obtain ⟨b, o, rfl, hc⟩ := h.2 (by omega)
    refine ⟨b, o + j, ?_, fun i hi => ?_⟩
    · rw [if_neg (by omega)]
      have e : (⟨b, o, none⟩ : Addr).add j = ⟨b, o + j, none⟩ := by unfold Addr.add; split <;> simp_all
      simp [e]
    · rw [Nat.add_assoc, hc (j + i) (by omega), List.getElem?_drop]⟩
theorem rb_same {P : List (List Ev)} {q : List Int} {j n : Nat} {t : Int} {x : Array Value} {m : List Ev} {c : Int} (hq : q.length ≤ 99) (ht : t < 0 ∨ (n : Int) ≤ t) (hn : P.length ≤ n) (h : RunB P (q.take j ++ t :: q.drop j) x m c) : RunB P q x m c := by
  have hr : runP P (q.take j ++ t :: q.drop j) = runP P q := by rw [picks_no (by omega), List.take_append_drop]
  have hl : (q.take j ++ t :: q.drop j).length = q.length + 1 := by simp; omega
  rcases h with h | ⟨_, h, _⟩ | ⟨h1, h2, h3, h4, h5⟩
  · exact .inl h
  · omega
  · exact .inr (.inr ⟨h1, by omega, by rw [← hr]; exact h3, by rw [← hr]; exact h4, h5⟩)
theorem info_end0 : ∃ j0, Try.prog.info? 28 = some j0 ∧ j0.zero = some (.agg zEn) := by
  have h : (Try.prog.info? 28).map (·.zero) = some (some (.agg zEn)) := by kernel_rfl
  cases hq : Try.prog.info? 28 with
  | none => rw [hq] at h; cases h
  | some j => rw [hq] at h; simp only [Option.map_some, Option.some.injEq] at h; exact ⟨j, rfl, h⟩
set_option maxHeartbeats 16000000 in
theorem walkH (HR : RunC) (W : World) (A : Option Addr) (n c : Nat) (l : List (List Ev)) (s : Prg W A n l) (m : n ≤ c) (x : c ≤ maxLen) (_g : ∀ ops ∈ l, ∀ e ∈ ops, EvOk e)
    (B : Option Addr) (k d : Nat) (q : List Int) (s1 : SI W B k q) (m1 : k ≤ d) (x1 : d ≤ maxLen) (_g1 : ∀ x ∈ q, In64 x) (y1 : k * 8 ≤ 140737488351232) (i : Int) (ki : In64 i) (a : Int) (ka : In64 a) :
    Calls Try.prog 5 #[.slice A n c, .slice B k d, .int .i64 i, .int .i64 a] W fun e w' => e = .returned (.bool true) ∧ Below W.heap.size W w' := by
  have HL := Lib.hid s
  have HS := Lib.hid s1
  have HM := Lib.hid (And.intro (And.intro m x) (And.intro m1 x1))
  have HRN := Lib.hid (fun w => ran_any HR w)
  unfold RunC at HR
  have H1 := Lib.hid HR
  have HKI := Lib.hid ka
  have HYK := Lib.hid y1
  clear y1
  clear s m x s1 m1 x1 HR ki ka
  go_enter Try.func5, Try.ntmps5
  go_wp2_with fail
  refine (HRN.out W).mono ?_
  rintro e0 w0 ⟨rfl, hb0⟩
  have HW0 := Lib.hid (Bel.of hb0)
  clear hb0
  by_cases h99 : 99 < k
  · have h99' : (99 : Int) < k := by omega
    go_wp2
    go_ret
    exact ⟨rfl, HW0.out.out⟩
  · have h99' : ¬ (99 : Int) < k := by omega
    have HK99 := Lib.hid (show k ≤ 99 by omega)
    clear h99
    go_upto_region 5 with fail
    clear h99'
    have hwk : IntKind.i64.wrap ((k : Int) + 1) = (k : Int) + 1 := IntWalk.i64_in _ (by have := HK99.out; omega)
    go_wp2_with fail
    refine (rest_any a ((k : Int) + 1) HKI.out (by omega) (by have := HK99.out; omega) w0).mono ?_
    rintro e9 w9 ⟨rfl, rfl⟩
    obtain ⟨j, hj⟩ : ∃ j : Nat, a % ((k : Int) + 1) = j := ⟨(a % ((k : Int) + 1)).toNat, by have := Int.emod_nonneg a (show (k : Int) + 1 ≠ 0 by omega); omega⟩
    have hjk : j ≤ k := by have := Int.emod_lt_of_pos a (show (0 : Int) < (k : Int) + 1 by omega); omega
    rw [hj]
    clear hj hwk
    have HJK := Lib.hid hjk
    clear hjk
    go_upto_region 6 with fail
    go_cut [32] (fun v wr => v = .bool (decide (0 ≤ i ∧ i < n)) ∧ w0 = wr)
    case first =>
      by_cases h0 : 0 ≤ i
      · by_cases h1 : i < n
        · have HN := Lib.hid (show decide (0 ≤ i ∧ i < n) = true from decide_eq_true ⟨h0, h1⟩)
          go_wp2
          go_meet
          case rel => exact ⟨by rw [HN.out], rfl⟩
        · have HN := Lib.hid (show decide (0 ≤ i ∧ i < n) = false from decide_eq_false (fun h => h1 h.2))
          go_wp2
          go_meet
          case rel => exact ⟨by rw [HN.out], rfl⟩
      · have HN := Lib.hid (show decide (0 ≤ i ∧ i < n) = false from decide_eq_false (fun h => h0 h.1))
        go_wp2
        go_meet
        case rel => exact ⟨by rw [HN.out], rfl⟩
    case rest =>
     obtain ⟨rfl, rfl⟩ := hcut
     have HNT := Lib.hid (noT_out i n)
     have HNY := Lib.hid (show decide (0 ≤ i ∧ i < n) = true → noT i n = -1 from fun h => if_pos (of_decide_eq_true h))
     have HNN := Lib.hid (show decide (0 ≤ i ∧ i < n) = false → noT i n = i from fun h => if_neg (of_decide_eq_false h))
     generalize noT i n = ni at *
     generalize decide (0 ≤ i ∧ i < n) = bn at *
     go_upto_if 32 with fail
     go_cut [2] (fun v wr => v = .int .i64 ni ∧ w0 = wr)
     case first =>
      cases bn
      · have HN := Lib.hid (HNN.out rfl)
        go_wp2
        go_meet
        case rel => exact ⟨by rw [HN.out], rfl⟩
      · have HN := Lib.hid (HNY.out rfl)
        go_wp2
        go_meet
        case rel => exact ⟨by rw [HN.out], rfl⟩
     case rest =>
      obtain ⟨rfl, rfl⟩ := hcut
      clear HNY HNN
      go_wp2_with fail
      refine (H1.out A n c l B k d q w0 (HL.out.bel HW0.out) HM.out.1.1 HM.out.1.2 (HS.out.keep HW0.out) HM.out.2.1 HM.out.2.2).mono ?_
      rintro e1 w1 ⟨v1, y1, l1, c1, rfl, hB1, ho1, hb1⟩
      have HV1 := Lib.hid (EnV.run hB1)
      have HB1 := Lib.hid hB1
      obtain ⟨A1, d1, rfl, hs1, hn1, hm1⟩ := Sl.own ho1
      have HX1 := Lib.hid (enw_box w1 y1)
      have HE1 := Lib.hid ((HW0.out.call hb1).trans (enw_bel w1 y1))
      have HS1 := Lib.hid (And.intro (hs1.bel (enw_bel w1 y1).out) (And.intro hn1 hm1))
      have hjk' : (j : Int) ≤ k := by have := HJK.out; omega
      have hjd : (j : Int) ≤ d := by have := HJK.out; have := HM.out.2.1; omega
      clear hb1 ho1 hs1 hn1 hm1 hB1
      go_upto_region 9 with (refine enw_store HV1.out.ty _ _ rfl rfl HV1.out.size HV1.out.one rfl rfl rfl ?_)
      have HE1' := Lib.hid (show Bel W (enw w1 y1) from HE1.out)
      clear HE1
      generalize enw w1 y1 = wa at *
      have HSI4 := Lib.hid (si_take (HS.out.keep HE1'.out) HJK.out)
      have HSI11 := Lib.hid (si_drop (d := d) (HS.out.keep HE1'.out) HJK.out HM.out.2.1)
      have HL4 := Lib.hid (show (intq (q.take j)).length = j * 1 by rw [intq, List.length_map, HSI4.out.1, Nat.mul_one])
      have HL11 := Lib.hid (show (intq (q.drop j)).length = (k - j) * 1 by rw [intq, List.length_map, HSI11.out.1, Nat.mul_one])
      have HJ9 := Lib.hid (And.intro HJK.out HK99.out)
      have HIQ := Lib.hid (show [] ++ intq (q.take j) ++ [.int .i64 ni] ++ intq (q.drop j) = intq (q.take j ++ ni :: q.drop j) by simp [intq])
      obtain ⟨i0, hi0, hz0, hz1, hz2⟩ := info_parts qint_info
      obtain ⟨j0, hj0, gz0⟩ := info_end0
      have HVT := Lib.hid (show True from trivial)
      go_cut [12, 13, 14] (fun p v e wr => ∃ X v2 y2 l2 c2, p = .pointer (some ⟨X, 0, none⟩) ∧ v = v2 ∧ e = .int .i64 c2 ∧ RunB l (q.take j ++ ni :: q.drop j) y2 l2 c2 ∧ wr.ownsRow wa.heap.size 35 3 v2 l2.length (evc l2) ∧ Box wr X y2 28 ∧ Bel wa wr)
      case first =>
        go_wp2_with fail
        refine region_grow (by kernel_rfl) ?_
        (repeat (first | ((first | refine wpG_go 0 (by simp only [List.getElem?_toArray, List.getElem?_cons_zero, List.getElem?_cons_succ] <;> rfl) (by decide +kernel) (by decide +kernel) (by kernel_rfl) (by rfl) (by exact fun _ _ _ _ h => h) (Nat.le_refl _) ?_ | refine wpG_go 1 (by simp only [List.getElem?_toArray, List.getElem?_cons_zero, List.getElem?_cons_succ] <;> rfl) (by decide +kernel) (by decide +kernel) (by kernel_rfl) (by rfl) (by exact fun _ _ _ _ h => h) (Nat.le_refl _) ?_ | refine wpG_go 2 (by simp only [List.getElem?_toArray, List.getElem?_cons_zero, List.getElem?_cons_succ] <;> rfl) (by decide +kernel) (by decide +kernel) (by kernel_rfl) (by rfl) (by exact fun _ _ _ _ h => h) (Nat.le_refl _) ?_ | refine wpG_go 3 (by simp only [List.getElem?_toArray, List.getElem?_cons_zero, List.getElem?_cons_succ] <;> rfl) (by decide +kernel) (by decide +kernel) (by kernel_rfl) (by rfl) (by exact fun _ _ _ _ h => h) (Nat.le_refl _) ?_ | refine wpG_go 5 (by simp only [List.getElem?_toArray, List.getElem?_cons_zero, List.getElem?_cons_succ] <;> rfl) (by decide +kernel) (by decide +kernel) (by kernel_rfl) (by rfl) (by exact fun _ _ _ _ h => h) (Nat.le_refl _) ?_ | refine wpG_go 8 (by simp only [List.getElem?_toArray, List.getElem?_cons_zero, List.getElem?_cons_succ] <;> rfl) (by decide +kernel) (by decide +kernel) (by kernel_rfl) (by rfl) (by exact fun _ _ _ _ h => h) (Nat.le_refl _) ?_ | refine wpG_go 9 (by simp only [List.getElem?_toArray, List.getElem?_cons_zero, List.getElem?_cons_succ] <;> rfl) (by decide +kernel) (by decide +kernel) (by kernel_rfl) (by rfl) (by exact fun _ _ _ _ h => h) (Nat.le_refl _) ?_ | refine wpG_go 10 (by simp only [List.getElem?_toArray, List.getElem?_cons_zero, List.getElem?_cons_succ] <;> rfl) (by decide +kernel) (by decide +kernel) (by kernel_rfl) (by rfl) (by exact fun _ _ _ _ h => h) (Nat.le_refl _) ?_); apply Exists.intro; refine ⟨fun w1 h1 => ?_, ?_⟩; (first | exact g_move _ rfl | exact g_assign _ rfl | (go_simp; first | exact ⟨rfl, rfl⟩ | rfl)); simp only [Act.put, Act.eval, List.setIfInBounds_toArray, List.set_cons_zero, List.set_cons_succ, Array.getD_eq_getD_getElem?, List.getElem?_toArray, List.getElem?_cons_zero, List.getElem?_cons_succ, Option.getD_some]) | ((first | refine wpG_skip 0 (by simp only [List.getElem?_toArray, List.getElem?_cons_zero, List.getElem?_cons_succ] <;> rfl) (by decide +kernel) (by decide +kernel) (by kernel_rfl) (by rfl) (by exact fun _ _ _ _ h => h) (Nat.le_refl _) ?_ | refine wpG_skip 1 (by simp only [List.getElem?_toArray, List.getElem?_cons_zero, List.getElem?_cons_succ] <;> rfl) (by decide +kernel) (by decide +kernel) (by kernel_rfl) (by rfl) (by exact fun _ _ _ _ h => h) (Nat.le_refl _) ?_ | refine wpG_skip 2 (by simp only [List.getElem?_toArray, List.getElem?_cons_zero, List.getElem?_cons_succ] <;> rfl) (by decide +kernel) (by decide +kernel) (by kernel_rfl) (by rfl) (by exact fun _ _ _ _ h => h) (Nat.le_refl _) ?_ | refine wpG_skip 3 (by simp only [List.getElem?_toArray, List.getElem?_cons_zero, List.getElem?_cons_succ] <;> rfl) (by decide +kernel) (by decide +kernel) (by kernel_rfl) (by rfl) (by exact fun _ _ _ _ h => h) (Nat.le_refl _) ?_ | refine wpG_skip 5 (by simp only [List.getElem?_toArray, List.getElem?_cons_zero, List.getElem?_cons_succ] <;> rfl) (by decide +kernel) (by decide +kernel) (by kernel_rfl) (by rfl) (by exact fun _ _ _ _ h => h) (Nat.le_refl _) ?_ | refine wpG_skip 8 (by simp only [List.getElem?_toArray, List.getElem?_cons_zero, List.getElem?_cons_succ] <;> rfl) (by decide +kernel) (by decide +kernel) (by kernel_rfl) (by rfl) (by exact fun _ _ _ _ h => h) (Nat.le_refl _) ?_ | refine wpG_skip 9 (by simp only [List.getElem?_toArray, List.getElem?_cons_zero, List.getElem?_cons_succ] <;> rfl) (by decide +kernel) (by decide +kernel) (by kernel_rfl) (by rfl) (by exact fun _ _ _ _ h => h) (Nat.le_refl _) ?_ | refine wpG_skip 10 (by simp only [List.getElem?_toArray, List.getElem?_cons_zero, List.getElem?_cons_succ] <;> rfl) (by decide +kernel) (by decide +kernel) (by kernel_rfl) (by rfl) (by exact fun _ _ _ _ h => h) (Nat.le_refl _) ?_); simp only [Act.put, Act.eval, List.setIfInBounds_toArray, List.set_cons_zero, List.set_cons_succ, Array.getD_eq_getD_getElem?, List.getElem?_toArray, List.getElem?_cons_zero, List.getElem?_cons_succ, Option.getD_some])))
        clear hjk' hjd
        generalize (if d = j then B else Option.map (fun x => x.add j) B) = B2 at *
        have hE := Bel.refl wa
        refine wpG_all (rs := [4, 6, 17]) (by decide +kernel) (by simp) ?_
        intro y hy ii hii
        simp only [List.mem_cons, List.not_mem_nil, or_false] at hii
        rcases hii with rfl | rfl | rfl
        · refine op_wanted (by simp only [List.getElem?_toArray, List.getElem?_cons_zero, List.getElem?_cons_succ] <;> rfl) rfl ?_
          have hE1 := hE.trans hy
          have hsz : wa.heap.size ≤ y.heap.size := hE1.size
          refine wp_append_src (.const (.slice none 0 0)) (.tmp 44) _ rfl wa.heap.size 3 i0 _ 1 8 Try.underlying23 hi0 hz0 hz1 hz2 rfl (by omega) (.slice none 0 0) 0 [] rfl (World.ownsRow_nil _ _ _ _) B j d (intq (q.take j)) rfl HL4.out (si_src (HSI4.out.keep hE1)) (intq_one _) (by have := HJ9.out; unfold maxLen; omega) (by have := HJ9.out; omega) hsz ?_
          intro v4 u4 ho hg4 hat4
          have hb4 : Below y.heap.size y u4 := (Below.refl _ _).grown hg4 (Nat.le_refl _) (fun k hk => by cases hk)
          refine ⟨hb4.mono hsz, ?_⟩
          simp only [Act.put, Act.eval, List.setIfInBounds_toArray, List.set_cons_zero, List.set_cons_succ, Array.getD_eq_getD_getElem?, List.getElem?_toArray, List.getElem?_cons_zero, List.getElem?_cons_succ, Option.getD_some]
          have hE := hE1.trans (Bel.of hb4)
          refine wpG_all (rs := [6, 17]) (by decide +kernel) (by simp) ?_
          intro y hy ii hii
          simp only [List.mem_cons, List.not_mem_nil, or_false] at hii
          rcases hii with rfl | rfl
          · refine op_wanted (by simp only [List.getElem?_toArray, List.getElem?_cons_zero, List.getElem?_cons_succ] <;> rfl) rfl ?_
            have hE1 := hE.trans hy
            have hsz : wa.heap.size ≤ y.heap.size := hE1.size
            have ho1 := own_bel ho hy
            refine wp_build_int 23 _ rfl 3 i0 Try.underlying23 hi0 hz0 hz1 ni rfl ?_
            refine ⟨Below.alloc (Below.refl _ _) hsz _, ?_⟩
            simp only [Act.put, Act.eval, List.setIfInBounds_toArray, List.set_cons_zero, List.set_cons_succ, Array.getD_eq_getD_getElem?, List.getElem?_toArray, List.getElem?_cons_zero, List.getElem?_cons_succ, Option.getD_some]
            have hb := Box.new y #[.int .i64 ni] 3
            have hal := (Bel.refl y).alloc (.cells #[.int .i64 ni] 3)
            have hE := hE1.trans hal
            have ho := own_bel ho1 hal
            generalize y.heap.size = b6 at *
            generalize y.alloc (.cells #[.int .i64 ni] 3) = u6 at *
            refine wpG_all (rs := [7, 17]) (by decide +kernel) (by simp) ?_
            intro y hy ii hii
            simp only [List.mem_cons, List.not_mem_nil, or_false] at hii
            rcases hii with rfl | rfl
            · refine op_wanted (by simp only [List.getElem?_toArray, List.getElem?_cons_zero, List.getElem?_cons_succ] <;> rfl) rfl ?_
              have hE1 := hE.trans hy
              have hsz : wa.heap.size ≤ y.heap.size := hE1.size
              have ho1 := own_bel ho hy
              have hb1 := hy.box hb
              refine wp_append_src (.tmp 45) (.tmp 47) _ rfl wa.heap.size 3 i0 _ 1 8 Try.underlying23 hi0 hz0 hz1 hz2 rfl (by omega) v4 (0 + j) ([] ++ intq (q.take j)) rfl ho1 (some ⟨b6, 0, none⟩) 1 1 [.int .i64 ni] rfl rfl (Src.box (show Box y b6 [Value.int .i64 ni].toArray 3 from hb1) 1) (by simp [Value.oneCell']) (by have := HJ9.out; unfold maxLen; omega) (by have := HJ9.out; omega) hsz ?_
              intro v7 u7 ho hg7 hat7
              have hb7 := grown_below hg7 ho1 (Nat.le_refl _) hsz
              refine ⟨hb7, ?_⟩
              simp only [Act.put, Act.eval, List.setIfInBounds_toArray, List.set_cons_zero, List.set_cons_succ, Array.getD_eq_getD_getElem?, List.getElem?_toArray, List.getElem?_cons_zero, List.getElem?_cons_succ, Option.getD_some]
              have hE := Bel.of (hE1.out.trans hb7)
              refine wpG_all (rs := [11, 17]) (by decide +kernel) (by simp) ?_
              intro y hy ii hii
              simp only [List.mem_cons, List.not_mem_nil, or_false] at hii
              rcases hii with rfl | rfl
              · refine op_wanted (by simp only [List.getElem?_toArray, List.getElem?_cons_zero, List.getElem?_cons_succ] <;> rfl) rfl ?_
                have hE1 := hE.trans hy
                have hsz : wa.heap.size ≤ y.heap.size := hE1.size
                have ho1 := own_bel ho hy
                refine wp_append_src (.tmp 48) (.tmp 51) _ rfl wa.heap.size 3 i0 _ 1 8 Try.underlying23 hi0 hz0 hz1 hz2 rfl (by omega) v7 (0 + j + 1) ([] ++ intq (q.take j) ++ [.int .i64 ni]) rfl ho1 B2 (k - j) (d - j) (intq (q.drop j)) rfl HL11.out (si_src (HSI11.out.keep hE1)) (intq_one _) (by have := HJ9.out; unfold maxLen; omega) (by have := HJ9.out; omega) hsz ?_
                intro v11 u11 ho hg7 hat7
                have hb7 := grown_below hg7 ho1 (Nat.le_refl _) hsz
                refine ⟨hb7, ?_⟩
                simp only [Act.put, Act.eval, List.setIfInBounds_toArray, List.set_cons_zero, List.set_cons_succ, Array.getD_eq_getD_getElem?, List.getElem?_toArray, List.getElem?_cons_zero, List.getElem?_cons_succ, Option.getD_some]
                have hE := Bel.of (hE1.out.trans hb7)
                rw [HIQ.out] at ho
                generalize 0 + j + 1 + (k - j) = nz at ho
                obtain ⟨B5, e5, rfl, hsi, hn5, hm5⟩ := si_own ho
                refine wpG_all (rs := [12, 17]) (by decide +kernel) (by simp) ?_
                intro y hy ii hii
                simp only [List.mem_cons, List.not_mem_nil, or_false] at hii
                rcases hii with rfl | rfl
                · refine op_wanted (by simp only [List.getElem?_toArray, List.getElem?_cons_zero, List.getElem?_cons_succ] <;> rfl) rfl ?_
                  have hE1 := hE.trans hy
                  have hsz : wa.heap.size ≤ y.heap.size := hE1.size
                  have hsi1 := hsi.keep hy
                  go_simp
                  refine (H1.out A n c l B5 nz e5 (q.take j ++ ni :: q.drop j) y (HL.out.bel (HE1'.out.trans hE1)) HM.out.1.1 HM.out.1.2 hsi1 hn5 hm5).mono ?_
                  rintro e2 u12 ⟨v2, y2, l2, c2, rfl, hB2, ho2, hb2⟩
                  refine ⟨hb2.mono hsz, ?_⟩
                  have hE := hE1.call hb2
                  have how := own_drop_alloc ho2 hsz
                  (repeat (first | ((first | refine wpG_go 13 (by simp only [List.getElem?_toArray, List.getElem?_cons_zero, List.getElem?_cons_succ] <;> rfl) (by decide +kernel) (by decide +kernel) (by kernel_rfl) (by rfl) (by exact fun _ _ _ _ h => h) hE.size ?_ | refine wpG_go 14 (by simp only [List.getElem?_toArray, List.getElem?_cons_zero, List.getElem?_cons_succ] <;> rfl) (by decide +kernel) (by decide +kernel) (by kernel_rfl) (by rfl) (by exact fun _ _ _ _ h => h) hE.size ?_ | refine wpG_go 15 (by simp only [List.getElem?_toArray, List.getElem?_cons_zero, List.getElem?_cons_succ] <;> rfl) (by decide +kernel) (by decide +kernel) (by kernel_rfl) (by rfl) (by exact fun _ _ _ _ h => h) hE.size ?_ | refine wpG_go 16 (by simp only [List.getElem?_toArray, List.getElem?_cons_zero, List.getElem?_cons_succ] <;> rfl) (by decide +kernel) (by decide +kernel) (by kernel_rfl) (by rfl) (by exact fun _ _ _ _ h => h) hE.size ?_); apply Exists.intro; refine ⟨fun w1 h1 => ?_, ?_⟩; (first | exact g_move _ rfl | exact g_assign _ rfl | (go_simp; first | exact ⟨rfl, rfl⟩ | rfl)); simp only [Act.put, Act.eval, List.setIfInBounds_toArray, List.set_cons_zero, List.set_cons_succ, Array.getD_eq_getD_getElem?, List.getElem?_toArray, List.getElem?_cons_zero, List.getElem?_cons_succ, Option.getD_some]) | ((first | refine wpG_skip 13 (by simp only [List.getElem?_toArray, List.getElem?_cons_zero, List.getElem?_cons_succ] <;> rfl) (by decide +kernel) (by decide +kernel) (by kernel_rfl) (by rfl) (by exact fun _ _ _ _ h => h) hE.size ?_ | refine wpG_skip 14 (by simp only [List.getElem?_toArray, List.getElem?_cons_zero, List.getElem?_cons_succ] <;> rfl) (by decide +kernel) (by decide +kernel) (by kernel_rfl) (by rfl) (by exact fun _ _ _ _ h => h) hE.size ?_ | refine wpG_skip 15 (by simp only [List.getElem?_toArray, List.getElem?_cons_zero, List.getElem?_cons_succ] <;> rfl) (by decide +kernel) (by decide +kernel) (by kernel_rfl) (by rfl) (by exact fun _ _ _ _ h => h) hE.size ?_ | refine wpG_skip 16 (by simp only [List.getElem?_toArray, List.getElem?_cons_zero, List.getElem?_cons_succ] <;> rfl) (by decide +kernel) (by decide +kernel) (by kernel_rfl) (by rfl) (by exact fun _ _ _ _ h => h) hE.size ?_); simp only [Act.put, Act.eval, List.setIfInBounds_toArray, List.set_cons_zero, List.set_cons_succ, Array.getD_eq_getD_getElem?, List.getElem?_toArray, List.getElem?_cons_zero, List.getElem?_cons_succ, Option.getD_some])))
                  (refine wpG_one 17 (by decide +kernel) ?_; intro y hy; refine op_wanted (by simp only [List.getElem?_toArray, List.getElem?_cons_zero, List.getElem?_cons_succ] <;> rfl) rfl ?_)
                  have hE1 := hE.trans hy
                  have hsz : wa.heap.size ≤ y.heap.size := hE1.size
                  have how1 := own_bel how hy
                  refine wp_new _ rfl j0 hj0 _ gz0 ⟨Below.alloc (Below.refl _ _) hsz _, ?_⟩
                  simp only [Act.put, Act.eval, List.setIfInBounds_toArray, List.set_cons_zero, List.set_cons_succ, Array.getD_eq_getD_getElem?, List.getElem?_toArray, List.getElem?_cons_zero, List.getElem?_cons_succ, Option.getD_some]
                  have hx := Box.new y zEn 28
                  have hal := (Bel.refl y).alloc (.cells zEn 28)
                  have hE := hE1.trans hal
                  have how := own_bel how1 hal
                  have hsepv := fun (g : Nat) (hg : v2.ownBlock = some g) => (show g ≠ y.heap.size by have := (own_lt how1 hg).2; omega)
                  have hXN := hsz
                  generalize y.heap.size = X at *
                  generalize y.alloc (.cells zEn 28) = u17 at *
                  (refine wpG_one 18 (by decide +kernel) ?_; intro y hy; refine op_wanted (by simp only [List.getElem?_toArray, List.getElem?_cons_zero, List.getElem?_cons_succ] <;> rfl) rfl ?_)
                  have hE1 := hE.trans hy
                  have hsz : wa.heap.size ≤ y.heap.size := hE1.size
                  have hx1 := hy.box hx
                  have how1 := own_bel how hy
                  have HV2 := EnV.run hB2
                  refine wp_storeB HV2.ty _ _ rfl rfl rfl rfl hx1 (by rw [HV2.size]; rfl) HV2.one ⟨below_setRow' (Below.refl _ _) _ _ hXN, ?_⟩
                  simp only [Act.put, Act.eval, List.setIfInBounds_toArray, List.set_cons_zero, List.set_cons_succ, Array.getD_eq_getD_getElem?, List.getElem?_toArray, List.getElem?_cons_zero, List.getElem?_cons_succ, Option.getD_some]
                  have hx := hx1.setRow y2
                  have hE := hE1.setRow X hXN y2
                  have how := own_keep (w' := y.setRow X y2) how1 (fun g hg _ => setRow_other y X g y2 (hsepv g hg))
                  (repeat (first | ((first | refine wpG_go 19 (by simp only [List.getElem?_toArray, List.getElem?_cons_zero, List.getElem?_cons_succ] <;> rfl) (by decide +kernel) (by decide +kernel) (by kernel_rfl) (by rfl) (by exact fun _ _ _ _ h => h) hE.size ?_ | refine wpG_go 20 (by simp only [List.getElem?_toArray, List.getElem?_cons_zero, List.getElem?_cons_succ] <;> rfl) (by decide +kernel) (by decide +kernel) (by kernel_rfl) (by rfl) (by exact fun _ _ _ _ h => h) hE.size ?_); apply Exists.intro; refine ⟨fun w1 h1 => ?_, ?_⟩; (first | exact g_move _ rfl | exact g_assign _ rfl | (go_simp; first | exact ⟨rfl, rfl⟩ | rfl)); simp only [Act.put, Act.eval, List.setIfInBounds_toArray, List.set_cons_zero, List.set_cons_succ, Array.getD_eq_getD_getElem?, List.getElem?_toArray, List.getElem?_cons_zero, List.getElem?_cons_succ, Option.getD_some]) | ((first | refine wpG_skip 19 (by simp only [List.getElem?_toArray, List.getElem?_cons_zero, List.getElem?_cons_succ] <;> rfl) (by decide +kernel) (by decide +kernel) (by kernel_rfl) (by rfl) (by exact fun _ _ _ _ h => h) hE.size ?_ | refine wpG_skip 20 (by simp only [List.getElem?_toArray, List.getElem?_cons_zero, List.getElem?_cons_succ] <;> rfl) (by decide +kernel) (by decide +kernel) (by kernel_rfl) (by rfl) (by exact fun _ _ _ _ h => h) hE.size ?_); simp only [Act.put, Act.eval, List.setIfInBounds_toArray, List.set_cons_zero, List.set_cons_succ, Array.getD_eq_getD_getElem?, List.getElem?_toArray, List.getElem?_cons_zero, List.getElem?_cons_succ, Option.getD_some])))
                  (refine wpG_done (by decide +kernel) ?_ _; intro z hz; try simp only [Act.put, Act.eval, List.setIfInBounds_toArray, List.set_cons_zero, List.set_cons_succ, Array.getD_eq_getD_getElem?, List.getElem?_toArray, List.getElem?_cons_zero, List.getElem?_cons_succ, Option.getD_some])
                  have HFN := Lib.hid (And.intro hB2 (And.intro (own_bel how hz) (And.intro (hz.box hx) (hE.trans hz))))
                  clear hB2 how hx hE HV2 hx1 how1 hE1 hy
                  go_wp2_with fail
                  go_meet
                  case rel => exact ⟨X, v2, y2, l2, c2, rfl, rfl, rfl, HFN.out.1, HFN.out.2.1, HFN.out.2.2.1, HFN.out.2.2.2⟩
                · refine op_wanted (by simp only [List.getElem?_toArray, List.getElem?_cons_zero, List.getElem?_cons_succ] <;> rfl) rfl ?_
                  have hE1 := hE.trans hy
                  have hsz : wa.heap.size ≤ y.heap.size := hE1.size
                  have hsi1 := hsi.keep hy
                  refine wp_new _ rfl j0 hj0 _ gz0 ⟨Below.alloc (Below.refl _ _) hsz _, ?_⟩
                  simp only [Act.put, Act.eval, List.setIfInBounds_toArray, List.set_cons_zero, List.set_cons_succ, Array.getD_eq_getD_getElem?, List.getElem?_toArray, List.getElem?_cons_zero, List.getElem?_cons_succ, Option.getD_some]
                  have hx := Box.new y zEn 28
                  have hal := (Bel.refl y).alloc (.cells zEn 28)
                  have hE := hE1.trans hal
                  have hsi := hsi1.keep hal
                  have hXN := hsz
                  generalize y.heap.size = X at *
                  generalize y.alloc (.cells zEn 28) = u17 at *
                  (refine wpG_one 12 (by decide +kernel) ?_; intro y hy; refine op_wanted (by simp only [List.getElem?_toArray, List.getElem?_cons_zero, List.getElem?_cons_succ] <;> rfl) rfl ?_)
                  have hE1 := hE.trans hy
                  have hsz : wa.heap.size ≤ y.heap.size := hE1.size
                  have hx1 := hy.box hx
                  have hsi1 := hsi.keep hy
                  go_simp
                  refine (H1.out A n c l B5 nz e5 (q.take j ++ ni :: q.drop j) y (HL.out.bel (HE1'.out.trans hE1)) HM.out.1.1 HM.out.1.2 hsi1 hn5 hm5).mono ?_
                  rintro e2 u12 ⟨v2, y2, l2, c2, rfl, hB2, ho2, hb2⟩
                  refine ⟨hb2.mono hsz, ?_⟩
                  have hE := hE1.call hb2
                  have how := own_drop_alloc ho2 hsz
                  have hx := (Bel.of hb2).box hx1
                  have hsepv := fun (g : Nat) (hg : v2.ownBlock = some g) => (show g ≠ X by have := (own_lt ho2 hg).1; have := hx1.lt; omega)
                  (repeat (first | ((first | refine wpG_go 13 (by simp only [List.getElem?_toArray, List.getElem?_cons_zero, List.getElem?_cons_succ] <;> rfl) (by decide +kernel) (by decide +kernel) (by kernel_rfl) (by rfl) (by exact fun _ _ _ _ h => h) hE.size ?_ | refine wpG_go 14 (by simp only [List.getElem?_toArray, List.getElem?_cons_zero, List.getElem?_cons_succ] <;> rfl) (by decide +kernel) (by decide +kernel) (by kernel_rfl) (by rfl) (by exact fun _ _ _ _ h => h) hE.size ?_ | refine wpG_go 15 (by simp only [List.getElem?_toArray, List.getElem?_cons_zero, List.getElem?_cons_succ] <;> rfl) (by decide +kernel) (by decide +kernel) (by kernel_rfl) (by rfl) (by exact fun _ _ _ _ h => h) hE.size ?_ | refine wpG_go 16 (by simp only [List.getElem?_toArray, List.getElem?_cons_zero, List.getElem?_cons_succ] <;> rfl) (by decide +kernel) (by decide +kernel) (by kernel_rfl) (by rfl) (by exact fun _ _ _ _ h => h) hE.size ?_); apply Exists.intro; refine ⟨fun w1 h1 => ?_, ?_⟩; (first | exact g_move _ rfl | exact g_assign _ rfl | (go_simp; first | exact ⟨rfl, rfl⟩ | rfl)); simp only [Act.put, Act.eval, List.setIfInBounds_toArray, List.set_cons_zero, List.set_cons_succ, Array.getD_eq_getD_getElem?, List.getElem?_toArray, List.getElem?_cons_zero, List.getElem?_cons_succ, Option.getD_some]) | ((first | refine wpG_skip 13 (by simp only [List.getElem?_toArray, List.getElem?_cons_zero, List.getElem?_cons_succ] <;> rfl) (by decide +kernel) (by decide +kernel) (by kernel_rfl) (by rfl) (by exact fun _ _ _ _ h => h) hE.size ?_ | refine wpG_skip 14 (by simp only [List.getElem?_toArray, List.getElem?_cons_zero, List.getElem?_cons_succ] <;> rfl) (by decide +kernel) (by decide +kernel) (by kernel_rfl) (by rfl) (by exact fun _ _ _ _ h => h) hE.size ?_ | refine wpG_skip 15 (by simp only [List.getElem?_toArray, List.getElem?_cons_zero, List.getElem?_cons_succ] <;> rfl) (by decide +kernel) (by decide +kernel) (by kernel_rfl) (by rfl) (by exact fun _ _ _ _ h => h) hE.size ?_ | refine wpG_skip 16 (by simp only [List.getElem?_toArray, List.getElem?_cons_zero, List.getElem?_cons_succ] <;> rfl) (by decide +kernel) (by decide +kernel) (by kernel_rfl) (by rfl) (by exact fun _ _ _ _ h => h) hE.size ?_); simp only [Act.put, Act.eval, List.setIfInBounds_toArray, List.set_cons_zero, List.set_cons_succ, Array.getD_eq_getD_getElem?, List.getElem?_toArray, List.getElem?_cons_zero, List.getElem?_cons_succ, Option.getD_some])))
                  (refine wpG_one 18 (by decide +kernel) ?_; intro y hy; refine op_wanted (by simp only [List.getElem?_toArray, List.getElem?_cons_zero, List.getElem?_cons_succ] <;> rfl) rfl ?_)
                  have hE1 := hE.trans hy
                  have hsz : wa.heap.size ≤ y.heap.size := hE1.size
                  have hx1 := hy.box hx
                  have how1 := own_bel how hy
                  have HV2 := EnV.run hB2
                  refine wp_storeB HV2.ty _ _ rfl rfl rfl rfl hx1 (by rw [HV2.size]; rfl) HV2.one ⟨below_setRow' (Below.refl _ _) _ _ hXN, ?_⟩
                  simp only [Act.put, Act.eval, List.setIfInBounds_toArray, List.set_cons_zero, List.set_cons_succ, Array.getD_eq_getD_getElem?, List.getElem?_toArray, List.getElem?_cons_zero, List.getElem?_cons_succ, Option.getD_some]
                  have hx := hx1.setRow y2
                  have hE := hE1.setRow X hXN y2
                  have how := own_keep (w' := y.setRow X y2) how1 (fun g hg _ => setRow_other y X g y2 (hsepv g hg))
                  (repeat (first | ((first | refine wpG_go 19 (by simp only [List.getElem?_toArray, List.getElem?_cons_zero, List.getElem?_cons_succ] <;> rfl) (by decide +kernel) (by decide +kernel) (by kernel_rfl) (by rfl) (by exact fun _ _ _ _ h => h) hE.size ?_ | refine wpG_go 20 (by simp only [List.getElem?_toArray, List.getElem?_cons_zero, List.getElem?_cons_succ] <;> rfl) (by decide +kernel) (by decide +kernel) (by kernel_rfl) (by rfl) (by exact fun _ _ _ _ h => h) hE.size ?_); apply Exists.intro; refine ⟨fun w1 h1 => ?_, ?_⟩; (first | exact g_move _ rfl | exact g_assign _ rfl | (go_simp; first | exact ⟨rfl, rfl⟩ | rfl)); simp only [Act.put, Act.eval, List.setIfInBounds_toArray, List.set_cons_zero, List.set_cons_succ, Array.getD_eq_getD_getElem?, List.getElem?_toArray, List.getElem?_cons_zero, List.getElem?_cons_succ, Option.getD_some]) | ((first | refine wpG_skip 19 (by simp only [List.getElem?_toArray, List.getElem?_cons_zero, List.getElem?_cons_succ] <;> rfl) (by decide +kernel) (by decide +kernel) (by kernel_rfl) (by rfl) (by exact fun _ _ _ _ h => h) hE.size ?_ | refine wpG_skip 20 (by simp only [List.getElem?_toArray, List.getElem?_cons_zero, List.getElem?_cons_succ] <;> rfl) (by decide +kernel) (by decide +kernel) (by kernel_rfl) (by rfl) (by exact fun _ _ _ _ h => h) hE.size ?_); simp only [Act.put, Act.eval, List.setIfInBounds_toArray, List.set_cons_zero, List.set_cons_succ, Array.getD_eq_getD_getElem?, List.getElem?_toArray, List.getElem?_cons_zero, List.getElem?_cons_succ, Option.getD_some])))
                  (refine wpG_done (by decide +kernel) ?_ _; intro z hz; try simp only [Act.put, Act.eval, List.setIfInBounds_toArray, List.set_cons_zero, List.set_cons_succ, Array.getD_eq_getD_getElem?, List.getElem?_toArray, List.getElem?_cons_zero, List.getElem?_cons_succ, Option.getD_some])
                  have HFN := Lib.hid (And.intro hB2 (And.intro (own_bel how hz) (And.intro (hz.box hx) (hE.trans hz))))
                  clear hB2 how hx hE HV2 hx1 how1 hE1 hy
                  go_wp2_with fail
                  go_meet
                  case rel => exact ⟨X, v2, y2, l2, c2, rfl, rfl, rfl, HFN.out.1, HFN.out.2.1, HFN.out.2.2.1, HFN.out.2.2.2⟩
              · refine op_wanted (by simp only [List.getElem?_toArray, List.getElem?_cons_zero, List.getElem?_cons_succ] <;> rfl) rfl ?_
                have hE1 := hE.trans hy
                have hsz : wa.heap.size ≤ y.heap.size := hE1.size
                have ho1 := own_bel ho hy
                refine wp_new _ rfl j0 hj0 _ gz0 ⟨Below.alloc (Below.refl _ _) hsz _, ?_⟩
                simp only [Act.put, Act.eval, List.setIfInBounds_toArray, List.set_cons_zero, List.set_cons_succ, Array.getD_eq_getD_getElem?, List.getElem?_toArray, List.getElem?_cons_zero, List.getElem?_cons_succ, Option.getD_some]
                have hx := Box.new y zEn 28
                have hal := (Bel.refl y).alloc (.cells zEn 28)
                have hE := hE1.trans hal
                have ho := own_bel ho1 hal
                have hsep := fun (g : Nat) (hg : v7.ownBlock = some g) => (show g ≠ y.heap.size by have := (own_lt ho1 hg).2; omega)
                have hXN := hsz
                generalize y.heap.size = X at *
                generalize y.alloc (.cells zEn 28) = u17 at *
                (refine wpG_one 11 (by decide +kernel) ?_; intro y hy; refine op_wanted (by simp only [List.getElem?_toArray, List.getElem?_cons_zero, List.getElem?_cons_succ] <;> rfl) rfl ?_)
                have hE1 := hE.trans hy
                have hsz : wa.heap.size ≤ y.heap.size := hE1.size
                have ho1 := own_bel ho hy
                have hx1 := hy.box hx
                refine wp_append_src (.tmp 48) (.tmp 51) _ rfl wa.heap.size 3 i0 _ 1 8 Try.underlying23 hi0 hz0 hz1 hz2 rfl (by omega) v7 (0 + j + 1) ([] ++ intq (q.take j) ++ [.int .i64 ni]) rfl ho1 B2 (k - j) (d - j) (intq (q.drop j)) rfl HL11.out (si_src (HSI11.out.keep hE1)) (intq_one _) (by have := HJ9.out; unfold maxLen; omega) (by have := HJ9.out; omega) hsz ?_
                intro v11 u11 ho hg7 hat7
                have hb7 := grown_below hg7 ho1 (Nat.le_refl _) hsz
                refine ⟨hb7, ?_⟩
                simp only [Act.put, Act.eval, List.setIfInBounds_toArray, List.set_cons_zero, List.set_cons_succ, Array.getD_eq_getD_getElem?, List.getElem?_toArray, List.getElem?_cons_zero, List.getElem?_cons_succ, Option.getD_some]
                have hE := Bel.of (hE1.out.trans hb7)
                have hx := hx1.grown hg7 (fun e => hsep _ e.symm rfl)
                rw [HIQ.out] at ho
                generalize 0 + j + 1 + (k - j) = nz at ho
                obtain ⟨B5, e5, rfl, hsi, hn5, hm5⟩ := si_own ho
                (refine wpG_one 12 (by decide +kernel) ?_; intro y hy; refine op_wanted (by simp only [List.getElem?_toArray, List.getElem?_cons_zero, List.getElem?_cons_succ] <;> rfl) rfl ?_)
                have hE1 := hE.trans hy
                have hsz : wa.heap.size ≤ y.heap.size := hE1.size
                have hx1 := hy.box hx
                have hsi1 := hsi.keep hy
                go_simp
                refine (H1.out A n c l B5 nz e5 (q.take j ++ ni :: q.drop j) y (HL.out.bel (HE1'.out.trans hE1)) HM.out.1.1 HM.out.1.2 hsi1 hn5 hm5).mono ?_
                rintro e2 u12 ⟨v2, y2, l2, c2, rfl, hB2, ho2, hb2⟩
                refine ⟨hb2.mono hsz, ?_⟩
                have hE := hE1.call hb2
                have how := own_drop_alloc ho2 hsz
                have hx := (Bel.of hb2).box hx1
                have hsepv := fun (g : Nat) (hg : v2.ownBlock = some g) => (show g ≠ X by have := (own_lt ho2 hg).1; have := hx1.lt; omega)
                (repeat (first | ((first | refine wpG_go 13 (by simp only [List.getElem?_toArray, List.getElem?_cons_zero, List.getElem?_cons_succ] <;> rfl) (by decide +kernel) (by decide +kernel) (by kernel_rfl) (by rfl) (by exact fun _ _ _ _ h => h) hE.size ?_ | refine wpG_go 14 (by simp only [List.getElem?_toArray, List.getElem?_cons_zero, List.getElem?_cons_succ] <;> rfl) (by decide +kernel) (by decide +kernel) (by kernel_rfl) (by rfl) (by exact fun _ _ _ _ h => h) hE.size ?_ | refine wpG_go 15 (by simp only [List.getElem?_toArray, List.getElem?_cons_zero, List.getElem?_cons_succ] <;> rfl) (by decide +kernel) (by decide +kernel) (by kernel_rfl) (by rfl) (by exact fun _ _ _ _ h => h) hE.size ?_ | refine wpG_go 16 (by simp only [List.getElem?_toArray, List.getElem?_cons_zero, List.getElem?_cons_succ] <;> rfl) (by decide +kernel) (by decide +kernel) (by kernel_rfl) (by rfl) (by exact fun _ _ _ _ h => h) hE.size ?_); apply Exists.intro; refine ⟨fun w1 h1 => ?_, ?_⟩; (first | exact g_move _ rfl | exact g_assign _ rfl | (go_simp; first | exact ⟨rfl, rfl⟩ | rfl)); simp only [Act.put, Act.eval, List.setIfInBounds_toArray, List.set_cons_zero, List.set_cons_succ, Array.getD_eq_getD_getElem?, List.getElem?_toArray, List.getElem?_cons_zero, List.getElem?_cons_succ, Option.getD_some]) | ((first | refine wpG_skip 13 (by simp only [List.getElem?_toArray, List.getElem?_cons_zero, List.getElem?_cons_succ] <;> rfl) (by decide +kernel) (by decide +kernel) (by kernel_rfl) (by rfl) (by exact fun _ _ _ _ h => h) hE.size ?_ | refine wpG_skip 14 (by simp only [List.getElem?_toArray, List.getElem?_cons_zero, List.getElem?_cons_succ] <;> rfl) (by decide +kernel) (by decide +kernel) (by kernel_rfl) (by rfl) (by exact fun _ _ _ _ h => h) hE.size ?_ | refine wpG_skip 15 (by simp only [List.getElem?_toArray, List.getElem?_cons_zero, List.getElem?_cons_succ] <;> rfl) (by decide +kernel) (by decide +kernel) (by kernel_rfl) (by rfl) (by exact fun _ _ _ _ h => h) hE.size ?_ | refine wpG_skip 16 (by simp only [List.getElem?_toArray, List.getElem?_cons_zero, List.getElem?_cons_succ] <;> rfl) (by decide +kernel) (by decide +kernel) (by kernel_rfl) (by rfl) (by exact fun _ _ _ _ h => h) hE.size ?_); simp only [Act.put, Act.eval, List.setIfInBounds_toArray, List.set_cons_zero, List.set_cons_succ, Array.getD_eq_getD_getElem?, List.getElem?_toArray, List.getElem?_cons_zero, List.getElem?_cons_succ, Option.getD_some])))
                (refine wpG_one 18 (by decide +kernel) ?_; intro y hy; refine op_wanted (by simp only [List.getElem?_toArray, List.getElem?_cons_zero, List.getElem?_cons_succ] <;> rfl) rfl ?_)
                have hE1 := hE.trans hy
                have hsz : wa.heap.size ≤ y.heap.size := hE1.size
                have hx1 := hy.box hx
                have how1 := own_bel how hy
                have HV2 := EnV.run hB2
                refine wp_storeB HV2.ty _ _ rfl rfl rfl rfl hx1 (by rw [HV2.size]; rfl) HV2.one ⟨below_setRow' (Below.refl _ _) _ _ hXN, ?_⟩
                simp only [Act.put, Act.eval, List.setIfInBounds_toArray, List.set_cons_zero, List.set_cons_succ, Array.getD_eq_getD_getElem?, List.getElem?_toArray, List.getElem?_cons_zero, List.getElem?_cons_succ, Option.getD_some]
                have hx := hx1.setRow y2
                have hE := hE1.setRow X hXN y2
                have how := own_keep (w' := y.setRow X y2) how1 (fun g hg _ => setRow_other y X g y2 (hsepv g hg))
                (repeat (first | ((first | refine wpG_go 19 (by simp only [List.getElem?_toArray, List.getElem?_cons_zero, List.getElem?_cons_succ] <;> rfl) (by decide +kernel) (by decide +kernel) (by kernel_rfl) (by rfl) (by exact fun _ _ _ _ h => h) hE.size ?_ | refine wpG_go 20 (by simp only [List.getElem?_toArray, List.getElem?_cons_zero, List.getElem?_cons_succ] <;> rfl) (by decide +kernel) (by decide +kernel) (by kernel_rfl) (by rfl) (by exact fun _ _ _ _ h => h) hE.size ?_); apply Exists.intro; refine ⟨fun w1 h1 => ?_, ?_⟩; (first | exact g_move _ rfl | exact g_assign _ rfl | (go_simp; first | exact ⟨rfl, rfl⟩ | rfl)); simp only [Act.put, Act.eval, List.setIfInBounds_toArray, List.set_cons_zero, List.set_cons_succ, Array.getD_eq_getD_getElem?, List.getElem?_toArray, List.getElem?_cons_zero, List.getElem?_cons_succ, Option.getD_some]) | ((first | refine wpG_skip 19 (by simp only [List.getElem?_toArray, List.getElem?_cons_zero, List.getElem?_cons_succ] <;> rfl) (by decide +kernel) (by decide +kernel) (by kernel_rfl) (by rfl) (by exact fun _ _ _ _ h => h) hE.size ?_ | refine wpG_skip 20 (by simp only [List.getElem?_toArray, List.getElem?_cons_zero, List.getElem?_cons_succ] <;> rfl) (by decide +kernel) (by decide +kernel) (by kernel_rfl) (by rfl) (by exact fun _ _ _ _ h => h) hE.size ?_); simp only [Act.put, Act.eval, List.setIfInBounds_toArray, List.set_cons_zero, List.set_cons_succ, Array.getD_eq_getD_getElem?, List.getElem?_toArray, List.getElem?_cons_zero, List.getElem?_cons_succ, Option.getD_some])))
                (refine wpG_done (by decide +kernel) ?_ _; intro z hz; try simp only [Act.put, Act.eval, List.setIfInBounds_toArray, List.set_cons_zero, List.set_cons_succ, Array.getD_eq_getD_getElem?, List.getElem?_toArray, List.getElem?_cons_zero, List.getElem?_cons_succ, Option.getD_some])
                have HFN := Lib.hid (And.intro hB2 (And.intro (own_bel how hz) (And.intro (hz.box hx) (hE.trans hz))))
                clear hB2 how hx hE HV2 hx1 how1 hE1 hy
                go_wp2_with fail
                go_meet
                case rel => exact ⟨X, v2, y2, l2, c2, rfl, rfl, rfl, HFN.out.1, HFN.out.2.1, HFN.out.2.2.1, HFN.out.2.2.2⟩
            · refine op_wanted (by simp only [List.getElem?_toArray, List.getElem?_cons_zero, List.getElem?_cons_succ] <;> rfl) rfl ?_
              have hE1 := hE.trans hy
              have hsz : wa.heap.size ≤ y.heap.size := hE1.size
              have ho1 := own_bel ho hy
              have hb1 := hy.box hb
              refine wp_new _ rfl j0 hj0 _ gz0 ⟨Below.alloc (Below.refl _ _) hsz _, ?_⟩
              simp only [Act.put, Act.eval, List.setIfInBounds_toArray, List.set_cons_zero, List.set_cons_succ, Array.getD_eq_getD_getElem?, List.getElem?_toArray, List.getElem?_cons_zero, List.getElem?_cons_succ, Option.getD_some]
              have hx := Box.new y zEn 28
              have hal := (Bel.refl y).alloc (.cells zEn 28)
              have hE := hE1.trans hal
              have ho := own_bel ho1 hal
              have hsep := fun (g : Nat) (hg : v4.ownBlock = some g) => (show g ≠ y.heap.size by have := (own_lt ho1 hg).2; omega)
              have hb := hal.box hb1
              have hXN := hsz
              generalize y.heap.size = X at *
              generalize y.alloc (.cells zEn 28) = u17 at *
              (refine wpG_one 7 (by decide +kernel) ?_; intro y hy; refine op_wanted (by simp only [List.getElem?_toArray, List.getElem?_cons_zero, List.getElem?_cons_succ] <;> rfl) rfl ?_)
              have hE1 := hE.trans hy
              have hsz : wa.heap.size ≤ y.heap.size := hE1.size
              have ho1 := own_bel ho hy
              have hx1 := hy.box hx
              have hb1 := hy.box hb
              refine wp_append_src (.tmp 45) (.tmp 47) _ rfl wa.heap.size 3 i0 _ 1 8 Try.underlying23 hi0 hz0 hz1 hz2 rfl (by omega) v4 (0 + j) ([] ++ intq (q.take j)) rfl ho1 (some ⟨b6, 0, none⟩) 1 1 [.int .i64 ni] rfl rfl (Src.box (show Box y b6 [Value.int .i64 ni].toArray 3 from hb1) 1) (by simp [Value.oneCell']) (by have := HJ9.out; unfold maxLen; omega) (by have := HJ9.out; omega) hsz ?_
              intro v7 u7 ho hg7 hat7
              have hb7 := grown_below hg7 ho1 (Nat.le_refl _) hsz
              refine ⟨hb7, ?_⟩
              simp only [Act.put, Act.eval, List.setIfInBounds_toArray, List.set_cons_zero, List.set_cons_succ, Array.getD_eq_getD_getElem?, List.getElem?_toArray, List.getElem?_cons_zero, List.getElem?_cons_succ, Option.getD_some]
              have hE := Bel.of (hE1.out.trans hb7)
              have hx := hx1.grown hg7 (fun e => hsep _ e.symm rfl)
              have hsep : ∀ g, v7.ownBlock = some g → g ≠ X := fun g hg => by
                rcases hat7 with h | h
                · exact hsep g (h ▸ hg)
                · rw [h] at hg; have := hx1.lt; have := Option.some.inj hg; omega
              (refine wpG_one 11 (by decide +kernel) ?_; intro y hy; refine op_wanted (by simp only [List.getElem?_toArray, List.getElem?_cons_zero, List.getElem?_cons_succ] <;> rfl) rfl ?_)
              have hE1 := hE.trans hy
              have hsz : wa.heap.size ≤ y.heap.size := hE1.size
              have ho1 := own_bel ho hy
              have hx1 := hy.box hx
              refine wp_append_src (.tmp 48) (.tmp 51) _ rfl wa.heap.size 3 i0 _ 1 8 Try.underlying23 hi0 hz0 hz1 hz2 rfl (by omega) v7 (0 + j + 1) ([] ++ intq (q.take j) ++ [.int .i64 ni]) rfl ho1 B2 (k - j) (d - j) (intq (q.drop j)) rfl HL11.out (si_src (HSI11.out.keep hE1)) (intq_one _) (by have := HJ9.out; unfold maxLen; omega) (by have := HJ9.out; omega) hsz ?_
              intro v11 u11 ho hg7 hat7
              have hb7 := grown_below hg7 ho1 (Nat.le_refl _) hsz
              refine ⟨hb7, ?_⟩
              simp only [Act.put, Act.eval, List.setIfInBounds_toArray, List.set_cons_zero, List.set_cons_succ, Array.getD_eq_getD_getElem?, List.getElem?_toArray, List.getElem?_cons_zero, List.getElem?_cons_succ, Option.getD_some]
              have hE := Bel.of (hE1.out.trans hb7)
              have hx := hx1.grown hg7 (fun e => hsep _ e.symm rfl)
              rw [HIQ.out] at ho
              generalize 0 + j + 1 + (k - j) = nz at ho
              obtain ⟨B5, e5, rfl, hsi, hn5, hm5⟩ := si_own ho
              (refine wpG_one 12 (by decide +kernel) ?_; intro y hy; refine op_wanted (by simp only [List.getElem?_toArray, List.getElem?_cons_zero, List.getElem?_cons_succ] <;> rfl) rfl ?_)
              have hE1 := hE.trans hy
              have hsz : wa.heap.size ≤ y.heap.size := hE1.size
              have hx1 := hy.box hx
              have hsi1 := hsi.keep hy
              go_simp
              refine (H1.out A n c l B5 nz e5 (q.take j ++ ni :: q.drop j) y (HL.out.bel (HE1'.out.trans hE1)) HM.out.1.1 HM.out.1.2 hsi1 hn5 hm5).mono ?_
              rintro e2 u12 ⟨v2, y2, l2, c2, rfl, hB2, ho2, hb2⟩
              refine ⟨hb2.mono hsz, ?_⟩
              have hE := hE1.call hb2
              have how := own_drop_alloc ho2 hsz
              have hx := (Bel.of hb2).box hx1
              have hsepv := fun (g : Nat) (hg : v2.ownBlock = some g) => (show g ≠ X by have := (own_lt ho2 hg).1; have := hx1.lt; omega)
              (repeat (first | ((first | refine wpG_go 13 (by simp only [List.getElem?_toArray, List.getElem?_cons_zero, List.getElem?_cons_succ] <;> rfl) (by decide +kernel) (by decide +kernel) (by kernel_rfl) (by rfl) (by exact fun _ _ _ _ h => h) hE.size ?_ | refine wpG_go 14 (by simp only [List.getElem?_toArray, List.getElem?_cons_zero, List.getElem?_cons_succ] <;> rfl) (by decide +kernel) (by decide +kernel) (by kernel_rfl) (by rfl) (by exact fun _ _ _ _ h => h) hE.size ?_ | refine wpG_go 15 (by simp only [List.getElem?_toArray, List.getElem?_cons_zero, List.getElem?_cons_succ] <;> rfl) (by decide +kernel) (by decide +kernel) (by kernel_rfl) (by rfl) (by exact fun _ _ _ _ h => h) hE.size ?_ | refine wpG_go 16 (by simp only [List.getElem?_toArray, List.getElem?_cons_zero, List.getElem?_cons_succ] <;> rfl) (by decide +kernel) (by decide +kernel) (by kernel_rfl) (by rfl) (by exact fun _ _ _ _ h => h) hE.size ?_); apply Exists.intro; refine ⟨fun w1 h1 => ?_, ?_⟩; (first | exact g_move _ rfl | exact g_assign _ rfl | (go_simp; first | exact ⟨rfl, rfl⟩ | rfl)); simp only [Act.put, Act.eval, List.setIfInBounds_toArray, List.set_cons_zero, List.set_cons_succ, Array.getD_eq_getD_getElem?, List.getElem?_toArray, List.getElem?_cons_zero, List.getElem?_cons_succ, Option.getD_some]) | ((first | refine wpG_skip 13 (by simp only [List.getElem?_toArray, List.getElem?_cons_zero, List.getElem?_cons_succ] <;> rfl) (by decide +kernel) (by decide +kernel) (by kernel_rfl) (by rfl) (by exact fun _ _ _ _ h => h) hE.size ?_ | refine wpG_skip 14 (by simp only [List.getElem?_toArray, List.getElem?_cons_zero, List.getElem?_cons_succ] <;> rfl) (by decide +kernel) (by decide +kernel) (by kernel_rfl) (by rfl) (by exact fun _ _ _ _ h => h) hE.size ?_ | refine wpG_skip 15 (by simp only [List.getElem?_toArray, List.getElem?_cons_zero, List.getElem?_cons_succ] <;> rfl) (by decide +kernel) (by decide +kernel) (by kernel_rfl) (by rfl) (by exact fun _ _ _ _ h => h) hE.size ?_ | refine wpG_skip 16 (by simp only [List.getElem?_toArray, List.getElem?_cons_zero, List.getElem?_cons_succ] <;> rfl) (by decide +kernel) (by decide +kernel) (by kernel_rfl) (by rfl) (by exact fun _ _ _ _ h => h) hE.size ?_); simp only [Act.put, Act.eval, List.setIfInBounds_toArray, List.set_cons_zero, List.set_cons_succ, Array.getD_eq_getD_getElem?, List.getElem?_toArray, List.getElem?_cons_zero, List.getElem?_cons_succ, Option.getD_some])))
              (refine wpG_one 18 (by decide +kernel) ?_; intro y hy; refine op_wanted (by simp only [List.getElem?_toArray, List.getElem?_cons_zero, List.getElem?_cons_succ] <;> rfl) rfl ?_)
              have hE1 := hE.trans hy
              have hsz : wa.heap.size ≤ y.heap.size := hE1.size
              have hx1 := hy.box hx
              have how1 := own_bel how hy
              have HV2 := EnV.run hB2
              refine wp_storeB HV2.ty _ _ rfl rfl rfl rfl hx1 (by rw [HV2.size]; rfl) HV2.one ⟨below_setRow' (Below.refl _ _) _ _ hXN, ?_⟩
              simp only [Act.put, Act.eval, List.setIfInBounds_toArray, List.set_cons_zero, List.set_cons_succ, Array.getD_eq_getD_getElem?, List.getElem?_toArray, List.getElem?_cons_zero, List.getElem?_cons_succ, Option.getD_some]
              have hx := hx1.setRow y2
              have hE := hE1.setRow X hXN y2
              have how := own_keep (w' := y.setRow X y2) how1 (fun g hg _ => setRow_other y X g y2 (hsepv g hg))
              (repeat (first | ((first | refine wpG_go 19 (by simp only [List.getElem?_toArray, List.getElem?_cons_zero, List.getElem?_cons_succ] <;> rfl) (by decide +kernel) (by decide +kernel) (by kernel_rfl) (by rfl) (by exact fun _ _ _ _ h => h) hE.size ?_ | refine wpG_go 20 (by simp only [List.getElem?_toArray, List.getElem?_cons_zero, List.getElem?_cons_succ] <;> rfl) (by decide +kernel) (by decide +kernel) (by kernel_rfl) (by rfl) (by exact fun _ _ _ _ h => h) hE.size ?_); apply Exists.intro; refine ⟨fun w1 h1 => ?_, ?_⟩; (first | exact g_move _ rfl | exact g_assign _ rfl | (go_simp; first | exact ⟨rfl, rfl⟩ | rfl)); simp only [Act.put, Act.eval, List.setIfInBounds_toArray, List.set_cons_zero, List.set_cons_succ, Array.getD_eq_getD_getElem?, List.getElem?_toArray, List.getElem?_cons_zero, List.getElem?_cons_succ, Option.getD_some]) | ((first | refine wpG_skip 19 (by simp only [List.getElem?_toArray, List.getElem?_cons_zero, List.getElem?_cons_succ] <;> rfl) (by decide +kernel) (by decide +kernel) (by kernel_rfl) (by rfl) (by exact fun _ _ _ _ h => h) hE.size ?_ | refine wpG_skip 20 (by simp only [List.getElem?_toArray, List.getElem?_cons_zero, List.getElem?_cons_succ] <;> rfl) (by decide +kernel) (by decide +kernel) (by kernel_rfl) (by rfl) (by exact fun _ _ _ _ h => h) hE.size ?_); simp only [Act.put, Act.eval, List.setIfInBounds_toArray, List.set_cons_zero, List.set_cons_succ, Array.getD_eq_getD_getElem?, List.getElem?_toArray, List.getElem?_cons_zero, List.getElem?_cons_succ, Option.getD_some])))
              (refine wpG_done (by decide +kernel) ?_ _; intro z hz; try simp only [Act.put, Act.eval, List.setIfInBounds_toArray, List.set_cons_zero, List.set_cons_succ, Array.getD_eq_getD_getElem?, List.getElem?_toArray, List.getElem?_cons_zero, List.getElem?_cons_succ, Option.getD_some])
              have HFN := Lib.hid (And.intro hB2 (And.intro (own_bel how hz) (And.intro (hz.box hx) (hE.trans hz))))
              clear hB2 how hx hE HV2 hx1 how1 hE1 hy
              go_wp2_with fail
              go_meet
              case rel => exact ⟨X, v2, y2, l2, c2, rfl, rfl, rfl, HFN.out.1, HFN.out.2.1, HFN.out.2.2.1, HFN.out.2.2.2⟩
          · refine op_wanted (by simp only [List.getElem?_toArray, List.getElem?_cons_zero, List.getElem?_cons_succ] <;> rfl) rfl ?_
            have hE1 := hE.trans hy
            have hsz : wa.heap.size ≤ y.heap.size := hE1.size
            have ho1 := own_bel ho hy
            refine wp_new _ rfl j0 hj0 _ gz0 ⟨Below.alloc (Below.refl _ _) hsz _, ?_⟩
            simp only [Act.put, Act.eval, List.setIfInBounds_toArray, List.set_cons_zero, List.set_cons_succ, Array.getD_eq_getD_getElem?, List.getElem?_toArray, List.getElem?_cons_zero, List.getElem?_cons_succ, Option.getD_some]
            have hx := Box.new y zEn 28
            have hal := (Bel.refl y).alloc (.cells zEn 28)
            have hE := hE1.trans hal
            have ho := own_bel ho1 hal
            have hsep := fun (g : Nat) (hg : v4.ownBlock = some g) => (show g ≠ y.heap.size by have := (own_lt ho1 hg).2; omega)
            have hXN := hsz
            generalize y.heap.size = X at *
            generalize y.alloc (.cells zEn 28) = u17 at *
            (refine wpG_one 6 (by decide +kernel) ?_; intro y hy; refine op_wanted (by simp only [List.getElem?_toArray, List.getElem?_cons_zero, List.getElem?_cons_succ] <;> rfl) rfl ?_)
            have hE1 := hE.trans hy
            have hsz : wa.heap.size ≤ y.heap.size := hE1.size
            have ho1 := own_bel ho hy
            have hx1 := hy.box hx
            refine wp_build_int 23 _ rfl 3 i0 Try.underlying23 hi0 hz0 hz1 ni rfl ?_
            refine ⟨Below.alloc (Below.refl _ _) hsz _, ?_⟩
            simp only [Act.put, Act.eval, List.setIfInBounds_toArray, List.set_cons_zero, List.set_cons_succ, Array.getD_eq_getD_getElem?, List.getElem?_toArray, List.getElem?_cons_zero, List.getElem?_cons_succ, Option.getD_some]
            have hb := Box.new y #[.int .i64 ni] 3
            have hal := (Bel.refl y).alloc (.cells #[.int .i64 ni] 3)
            have hE := hE1.trans hal
            have ho := own_bel ho1 hal
            have hx := hal.box hx1
            generalize y.heap.size = b6 at *
            generalize y.alloc (.cells #[.int .i64 ni] 3) = u6 at *
            (refine wpG_one 7 (by decide +kernel) ?_; intro y hy; refine op_wanted (by simp only [List.getElem?_toArray, List.getElem?_cons_zero, List.getElem?_cons_succ] <;> rfl) rfl ?_)
            have hE1 := hE.trans hy
            have hsz : wa.heap.size ≤ y.heap.size := hE1.size
            have ho1 := own_bel ho hy
            have hx1 := hy.box hx
            have hb1 := hy.box hb
            refine wp_append_src (.tmp 45) (.tmp 47) _ rfl wa.heap.size 3 i0 _ 1 8 Try.underlying23 hi0 hz0 hz1 hz2 rfl (by omega) v4 (0 + j) ([] ++ intq (q.take j)) rfl ho1 (some ⟨b6, 0, none⟩) 1 1 [.int .i64 ni] rfl rfl (Src.box (show Box y b6 [Value.int .i64 ni].toArray 3 from hb1) 1) (by simp [Value.oneCell']) (by have := HJ9.out; unfold maxLen; omega) (by have := HJ9.out; omega) hsz ?_
            intro v7 u7 ho hg7 hat7
            have hb7 := grown_below hg7 ho1 (Nat.le_refl _) hsz
            refine ⟨hb7, ?_⟩
            simp only [Act.put, Act.eval, List.setIfInBounds_toArray, List.set_cons_zero, List.set_cons_succ, Array.getD_eq_getD_getElem?, List.getElem?_toArray, List.getElem?_cons_zero, List.getElem?_cons_succ, Option.getD_some]
            have hE := Bel.of (hE1.out.trans hb7)
            have hx := hx1.grown hg7 (fun e => hsep _ e.symm rfl)
            have hsep : ∀ g, v7.ownBlock = some g → g ≠ X := fun g hg => by
              rcases hat7 with h | h
              · exact hsep g (h ▸ hg)
              · rw [h] at hg; have := hx1.lt; have := Option.some.inj hg; omega
            (refine wpG_one 11 (by decide +kernel) ?_; intro y hy; refine op_wanted (by simp only [List.getElem?_toArray, List.getElem?_cons_zero, List.getElem?_cons_succ] <;> rfl) rfl ?_)
            have hE1 := hE.trans hy
            have hsz : wa.heap.size ≤ y.heap.size := hE1.size
            have ho1 := own_bel ho hy
            have hx1 := hy.box hx
            refine wp_append_src (.tmp 48) (.tmp 51) _ rfl wa.heap.size 3 i0 _ 1 8 Try.underlying23 hi0 hz0 hz1 hz2 rfl (by omega) v7 (0 + j + 1) ([] ++ intq (q.take j) ++ [.int .i64 ni]) rfl ho1 B2 (k - j) (d - j) (intq (q.drop j)) rfl HL11.out (si_src (HSI11.out.keep hE1)) (intq_one _) (by have := HJ9.out; unfold maxLen; omega) (by have := HJ9.out; omega) hsz ?_
            intro v11 u11 ho hg7 hat7
            have hb7 := grown_below hg7 ho1 (Nat.le_refl _) hsz
            refine ⟨hb7, ?_⟩
            simp only [Act.put, Act.eval, List.setIfInBounds_toArray, List.set_cons_zero, List.set_cons_succ, Array.getD_eq_getD_getElem?, List.getElem?_toArray, List.getElem?_cons_zero, List.getElem?_cons_succ, Option.getD_some]
            have hE := Bel.of (hE1.out.trans hb7)
            have hx := hx1.grown hg7 (fun e => hsep _ e.symm rfl)
            rw [HIQ.out] at ho
            generalize 0 + j + 1 + (k - j) = nz at ho
            obtain ⟨B5, e5, rfl, hsi, hn5, hm5⟩ := si_own ho
            (refine wpG_one 12 (by decide +kernel) ?_; intro y hy; refine op_wanted (by simp only [List.getElem?_toArray, List.getElem?_cons_zero, List.getElem?_cons_succ] <;> rfl) rfl ?_)
            have hE1 := hE.trans hy
            have hsz : wa.heap.size ≤ y.heap.size := hE1.size
            have hx1 := hy.box hx
            have hsi1 := hsi.keep hy
            go_simp
            refine (H1.out A n c l B5 nz e5 (q.take j ++ ni :: q.drop j) y (HL.out.bel (HE1'.out.trans hE1)) HM.out.1.1 HM.out.1.2 hsi1 hn5 hm5).mono ?_
            rintro e2 u12 ⟨v2, y2, l2, c2, rfl, hB2, ho2, hb2⟩
            refine ⟨hb2.mono hsz, ?_⟩
            have hE := hE1.call hb2
            have how := own_drop_alloc ho2 hsz
            have hx := (Bel.of hb2).box hx1
            have hsepv := fun (g : Nat) (hg : v2.ownBlock = some g) => (show g ≠ X by have := (own_lt ho2 hg).1; have := hx1.lt; omega)
            (repeat (first | ((first | refine wpG_go 13 (by simp only [List.getElem?_toArray, List.getElem?_cons_zero, List.getElem?_cons_succ] <;> rfl) (by decide +kernel) (by decide +kernel) (by kernel_rfl) (by rfl) (by exact fun _ _ _ _ h => h) hE.size ?_ | refine wpG_go 14 (by simp only [List.getElem?_toArray, List.getElem?_cons_zero, List.getElem?_cons_succ] <;> rfl) (by decide +kernel) (by decide +kernel) (by kernel_rfl) (by rfl) (by exact fun _ _ _ _ h => h) hE.size ?_ | refine wpG_go 15 (by simp only [List.getElem?_toArray, List.getElem?_cons_zero, List.getElem?_cons_succ] <;> rfl) (by decide +kernel) (by decide +kernel) (by kernel_rfl) (by rfl) (by exact fun _ _ _ _ h => h) hE.size ?_ | refine wpG_go 16 (by simp only [List.getElem?_toArray, List.getElem?_cons_zero, List.getElem?_cons_succ] <;> rfl) (by decide +kernel) (by decide +kernel) (by kernel_rfl) (by rfl) (by exact fun _ _ _ _ h => h) hE.size ?_); apply Exists.intro; refine ⟨fun w1 h1 => ?_, ?_⟩; (first | exact g_move _ rfl | exact g_assign _ rfl | (go_simp; first | exact ⟨rfl, rfl⟩ | rfl)); simp only [Act.put, Act.eval, List.setIfInBounds_toArray, List.set_cons_zero, List.set_cons_succ, Array.getD_eq_getD_getElem?, List.getElem?_toArray, List.getElem?_cons_zero, List.getElem?_cons_succ, Option.getD_some]) | ((first | refine wpG_skip 13 (by simp only [List.getElem?_toArray, List.getElem?_cons_zero, List.getElem?_cons_succ] <;> rfl) (by decide +kernel) (by decide +kernel) (by kernel_rfl) (by rfl) (by exact fun _ _ _ _ h => h) hE.size ?_ | refine wpG_skip 14 (by simp only [List.getElem?_toArray, List.getElem?_cons_zero, List.getElem?_cons_succ] <;> rfl) (by decide +kernel) (by decide +kernel) (by kernel_rfl) (by rfl) (by exact fun _ _ _ _ h => h) hE.size ?_ | refine wpG_skip 15 (by simp only [List.getElem?_toArray, List.getElem?_cons_zero, List.getElem?_cons_succ] <;> rfl) (by decide +kernel) (by decide +kernel) (by kernel_rfl) (by rfl) (by exact fun _ _ _ _ h => h) hE.size ?_ | refine wpG_skip 16 (by simp only [List.getElem?_toArray, List.getElem?_cons_zero, List.getElem?_cons_succ] <;> rfl) (by decide +kernel) (by decide +kernel) (by kernel_rfl) (by rfl) (by exact fun _ _ _ _ h => h) hE.size ?_); simp only [Act.put, Act.eval, List.setIfInBounds_toArray, List.set_cons_zero, List.set_cons_succ, Array.getD_eq_getD_getElem?, List.getElem?_toArray, List.getElem?_cons_zero, List.getElem?_cons_succ, Option.getD_some])))
            (refine wpG_one 18 (by decide +kernel) ?_; intro y hy; refine op_wanted (by simp only [List.getElem?_toArray, List.getElem?_cons_zero, List.getElem?_cons_succ] <;> rfl) rfl ?_)
            have hE1 := hE.trans hy
            have hsz : wa.heap.size ≤ y.heap.size := hE1.size
            have hx1 := hy.box hx
            have how1 := own_bel how hy
            have HV2 := EnV.run hB2
            refine wp_storeB HV2.ty _ _ rfl rfl rfl rfl hx1 (by rw [HV2.size]; rfl) HV2.one ⟨below_setRow' (Below.refl _ _) _ _ hXN, ?_⟩
            simp only [Act.put, Act.eval, List.setIfInBounds_toArray, List.set_cons_zero, List.set_cons_succ, Array.getD_eq_getD_getElem?, List.getElem?_toArray, List.getElem?_cons_zero, List.getElem?_cons_succ, Option.getD_some]
            have hx := hx1.setRow y2
            have hE := hE1.setRow X hXN y2
            have how := own_keep (w' := y.setRow X y2) how1 (fun g hg _ => setRow_other y X g y2 (hsepv g hg))
            (repeat (first | ((first | refine wpG_go 19 (by simp only [List.getElem?_toArray, List.getElem?_cons_zero, List.getElem?_cons_succ] <;> rfl) (by decide +kernel) (by decide +kernel) (by kernel_rfl) (by rfl) (by exact fun _ _ _ _ h => h) hE.size ?_ | refine wpG_go 20 (by simp only [List.getElem?_toArray, List.getElem?_cons_zero, List.getElem?_cons_succ] <;> rfl) (by decide +kernel) (by decide +kernel) (by kernel_rfl) (by rfl) (by exact fun _ _ _ _ h => h) hE.size ?_); apply Exists.intro; refine ⟨fun w1 h1 => ?_, ?_⟩; (first | exact g_move _ rfl | exact g_assign _ rfl | (go_simp; first | exact ⟨rfl, rfl⟩ | rfl)); simp only [Act.put, Act.eval, List.setIfInBounds_toArray, List.set_cons_zero, List.set_cons_succ, Array.getD_eq_getD_getElem?, List.getElem?_toArray, List.getElem?_cons_zero, List.getElem?_cons_succ, Option.getD_some]) | ((first | refine wpG_skip 19 (by simp only [List.getElem?_toArray, List.getElem?_cons_zero, List.getElem?_cons_succ] <;> rfl) (by decide +kernel) (by decide +kernel) (by kernel_rfl) (by rfl) (by exact fun _ _ _ _ h => h) hE.size ?_ | refine wpG_skip 20 (by simp only [List.getElem?_toArray, List.getElem?_cons_zero, List.getElem?_cons_succ] <;> rfl) (by decide +kernel) (by decide +kernel) (by kernel_rfl) (by rfl) (by exact fun _ _ _ _ h => h) hE.size ?_); simp only [Act.put, Act.eval, List.setIfInBounds_toArray, List.set_cons_zero, List.set_cons_succ, Array.getD_eq_getD_getElem?, List.getElem?_toArray, List.getElem?_cons_zero, List.getElem?_cons_succ, Option.getD_some])))
            (refine wpG_done (by decide +kernel) ?_ _; intro z hz; try simp only [Act.put, Act.eval, List.setIfInBounds_toArray, List.set_cons_zero, List.set_cons_succ, Array.getD_eq_getD_getElem?, List.getElem?_toArray, List.getElem?_cons_zero, List.getElem?_cons_succ, Option.getD_some])
            have HFN := Lib.hid (And.intro hB2 (And.intro (own_bel how hz) (And.intro (hz.box hx) (hE.trans hz))))
            clear hB2 how hx hE HV2 hx1 how1 hE1 hy
            go_wp2_with fail
            go_meet
            case rel => exact ⟨X, v2, y2, l2, c2, rfl, rfl, rfl, HFN.out.1, HFN.out.2.1, HFN.out.2.2.1, HFN.out.2.2.2⟩
        · refine op_wanted (by simp only [List.getElem?_toArray, List.getElem?_cons_zero, List.getElem?_cons_succ] <;> rfl) rfl ?_
          have hE1 := hE.trans hy
          have hsz : wa.heap.size ≤ y.heap.size := hE1.size
          refine wp_build_int 23 _ rfl 3 i0 Try.underlying23 hi0 hz0 hz1 ni rfl ?_
          refine ⟨Below.alloc (Below.refl _ _) hsz _, ?_⟩
          simp only [Act.put, Act.eval, List.setIfInBounds_toArray, List.set_cons_zero, List.set_cons_succ, Array.getD_eq_getD_getElem?, List.getElem?_toArray, List.getElem?_cons_zero, List.getElem?_cons_succ, Option.getD_some]
          have hb := Box.new y #[.int .i64 ni] 3
          have hal := (Bel.refl y).alloc (.cells #[.int .i64 ni] 3)
          have hE := hE1.trans hal
          generalize y.heap.size = b6 at *
          generalize y.alloc (.cells #[.int .i64 ni] 3) = u6 at *
          refine wpG_all (rs := [4, 17]) (by decide +kernel) (by simp) ?_
          intro y hy ii hii
          simp only [List.mem_cons, List.not_mem_nil, or_false] at hii
          rcases hii with rfl | rfl
          · refine op_wanted (by simp only [List.getElem?_toArray, List.getElem?_cons_zero, List.getElem?_cons_succ] <;> rfl) rfl ?_
            have hE1 := hE.trans hy
            have hsz : wa.heap.size ≤ y.heap.size := hE1.size
            have hb1 := hy.box hb
            refine wp_append_src (.const (.slice none 0 0)) (.tmp 44) _ rfl wa.heap.size 3 i0 _ 1 8 Try.underlying23 hi0 hz0 hz1 hz2 rfl (by omega) (.slice none 0 0) 0 [] rfl (World.ownsRow_nil _ _ _ _) B j d (intq (q.take j)) rfl HL4.out (si_src (HSI4.out.keep hE1)) (intq_one _) (by have := HJ9.out; unfold maxLen; omega) (by have := HJ9.out; omega) hsz ?_
            intro v4 u4 ho hg4 hat4
            have hb4 : Below y.heap.size y u4 := (Below.refl _ _).grown hg4 (Nat.le_refl _) (fun k hk => by cases hk)
            refine ⟨hb4.mono hsz, ?_⟩
            simp only [Act.put, Act.eval, List.setIfInBounds_toArray, List.set_cons_zero, List.set_cons_succ, Array.getD_eq_getD_getElem?, List.getElem?_toArray, List.getElem?_cons_zero, List.getElem?_cons_succ, Option.getD_some]
            have hE := hE1.trans (Bel.of hb4)
            have hb := (Bel.of hb4).box hb1
            refine wpG_all (rs := [7, 17]) (by decide +kernel) (by simp) ?_
            intro y hy ii hii
            simp only [List.mem_cons, List.not_mem_nil, or_false] at hii
            rcases hii with rfl | rfl
            · refine op_wanted (by simp only [List.getElem?_toArray, List.getElem?_cons_zero, List.getElem?_cons_succ] <;> rfl) rfl ?_
              have hE1 := hE.trans hy
              have hsz : wa.heap.size ≤ y.heap.size := hE1.size
              have ho1 := own_bel ho hy
              have hb1 := hy.box hb
              refine wp_append_src (.tmp 45) (.tmp 47) _ rfl wa.heap.size 3 i0 _ 1 8 Try.underlying23 hi0 hz0 hz1 hz2 rfl (by omega) v4 (0 + j) ([] ++ intq (q.take j)) rfl ho1 (some ⟨b6, 0, none⟩) 1 1 [.int .i64 ni] rfl rfl (Src.box (show Box y b6 [Value.int .i64 ni].toArray 3 from hb1) 1) (by simp [Value.oneCell']) (by have := HJ9.out; unfold maxLen; omega) (by have := HJ9.out; omega) hsz ?_
              intro v7 u7 ho hg7 hat7
              have hb7 := grown_below hg7 ho1 (Nat.le_refl _) hsz
              refine ⟨hb7, ?_⟩
              simp only [Act.put, Act.eval, List.setIfInBounds_toArray, List.set_cons_zero, List.set_cons_succ, Array.getD_eq_getD_getElem?, List.getElem?_toArray, List.getElem?_cons_zero, List.getElem?_cons_succ, Option.getD_some]
              have hE := Bel.of (hE1.out.trans hb7)
              refine wpG_all (rs := [11, 17]) (by decide +kernel) (by simp) ?_
              intro y hy ii hii
              simp only [List.mem_cons, List.not_mem_nil, or_false] at hii
              rcases hii with rfl | rfl
              · refine op_wanted (by simp only [List.getElem?_toArray, List.getElem?_cons_zero, List.getElem?_cons_succ] <;> rfl) rfl ?_
                have hE1 := hE.trans hy
                have hsz : wa.heap.size ≤ y.heap.size := hE1.size
                have ho1 := own_bel ho hy
                refine wp_append_src (.tmp 48) (.tmp 51) _ rfl wa.heap.size 3 i0 _ 1 8 Try.underlying23 hi0 hz0 hz1 hz2 rfl (by omega) v7 (0 + j + 1) ([] ++ intq (q.take j) ++ [.int .i64 ni]) rfl ho1 B2 (k - j) (d - j) (intq (q.drop j)) rfl HL11.out (si_src (HSI11.out.keep hE1)) (intq_one _) (by have := HJ9.out; unfold maxLen; omega) (by have := HJ9.out; omega) hsz ?_
                intro v11 u11 ho hg7 hat7
                have hb7 := grown_below hg7 ho1 (Nat.le_refl _) hsz
                refine ⟨hb7, ?_⟩
                simp only [Act.put, Act.eval, List.setIfInBounds_toArray, List.set_cons_zero, List.set_cons_succ, Array.getD_eq_getD_getElem?, List.getElem?_toArray, List.getElem?_cons_zero, List.getElem?_cons_succ, Option.getD_some]
                have hE := Bel.of (hE1.out.trans hb7)
                rw [HIQ.out] at ho
                generalize 0 + j + 1 + (k - j) = nz at ho
                obtain ⟨B5, e5, rfl, hsi, hn5, hm5⟩ := si_own ho
                refine wpG_all (rs := [12, 17]) (by decide +kernel) (by simp) ?_
                intro y hy ii hii
                simp only [List.mem_cons, List.not_mem_nil, or_false] at hii
                rcases hii with rfl | rfl
                · refine op_wanted (by simp only [List.getElem?_toArray, List.getElem?_cons_zero, List.getElem?_cons_succ] <;> rfl) rfl ?_
                  have hE1 := hE.trans hy
                  have hsz : wa.heap.size ≤ y.heap.size := hE1.size
                  have hsi1 := hsi.keep hy
                  go_simp
                  refine (H1.out A n c l B5 nz e5 (q.take j ++ ni :: q.drop j) y (HL.out.bel (HE1'.out.trans hE1)) HM.out.1.1 HM.out.1.2 hsi1 hn5 hm5).mono ?_
                  rintro e2 u12 ⟨v2, y2, l2, c2, rfl, hB2, ho2, hb2⟩
                  refine ⟨hb2.mono hsz, ?_⟩
                  have hE := hE1.call hb2
                  have how := own_drop_alloc ho2 hsz
                  (repeat (first | ((first | refine wpG_go 13 (by simp only [List.getElem?_toArray, List.getElem?_cons_zero, List.getElem?_cons_succ] <;> rfl) (by decide +kernel) (by decide +kernel) (by kernel_rfl) (by rfl) (by exact fun _ _ _ _ h => h) hE.size ?_ | refine wpG_go 14 (by simp only [List.getElem?_toArray, List.getElem?_cons_zero, List.getElem?_cons_succ] <;> rfl) (by decide +kernel) (by decide +kernel) (by kernel_rfl) (by rfl) (by exact fun _ _ _ _ h => h) hE.size ?_ | refine wpG_go 15 (by simp only [List.getElem?_toArray, List.getElem?_cons_zero, List.getElem?_cons_succ] <;> rfl) (by decide +kernel) (by decide +kernel) (by kernel_rfl) (by rfl) (by exact fun _ _ _ _ h => h) hE.size ?_ | refine wpG_go 16 (by simp only [List.getElem?_toArray, List.getElem?_cons_zero, List.getElem?_cons_succ] <;> rfl) (by decide +kernel) (by decide +kernel) (by kernel_rfl) (by rfl) (by exact fun _ _ _ _ h => h) hE.size ?_); apply Exists.intro; refine ⟨fun w1 h1 => ?_, ?_⟩; (first | exact g_move _ rfl | exact g_assign _ rfl | (go_simp; first | exact ⟨rfl, rfl⟩ | rfl)); simp only [Act.put, Act.eval, List.setIfInBounds_toArray, List.set_cons_zero, List.set_cons_succ, Array.getD_eq_getD_getElem?, List.getElem?_toArray, List.getElem?_cons_zero, List.getElem?_cons_succ, Option.getD_some]) | ((first | refine wpG_skip 13 (by simp only [List.getElem?_toArray, List.getElem?_cons_zero, List.getElem?_cons_succ] <;> rfl) (by decide +kernel) (by decide +kernel) (by kernel_rfl) (by rfl) (by exact fun _ _ _ _ h => h) hE.size ?_ | refine wpG_skip 14 (by simp only [List.getElem?_toArray, List.getElem?_cons_zero, List.getElem?_cons_succ] <;> rfl) (by decide +kernel) (by decide +kernel) (by kernel_rfl) (by rfl) (by exact fun _ _ _ _ h => h) hE.size ?_ | refine wpG_skip 15 (by simp only [List.getElem?_toArray, List.getElem?_cons_zero, List.getElem?_cons_succ] <;> rfl) (by decide +kernel) (by decide +kernel) (by kernel_rfl) (by rfl) (by exact fun _ _ _ _ h => h) hE.size ?_ | refine wpG_skip 16 (by simp only [List.getElem?_toArray, List.getElem?_cons_zero, List.getElem?_cons_succ] <;> rfl) (by decide +kernel) (by decide +kernel) (by kernel_rfl) (by rfl) (by exact fun _ _ _ _ h => h) hE.size ?_); simp only [Act.put, Act.eval, List.setIfInBounds_toArray, List.set_cons_zero, List.set_cons_succ, Array.getD_eq_getD_getElem?, List.getElem?_toArray, List.getElem?_cons_zero, List.getElem?_cons_succ, Option.getD_some])))
                  (refine wpG_one 17 (by decide +kernel) ?_; intro y hy; refine op_wanted (by simp only [List.getElem?_toArray, List.getElem?_cons_zero, List.getElem?_cons_succ] <;> rfl) rfl ?_)
                  have hE1 := hE.trans hy
                  have hsz : wa.heap.size ≤ y.heap.size := hE1.size
                  have how1 := own_bel how hy
                  refine wp_new _ rfl j0 hj0 _ gz0 ⟨Below.alloc (Below.refl _ _) hsz _, ?_⟩
                  simp only [Act.put, Act.eval, List.setIfInBounds_toArray, List.set_cons_zero, List.set_cons_succ, Array.getD_eq_getD_getElem?, List.getElem?_toArray, List.getElem?_cons_zero, List.getElem?_cons_succ, Option.getD_some]
                  have hx := Box.new y zEn 28
                  have hal := (Bel.refl y).alloc (.cells zEn 28)
                  have hE := hE1.trans hal
                  have how := own_bel how1 hal
                  have hsepv := fun (g : Nat) (hg : v2.ownBlock = some g) => (show g ≠ y.heap.size by have := (own_lt how1 hg).2; omega)
                  have hXN := hsz
                  generalize y.heap.size = X at *
                  generalize y.alloc (.cells zEn 28) = u17 at *
                  (refine wpG_one 18 (by decide +kernel) ?_; intro y hy; refine op_wanted (by simp only [List.getElem?_toArray, List.getElem?_cons_zero, List.getElem?_cons_succ] <;> rfl) rfl ?_)
                  have hE1 := hE.trans hy
                  have hsz : wa.heap.size ≤ y.heap.size := hE1.size
                  have hx1 := hy.box hx
                  have how1 := own_bel how hy
                  have HV2 := EnV.run hB2
                  refine wp_storeB HV2.ty _ _ rfl rfl rfl rfl hx1 (by rw [HV2.size]; rfl) HV2.one ⟨below_setRow' (Below.refl _ _) _ _ hXN, ?_⟩
                  simp only [Act.put, Act.eval, List.setIfInBounds_toArray, List.set_cons_zero, List.set_cons_succ, Array.getD_eq_getD_getElem?, List.getElem?_toArray, List.getElem?_cons_zero, List.getElem?_cons_succ, Option.getD_some]
                  have hx := hx1.setRow y2
                  have hE := hE1.setRow X hXN y2
                  have how := own_keep (w' := y.setRow X y2) how1 (fun g hg _ => setRow_other y X g y2 (hsepv g hg))
                  (repeat (first | ((first | refine wpG_go 19 (by simp only [List.getElem?_toArray, List.getElem?_cons_zero, List.getElem?_cons_succ] <;> rfl) (by decide +kernel) (by decide +kernel) (by kernel_rfl) (by rfl) (by exact fun _ _ _ _ h => h) hE.size ?_ | refine wpG_go 20 (by simp only [List.getElem?_toArray, List.getElem?_cons_zero, List.getElem?_cons_succ] <;> rfl) (by decide +kernel) (by decide +kernel) (by kernel_rfl) (by rfl) (by exact fun _ _ _ _ h => h) hE.size ?_); apply Exists.intro; refine ⟨fun w1 h1 => ?_, ?_⟩; (first | exact g_move _ rfl | exact g_assign _ rfl | (go_simp; first | exact ⟨rfl, rfl⟩ | rfl)); simp only [Act.put, Act.eval, List.setIfInBounds_toArray, List.set_cons_zero, List.set_cons_succ, Array.getD_eq_getD_getElem?, List.getElem?_toArray, List.getElem?_cons_zero, List.getElem?_cons_succ, Option.getD_some]) | ((first | refine wpG_skip 19 (by simp only [List.getElem?_toArray, List.getElem?_cons_zero, List.getElem?_cons_succ] <;> rfl) (by decide +kernel) (by decide +kernel) (by kernel_rfl) (by rfl) (by exact fun _ _ _ _ h => h) hE.size ?_ | refine wpG_skip 20 (by simp only [List.getElem?_toArray, List.getElem?_cons_zero, List.getElem?_cons_succ] <;> rfl) (by decide +kernel) (by decide +kernel) (by kernel_rfl) (by rfl) (by exact fun _ _ _ _ h => h) hE.size ?_); simp only [Act.put, Act.eval, List.setIfInBounds_toArray, List.set_cons_zero, List.set_cons_succ, Array.getD_eq_getD_getElem?, List.getElem?_toArray, List.getElem?_cons_zero, List.getElem?_cons_succ, Option.getD_some])))
                  (refine wpG_done (by decide +kernel) ?_ _; intro z hz; try simp only [Act.put, Act.eval, List.setIfInBounds_toArray, List.set_cons_zero, List.set_cons_succ, Array.getD_eq_getD_getElem?, List.getElem?_toArray, List.getElem?_cons_zero, List.getElem?_cons_succ, Option.getD_some])
                  have HFN := Lib.hid (And.intro hB2 (And.intro (own_bel how hz) (And.intro (hz.box hx) (hE.trans hz))))
                  clear hB2 how hx hE HV2 hx1 how1 hE1 hy
                  go_wp2_with fail
                  go_meet
                  case rel => exact ⟨X, v2, y2, l2, c2, rfl, rfl, rfl, HFN.out.1, HFN.out.2.1, HFN.out.2.2.1, HFN.out.2.2.2⟩
                · refine op_wanted (by simp only [List.getElem?_toArray, List.getElem?_cons_zero, List.getElem?_cons_succ] <;> rfl) rfl ?_
                  have hE1 := hE.trans hy
                  have hsz : wa.heap.size ≤ y.heap.size := hE1.size
                  have hsi1 := hsi.keep hy
                  refine wp_new _ rfl j0 hj0 _ gz0 ⟨Below.alloc (Below.refl _ _) hsz _, ?_⟩
                  simp only [Act.put, Act.eval, List.setIfInBounds_toArray, List.set_cons_zero, List.set_cons_succ, Array.getD_eq_getD_getElem?, List.getElem?_toArray, List.getElem?_cons_zero, List.getElem?_cons_succ, Option.getD_some]
                  have hx := Box.new y zEn 28
                  have hal := (Bel.refl y).alloc (.cells zEn 28)
                  have hE := hE1.trans hal
                  have hsi := hsi1.keep hal
                  have hXN := hsz
                  generalize y.heap.size = X at *
                  generalize y.alloc (.cells zEn 28) = u17 at *
                  (refine wpG_one 12 (by decide +kernel) ?_; intro y hy; refine op_wanted (by simp only [List.getElem?_toArray, List.getElem?_cons_zero, List.getElem?_cons_succ] <;> rfl) rfl ?_)
                  have hE1 := hE.trans hy
                  have hsz : wa.heap.size ≤ y.heap.size := hE1.size
                  have hx1 := hy.box hx
                  have hsi1 := hsi.keep hy
                  go_simp
                  refine (H1.out A n c l B5 nz e5 (q.take j ++ ni :: q.drop j) y (HL.out.bel (HE1'.out.trans hE1)) HM.out.1.1 HM.out.1.2 hsi1 hn5 hm5).mono ?_
                  rintro e2 u12 ⟨v2, y2, l2, c2, rfl, hB2, ho2, hb2⟩
                  refine ⟨hb2.mono hsz, ?_⟩
                  have hE := hE1.call hb2
                  have how := own_drop_alloc ho2 hsz
                  have hx := (Bel.of hb2).box hx1
                  have hsepv := fun (g : Nat) (hg : v2.ownBlock = some g) => (show g ≠ X by have := (own_lt ho2 hg).1; have := hx1.lt; omega)
                  (repeat (first | ((first | refine wpG_go 13 (by simp only [List.getElem?_toArray, List.getElem?_cons_zero, List.getElem?_cons_succ] <;> rfl) (by decide +kernel) (by decide +kernel) (by kernel_rfl) (by rfl) (by exact fun _ _ _ _ h => h) hE.size ?_ | refine wpG_go 14 (by simp only [List.getElem?_toArray, List.getElem?_cons_zero, List.getElem?_cons_succ] <;> rfl) (by decide +kernel) (by decide +kernel) (by kernel_rfl) (by rfl) (by exact fun _ _ _ _ h => h) hE.size ?_ | refine wpG_go 15 (by simp only [List.getElem?_toArray, List.getElem?_cons_zero, List.getElem?_cons_succ] <;> rfl) (by decide +kernel) (by decide +kernel) (by kernel_rfl) (by rfl) (by exact fun _ _ _ _ h => h) hE.size ?_ | refine wpG_go 16 (by simp only [List.getElem?_toArray, List.getElem?_cons_zero, List.getElem?_cons_succ] <;> rfl) (by decide +kernel) (by decide +kernel) (by kernel_rfl) (by rfl) (by exact fun _ _ _ _ h => h) hE.size ?_); apply Exists.intro; refine ⟨fun w1 h1 => ?_, ?_⟩; (first | exact g_move _ rfl | exact g_assign _ rfl | (go_simp; first | exact ⟨rfl, rfl⟩ | rfl)); simp only [Act.put, Act.eval, List.setIfInBounds_toArray, List.set_cons_zero, List.set_cons_succ, Array.getD_eq_getD_getElem?, List.getElem?_toArray, List.getElem?_cons_zero, List.getElem?_cons_succ, Option.getD_some]) | ((first | refine wpG_skip 13 (by simp only [List.getElem?_toArray, List.getElem?_cons_zero, List.getElem?_cons_succ] <;> rfl) (by decide +kernel) (by decide +kernel) (by kernel_rfl) (by rfl) (by exact fun _ _ _ _ h => h) hE.size ?_ | refine wpG_skip 14 (by simp only [List.getElem?_toArray, List.getElem?_cons_zero, List.getElem?_cons_succ] <;> rfl) (by decide +kernel) (by decide +kernel) (by kernel_rfl) (by rfl) (by exact fun _ _ _ _ h => h) hE.size ?_ | refine wpG_skip 15 (by simp only [List.getElem?_toArray, List.getElem?_cons_zero, List.getElem?_cons_succ] <;> rfl) (by decide +kernel) (by decide +kernel) (by kernel_rfl) (by rfl) (by exact fun _ _ _ _ h => h) hE.size ?_ | refine wpG_skip 16 (by simp only [List.getElem?_toArray, List.getElem?_cons_zero, List.getElem?_cons_succ] <;> rfl) (by decide +kernel) (by decide +kernel) (by kernel_rfl) (by rfl) (by exact fun _ _ _ _ h => h) hE.size ?_); simp only [Act.put, Act.eval, List.setIfInBounds_toArray, List.set_cons_zero, List.set_cons_succ, Array.getD_eq_getD_getElem?, List.getElem?_toArray, List.getElem?_cons_zero, List.getElem?_cons_succ, Option.getD_some])))
                  (refine wpG_one 18 (by decide +kernel) ?_; intro y hy; refine op_wanted (by simp only [List.getElem?_toArray, List.getElem?_cons_zero, List.getElem?_cons_succ] <;> rfl) rfl ?_)
                  have hE1 := hE.trans hy
                  have hsz : wa.heap.size ≤ y.heap.size := hE1.size
                  have hx1 := hy.box hx
                  have how1 := own_bel how hy
                  have HV2 := EnV.run hB2
                  refine wp_storeB HV2.ty _ _ rfl rfl rfl rfl hx1 (by rw [HV2.size]; rfl) HV2.one ⟨below_setRow' (Below.refl _ _) _ _ hXN, ?_⟩
                  simp only [Act.put, Act.eval, List.setIfInBounds_toArray, List.set_cons_zero, List.set_cons_succ, Array.getD_eq_getD_getElem?, List.getElem?_toArray, List.getElem?_cons_zero, List.getElem?_cons_succ, Option.getD_some]
                  have hx := hx1.setRow y2
                  have hE := hE1.setRow X hXN y2
                  have how := own_keep (w' := y.setRow X y2) how1 (fun g hg _ => setRow_other y X g y2 (hsepv g hg))
                  (repeat (first | ((first | refine wpG_go 19 (by simp only [List.getElem?_toArray, List.getElem?_cons_zero, List.getElem?_cons_succ] <;> rfl) (by decide +kernel) (by decide +kernel) (by kernel_rfl) (by rfl) (by exact fun _ _ _ _ h => h) hE.size ?_ | refine wpG_go 20 (by simp only [List.getElem?_toArray, List.getElem?_cons_zero, List.getElem?_cons_succ] <;> rfl) (by decide +kernel) (by decide +kernel) (by kernel_rfl) (by rfl) (by exact fun _ _ _ _ h => h) hE.size ?_); apply Exists.intro; refine ⟨fun w1 h1 => ?_, ?_⟩; (first | exact g_move _ rfl | exact g_assign _ rfl | (go_simp; first | exact ⟨rfl, rfl⟩ | rfl)); simp only [Act.put, Act.eval, List.setIfInBounds_toArray, List.set_cons_zero, List.set_cons_succ, Array.getD_eq_getD_getElem?, List.getElem?_toArray, List.getElem?_cons_zero, List.getElem?_cons_succ, Option.getD_some]) | ((first | refine wpG_skip 19 (by simp only [List.getElem?_toArray, List.getElem?_cons_zero, List.getElem?_cons_succ] <;> rfl) (by decide +kernel) (by decide +kernel) (by kernel_rfl) (by rfl) (by exact fun _ _ _ _ h => h) hE.size ?_ | refine wpG_skip 20 (by simp only [List.getElem?_toArray, List.getElem?_cons_zero, List.getElem?_cons_succ] <;> rfl) (by decide +kernel) (by decide +kernel) (by kernel_rfl) (by rfl) (by exact fun _ _ _ _ h => h) hE.size ?_); simp only [Act.put, Act.eval, List.setIfInBounds_toArray, List.set_cons_zero, List.set_cons_succ, Array.getD_eq_getD_getElem?, List.getElem?_toArray, List.getElem?_cons_zero, List.getElem?_cons_succ, Option.getD_some])))
                  (refine wpG_done (by decide +kernel) ?_ _; intro z hz; try simp only [Act.put, Act.eval, List.setIfInBounds_toArray, List.set_cons_zero, List.set_cons_succ, Array.getD_eq_getD_getElem?, List.getElem?_toArray, List.getElem?_cons_zero, List.getElem?_cons_succ, Option.getD_some])
                  have HFN := Lib.hid (And.intro hB2 (And.intro (own_bel how hz) (And.intro (hz.box hx) (hE.trans hz))))
                  clear hB2 how hx hE HV2 hx1 how1 hE1 hy
                  go_wp2_with fail
                  go_meet
                  case rel => exact ⟨X, v2, y2, l2, c2, rfl, rfl, rfl, HFN.out.1, HFN.out.2.1, HFN.out.2.2.1, HFN.out.2.2.2⟩
              · refine op_wanted (by simp only [List.getElem?_toArray, List.getElem?_cons_zero, List.getElem?_cons_succ] <;> rfl) rfl ?_
                have hE1 := hE.trans hy
                have hsz : wa.heap.size ≤ y.heap.size := hE1.size
                have ho1 := own_bel ho hy
                refine wp_new _ rfl j0 hj0 _ gz0 ⟨Below.alloc (Below.refl _ _) hsz _, ?_⟩
                simp only [Act.put, Act.eval, List.setIfInBounds_toArray, List.set_cons_zero, List.set_cons_succ, Array.getD_eq_getD_getElem?, List.getElem?_toArray, List.getElem?_cons_zero, List.getElem?_cons_succ, Option.getD_some]
                have hx := Box.new y zEn 28
                have hal := (Bel.refl y).alloc (.cells zEn 28)
                have hE := hE1.trans hal
                have ho := own_bel ho1 hal
                have hsep := fun (g : Nat) (hg : v7.ownBlock = some g) => (show g ≠ y.heap.size by have := (own_lt ho1 hg).2; omega)
                have hXN := hsz
                generalize y.heap.size = X at *
                generalize y.alloc (.cells zEn 28) = u17 at *
                (refine wpG_one 11 (by decide +kernel) ?_; intro y hy; refine op_wanted (by simp only [List.getElem?_toArray, List.getElem?_cons_zero, List.getElem?_cons_succ] <;> rfl) rfl ?_)
                have hE1 := hE.trans hy
                have hsz : wa.heap.size ≤ y.heap.size := hE1.size
                have ho1 := own_bel ho hy
                have hx1 := hy.box hx
                refine wp_append_src (.tmp 48) (.tmp 51) _ rfl wa.heap.size 3 i0 _ 1 8 Try.underlying23 hi0 hz0 hz1 hz2 rfl (by omega) v7 (0 + j + 1) ([] ++ intq (q.take j) ++ [.int .i64 ni]) rfl ho1 B2 (k - j) (d - j) (intq (q.drop j)) rfl HL11.out (si_src (HSI11.out.keep hE1)) (intq_one _) (by have := HJ9.out; unfold maxLen; omega) (by have := HJ9.out; omega) hsz ?_
                intro v11 u11 ho hg7 hat7
                have hb7 := grown_below hg7 ho1 (Nat.le_refl _) hsz
                refine ⟨hb7, ?_⟩
                simp only [Act.put, Act.eval, List.setIfInBounds_toArray, List.set_cons_zero, List.set_cons_succ, Array.getD_eq_getD_getElem?, List.getElem?_toArray, List.getElem?_cons_zero, List.getElem?_cons_succ, Option.getD_some]
                have hE := Bel.of (hE1.out.trans hb7)
                have hx := hx1.grown hg7 (fun e => hsep _ e.symm rfl)
                rw [HIQ.out] at ho
                generalize 0 + j + 1 + (k - j) = nz at ho
                obtain ⟨B5, e5, rfl, hsi, hn5, hm5⟩ := si_own ho
                (refine wpG_one 12 (by decide +kernel) ?_; intro y hy; refine op_wanted (by simp only [List.getElem?_toArray, List.getElem?_cons_zero, List.getElem?_cons_succ] <;> rfl) rfl ?_)
                have hE1 := hE.trans hy
                have hsz : wa.heap.size ≤ y.heap.size := hE1.size
                have hx1 := hy.box hx
                have hsi1 := hsi.keep hy
                go_simp
                refine (H1.out A n c l B5 nz e5 (q.take j ++ ni :: q.drop j) y (HL.out.bel (HE1'.out.trans hE1)) HM.out.1.1 HM.out.1.2 hsi1 hn5 hm5).mono ?_
                rintro e2 u12 ⟨v2, y2, l2, c2, rfl, hB2, ho2, hb2⟩
                refine ⟨hb2.mono hsz, ?_⟩
                have hE := hE1.call hb2
                have how := own_drop_alloc ho2 hsz
                have hx := (Bel.of hb2).box hx1
                have hsepv := fun (g : Nat) (hg : v2.ownBlock = some g) => (show g ≠ X by have := (own_lt ho2 hg).1; have := hx1.lt; omega)
                (repeat (first | ((first | refine wpG_go 13 (by simp only [List.getElem?_toArray, List.getElem?_cons_zero, List.getElem?_cons_succ] <;> rfl) (by decide +kernel) (by decide +kernel) (by kernel_rfl) (by rfl) (by exact fun _ _ _ _ h => h) hE.size ?_ | refine wpG_go 14 (by simp only [List.getElem?_toArray, List.getElem?_cons_zero, List.getElem?_cons_succ] <;> rfl) (by decide +kernel) (by decide +kernel) (by kernel_rfl) (by rfl) (by exact fun _ _ _ _ h => h) hE.size ?_ | refine wpG_go 15 (by simp only [List.getElem?_toArray, List.getElem?_cons_zero, List.getElem?_cons_succ] <;> rfl) (by decide +kernel) (by decide +kernel) (by kernel_rfl) (by rfl) (by exact fun _ _ _ _ h => h) hE.size ?_ | refine wpG_go 16 (by simp only [List.getElem?_toArray, List.getElem?_cons_zero, List.getElem?_cons_succ] <;> rfl) (by decide +kernel) (by decide +kernel) (by kernel_rfl) (by rfl) (by exact fun _ _ _ _ h => h) hE.size ?_); apply Exists.intro; refine ⟨fun w1 h1 => ?_, ?_⟩; (first | exact g_move _ rfl | exact g_assign _ rfl | (go_simp; first | exact ⟨rfl, rfl⟩ | rfl)); simp only [Act.put, Act.eval, List.setIfInBounds_toArray, List.set_cons_zero, List.set_cons_succ, Array.getD_eq_getD_getElem?, List.getElem?_toArray, List.getElem?_cons_zero, List.getElem?_cons_succ, Option.getD_some]) | ((first | refine wpG_skip 13 (by simp only [List.getElem?_toArray, List.getElem?_cons_zero, List.getElem?_cons_succ] <;> rfl) (by decide +kernel) (by decide +kernel) (by kernel_rfl) (by rfl) (by exact fun _ _ _ _ h => h) hE.size ?_ | refine wpG_skip 14 (by simp only [List.getElem?_toArray, List.getElem?_cons_zero, List.getElem?_cons_succ] <;> rfl) (by decide +kernel) (by decide +kernel) (by kernel_rfl) (by rfl) (by exact fun _ _ _ _ h => h) hE.size ?_ | refine wpG_skip 15 (by simp only [List.getElem?_toArray, List.getElem?_cons_zero, List.getElem?_cons_succ] <;> rfl) (by decide +kernel) (by decide +kernel) (by kernel_rfl) (by rfl) (by exact fun _ _ _ _ h => h) hE.size ?_ | refine wpG_skip 16 (by simp only [List.getElem?_toArray, List.getElem?_cons_zero, List.getElem?_cons_succ] <;> rfl) (by decide +kernel) (by decide +kernel) (by kernel_rfl) (by rfl) (by exact fun _ _ _ _ h => h) hE.size ?_); simp only [Act.put, Act.eval, List.setIfInBounds_toArray, List.set_cons_zero, List.set_cons_succ, Array.getD_eq_getD_getElem?, List.getElem?_toArray, List.getElem?_cons_zero, List.getElem?_cons_succ, Option.getD_some])))
                (refine wpG_one 18 (by decide +kernel) ?_; intro y hy; refine op_wanted (by simp only [List.getElem?_toArray, List.getElem?_cons_zero, List.getElem?_cons_succ] <;> rfl) rfl ?_)
                have hE1 := hE.trans hy
                have hsz : wa.heap.size ≤ y.heap.size := hE1.size
                have hx1 := hy.box hx
                have how1 := own_bel how hy
                have HV2 := EnV.run hB2
                refine wp_storeB HV2.ty _ _ rfl rfl rfl rfl hx1 (by rw [HV2.size]; rfl) HV2.one ⟨below_setRow' (Below.refl _ _) _ _ hXN, ?_⟩
                simp only [Act.put, Act.eval, List.setIfInBounds_toArray, List.set_cons_zero, List.set_cons_succ, Array.getD_eq_getD_getElem?, List.getElem?_toArray, List.getElem?_cons_zero, List.getElem?_cons_succ, Option.getD_some]
                have hx := hx1.setRow y2
                have hE := hE1.setRow X hXN y2
                have how := own_keep (w' := y.setRow X y2) how1 (fun g hg _ => setRow_other y X g y2 (hsepv g hg))
                (repeat (first | ((first | refine wpG_go 19 (by simp only [List.getElem?_toArray, List.getElem?_cons_zero, List.getElem?_cons_succ] <;> rfl) (by decide +kernel) (by decide +kernel) (by kernel_rfl) (by rfl) (by exact fun _ _ _ _ h => h) hE.size ?_ | refine wpG_go 20 (by simp only [List.getElem?_toArray, List.getElem?_cons_zero, List.getElem?_cons_succ] <;> rfl) (by decide +kernel) (by decide +kernel) (by kernel_rfl) (by rfl) (by exact fun _ _ _ _ h => h) hE.size ?_); apply Exists.intro; refine ⟨fun w1 h1 => ?_, ?_⟩; (first | exact g_move _ rfl | exact g_assign _ rfl | (go_simp; first | exact ⟨rfl, rfl⟩ | rfl)); simp only [Act.put, Act.eval, List.setIfInBounds_toArray, List.set_cons_zero, List.set_cons_succ, Array.getD_eq_getD_getElem?, List.getElem?_toArray, List.getElem?_cons_zero, List.getElem?_cons_succ, Option.getD_some]) | ((first | refine wpG_skip 19 (by simp only [List.getElem?_toArray, List.getElem?_cons_zero, List.getElem?_cons_succ] <;> rfl) (by decide +kernel) (by decide +kernel) (by kernel_rfl) (by rfl) (by exact fun _ _ _ _ h => h) hE.size ?_ | refine wpG_skip 20 (by simp only [List.getElem?_toArray, List.getElem?_cons_zero, List.getElem?_cons_succ] <;> rfl) (by decide +kernel) (by decide +kernel) (by kernel_rfl) (by rfl) (by exact fun _ _ _ _ h => h) hE.size ?_); simp only [Act.put, Act.eval, List.setIfInBounds_toArray, List.set_cons_zero, List.set_cons_succ, Array.getD_eq_getD_getElem?, List.getElem?_toArray, List.getElem?_cons_zero, List.getElem?_cons_succ, Option.getD_some])))
                (refine wpG_done (by decide +kernel) ?_ _; intro z hz; try simp only [Act.put, Act.eval, List.setIfInBounds_toArray, List.set_cons_zero, List.set_cons_succ, Array.getD_eq_getD_getElem?, List.getElem?_toArray, List.getElem?_cons_zero, List.getElem?_cons_succ, Option.getD_some])
                have HFN := Lib.hid (And.intro hB2 (And.intro (own_bel how hz) (And.intro (hz.box hx) (hE.trans hz))))
                clear hB2 how hx hE HV2 hx1 how1 hE1 hy
                go_wp2_with fail
                go_meet
                case rel => exact ⟨X, v2, y2, l2, c2, rfl, rfl, rfl, HFN.out.1, HFN.out.2.1, HFN.out.2.2.1, HFN.out.2.2.2⟩
            · refine op_wanted (by simp only [List.getElem?_toArray, List.getElem?_cons_zero, List.getElem?_cons_succ] <;> rfl) rfl ?_
              have hE1 := hE.trans hy
              have hsz : wa.heap.size ≤ y.heap.size := hE1.size
              have ho1 := own_bel ho hy
              have hb1 := hy.box hb
              refine wp_new _ rfl j0 hj0 _ gz0 ⟨Below.alloc (Below.refl _ _) hsz _, ?_⟩
              simp only [Act.put, Act.eval, List.setIfInBounds_toArray, List.set_cons_zero, List.set_cons_succ, Array.getD_eq_getD_getElem?, List.getElem?_toArray, List.getElem?_cons_zero, List.getElem?_cons_succ, Option.getD_some]
              have hx := Box.new y zEn 28
              have hal := (Bel.refl y).alloc (.cells zEn 28)
              have hE := hE1.trans hal
              have ho := own_bel ho1 hal
              have hsep := fun (g : Nat) (hg : v4.ownBlock = some g) => (show g ≠ y.heap.size by have := (own_lt ho1 hg).2; omega)
              have hb := hal.box hb1
              have hXN := hsz
              generalize y.heap.size = X at *
              generalize y.alloc (.cells zEn 28) = u17 at *
              (refine wpG_one 7 (by decide +kernel) ?_; intro y hy; refine op_wanted (by simp only [List.getElem?_toArray, List.getElem?_cons_zero, List.getElem?_cons_succ] <;> rfl) rfl ?_)
              have hE1 := hE.trans hy
              have hsz : wa.heap.size ≤ y.heap.size := hE1.size
              have ho1 := own_bel ho hy
              have hx1 := hy.box hx
              have hb1 := hy.box hb
              refine wp_append_src (.tmp 45) (.tmp 47) _ rfl wa.heap.size 3 i0 _ 1 8 Try.underlying23 hi0 hz0 hz1 hz2 rfl (by omega) v4 (0 + j) ([] ++ intq (q.take j)) rfl ho1 (some ⟨b6, 0, none⟩) 1 1 [.int .i64 ni] rfl rfl (Src.box (show Box y b6 [Value.int .i64 ni].toArray 3 from hb1) 1) (by simp [Value.oneCell']) (by have := HJ9.out; unfold maxLen; omega) (by have := HJ9.out; omega) hsz ?_
              intro v7 u7 ho hg7 hat7
              have hb7 := grown_below hg7 ho1 (Nat.le_refl _) hsz
              refine ⟨hb7, ?_⟩
              simp only [Act.put, Act.eval, List.setIfInBounds_toArray, List.set_cons_zero, List.set_cons_succ, Array.getD_eq_getD_getElem?, List.getElem?_toArray, List.getElem?_cons_zero, List.getElem?_cons_succ, Option.getD_some]
              have hE := Bel.of (hE1.out.trans hb7)
              have hx := hx1.grown hg7 (fun e => hsep _ e.symm rfl)
              have hsep : ∀ g, v7.ownBlock = some g → g ≠ X := fun g hg => by
                rcases hat7 with h | h
                · exact hsep g (h ▸ hg)
                · rw [h] at hg; have := hx1.lt; have := Option.some.inj hg; omega
              (refine wpG_one 11 (by decide +kernel) ?_; intro y hy; refine op_wanted (by simp only [List.getElem?_toArray, List.getElem?_cons_zero, List.getElem?_cons_succ] <;> rfl) rfl ?_)
              have hE1 := hE.trans hy
              have hsz : wa.heap.size ≤ y.heap.size := hE1.size
              have ho1 := own_bel ho hy
              have hx1 := hy.box hx
              refine wp_append_src (.tmp 48) (.tmp 51) _ rfl wa.heap.size 3 i0 _ 1 8 Try.underlying23 hi0 hz0 hz1 hz2 rfl (by omega) v7 (0 + j + 1) ([] ++ intq (q.take j) ++ [.int .i64 ni]) rfl ho1 B2 (k - j) (d - j) (intq (q.drop j)) rfl HL11.out (si_src (HSI11.out.keep hE1)) (intq_one _) (by have := HJ9.out; unfold maxLen; omega) (by have := HJ9.out; omega) hsz ?_
              intro v11 u11 ho hg7 hat7
              have hb7 := grown_below hg7 ho1 (Nat.le_refl _) hsz
              refine ⟨hb7, ?_⟩
              simp only [Act.put, Act.eval, List.setIfInBounds_toArray, List.set_cons_zero, List.set_cons_succ, Array.getD_eq_getD_getElem?, List.getElem?_toArray, List.getElem?_cons_zero, List.getElem?_cons_succ, Option.getD_some]
              have hE := Bel.of (hE1.out.trans hb7)
              have hx := hx1.grown hg7 (fun e => hsep _ e.symm rfl)
              rw [HIQ.out] at ho
              generalize 0 + j + 1 + (k - j) = nz at ho
              obtain ⟨B5, e5, rfl, hsi, hn5, hm5⟩ := si_own ho
              (refine wpG_one 12 (by decide +kernel) ?_; intro y hy; refine op_wanted (by simp only [List.getElem?_toArray, List.getElem?_cons_zero, List.getElem?_cons_succ] <;> rfl) rfl ?_)
              have hE1 := hE.trans hy
              have hsz : wa.heap.size ≤ y.heap.size := hE1.size
              have hx1 := hy.box hx
              have hsi1 := hsi.keep hy
              go_simp
              refine (H1.out A n c l B5 nz e5 (q.take j ++ ni :: q.drop j) y (HL.out.bel (HE1'.out.trans hE1)) HM.out.1.1 HM.out.1.2 hsi1 hn5 hm5).mono ?_
              rintro e2 u12 ⟨v2, y2, l2, c2, rfl, hB2, ho2, hb2⟩
              refine ⟨hb2.mono hsz, ?_⟩
              have hE := hE1.call hb2
              have how := own_drop_alloc ho2 hsz
              have hx := (Bel.of hb2).box hx1
              have hsepv := fun (g : Nat) (hg : v2.ownBlock = some g) => (show g ≠ X by have := (own_lt ho2 hg).1; have := hx1.lt; omega)
              (repeat (first | ((first | refine wpG_go 13 (by simp only [List.getElem?_toArray, List.getElem?_cons_zero, List.getElem?_cons_succ] <;> rfl) (by decide +kernel) (by decide +kernel) (by kernel_rfl) (by rfl) (by exact fun _ _ _ _ h => h) hE.size ?_ | refine wpG_go 14 (by simp only [List.getElem?_toArray, List.getElem?_cons_zero, List.getElem?_cons_succ] <;> rfl) (by decide +kernel) (by decide +kernel) (by kernel_rfl) (by rfl) (by exact fun _ _ _ _ h => h) hE.size ?_ | refine wpG_go 15 (by simp only [List.getElem?_toArray, List.getElem?_cons_zero, List.getElem?_cons_succ] <;> rfl) (by decide +kernel) (by decide +kernel) (by kernel_rfl) (by rfl) (by exact fun _ _ _ _ h => h) hE.size ?_ | refine wpG_go 16 (by simp only [List.getElem?_toArray, List.getElem?_cons_zero, List.getElem?_cons_succ] <;> rfl) (by decide +kernel) (by decide +kernel) (by kernel_rfl) (by rfl) (by exact fun _ _ _ _ h => h) hE.size ?_); apply Exists.intro; refine ⟨fun w1 h1 => ?_, ?_⟩; (first | exact g_move _ rfl | exact g_assign _ rfl | (go_simp; first | exact ⟨rfl, rfl⟩ | rfl)); simp only [Act.put, Act.eval, List.setIfInBounds_toArray, List.set_cons_zero, List.set_cons_succ, Array.getD_eq_getD_getElem?, List.getElem?_toArray, List.getElem?_cons_zero, List.getElem?_cons_succ, Option.getD_some]) | ((first | refine wpG_skip 13 (by simp only [List.getElem?_toArray, List.getElem?_cons_zero, List.getElem?_cons_succ] <;> rfl) (by decide +kernel) (by decide +kernel) (by kernel_rfl) (by rfl) (by exact fun _ _ _ _ h => h) hE.size ?_ | refine wpG_skip 14 (by simp only [List.getElem?_toArray, List.getElem?_cons_zero, List.getElem?_cons_succ] <;> rfl) (by decide +kernel) (by decide +kernel) (by kernel_rfl) (by rfl) (by exact fun _ _ _ _ h => h) hE.size ?_ | refine wpG_skip 15 (by simp only [List.getElem?_toArray, List.getElem?_cons_zero, List.getElem?_cons_succ] <;> rfl) (by decide +kernel) (by decide +kernel) (by kernel_rfl) (by rfl) (by exact fun _ _ _ _ h => h) hE.size ?_ | refine wpG_skip 16 (by simp only [List.getElem?_toArray, List.getElem?_cons_zero, List.getElem?_cons_succ] <;> rfl) (by decide +kernel) (by decide +kernel) (by kernel_rfl) (by rfl) (by exact fun _ _ _ _ h => h) hE.size ?_); simp only [Act.put, Act.eval, List.setIfInBounds_toArray, List.set_cons_zero, List.set_cons_succ, Array.getD_eq_getD_getElem?, List.getElem?_toArray, List.getElem?_cons_zero, List.getElem?_cons_succ, Option.getD_some])))
              (refine wpG_one 18 (by decide +kernel) ?_; intro y hy; refine op_wanted (by simp only [List.getElem?_toArray, List.getElem?_cons_zero, List.getElem?_cons_succ] <;> rfl) rfl ?_)
              have hE1 := hE.trans hy
              have hsz : wa.heap.size ≤ y.heap.size := hE1.size
              have hx1 := hy.box hx
              have how1 := own_bel how hy
              have HV2 := EnV.run hB2
              refine wp_storeB HV2.ty _ _ rfl rfl rfl rfl hx1 (by rw [HV2.size]; rfl) HV2.one ⟨below_setRow' (Below.refl _ _) _ _ hXN, ?_⟩
              simp only [Act.put, Act.eval, List.setIfInBounds_toArray, List.set_cons_zero, List.set_cons_succ, Array.getD_eq_getD_getElem?, List.getElem?_toArray, List.getElem?_cons_zero, List.getElem?_cons_succ, Option.getD_some]
              have hx := hx1.setRow y2
              have hE := hE1.setRow X hXN y2
              have how := own_keep (w' := y.setRow X y2) how1 (fun g hg _ => setRow_other y X g y2 (hsepv g hg))
              (repeat (first | ((first | refine wpG_go 19 (by simp only [List.getElem?_toArray, List.getElem?_cons_zero, List.getElem?_cons_succ] <;> rfl) (by decide +kernel) (by decide +kernel) (by kernel_rfl) (by rfl) (by exact fun _ _ _ _ h => h) hE.size ?_ | refine wpG_go 20 (by simp only [List.getElem?_toArray, List.getElem?_cons_zero, List.getElem?_cons_succ] <;> rfl) (by decide +kernel) (by decide +kernel) (by kernel_rfl) (by rfl) (by exact fun _ _ _ _ h => h) hE.size ?_); apply Exists.intro; refine ⟨fun w1 h1 => ?_, ?_⟩; (first | exact g_move _ rfl | exact g_assign _ rfl | (go_simp; first | exact ⟨rfl, rfl⟩ | rfl)); simp only [Act.put, Act.eval, List.setIfInBounds_toArray, List.set_cons_zero, List.set_cons_succ, Array.getD_eq_getD_getElem?, List.getElem?_toArray, List.getElem?_cons_zero, List.getElem?_cons_succ, Option.getD_some]) | ((first | refine wpG_skip 19 (by simp only [List.getElem?_toArray, List.getElem?_cons_zero, List.getElem?_cons_succ] <;> rfl) (by decide +kernel) (by decide +kernel) (by kernel_rfl) (by rfl) (by exact fun _ _ _ _ h => h) hE.size ?_ | refine wpG_skip 20 (by simp only [List.getElem?_toArray, List.getElem?_cons_zero, List.getElem?_cons_succ] <;> rfl) (by decide +kernel) (by decide +kernel) (by kernel_rfl) (by rfl) (by exact fun _ _ _ _ h => h) hE.size ?_); simp only [Act.put, Act.eval, List.setIfInBounds_toArray, List.set_cons_zero, List.set_cons_succ, Array.getD_eq_getD_getElem?, List.getElem?_toArray, List.getElem?_cons_zero, List.getElem?_cons_succ, Option.getD_some])))
              (refine wpG_done (by decide +kernel) ?_ _; intro z hz; try simp only [Act.put, Act.eval, List.setIfInBounds_toArray, List.set_cons_zero, List.set_cons_succ, Array.getD_eq_getD_getElem?, List.getElem?_toArray, List.getElem?_cons_zero, List.getElem?_cons_succ, Option.getD_some])
              have HFN := Lib.hid (And.intro hB2 (And.intro (own_bel how hz) (And.intro (hz.box hx) (hE.trans hz))))
              clear hB2 how hx hE HV2 hx1 how1 hE1 hy
              go_wp2_with fail
              go_meet
              case rel => exact ⟨X, v2, y2, l2, c2, rfl, rfl, rfl, HFN.out.1, HFN.out.2.1, HFN.out.2.2.1, HFN.out.2.2.2⟩
          · refine op_wanted (by simp only [List.getElem?_toArray, List.getElem?_cons_zero, List.getElem?_cons_succ] <;> rfl) rfl ?_
            have hE1 := hE.trans hy
            have hsz : wa.heap.size ≤ y.heap.size := hE1.size
            have hb1 := hy.box hb
            refine wp_new _ rfl j0 hj0 _ gz0 ⟨Below.alloc (Below.refl _ _) hsz _, ?_⟩
            simp only [Act.put, Act.eval, List.setIfInBounds_toArray, List.set_cons_zero, List.set_cons_succ, Array.getD_eq_getD_getElem?, List.getElem?_toArray, List.getElem?_cons_zero, List.getElem?_cons_succ, Option.getD_some]
            have hx := Box.new y zEn 28
            have hal := (Bel.refl y).alloc (.cells zEn 28)
            have hE := hE1.trans hal
            have hb := hal.box hb1
            have hXN := hsz
            generalize y.heap.size = X at *
            generalize y.alloc (.cells zEn 28) = u17 at *
            (refine wpG_one 4 (by decide +kernel) ?_; intro y hy; refine op_wanted (by simp only [List.getElem?_toArray, List.getElem?_cons_zero, List.getElem?_cons_succ] <;> rfl) rfl ?_)
            have hE1 := hE.trans hy
            have hsz : wa.heap.size ≤ y.heap.size := hE1.size
            have hx1 := hy.box hx
            have hb1 := hy.box hb
            refine wp_append_src (.const (.slice none 0 0)) (.tmp 44) _ rfl wa.heap.size 3 i0 _ 1 8 Try.underlying23 hi0 hz0 hz1 hz2 rfl (by omega) (.slice none 0 0) 0 [] rfl (World.ownsRow_nil _ _ _ _) B j d (intq (q.take j)) rfl HL4.out (si_src (HSI4.out.keep hE1)) (intq_one _) (by have := HJ9.out; unfold maxLen; omega) (by have := HJ9.out; omega) hsz ?_
            intro v4 u4 ho hg4 hat4
            have hb4 : Below y.heap.size y u4 := (Below.refl _ _).grown hg4 (Nat.le_refl _) (fun k hk => by cases hk)
            refine ⟨hb4.mono hsz, ?_⟩
            simp only [Act.put, Act.eval, List.setIfInBounds_toArray, List.set_cons_zero, List.set_cons_succ, Array.getD_eq_getD_getElem?, List.getElem?_toArray, List.getElem?_cons_zero, List.getElem?_cons_succ, Option.getD_some]
            have hE := hE1.trans (Bel.of hb4)
            have hx := (Bel.of hb4).box hx1
            have hsep : ∀ g, v4.ownBlock = some g → g ≠ X := fun g hg => by
              rcases hat4 with h | h
              · rw [h] at hg; cases hg
              · rw [h] at hg; have := hx1.lt; have := Option.some.inj hg; omega
            have hb := (Bel.of hb4).box hb1
            (refine wpG_one 7 (by decide +kernel) ?_; intro y hy; refine op_wanted (by simp only [List.getElem?_toArray, List.getElem?_cons_zero, List.getElem?_cons_succ] <;> rfl) rfl ?_)
            have hE1 := hE.trans hy
            have hsz : wa.heap.size ≤ y.heap.size := hE1.size
            have ho1 := own_bel ho hy
            have hx1 := hy.box hx
            have hb1 := hy.box hb
            refine wp_append_src (.tmp 45) (.tmp 47) _ rfl wa.heap.size 3 i0 _ 1 8 Try.underlying23 hi0 hz0 hz1 hz2 rfl (by omega) v4 (0 + j) ([] ++ intq (q.take j)) rfl ho1 (some ⟨b6, 0, none⟩) 1 1 [.int .i64 ni] rfl rfl (Src.box (show Box y b6 [Value.int .i64 ni].toArray 3 from hb1) 1) (by simp [Value.oneCell']) (by have := HJ9.out; unfold maxLen; omega) (by have := HJ9.out; omega) hsz ?_
            intro v7 u7 ho hg7 hat7
            have hb7 := grown_below hg7 ho1 (Nat.le_refl _) hsz
            refine ⟨hb7, ?_⟩
            simp only [Act.put, Act.eval, List.setIfInBounds_toArray, List.set_cons_zero, List.set_cons_succ, Array.getD_eq_getD_getElem?, List.getElem?_toArray, List.getElem?_cons_zero, List.getElem?_cons_succ, Option.getD_some]
            have hE := Bel.of (hE1.out.trans hb7)
            have hx := hx1.grown hg7 (fun e => hsep _ e.symm rfl)
            have hsep : ∀ g, v7.ownBlock = some g → g ≠ X := fun g hg => by
              rcases hat7 with h | h
              · exact hsep g (h ▸ hg)
              · rw [h] at hg; have := hx1.lt; have := Option.some.inj hg; omega
            (refine wpG_one 11 (by decide +kernel) ?_; intro y hy; refine op_wanted (by simp only [List.getElem?_toArray, List.getElem?_cons_zero, List.getElem?_cons_succ] <;> rfl) rfl ?_)
            have hE1 := hE.trans hy
            have hsz : wa.heap.size ≤ y.heap.size := hE1.size
            have ho1 := own_bel ho hy
            have hx1 := hy.box hx
            refine wp_append_src (.tmp 48) (.tmp 51) _ rfl wa.heap.size 3 i0 _ 1 8 Try.underlying23 hi0 hz0 hz1 hz2 rfl (by omega) v7 (0 + j + 1) ([] ++ intq (q.take j) ++ [.int .i64 ni]) rfl ho1 B2 (k - j) (d - j) (intq (q.drop j)) rfl HL11.out (si_src (HSI11.out.keep hE1)) (intq_one _) (by have := HJ9.out; unfold maxLen; omega) (by have := HJ9.out; omega) hsz ?_
            intro v11 u11 ho hg7 hat7
            have hb7 := grown_below hg7 ho1 (Nat.le_refl _) hsz
            refine ⟨hb7, ?_⟩
            simp only [Act.put, Act.eval, List.setIfInBounds_toArray, List.set_cons_zero, List.set_cons_succ, Array.getD_eq_getD_getElem?, List.getElem?_toArray, List.getElem?_cons_zero, List.getElem?_cons_succ, Option.getD_some]
            have hE := Bel.of (hE1.out.trans hb7)
            have hx := hx1.grown hg7 (fun e => hsep _ e.symm rfl)
            rw [HIQ.out] at ho
            generalize 0 + j + 1 + (k - j) = nz at ho
            obtain ⟨B5, e5, rfl, hsi, hn5, hm5⟩ := si_own ho
            (refine wpG_one 12 (by decide +kernel) ?_; intro y hy; refine op_wanted (by simp only [List.getElem?_toArray, List.getElem?_cons_zero, List.getElem?_cons_succ] <;> rfl) rfl ?_)
            have hE1 := hE.trans hy
            have hsz : wa.heap.size ≤ y.heap.size := hE1.size
            have hx1 := hy.box hx
            have hsi1 := hsi.keep hy
            go_simp
            refine (H1.out A n c l B5 nz e5 (q.take j ++ ni :: q.drop j) y (HL.out.bel (HE1'.out.trans hE1)) HM.out.1.1 HM.out.1.2 hsi1 hn5 hm5).mono ?_
            rintro e2 u12 ⟨v2, y2, l2, c2, rfl, hB2, ho2, hb2⟩
            refine ⟨hb2.mono hsz, ?_⟩
            have hE := hE1.call hb2
            have how := own_drop_alloc ho2 hsz
            have hx := (Bel.of hb2).box hx1
            have hsepv := fun (g : Nat) (hg : v2.ownBlock = some g) => (show g ≠ X by have := (own_lt ho2 hg).1; have := hx1.lt; omega)
            (repeat (first | ((first | refine wpG_go 13 (by simp only [List.getElem?_toArray, List.getElem?_cons_zero, List.getElem?_cons_succ] <;> rfl) (by decide +kernel) (by decide +kernel) (by kernel_rfl) (by rfl) (by exact fun _ _ _ _ h => h) hE.size ?_ | refine wpG_go 14 (by simp only [List.getElem?_toArray, List.getElem?_cons_zero, List.getElem?_cons_succ] <;> rfl) (by decide +kernel) (by decide +kernel) (by kernel_rfl) (by rfl) (by exact fun _ _ _ _ h => h) hE.size ?_ | refine wpG_go 15 (by simp only [List.getElem?_toArray, List.getElem?_cons_zero, List.getElem?_cons_succ] <;> rfl) (by decide +kernel) (by decide +kernel) (by kernel_rfl) (by rfl) (by exact fun _ _ _ _ h => h) hE.size ?_ | refine wpG_go 16 (by simp only [List.getElem?_toArray, List.getElem?_cons_zero, List.getElem?_cons_succ] <;> rfl) (by decide +kernel) (by decide +kernel) (by kernel_rfl) (by rfl) (by exact fun _ _ _ _ h => h) hE.size ?_); apply Exists.intro; refine ⟨fun w1 h1 => ?_, ?_⟩; (first | exact g_move _ rfl | exact g_assign _ rfl | (go_simp; first | exact ⟨rfl, rfl⟩ | rfl)); simp only [Act.put, Act.eval, List.setIfInBounds_toArray, List.set_cons_zero, List.set_cons_succ, Array.getD_eq_getD_getElem?, List.getElem?_toArray, List.getElem?_cons_zero, List.getElem?_cons_succ, Option.getD_some]) | ((first | refine wpG_skip 13 (by simp only [List.getElem?_toArray, List.getElem?_cons_zero, List.getElem?_cons_succ] <;> rfl) (by decide +kernel) (by decide +kernel) (by kernel_rfl) (by rfl) (by exact fun _ _ _ _ h => h) hE.size ?_ | refine wpG_skip 14 (by simp only [List.getElem?_toArray, List.getElem?_cons_zero, List.getElem?_cons_succ] <;> rfl) (by decide +kernel) (by decide +kernel) (by kernel_rfl) (by rfl) (by exact fun _ _ _ _ h => h) hE.size ?_ | refine wpG_skip 15 (by simp only [List.getElem?_toArray, List.getElem?_cons_zero, List.getElem?_cons_succ] <;> rfl) (by decide +kernel) (by decide +kernel) (by kernel_rfl) (by rfl) (by exact fun _ _ _ _ h => h) hE.size ?_ | refine wpG_skip 16 (by simp only [List.getElem?_toArray, List.getElem?_cons_zero, List.getElem?_cons_succ] <;> rfl) (by decide +kernel) (by decide +kernel) (by kernel_rfl) (by rfl) (by exact fun _ _ _ _ h => h) hE.size ?_); simp only [Act.put, Act.eval, List.setIfInBounds_toArray, List.set_cons_zero, List.set_cons_succ, Array.getD_eq_getD_getElem?, List.getElem?_toArray, List.getElem?_cons_zero, List.getElem?_cons_succ, Option.getD_some])))
            (refine wpG_one 18 (by decide +kernel) ?_; intro y hy; refine op_wanted (by simp only [List.getElem?_toArray, List.getElem?_cons_zero, List.getElem?_cons_succ] <;> rfl) rfl ?_)
            have hE1 := hE.trans hy
            have hsz : wa.heap.size ≤ y.heap.size := hE1.size
            have hx1 := hy.box hx
            have how1 := own_bel how hy
            have HV2 := EnV.run hB2
            refine wp_storeB HV2.ty _ _ rfl rfl rfl rfl hx1 (by rw [HV2.size]; rfl) HV2.one ⟨below_setRow' (Below.refl _ _) _ _ hXN, ?_⟩
            simp only [Act.put, Act.eval, List.setIfInBounds_toArray, List.set_cons_zero, List.set_cons_succ, Array.getD_eq_getD_getElem?, List.getElem?_toArray, List.getElem?_cons_zero, List.getElem?_cons_succ, Option.getD_some]
            have hx := hx1.setRow y2
            have hE := hE1.setRow X hXN y2
            have how := own_keep (w' := y.setRow X y2) how1 (fun g hg _ => setRow_other y X g y2 (hsepv g hg))
            (repeat (first | ((first | refine wpG_go 19 (by simp only [List.getElem?_toArray, List.getElem?_cons_zero, List.getElem?_cons_succ] <;> rfl) (by decide +kernel) (by decide +kernel) (by kernel_rfl) (by rfl) (by exact fun _ _ _ _ h => h) hE.size ?_ | refine wpG_go 20 (by simp only [List.getElem?_toArray, List.getElem?_cons_zero, List.getElem?_cons_succ] <;> rfl) (by decide +kernel) (by decide +kernel) (by kernel_rfl) (by rfl) (by exact fun _ _ _ _ h => h) hE.size ?_); apply Exists.intro; refine ⟨fun w1 h1 => ?_, ?_⟩; (first | exact g_move _ rfl | exact g_assign _ rfl | (go_simp; first | exact ⟨rfl, rfl⟩ | rfl)); simp only [Act.put, Act.eval, List.setIfInBounds_toArray, List.set_cons_zero, List.set_cons_succ, Array.getD_eq_getD_getElem?, List.getElem?_toArray, List.getElem?_cons_zero, List.getElem?_cons_succ, Option.getD_some]) | ((first | refine wpG_skip 19 (by simp only [List.getElem?_toArray, List.getElem?_cons_zero, List.getElem?_cons_succ] <;> rfl) (by decide +kernel) (by decide +kernel) (by kernel_rfl) (by rfl) (by exact fun _ _ _ _ h => h) hE.size ?_ | refine wpG_skip 20 (by simp only [List.getElem?_toArray, List.getElem?_cons_zero, List.getElem?_cons_succ] <;> rfl) (by decide +kernel) (by decide +kernel) (by kernel_rfl) (by rfl) (by exact fun _ _ _ _ h => h) hE.size ?_); simp only [Act.put, Act.eval, List.setIfInBounds_toArray, List.set_cons_zero, List.set_cons_succ, Array.getD_eq_getD_getElem?, List.getElem?_toArray, List.getElem?_cons_zero, List.getElem?_cons_succ, Option.getD_some])))
            (refine wpG_done (by decide +kernel) ?_ _; intro z hz; try simp only [Act.put, Act.eval, List.setIfInBounds_toArray, List.set_cons_zero, List.set_cons_succ, Array.getD_eq_getD_getElem?, List.getElem?_toArray, List.getElem?_cons_zero, List.getElem?_cons_succ, Option.getD_some])
            have HFN := Lib.hid (And.intro hB2 (And.intro (own_bel how hz) (And.intro (hz.box hx) (hE.trans hz))))
            clear hB2 how hx hE HV2 hx1 how1 hE1 hy
            go_wp2_with fail
            go_meet
            case rel => exact ⟨X, v2, y2, l2, c2, rfl, rfl, rfl, HFN.out.1, HFN.out.2.1, HFN.out.2.2.1, HFN.out.2.2.2⟩
        · refine op_wanted (by simp only [List.getElem?_toArray, List.getElem?_cons_zero, List.getElem?_cons_succ] <;> rfl) rfl ?_
          have hE1 := hE.trans hy
          have hsz : wa.heap.size ≤ y.heap.size := hE1.size
          refine wp_new _ rfl j0 hj0 _ gz0 ⟨Below.alloc (Below.refl _ _) hsz _, ?_⟩
          simp only [Act.put, Act.eval, List.setIfInBounds_toArray, List.set_cons_zero, List.set_cons_succ, Array.getD_eq_getD_getElem?, List.getElem?_toArray, List.getElem?_cons_zero, List.getElem?_cons_succ, Option.getD_some]
          have hx := Box.new y zEn 28
          have hal := (Bel.refl y).alloc (.cells zEn 28)
          have hE := hE1.trans hal
          have hXN := hsz
          generalize y.heap.size = X at *
          generalize y.alloc (.cells zEn 28) = u17 at *
          refine wpG_all (rs := [4, 6]) (by decide +kernel) (by simp) ?_
          intro y hy ii hii
          simp only [List.mem_cons, List.not_mem_nil, or_false] at hii
          rcases hii with rfl | rfl
          · refine op_wanted (by simp only [List.getElem?_toArray, List.getElem?_cons_zero, List.getElem?_cons_succ] <;> rfl) rfl ?_
            have hE1 := hE.trans hy
            have hsz : wa.heap.size ≤ y.heap.size := hE1.size
            have hx1 := hy.box hx
            refine wp_append_src (.const (.slice none 0 0)) (.tmp 44) _ rfl wa.heap.size 3 i0 _ 1 8 Try.underlying23 hi0 hz0 hz1 hz2 rfl (by omega) (.slice none 0 0) 0 [] rfl (World.ownsRow_nil _ _ _ _) B j d (intq (q.take j)) rfl HL4.out (si_src (HSI4.out.keep hE1)) (intq_one _) (by have := HJ9.out; unfold maxLen; omega) (by have := HJ9.out; omega) hsz ?_
            intro v4 u4 ho hg4 hat4
            have hb4 : Below y.heap.size y u4 := (Below.refl _ _).grown hg4 (Nat.le_refl _) (fun k hk => by cases hk)
            refine ⟨hb4.mono hsz, ?_⟩
            simp only [Act.put, Act.eval, List.setIfInBounds_toArray, List.set_cons_zero, List.set_cons_succ, Array.getD_eq_getD_getElem?, List.getElem?_toArray, List.getElem?_cons_zero, List.getElem?_cons_succ, Option.getD_some]
            have hE := hE1.trans (Bel.of hb4)
            have hx := (Bel.of hb4).box hx1
            have hsep : ∀ g, v4.ownBlock = some g → g ≠ X := fun g hg => by
              rcases hat4 with h | h
              · rw [h] at hg; cases hg
              · rw [h] at hg; have := hx1.lt; have := Option.some.inj hg; omega
            (refine wpG_one 6 (by decide +kernel) ?_; intro y hy; refine op_wanted (by simp only [List.getElem?_toArray, List.getElem?_cons_zero, List.getElem?_cons_succ] <;> rfl) rfl ?_)
            have hE1 := hE.trans hy
            have hsz : wa.heap.size ≤ y.heap.size := hE1.size
            have ho1 := own_bel ho hy
            have hx1 := hy.box hx
            refine wp_build_int 23 _ rfl 3 i0 Try.underlying23 hi0 hz0 hz1 ni rfl ?_
            refine ⟨Below.alloc (Below.refl _ _) hsz _, ?_⟩
            simp only [Act.put, Act.eval, List.setIfInBounds_toArray, List.set_cons_zero, List.set_cons_succ, Array.getD_eq_getD_getElem?, List.getElem?_toArray, List.getElem?_cons_zero, List.getElem?_cons_succ, Option.getD_some]
            have hb := Box.new y #[.int .i64 ni] 3
            have hal := (Bel.refl y).alloc (.cells #[.int .i64 ni] 3)
            have hE := hE1.trans hal
            have ho := own_bel ho1 hal
            have hx := hal.box hx1
            generalize y.heap.size = b6 at *
            generalize y.alloc (.cells #[.int .i64 ni] 3) = u6 at *
            (refine wpG_one 7 (by decide +kernel) ?_; intro y hy; refine op_wanted (by simp only [List.getElem?_toArray, List.getElem?_cons_zero, List.getElem?_cons_succ] <;> rfl) rfl ?_)
            have hE1 := hE.trans hy
            have hsz : wa.heap.size ≤ y.heap.size := hE1.size
            have ho1 := own_bel ho hy
            have hx1 := hy.box hx
            have hb1 := hy.box hb
            refine wp_append_src (.tmp 45) (.tmp 47) _ rfl wa.heap.size 3 i0 _ 1 8 Try.underlying23 hi0 hz0 hz1 hz2 rfl (by omega) v4 (0 + j) ([] ++ intq (q.take j)) rfl ho1 (some ⟨b6, 0, none⟩) 1 1 [.int .i64 ni] rfl rfl (Src.box (show Box y b6 [Value.int .i64 ni].toArray 3 from hb1) 1) (by simp [Value.oneCell']) (by have := HJ9.out; unfold maxLen; omega) (by have := HJ9.out; omega) hsz ?_
            intro v7 u7 ho hg7 hat7
            have hb7 := grown_below hg7 ho1 (Nat.le_refl _) hsz
            refine ⟨hb7, ?_⟩
            simp only [Act.put, Act.eval, List.setIfInBounds_toArray, List.set_cons_zero, List.set_cons_succ, Array.getD_eq_getD_getElem?, List.getElem?_toArray, List.getElem?_cons_zero, List.getElem?_cons_succ, Option.getD_some]
            have hE := Bel.of (hE1.out.trans hb7)
            have hx := hx1.grown hg7 (fun e => hsep _ e.symm rfl)
            have hsep : ∀ g, v7.ownBlock = some g → g ≠ X := fun g hg => by
              rcases hat7 with h | h
              · exact hsep g (h ▸ hg)
              · rw [h] at hg; have := hx1.lt; have := Option.some.inj hg; omega
            (refine wpG_one 11 (by decide +kernel) ?_; intro y hy; refine op_wanted (by simp only [List.getElem?_toArray, List.getElem?_cons_zero, List.getElem?_cons_succ] <;> rfl) rfl ?_)
            have hE1 := hE.trans hy
            have hsz : wa.heap.size ≤ y.heap.size := hE1.size
            have ho1 := own_bel ho hy
            have hx1 := hy.box hx
            refine wp_append_src (.tmp 48) (.tmp 51) _ rfl wa.heap.size 3 i0 _ 1 8 Try.underlying23 hi0 hz0 hz1 hz2 rfl (by omega) v7 (0 + j + 1) ([] ++ intq (q.take j) ++ [.int .i64 ni]) rfl ho1 B2 (k - j) (d - j) (intq (q.drop j)) rfl HL11.out (si_src (HSI11.out.keep hE1)) (intq_one _) (by have := HJ9.out; unfold maxLen; omega) (by have := HJ9.out; omega) hsz ?_
            intro v11 u11 ho hg7 hat7
            have hb7 := grown_below hg7 ho1 (Nat.le_refl _) hsz
            refine ⟨hb7, ?_⟩
            simp only [Act.put, Act.eval, List.setIfInBounds_toArray, List.set_cons_zero, List.set_cons_succ, Array.getD_eq_getD_getElem?, List.getElem?_toArray, List.getElem?_cons_zero, List.getElem?_cons_succ, Option.getD_some]
            have hE := Bel.of (hE1.out.trans hb7)
            have hx := hx1.grown hg7 (fun e => hsep _ e.symm rfl)
            rw [HIQ.out] at ho
            generalize 0 + j + 1 + (k - j) = nz at ho
            obtain ⟨B5, e5, rfl, hsi, hn5, hm5⟩ := si_own ho
            (refine wpG_one 12 (by decide +kernel) ?_; intro y hy; refine op_wanted (by simp only [List.getElem?_toArray, List.getElem?_cons_zero, List.getElem?_cons_succ] <;> rfl) rfl ?_)
            have hE1 := hE.trans hy
            have hsz : wa.heap.size ≤ y.heap.size := hE1.size
            have hx1 := hy.box hx
            have hsi1 := hsi.keep hy
            go_simp
            refine (H1.out A n c l B5 nz e5 (q.take j ++ ni :: q.drop j) y (HL.out.bel (HE1'.out.trans hE1)) HM.out.1.1 HM.out.1.2 hsi1 hn5 hm5).mono ?_
            rintro e2 u12 ⟨v2, y2, l2, c2, rfl, hB2, ho2, hb2⟩
            refine ⟨hb2.mono hsz, ?_⟩
            have hE := hE1.call hb2
            have how := own_drop_alloc ho2 hsz
            have hx := (Bel.of hb2).box hx1
            have hsepv := fun (g : Nat) (hg : v2.ownBlock = some g) => (show g ≠ X by have := (own_lt ho2 hg).1; have := hx1.lt; omega)
            (repeat (first | ((first | refine wpG_go 13 (by simp only [List.getElem?_toArray, List.getElem?_cons_zero, List.getElem?_cons_succ] <;> rfl) (by decide +kernel) (by decide +kernel) (by kernel_rfl) (by rfl) (by exact fun _ _ _ _ h => h) hE.size ?_ | refine wpG_go 14 (by simp only [List.getElem?_toArray, List.getElem?_cons_zero, List.getElem?_cons_succ] <;> rfl) (by decide +kernel) (by decide +kernel) (by kernel_rfl) (by rfl) (by exact fun _ _ _ _ h => h) hE.size ?_ | refine wpG_go 15 (by simp only [List.getElem?_toArray, List.getElem?_cons_zero, List.getElem?_cons_succ] <;> rfl) (by decide +kernel) (by decide +kernel) (by kernel_rfl) (by rfl) (by exact fun _ _ _ _ h => h) hE.size ?_ | refine wpG_go 16 (by simp only [List.getElem?_toArray, List.getElem?_cons_zero, List.getElem?_cons_succ] <;> rfl) (by decide +kernel) (by decide +kernel) (by kernel_rfl) (by rfl) (by exact fun _ _ _ _ h => h) hE.size ?_); apply Exists.intro; refine ⟨fun w1 h1 => ?_, ?_⟩; (first | exact g_move _ rfl | exact g_assign _ rfl | (go_simp; first | exact ⟨rfl, rfl⟩ | rfl)); simp only [Act.put, Act.eval, List.setIfInBounds_toArray, List.set_cons_zero, List.set_cons_succ, Array.getD_eq_getD_getElem?, List.getElem?_toArray, List.getElem?_cons_zero, List.getElem?_cons_succ, Option.getD_some]) | ((first | refine wpG_skip 13 (by simp only [List.getElem?_toArray, List.getElem?_cons_zero, List.getElem?_cons_succ] <;> rfl) (by decide +kernel) (by decide +kernel) (by kernel_rfl) (by rfl) (by exact fun _ _ _ _ h => h) hE.size ?_ | refine wpG_skip 14 (by simp only [List.getElem?_toArray, List.getElem?_cons_zero, List.getElem?_cons_succ] <;> rfl) (by decide +kernel) (by decide +kernel) (by kernel_rfl) (by rfl) (by exact fun _ _ _ _ h => h) hE.size ?_ | refine wpG_skip 15 (by simp only [List.getElem?_toArray, List.getElem?_cons_zero, List.getElem?_cons_succ] <;> rfl) (by decide +kernel) (by decide +kernel) (by kernel_rfl) (by rfl) (by exact fun _ _ _ _ h => h) hE.size ?_ | refine wpG_skip 16 (by simp only [List.getElem?_toArray, List.getElem?_cons_zero, List.getElem?_cons_succ] <;> rfl) (by decide +kernel) (by decide +kernel) (by kernel_rfl) (by rfl) (by exact fun _ _ _ _ h => h) hE.size ?_); simp only [Act.put, Act.eval, List.setIfInBounds_toArray, List.set_cons_zero, List.set_cons_succ, Array.getD_eq_getD_getElem?, List.getElem?_toArray, List.getElem?_cons_zero, List.getElem?_cons_succ, Option.getD_some])))
            (refine wpG_one 18 (by decide +kernel) ?_; intro y hy; refine op_wanted (by simp only [List.getElem?_toArray, List.getElem?_cons_zero, List.getElem?_cons_succ] <;> rfl) rfl ?_)
            have hE1 := hE.trans hy
            have hsz : wa.heap.size ≤ y.heap.size := hE1.size
            have hx1 := hy.box hx
            have how1 := own_bel how hy
            have HV2 := EnV.run hB2
            refine wp_storeB HV2.ty _ _ rfl rfl rfl rfl hx1 (by rw [HV2.size]; rfl) HV2.one ⟨below_setRow' (Below.refl _ _) _ _ hXN, ?_⟩
            simp only [Act.put, Act.eval, List.setIfInBounds_toArray, List.set_cons_zero, List.set_cons_succ, Array.getD_eq_getD_getElem?, List.getElem?_toArray, List.getElem?_cons_zero, List.getElem?_cons_succ, Option.getD_some]
            have hx := hx1.setRow y2
            have hE := hE1.setRow X hXN y2
            have how := own_keep (w' := y.setRow X y2) how1 (fun g hg _ => setRow_other y X g y2 (hsepv g hg))
            (repeat (first | ((first | refine wpG_go 19 (by simp only [List.getElem?_toArray, List.getElem?_cons_zero, List.getElem?_cons_succ] <;> rfl) (by decide +kernel) (by decide +kernel) (by kernel_rfl) (by rfl) (by exact fun _ _ _ _ h => h) hE.size ?_ | refine wpG_go 20 (by simp only [List.getElem?_toArray, List.getElem?_cons_zero, List.getElem?_cons_succ] <;> rfl) (by decide +kernel) (by decide +kernel) (by kernel_rfl) (by rfl) (by exact fun _ _ _ _ h => h) hE.size ?_); apply Exists.intro; refine ⟨fun w1 h1 => ?_, ?_⟩; (first | exact g_move _ rfl | exact g_assign _ rfl | (go_simp; first | exact ⟨rfl, rfl⟩ | rfl)); simp only [Act.put, Act.eval, List.setIfInBounds_toArray, List.set_cons_zero, List.set_cons_succ, Array.getD_eq_getD_getElem?, List.getElem?_toArray, List.getElem?_cons_zero, List.getElem?_cons_succ, Option.getD_some]) | ((first | refine wpG_skip 19 (by simp only [List.getElem?_toArray, List.getElem?_cons_zero, List.getElem?_cons_succ] <;> rfl) (by decide +kernel) (by decide +kernel) (by kernel_rfl) (by rfl) (by exact fun _ _ _ _ h => h) hE.size ?_ | refine wpG_skip 20 (by simp only [List.getElem?_toArray, List.getElem?_cons_zero, List.getElem?_cons_succ] <;> rfl) (by decide +kernel) (by decide +kernel) (by kernel_rfl) (by rfl) (by exact fun _ _ _ _ h => h) hE.size ?_); simp only [Act.put, Act.eval, List.setIfInBounds_toArray, List.set_cons_zero, List.set_cons_succ, Array.getD_eq_getD_getElem?, List.getElem?_toArray, List.getElem?_cons_zero, List.getElem?_cons_succ, Option.getD_some])))
            (refine wpG_done (by decide +kernel) ?_ _; intro z hz; try simp only [Act.put, Act.eval, List.setIfInBounds_toArray, List.set_cons_zero, List.set_cons_succ, Array.getD_eq_getD_getElem?, List.getElem?_toArray, List.getElem?_cons_zero, List.getElem?_cons_succ, Option.getD_some])
            have HFN := Lib.hid (And.intro hB2 (And.intro (own_bel how hz) (And.intro (hz.box hx) (hE.trans hz))))
            clear hB2 how hx hE HV2 hx1 how1 hE1 hy
            go_wp2_with fail
            go_meet
            case rel => exact ⟨X, v2, y2, l2, c2, rfl, rfl, rfl, HFN.out.1, HFN.out.2.1, HFN.out.2.2.1, HFN.out.2.2.2⟩
          · refine op_wanted (by simp only [List.getElem?_toArray, List.getElem?_cons_zero, List.getElem?_cons_succ] <;> rfl) rfl ?_
            have hE1 := hE.trans hy
            have hsz : wa.heap.size ≤ y.heap.size := hE1.size
            have hx1 := hy.box hx
            refine wp_build_int 23 _ rfl 3 i0 Try.underlying23 hi0 hz0 hz1 ni rfl ?_
            refine ⟨Below.alloc (Below.refl _ _) hsz _, ?_⟩
            simp only [Act.put, Act.eval, List.setIfInBounds_toArray, List.set_cons_zero, List.set_cons_succ, Array.getD_eq_getD_getElem?, List.getElem?_toArray, List.getElem?_cons_zero, List.getElem?_cons_succ, Option.getD_some]
            have hb := Box.new y #[.int .i64 ni] 3
            have hal := (Bel.refl y).alloc (.cells #[.int .i64 ni] 3)
            have hE := hE1.trans hal
            have hx := hal.box hx1
            generalize y.heap.size = b6 at *
            generalize y.alloc (.cells #[.int .i64 ni] 3) = u6 at *
            (refine wpG_one 4 (by decide +kernel) ?_; intro y hy; refine op_wanted (by simp only [List.getElem?_toArray, List.getElem?_cons_zero, List.getElem?_cons_succ] <;> rfl) rfl ?_)
            have hE1 := hE.trans hy
            have hsz : wa.heap.size ≤ y.heap.size := hE1.size
            have hx1 := hy.box hx
            have hb1 := hy.box hb
            refine wp_append_src (.const (.slice none 0 0)) (.tmp 44) _ rfl wa.heap.size 3 i0 _ 1 8 Try.underlying23 hi0 hz0 hz1 hz2 rfl (by omega) (.slice none 0 0) 0 [] rfl (World.ownsRow_nil _ _ _ _) B j d (intq (q.take j)) rfl HL4.out (si_src (HSI4.out.keep hE1)) (intq_one _) (by have := HJ9.out; unfold maxLen; omega) (by have := HJ9.out; omega) hsz ?_
            intro v4 u4 ho hg4 hat4
            have hb4 : Below y.heap.size y u4 := (Below.refl _ _).grown hg4 (Nat.le_refl _) (fun k hk => by cases hk)
            refine ⟨hb4.mono hsz, ?_⟩
            simp only [Act.put, Act.eval, List.setIfInBounds_toArray, List.set_cons_zero, List.set_cons_succ, Array.getD_eq_getD_getElem?, List.getElem?_toArray, List.getElem?_cons_zero, List.getElem?_cons_succ, Option.getD_some]
            have hE := hE1.trans (Bel.of hb4)
            have hx := (Bel.of hb4).box hx1
            have hsep : ∀ g, v4.ownBlock = some g → g ≠ X := fun g hg => by
              rcases hat4 with h | h
              · rw [h] at hg; cases hg
              · rw [h] at hg; have := hx1.lt; have := Option.some.inj hg; omega
            have hb := (Bel.of hb4).box hb1
            (refine wpG_one 7 (by decide +kernel) ?_; intro y hy; refine op_wanted (by simp only [List.getElem?_toArray, List.getElem?_cons_zero, List.getElem?_cons_succ] <;> rfl) rfl ?_)
            have hE1 := hE.trans hy
            have hsz : wa.heap.size ≤ y.heap.size := hE1.size
            have ho1 := own_bel ho hy
            have hx1 := hy.box hx
            have hb1 := hy.box hb
            refine wp_append_src (.tmp 45) (.tmp 47) _ rfl wa.heap.size 3 i0 _ 1 8 Try.underlying23 hi0 hz0 hz1 hz2 rfl (by omega) v4 (0 + j) ([] ++ intq (q.take j)) rfl ho1 (some ⟨b6, 0, none⟩) 1 1 [.int .i64 ni] rfl rfl (Src.box (show Box y b6 [Value.int .i64 ni].toArray 3 from hb1) 1) (by simp [Value.oneCell']) (by have := HJ9.out; unfold maxLen; omega) (by have := HJ9.out; omega) hsz ?_
            intro v7 u7 ho hg7 hat7
            have hb7 := grown_below hg7 ho1 (Nat.le_refl _) hsz
            refine ⟨hb7, ?_⟩
            simp only [Act.put, Act.eval, List.setIfInBounds_toArray, List.set_cons_zero, List.set_cons_succ, Array.getD_eq_getD_getElem?, List.getElem?_toArray, List.getElem?_cons_zero, List.getElem?_cons_succ, Option.getD_some]
            have hE := Bel.of (hE1.out.trans hb7)
            have hx := hx1.grown hg7 (fun e => hsep _ e.symm rfl)
            have hsep : ∀ g, v7.ownBlock = some g → g ≠ X := fun g hg => by
              rcases hat7 with h | h
              · exact hsep g (h ▸ hg)
              · rw [h] at hg; have := hx1.lt; have := Option.some.inj hg; omega
            (refine wpG_one 11 (by decide +kernel) ?_; intro y hy; refine op_wanted (by simp only [List.getElem?_toArray, List.getElem?_cons_zero, List.getElem?_cons_succ] <;> rfl) rfl ?_)
            have hE1 := hE.trans hy
            have hsz : wa.heap.size ≤ y.heap.size := hE1.size
            have ho1 := own_bel ho hy
            have hx1 := hy.box hx
            refine wp_append_src (.tmp 48) (.tmp 51) _ rfl wa.heap.size 3 i0 _ 1 8 Try.underlying23 hi0 hz0 hz1 hz2 rfl (by omega) v7 (0 + j + 1) ([] ++ intq (q.take j) ++ [.int .i64 ni]) rfl ho1 B2 (k - j) (d - j) (intq (q.drop j)) rfl HL11.out (si_src (HSI11.out.keep hE1)) (intq_one _) (by have := HJ9.out; unfold maxLen; omega) (by have := HJ9.out; omega) hsz ?_
            intro v11 u11 ho hg7 hat7
            have hb7 := grown_below hg7 ho1 (Nat.le_refl _) hsz
            refine ⟨hb7, ?_⟩
            simp only [Act.put, Act.eval, List.setIfInBounds_toArray, List.set_cons_zero, List.set_cons_succ, Array.getD_eq_getD_getElem?, List.getElem?_toArray, List.getElem?_cons_zero, List.getElem?_cons_succ, Option.getD_some]
            have hE := Bel.of (hE1.out.trans hb7)
            have hx := hx1.grown hg7 (fun e => hsep _ e.symm rfl)
            rw [HIQ.out] at ho
            generalize 0 + j + 1 + (k - j) = nz at ho
            obtain ⟨B5, e5, rfl, hsi, hn5, hm5⟩ := si_own ho
            (refine wpG_one 12 (by decide +kernel) ?_; intro y hy; refine op_wanted (by simp only [List.getElem?_toArray, List.getElem?_cons_zero, List.getElem?_cons_succ] <;> rfl) rfl ?_)
            have hE1 := hE.trans hy
            have hsz : wa.heap.size ≤ y.heap.size := hE1.size
            have hx1 := hy.box hx
            have hsi1 := hsi.keep hy
            go_simp
            refine (H1.out A n c l B5 nz e5 (q.take j ++ ni :: q.drop j) y (HL.out.bel (HE1'.out.trans hE1)) HM.out.1.1 HM.out.1.2 hsi1 hn5 hm5).mono ?_
            rintro e2 u12 ⟨v2, y2, l2, c2, rfl, hB2, ho2, hb2⟩
            refine ⟨hb2.mono hsz, ?_⟩
            have hE := hE1.call hb2
            have how := own_drop_alloc ho2 hsz
            have hx := (Bel.of hb2).box hx1
            have hsepv := fun (g : Nat) (hg : v2.ownBlock = some g) => (show g ≠ X by have := (own_lt ho2 hg).1; have := hx1.lt; omega)
            (repeat (first | ((first | refine wpG_go 13 (by simp only [List.getElem?_toArray, List.getElem?_cons_zero, List.getElem?_cons_succ] <;> rfl) (by decide +kernel) (by decide +kernel) (by kernel_rfl) (by rfl) (by exact fun _ _ _ _ h => h) hE.size ?_ | refine wpG_go 14 (by simp only [List.getElem?_toArray, List.getElem?_cons_zero, List.getElem?_cons_succ] <;> rfl) (by decide +kernel) (by decide +kernel) (by kernel_rfl) (by rfl) (by exact fun _ _ _ _ h => h) hE.size ?_ | refine wpG_go 15 (by simp only [List.getElem?_toArray, List.getElem?_cons_zero, List.getElem?_cons_succ] <;> rfl) (by decide +kernel) (by decide +kernel) (by kernel_rfl) (by rfl) (by exact fun _ _ _ _ h => h) hE.size ?_ | refine wpG_go 16 (by simp only [List.getElem?_toArray, List.getElem?_cons_zero, List.getElem?_cons_succ] <;> rfl) (by decide +kernel) (by decide +kernel) (by kernel_rfl) (by rfl) (by exact fun _ _ _ _ h => h) hE.size ?_); apply Exists.intro; refine ⟨fun w1 h1 => ?_, ?_⟩; (first | exact g_move _ rfl | exact g_assign _ rfl | (go_simp; first | exact ⟨rfl, rfl⟩ | rfl)); simp only [Act.put, Act.eval, List.setIfInBounds_toArray, List.set_cons_zero, List.set_cons_succ, Array.getD_eq_getD_getElem?, List.getElem?_toArray, List.getElem?_cons_zero, List.getElem?_cons_succ, Option.getD_some]) | ((first | refine wpG_skip 13 (by simp only [List.getElem?_toArray, List.getElem?_cons_zero, List.getElem?_cons_succ] <;> rfl) (by decide +kernel) (by decide +kernel) (by kernel_rfl) (by rfl) (by exact fun _ _ _ _ h => h) hE.size ?_ | refine wpG_skip 14 (by simp only [List.getElem?_toArray, List.getElem?_cons_zero, List.getElem?_cons_succ] <;> rfl) (by decide +kernel) (by decide +kernel) (by kernel_rfl) (by rfl) (by exact fun _ _ _ _ h => h) hE.size ?_ | refine wpG_skip 15 (by simp only [List.getElem?_toArray, List.getElem?_cons_zero, List.getElem?_cons_succ] <;> rfl) (by decide +kernel) (by decide +kernel) (by kernel_rfl) (by rfl) (by exact fun _ _ _ _ h => h) hE.size ?_ | refine wpG_skip 16 (by simp only [List.getElem?_toArray, List.getElem?_cons_zero, List.getElem?_cons_succ] <;> rfl) (by decide +kernel) (by decide +kernel) (by kernel_rfl) (by rfl) (by exact fun _ _ _ _ h => h) hE.size ?_); simp only [Act.put, Act.eval, List.setIfInBounds_toArray, List.set_cons_zero, List.set_cons_succ, Array.getD_eq_getD_getElem?, List.getElem?_toArray, List.getElem?_cons_zero, List.getElem?_cons_succ, Option.getD_some])))
            (refine wpG_one 18 (by decide +kernel) ?_; intro y hy; refine op_wanted (by simp only [List.getElem?_toArray, List.getElem?_cons_zero, List.getElem?_cons_succ] <;> rfl) rfl ?_)
            have hE1 := hE.trans hy
            have hsz : wa.heap.size ≤ y.heap.size := hE1.size
            have hx1 := hy.box hx
            have how1 := own_bel how hy
            have HV2 := EnV.run hB2
            refine wp_storeB HV2.ty _ _ rfl rfl rfl rfl hx1 (by rw [HV2.size]; rfl) HV2.one ⟨below_setRow' (Below.refl _ _) _ _ hXN, ?_⟩
            simp only [Act.put, Act.eval, List.setIfInBounds_toArray, List.set_cons_zero, List.set_cons_succ, Array.getD_eq_getD_getElem?, List.getElem?_toArray, List.getElem?_cons_zero, List.getElem?_cons_succ, Option.getD_some]
            have hx := hx1.setRow y2
            have hE := hE1.setRow X hXN y2
            have how := own_keep (w' := y.setRow X y2) how1 (fun g hg _ => setRow_other y X g y2 (hsepv g hg))
            (repeat (first | ((first | refine wpG_go 19 (by simp only [List.getElem?_toArray, List.getElem?_cons_zero, List.getElem?_cons_succ] <;> rfl) (by decide +kernel) (by decide +kernel) (by kernel_rfl) (by rfl) (by exact fun _ _ _ _ h => h) hE.size ?_ | refine wpG_go 20 (by simp only [List.getElem?_toArray, List.getElem?_cons_zero, List.getElem?_cons_succ] <;> rfl) (by decide +kernel) (by decide +kernel) (by kernel_rfl) (by rfl) (by exact fun _ _ _ _ h => h) hE.size ?_); apply Exists.intro; refine ⟨fun w1 h1 => ?_, ?_⟩; (first | exact g_move _ rfl | exact g_assign _ rfl | (go_simp; first | exact ⟨rfl, rfl⟩ | rfl)); simp only [Act.put, Act.eval, List.setIfInBounds_toArray, List.set_cons_zero, List.set_cons_succ, Array.getD_eq_getD_getElem?, List.getElem?_toArray, List.getElem?_cons_zero, List.getElem?_cons_succ, Option.getD_some]) | ((first | refine wpG_skip 19 (by simp only [List.getElem?_toArray, List.getElem?_cons_zero, List.getElem?_cons_succ] <;> rfl) (by decide +kernel) (by decide +kernel) (by kernel_rfl) (by rfl) (by exact fun _ _ _ _ h => h) hE.size ?_ | refine wpG_skip 20 (by simp only [List.getElem?_toArray, List.getElem?_cons_zero, List.getElem?_cons_succ] <;> rfl) (by decide +kernel) (by decide +kernel) (by kernel_rfl) (by rfl) (by exact fun _ _ _ _ h => h) hE.size ?_); simp only [Act.put, Act.eval, List.setIfInBounds_toArray, List.set_cons_zero, List.set_cons_succ, Array.getD_eq_getD_getElem?, List.getElem?_toArray, List.getElem?_cons_zero, List.getElem?_cons_succ, Option.getD_some])))
            (refine wpG_done (by decide +kernel) ?_ _; intro z hz; try simp only [Act.put, Act.eval, List.setIfInBounds_toArray, List.set_cons_zero, List.set_cons_succ, Array.getD_eq_getD_getElem?, List.getElem?_toArray, List.getElem?_cons_zero, List.getElem?_cons_succ, Option.getD_some])
            have HFN := Lib.hid (And.intro hB2 (And.intro (own_bel how hz) (And.intro (hz.box hx) (hE.trans hz))))
            clear hB2 how hx hE HV2 hx1 how1 hE1 hy
            go_wp2_with fail
            go_meet
            case rel => exact ⟨X, v2, y2, l2, c2, rfl, rfl, rfl, HFN.out.1, HFN.out.2.1, HFN.out.2.2.1, HFN.out.2.2.2⟩
      case rest =>
        obtain ⟨X, v2, y2, l2, c2, rfl, rfl, rfl, hB2, ho2, hx2, hb2⟩ := hcut
        obtain ⟨rfl, rfl, rfl⟩ := runB_uniq HB1.out (rb_same (by have := HK99.out; have := HS.out.1; omega) HNT.out (by rw [HL.out.1]; exact Nat.le_refl _) hB2)
        obtain ⟨A2, d2, rfl, hs2, hn2, hm2⟩ := Sl.own ho2
        have HX1' := Lib.hid (hb2.box HX1.out)
        have HX2 := Lib.hid hx2
        have HS1' := Lib.hid (HS1.out.1.bel hb2.out)
        have HS2 := Lib.hid (And.intro hs2 (And.intro hn2 hm2))
        have HEC := Lib.hid (HE1'.out.trans hb2)
        clear hB2 ho2 hx2 hb2 hs2 hn2 hm2 hi0 hz0 hz1 hz2 hj0 gz0 hjk' hjd
        go_wp2_with (first | (refine loadB 28 _ rfl rfl rfl HX1'.out HV1.out.ty ?_) | (refine loadB 28 _ rfl rfl rfl HX2.out HV1.out.ty ?_) | (refine eql_step 28 _ _ _ rfl rfl rfl rfl grd_end (HV1.out.eq _) ?_))
        refine (eqev_any A1 A2 _ d1 _ d2 _ _ wc HS1'.out HS2.out.1 HS1.out.2.1 HS2.out.2.1 HS1.out.2.2 HS2.out.2.2).mono ?_
        rintro e3 w3 ⟨rfl, hb3⟩
        rw [decide_eq_true rfl]
        have HE3 := Lib.hid (HEC.out.call hb3)
        clear hb3
        go_wp2
        go_ret
        exact ⟨rfl, HE3.out.out⟩
set_option maxRecDepth 100000 in
theorem lifted (os : Os) (started : os.Started) (H : Type) (enc : TypeId × Value → H) :
    ReturnsInHanded {} Try.checked os 5 .any (Rows.progPicksSpec.pre6 enc Try.prog Try.f5 Rows.progPicksRow.domain false) (Rows.progPicksSpec.post enc Try.prog Try.f5 false true false false) := by
  refine returnsInHanded_of_change_sized (C := Try.checked) own started (by kernel_rfl) Try.func5
    (ChangeSpec.witness6 (enc := enc) (C := Try.checked) false ⟨#[], #[.slice none 0 0, .slice none 0 0, .int .i64 0, .int .i64 0], []⟩ 8 (by kernel_rfl) (by kernel_rfl) (by kernel_rfl) (by kernel_rfl)) ?_
  intro W base args ds gs before hval0 hW hcnd hsz0 _
  have hsz : (DataW.weightsEach Try.prog (Try.f5.params.toList ++ Rows.progPicksSpec.plain.varTypes Try.prog) (ds ++ gs)).all (· ≤ reachBytes) = true := hsz0
  clear hsz0
  have hval : ∀ (j : Nat) t v, Try.f5.params[j]? = some t → args[j]? = some v → Value.okWide Try.prog W .any base t v := hval0
  have hW' := hW
  obtain ⟨p, q, hA0, hV, rfl, hfz, hnd⟩ := hW
  have hA : DataW.TrodAll enc Try.prog W 0 (fun _ => true) true Try.f5.params.toList args.toList ds p := hA0
  rw [Try.params5] at hA hval hsz
  obtain ⟨v0, vs0, d0, ds0, p0, q0, hargs, rfl, rfl, h0, r0⟩ := trodAll_cons hA
  obtain ⟨v1, vs1, d1, ds1, p1, q1, rfl, rfl, rfl, h1, r1⟩ := trodAll_cons r0
  obtain ⟨v2, vs2, d2, ds2, p2, q2, rfl, rfl, rfl, h2, r2⟩ := trodAll_cons r1
  obtain ⟨v3, vs3, d3, ds3, p3, q3, rfl, rfl, rfl, h3, r3⟩ := trodAll_cons r2
  obtain ⟨rfl, rfl, rfl⟩ := trodAll_nil r3
  obtain rfl : args = #[v0, v1, v2, v3] := by cases args; simp_all
  obtain ⟨rfl, rfl⟩ := trodVars_none hV
  have t0 := h0
  have lt0 : ∀ x ∈ p0, x.block < W.heap.size := by obtain ⟨m, hm⟩ := t0; exact DataW.trod_lt m _ _ _ hm
  have t1 := h1
  have lt1 : ∀ x ∈ p1, x.block < W.heap.size := by obtain ⟨m, hm⟩ := t1; exact DataW.trod_lt m _ _ _ hm
  have t2 := h2
  have lt2 : ∀ x ∈ p2, x.block < W.heap.size := by obtain ⟨m, hm⟩ := t2; exact DataW.trod_lt m _ _ _ hm
  have t3 := h3
  have lt3 : ∀ x ∈ p3, x.block < W.heap.size := by obtain ⟨m, hm⟩ := t3; exact DataW.trod_lt m _ _ _ hm
  obtain ⟨A0, n0, c0, l0, rfl, s0, m0, x0, g0⟩ := open_ops Try.underlying22 (by kernel_rfl) Try.underlying44 Try.underlying46 ⟨rfl, rfl, rfl⟩ (by kernel_rfl) (by kernel_rfl) Try.underlying3 (hval 0 22 v0 rfl rfl) h0
  obtain ⟨A1, n1, c1, l1, rfl, s1, m1, x1, g1, z1⟩ := open_ints_argz Try.underlying23 Try.underlying3 (by kernel_rfl) (hval 1 23 v1 rfl rfl) h1
  have y1 := reach_sl hsz (j := 1) rfl rfl Try.underlying23 (b := 8) (by kernel_rfl) z1
  obtain ⟨a2, rfl, _, _, x2⟩ := open_int Try.underlying3 (hval 2 3 v2 rfl rfl) h2
  have k2 := in64_of x2
  obtain ⟨a3, rfl, _, _, x3⟩ := open_int Try.underlying3 (hval 3 3 v3 rfl rfl) h3
  have k3 := in64_of x3
  clear hA0 hval0
  refine (walkH pgrun_c W A0 n0 c0 l0 s0 m0 x0 g0 A1 n1 c1 l1 s1 m1 x1 g1 y1 a2 k2 a3 k3).mono fun e W' ⟨he, bel⟩ => ?_
  subst he
  exact ⟨_, rfl, _, _, _, [], _, [], hW', trodAll_mk1 (shut_bool Try.underlying4 _), (trodAll_cons_mk (Below.trod laidOut (by kernel_rfl) (of_decide_eq_true (by kernel_rfl)) t0 bel lt0) (trodAll_cons_mk (Below.trod laidOut (by kernel_rfl) (of_decide_eq_true (by kernel_rfl)) t1 bel lt1) (trodAll_cons_mk (Below.trod laidOut (by kernel_rfl) (of_decide_eq_true (by kernel_rfl)) t2 bel lt2) (trodAll_cons_mk (Below.trod laidOut (by kernel_rfl) (of_decide_eq_true (by kernel_rfl)) t3 bel lt3) trodAll_mk0)))), rfl, bel.frame _, fun h => by cases h⟩

theorem over : Rows.progPicksRow.holds Try.pinned (OpenSpec.ofChange Rows.progPicksSpec) :=
  OpenClaim.holds_of_wide 5 Try.f5 rfl rfl rfl rfl rfl rfl rfl ⟨rfl, rfl, rfl, rfl, rfl⟩ rfl rfl rfl rfl rfl (by kernel_rfl) Try.func5 (by kernel_rfl)
    (of_decide_eq_true (by kernel_rfl)) (by unfold Func.isWrapper; first | (rw [if_pos (by decide +kernel)]; kernel_rfl) | (rw [if_neg (by decide +kernel)]; exact ⟨rfl, rfl⟩))
    (fun os started H enc _ => lifted os started H enc)

theorem proved : Rows.ProgPicksSaid := over
#print axioms proved
end Go.Proofs.Ytbcohpkeljjhbaa.LProgPicks

/- The package swap: what Swap and Least hand back is memory of their own. -/
import Derived.Test.YtmdpegljpdjfoaaSwS
import Derived.Test.YtmdpegljpdjfoaaSwT
import Derived.Test.YtmdpegljpdjfoaaShC
set_option linter.all false
set_option maxRecDepth 100000
namespace Go.Proofs.Ytmdpegljpdjfoaa
open Go Go.RowKit

theorem own_rows2 {w : World} {base : Nat} {t : TypeId} {n : Nat} {v : Value} {l : List Ev} (h : w.ownsRow base t 3 v n (evc l)) (hn : 0 < n) : ∃ g cap cur, v = .slice (some ⟨g, 0, none⟩) n cap ∧ base ≤ g ∧ n ≤ cap ∧ cap ≤ maxLen ∧ Box w g cur t ∧ (∀ i e, l[i]? = some e → R3 cur i e) ∧ cur.size = cap * 3 := by
  obtain ⟨g, cap, cur, rfl, h1, h2, h3, h4, h5⟩ := own_rows h hn
  refine ⟨g, cap, cur, rfl, h1, h2, h3, h4, h5, ?_⟩
  rcases h.2 with ⟨he, _⟩ | ⟨g', cap', cur', he, _, g3, _, _, g6, _⟩
  · cases he
  · cases he
    have h4' : w.heap[g]? = some (.cells cur t (0, 0)) := h4
    rw [h4'] at g3
    cases g3
    exact g6
theorem swap_R3 {k : Nat} {cur : Array Value} {l r : List Ev} {a b : Ev} (hr : ∀ i e, l[i]? = some e → R3 cur i e) (hat : SwAt k l r) (ha : l[k]? = some a) (hbb : l[k + 1]? = some b) :
    ∀ i e, r[i]? = some e → R3 (set3 (set3 cur (k * 3) b) ((k + 1) * 3) a) i e := by
  intro i e he
  have h1 : l[tr k i]? = some e := by rw [← hat.get, tr_tr]; exact he
  unfold tr at h1
  by_cases h2 : i = k
  · rw [if_pos h2, hbb] at h1
    cases h1
    subst h2
    exact (R3.set_at (hr i a ha)).set_ne (by omega)
  · rw [if_neg h2] at h1
    by_cases h3 : i = k + 1
    · rw [if_pos h3, ha] at h1
      cases h1
      subst h3
      exact R3.set_at ((hr (k + 1) b hbb).set_ne (j := k) (f := b) (by omega))
    · rw [if_neg h3] at h1
      exact ((hr i e h1).set_ne (j := k) h2).set_ne h3
theorem rows_own {w : World} {base g n cap : Nat} {cur : Array Value} {t : TypeId} {r : List Ev} (hB : Box w g cur t) (hr : ∀ i e, r[i]? = some e → R3 cur i e) (hn : r.length = n) (hc : n ≤ cap) (hm : cap ≤ maxLen) (hs : cur.size = cap * 3) (hb : base ≤ g) :
    w.ownsRow base t 3 (.slice (some ⟨g, 0, none⟩) n cap) n (evc r) := by
  refine ⟨by rw [evc_length, hn], .inr ⟨g, cap, cur, rfl, hb, hB, hc, hm, hs, ?_⟩⟩
  apply List.ext_getElem?
  intro j
  rw [List.getElem?_take]
  by_cases hj : j < n * 3
  · rw [if_pos hj, Array.getElem?_toList]
    obtain ⟨i, d, rfl, hd⟩ : ∃ i d, j = i * 3 + d ∧ d < 3 := ⟨j / 3, j % 3, by omega, by omega⟩
    have he : r[i]? = some (r[i]'(by omega)) := List.getElem?_eq_getElem (by omega)
    generalize r[i]'(by omega) = e at he
    obtain ⟨c0, c1, c2⟩ := hr i e he
    obtain ⟨e0, e1, e2⟩ := evc_get r i e he
    have hc : d = 0 ∨ d = 1 ∨ d = 2 := by omega
    rcases hc with rfl | rfl | rfl
    · rw [Nat.add_zero, c0, e0]
    · rw [c1, e1]
    · rw [c2, e2]
  · rw [if_neg hj, List.getElem?_eq_none]
    rw [evc_length, hn]; omega
set_option maxHeartbeats 16000000 in
theorem swap_own (A : Option Addr) (n c : Nat) (l : List Ev) (i : Int) (w : World) (hl : Sl w A n l) (hnc : n ≤ c) (hcm : c ≤ maxLen) (_hi64 : In64 i) :
    Calls Try.prog 22 #[.slice A n c, .int .i64 i] w fun e w' => ∃ r c, SwB l i r c ∧ EvsOwn w r c e w' := by
  have HA := apart_any
  unfold ApartC at HA
  have HL := Lib.hid hl
  have HMX := Lib.hid (And.intro hnc hcm)
  have xx : c ≤ 9223372036854775807 := by unfold maxLen at hcm; omega
  have HML := Lib.hid (show (check l).2 = may l from rfl)
  have HWA := Lib.hid HA
  clear hl hnc hcm HA
  go_enter Try.func22, Try.ntmps22
  go_wp2_with fail
  refine (check_any A n c l _ HL.out).mono ?_
  rintro e1 w1 ⟨rfl, hb1⟩
  rw [HML.out]
  have HW1 := Lib.hid (Bel.of hb1)
  clear hb1
  cases h1 : (may l != 0)
  · have hm : may l = 0 := by simpa using h1
    have HM := Lib.hid hm
    have hn80 : n ≤ 80 := by rw [← HL.out.1]; exact ((may_iff l).1 hm).1
    have hwn : IntKind.i64.wrap ((n : Int) - 1) = (n : Int) - 1 := IntWalk.i64_in _ (by omega)
    clear hm
    by_cases h0 : i < 0
    · have HI := Lib.hid h0
      go_wp2
      go_ret2
      exact ⟨[], 1, .inr (.inl ⟨HM.out, .inl HI.out, rfl, rfl⟩), own_nil _ _ _ HW1.out.out⟩
    · by_cases h2 : (n : Int) - 1 ≤ i
      · have HI := Lib.hid h2
        have h2d : decide ((n : Int) - 1 ≤ i) = true := decide_eq_true h2
        go_wp2
        go_ret2
        exact ⟨[], 1, .inr (.inl ⟨HM.out, .inr (by have := HI.out; have := HL.out.1; omega), rfl, rfl⟩), own_nil _ _ _ HW1.out.out⟩
      · obtain ⟨k, rfl⟩ : ∃ k : Nat, i = k := ⟨i.toNat, by omega⟩
        have hw3 : IntKind.i64.wrap ((k : Int) + 1) = (k : Int) + 1 := IntWalk.i64_in _ (by omega)
        have h5 : ¬ (k : Int) < 0 := by omega
        have h7 : (k : Int) < n := by omega
        have h8 : (k : Int) + 1 < n := by omega
        have hn1 : 1 ≤ n := by omega
        have h2d : decide ((n : Int) - 1 ≤ (k : Int)) = false := decide_eq_false h2
        have h90 : (0 : Int) ≤ (k : Int) + 1 := by omega
        obtain ⟨b, o, ea, rfl, g1, he, r1⟩ := (HL.out.bel HW1.out.out).at_ (show k < n by omega)
        obtain ⟨b', o', eb, e9, g2, hf, r2⟩ := (HL.out.bel HW1.out.out).at_ (show k + 1 < n by omega)
        cases e9
        have R1 := Lib.hid (fun (w' : World) (h : Bel w1 w') => rangeAt_below h.out g1 r1)
        have R2 := Lib.hid (fun (w' : World) (h : Bel w1 w') => rangeAt_below h.out g2 r2)
        have HE1 := Lib.hid he
        have HE2 := Lib.hid hf
        have HG1 := Lib.hid g1
        have HRB := HWA.out ea eb
        clear r1 r2 g1 g2 he hf h0 h2
        cases hd : dep ea eb
        · rw [hd] at HRB
          have HRC := Lib.hid HRB
          have HD := Lib.hid hd
          clear HRB hd
          go_wp2
          (refine region_bel (by kernel_rfl) (by kernel_rfl) ?_; (repeat (first | ((with_reducible refine BigFrame.wpQuiet_skip ?_ ?_); exact rfl; simp only [Act.put, Act.eval, List.setIfInBounds_toArray, List.set_cons_zero, List.set_cons_succ, Array.getD_eq_getD_getElem?, List.getElem?_toArray, List.getElem?_cons_zero, List.getElem?_cons_succ, Option.getD_some]) | (refine q_move _ rfl rfl ?_; simp only [Act.put, Act.eval, List.setIfInBounds_toArray, List.set_cons_zero, List.set_cons_succ, Array.getD_eq_getD_getElem?, List.getElem?_toArray, List.getElem?_cons_zero, List.getElem?_cons_succ, Option.getD_some]) | (refine q_assign _ rfl rfl ?_; simp only [Act.put, Act.eval, List.setIfInBounds_toArray, List.set_cons_zero, List.set_cons_succ, Array.getD_eq_getD_getElem?, List.getElem?_toArray, List.getElem?_cons_zero, List.getElem?_cons_succ, Option.getD_some]) | (refine q_load_mid _ _ rfl rfl rfl R1.out T36 (evv ea) rfl ?_; simp only [Act.put, Act.eval, List.setIfInBounds_toArray, List.set_cons_zero, List.set_cons_succ, Array.getD_eq_getD_getElem?, List.getElem?_toArray, List.getElem?_cons_zero, List.getElem?_cons_succ, Option.getD_some]) | (refine q_load_mid _ _ rfl rfl rfl R2.out T36 (evv eb) rfl ?_; simp only [Act.put, Act.eval, List.setIfInBounds_toArray, List.set_cons_zero, List.set_cons_succ, Array.getD_eq_getD_getElem?, List.getElem?_toArray, List.getElem?_cons_zero, List.getElem?_cons_succ, Option.getD_some]) | (refine q_any rfl ?_; apply Exists.intro; refine ⟨fun w hw => ?_, ?_⟩; (go_simp; first | exact ⟨rfl, rfl⟩ | rfl | (go_at_call 35; (with_reducible refine (HRC.out _).mono ?_); rintro e w' ⟨rfl, hb⟩; exact ⟨rfl, hw.call hb⟩)); simp only [Act.put, Act.eval, List.setIfInBounds_toArray, List.set_cons_zero, List.set_cons_succ, Array.getD_eq_getD_getElem?, List.getElem?_toArray, List.getElem?_cons_zero, List.getElem?_cons_succ, Option.getD_some]))); refine wpQuiet_nil ?_; intro w2 hw2)
          have HB2 := Lib.hid hw2
          clear hw2
          go_wp2_with fail
          refine (clone_any (some ⟨b, o, none⟩) n c l _ (HL.out.bel (HW1.out.trans HB2.out).out) (by omega)).mono ?_
          rintro e8 w8 ⟨v8, rfl, ho8, hb8⟩
          obtain ⟨g, cap, cur, rfl, hg, hcap, hcm, hbox, hrow, hsz⟩ := own_rows2 ho8 (by omega)
          have HW8 := Lib.hid ((HW1.out.trans HB2.out).call hb8)
          have HB8 := Lib.hid (HB2.out.call hb8)
          have HBX := Lib.hid hbox
          have HRW := Lib.hid hrow
          have hGL := Lib.hid (Box.lt hbox)
          have hkc : (k : Int) ≤ cap := by omega
          have HGE := Lib.hid hg
          have HBG := Lib.hid (show b < g from Nat.lt_of_lt_of_le HG1.out (Nat.le_trans HB2.out.size hg))
          have RA := Lib.hid (R1.out _ HB8.out)
          have RB := Lib.hid (R2.out _ HB8.out)
          have HAT := Lib.hid (swAt_mk HE1.out HE2.out HD.out)
          clear ho8 hb8 hbox hrow hg
          go_wp2
          refine region_growN g (by kernel_rfl) ?_
          have FA := fun (w1 : World) (h1 : Below g w8 w1) => rangeAt_below h1 HBG.out RA.out
          have FB := fun (w1 : World) (h1 : Below g w8 w1) => rangeAt_below h1 HBG.out RB.out
          (repeat (first | (refine wpG_go 0 (by simp only [List.getElem?_toArray, List.getElem?_cons_zero, List.getElem?_cons_succ] <;> rfl) (by decide +kernel) (by decide +kernel) (by kernel_rfl) (by rfl) (by exact fun _ _ _ _ h => h) (Nat.le_of_lt hGL.out) ?_; apply Exists.intro; refine ⟨fun w1 h1 => ?_, ?_⟩; (first | exact g_move _ rfl | exact g_assign _ rfl | exact g_load_mid _ _ rfl rfl (FA w1 h1) T36 (evv ea) rfl | exact g_load_mid _ _ rfl rfl (FB w1 h1) T36 (evv eb) rfl | (go_simp; first | exact ⟨rfl, rfl⟩ | rfl)); simp only [Act.put, Act.eval, List.setIfInBounds_toArray, List.set_cons_zero, List.set_cons_succ, Array.getD_eq_getD_getElem?, List.getElem?_toArray, List.getElem?_cons_zero, List.getElem?_cons_succ, Option.getD_some]) | (refine wpG_go 1 (by simp only [List.getElem?_toArray, List.getElem?_cons_zero, List.getElem?_cons_succ] <;> rfl) (by decide +kernel) (by decide +kernel) (by kernel_rfl) (by rfl) (by exact fun _ _ _ _ h => h) (Nat.le_of_lt hGL.out) ?_; apply Exists.intro; refine ⟨fun w1 h1 => ?_, ?_⟩; (first | exact g_move _ rfl | exact g_assign _ rfl | exact g_load_mid _ _ rfl rfl (FA w1 h1) T36 (evv ea) rfl | exact g_load_mid _ _ rfl rfl (FB w1 h1) T36 (evv eb) rfl | (go_simp; first | exact ⟨rfl, rfl⟩ | rfl)); simp only [Act.put, Act.eval, List.setIfInBounds_toArray, List.set_cons_zero, List.set_cons_succ, Array.getD_eq_getD_getElem?, List.getElem?_toArray, List.getElem?_cons_zero, List.getElem?_cons_succ, Option.getD_some]) | (refine wpG_go 2 (by simp only [List.getElem?_toArray, List.getElem?_cons_zero, List.getElem?_cons_succ] <;> rfl) (by decide +kernel) (by decide +kernel) (by kernel_rfl) (by rfl) (by exact fun _ _ _ _ h => h) (Nat.le_of_lt hGL.out) ?_; apply Exists.intro; refine ⟨fun w1 h1 => ?_, ?_⟩; (first | exact g_move _ rfl | exact g_assign _ rfl | exact g_load_mid _ _ rfl rfl (FA w1 h1) T36 (evv ea) rfl | exact g_load_mid _ _ rfl rfl (FB w1 h1) T36 (evv eb) rfl | (go_simp; first | exact ⟨rfl, rfl⟩ | rfl)); simp only [Act.put, Act.eval, List.setIfInBounds_toArray, List.set_cons_zero, List.set_cons_succ, Array.getD_eq_getD_getElem?, List.getElem?_toArray, List.getElem?_cons_zero, List.getElem?_cons_succ, Option.getD_some]) | (refine wpG_go 3 (by simp only [List.getElem?_toArray, List.getElem?_cons_zero, List.getElem?_cons_succ] <;> rfl) (by decide +kernel) (by decide +kernel) (by kernel_rfl) (by rfl) (by exact fun _ _ _ _ h => h) (Nat.le_of_lt hGL.out) ?_; apply Exists.intro; refine ⟨fun w1 h1 => ?_, ?_⟩; (first | exact g_move _ rfl | exact g_assign _ rfl | exact g_load_mid _ _ rfl rfl (FA w1 h1) T36 (evv ea) rfl | exact g_load_mid _ _ rfl rfl (FB w1 h1) T36 (evv eb) rfl | (go_simp; first | exact ⟨rfl, rfl⟩ | rfl)); simp only [Act.put, Act.eval, List.setIfInBounds_toArray, List.set_cons_zero, List.set_cons_succ, Array.getD_eq_getD_getElem?, List.getElem?_toArray, List.getElem?_cons_zero, List.getElem?_cons_succ, Option.getD_some]) | (refine wpG_go 4 (by simp only [List.getElem?_toArray, List.getElem?_cons_zero, List.getElem?_cons_succ] <;> rfl) (by decide +kernel) (by decide +kernel) (by kernel_rfl) (by rfl) (by exact fun _ _ _ _ h => h) (Nat.le_of_lt hGL.out) ?_; apply Exists.intro; refine ⟨fun w1 h1 => ?_, ?_⟩; (first | exact g_move _ rfl | exact g_assign _ rfl | exact g_load_mid _ _ rfl rfl (FA w1 h1) T36 (evv ea) rfl | exact g_load_mid _ _ rfl rfl (FB w1 h1) T36 (evv eb) rfl | (go_simp; first | exact ⟨rfl, rfl⟩ | rfl)); simp only [Act.put, Act.eval, List.setIfInBounds_toArray, List.set_cons_zero, List.set_cons_succ, Array.getD_eq_getD_getElem?, List.getElem?_toArray, List.getElem?_cons_zero, List.getElem?_cons_succ, Option.getD_some]) | (refine wpG_go 5 (by simp only [List.getElem?_toArray, List.getElem?_cons_zero, List.getElem?_cons_succ] <;> rfl) (by decide +kernel) (by decide +kernel) (by kernel_rfl) (by rfl) (by exact fun _ _ _ _ h => h) (Nat.le_of_lt hGL.out) ?_; apply Exists.intro; refine ⟨fun w1 h1 => ?_, ?_⟩; (first | exact g_move _ rfl | exact g_assign _ rfl | exact g_load_mid _ _ rfl rfl (FA w1 h1) T36 (evv ea) rfl | exact g_load_mid _ _ rfl rfl (FB w1 h1) T36 (evv eb) rfl | (go_simp; first | exact ⟨rfl, rfl⟩ | rfl)); simp only [Act.put, Act.eval, List.setIfInBounds_toArray, List.set_cons_zero, List.set_cons_succ, Array.getD_eq_getD_getElem?, List.getElem?_toArray, List.getElem?_cons_zero, List.getElem?_cons_succ, Option.getD_some]) | (refine wpG_go 6 (by simp only [List.getElem?_toArray, List.getElem?_cons_zero, List.getElem?_cons_succ] <;> rfl) (by decide +kernel) (by decide +kernel) (by kernel_rfl) (by rfl) (by exact fun _ _ _ _ h => h) (Nat.le_of_lt hGL.out) ?_; apply Exists.intro; refine ⟨fun w1 h1 => ?_, ?_⟩; (first | exact g_move _ rfl | exact g_assign _ rfl | exact g_load_mid _ _ rfl rfl (FA w1 h1) T36 (evv ea) rfl | exact g_load_mid _ _ rfl rfl (FB w1 h1) T36 (evv eb) rfl | (go_simp; first | exact ⟨rfl, rfl⟩ | rfl)); simp only [Act.put, Act.eval, List.setIfInBounds_toArray, List.set_cons_zero, List.set_cons_succ, Array.getD_eq_getD_getElem?, List.getElem?_toArray, List.getElem?_cons_zero, List.getElem?_cons_succ, Option.getD_some]) | (refine wpG_go 7 (by simp only [List.getElem?_toArray, List.getElem?_cons_zero, List.getElem?_cons_succ] <;> rfl) (by decide +kernel) (by decide +kernel) (by kernel_rfl) (by rfl) (by exact fun _ _ _ _ h => h) (Nat.le_of_lt hGL.out) ?_; apply Exists.intro; refine ⟨fun w1 h1 => ?_, ?_⟩; (first | exact g_move _ rfl | exact g_assign _ rfl | exact g_load_mid _ _ rfl rfl (FA w1 h1) T36 (evv ea) rfl | exact g_load_mid _ _ rfl rfl (FB w1 h1) T36 (evv eb) rfl | (go_simp; first | exact ⟨rfl, rfl⟩ | rfl)); simp only [Act.put, Act.eval, List.setIfInBounds_toArray, List.set_cons_zero, List.set_cons_succ, Array.getD_eq_getD_getElem?, List.getElem?_toArray, List.getElem?_cons_zero, List.getElem?_cons_succ, Option.getD_some]) | (refine wpG_go 8 (by simp only [List.getElem?_toArray, List.getElem?_cons_zero, List.getElem?_cons_succ] <;> rfl) (by decide +kernel) (by decide +kernel) (by kernel_rfl) (by rfl) (by exact fun _ _ _ _ h => h) (Nat.le_of_lt hGL.out) ?_; apply Exists.intro; refine ⟨fun w1 h1 => ?_, ?_⟩; (first | exact g_move _ rfl | exact g_assign _ rfl | exact g_load_mid _ _ rfl rfl (FA w1 h1) T36 (evv ea) rfl | exact g_load_mid _ _ rfl rfl (FB w1 h1) T36 (evv eb) rfl | (go_simp; first | exact ⟨rfl, rfl⟩ | rfl)); simp only [Act.put, Act.eval, List.setIfInBounds_toArray, List.set_cons_zero, List.set_cons_succ, Array.getD_eq_getD_getElem?, List.getElem?_toArray, List.getElem?_cons_zero, List.getElem?_cons_succ, Option.getD_some]) | (refine wpG_go 9 (by simp only [List.getElem?_toArray, List.getElem?_cons_zero, List.getElem?_cons_succ] <;> rfl) (by decide +kernel) (by decide +kernel) (by kernel_rfl) (by rfl) (by exact fun _ _ _ _ h => h) (Nat.le_of_lt hGL.out) ?_; apply Exists.intro; refine ⟨fun w1 h1 => ?_, ?_⟩; (first | exact g_move _ rfl | exact g_assign _ rfl | exact g_load_mid _ _ rfl rfl (FA w1 h1) T36 (evv ea) rfl | exact g_load_mid _ _ rfl rfl (FB w1 h1) T36 (evv eb) rfl | (go_simp; first | exact ⟨rfl, rfl⟩ | rfl)); simp only [Act.put, Act.eval, List.setIfInBounds_toArray, List.set_cons_zero, List.set_cons_succ, Array.getD_eq_getD_getElem?, List.getElem?_toArray, List.getElem?_cons_zero, List.getElem?_cons_succ, Option.getD_some]) | (refine wpG_go 10 (by simp only [List.getElem?_toArray, List.getElem?_cons_zero, List.getElem?_cons_succ] <;> rfl) (by decide +kernel) (by decide +kernel) (by kernel_rfl) (by rfl) (by exact fun _ _ _ _ h => h) (Nat.le_of_lt hGL.out) ?_; apply Exists.intro; refine ⟨fun w1 h1 => ?_, ?_⟩; (first | exact g_move _ rfl | exact g_assign _ rfl | exact g_load_mid _ _ rfl rfl (FA w1 h1) T36 (evv ea) rfl | exact g_load_mid _ _ rfl rfl (FB w1 h1) T36 (evv eb) rfl | (go_simp; first | exact ⟨rfl, rfl⟩ | rfl)); simp only [Act.put, Act.eval, List.setIfInBounds_toArray, List.set_cons_zero, List.set_cons_succ, Array.getD_eq_getD_getElem?, List.getElem?_toArray, List.getElem?_cons_zero, List.getElem?_cons_succ, Option.getD_some]) | (refine wpG_go 11 (by simp only [List.getElem?_toArray, List.getElem?_cons_zero, List.getElem?_cons_succ] <;> rfl) (by decide +kernel) (by decide +kernel) (by kernel_rfl) (by rfl) (by exact fun _ _ _ _ h => h) (Nat.le_of_lt hGL.out) ?_; apply Exists.intro; refine ⟨fun w1 h1 => ?_, ?_⟩; (first | exact g_move _ rfl | exact g_assign _ rfl | exact g_load_mid _ _ rfl rfl (FA w1 h1) T36 (evv ea) rfl | exact g_load_mid _ _ rfl rfl (FB w1 h1) T36 (evv eb) rfl | (go_simp; first | exact ⟨rfl, rfl⟩ | rfl)); simp only [Act.put, Act.eval, List.setIfInBounds_toArray, List.set_cons_zero, List.set_cons_succ, Array.getD_eq_getD_getElem?, List.getElem?_toArray, List.getElem?_cons_zero, List.getElem?_cons_succ, Option.getD_some]) | (refine wpG_go 12 (by simp only [List.getElem?_toArray, List.getElem?_cons_zero, List.getElem?_cons_succ] <;> rfl) (by decide +kernel) (by decide +kernel) (by kernel_rfl) (by rfl) (by exact fun _ _ _ _ h => h) (Nat.le_of_lt hGL.out) ?_; apply Exists.intro; refine ⟨fun w1 h1 => ?_, ?_⟩; (first | exact g_move _ rfl | exact g_assign _ rfl | exact g_load_mid _ _ rfl rfl (FA w1 h1) T36 (evv ea) rfl | exact g_load_mid _ _ rfl rfl (FB w1 h1) T36 (evv eb) rfl | (go_simp; first | exact ⟨rfl, rfl⟩ | rfl)); simp only [Act.put, Act.eval, List.setIfInBounds_toArray, List.set_cons_zero, List.set_cons_succ, Array.getD_eq_getD_getElem?, List.getElem?_toArray, List.getElem?_cons_zero, List.getElem?_cons_succ, Option.getD_some]) | (refine wpG_go 13 (by simp only [List.getElem?_toArray, List.getElem?_cons_zero, List.getElem?_cons_succ] <;> rfl) (by decide +kernel) (by decide +kernel) (by kernel_rfl) (by rfl) (by exact fun _ _ _ _ h => h) (Nat.le_of_lt hGL.out) ?_; apply Exists.intro; refine ⟨fun w1 h1 => ?_, ?_⟩; (first | exact g_move _ rfl | exact g_assign _ rfl | exact g_load_mid _ _ rfl rfl (FA w1 h1) T36 (evv ea) rfl | exact g_load_mid _ _ rfl rfl (FB w1 h1) T36 (evv eb) rfl | (go_simp; first | exact ⟨rfl, rfl⟩ | rfl)); simp only [Act.put, Act.eval, List.setIfInBounds_toArray, List.set_cons_zero, List.set_cons_succ, Array.getD_eq_getD_getElem?, List.getElem?_toArray, List.getElem?_cons_zero, List.getElem?_cons_succ, Option.getD_some]) | (refine wpG_go 14 (by simp only [List.getElem?_toArray, List.getElem?_cons_zero, List.getElem?_cons_succ] <;> rfl) (by decide +kernel) (by decide +kernel) (by kernel_rfl) (by rfl) (by exact fun _ _ _ _ h => h) (Nat.le_of_lt hGL.out) ?_; apply Exists.intro; refine ⟨fun w1 h1 => ?_, ?_⟩; (first | exact g_move _ rfl | exact g_assign _ rfl | exact g_load_mid _ _ rfl rfl (FA w1 h1) T36 (evv ea) rfl | exact g_load_mid _ _ rfl rfl (FB w1 h1) T36 (evv eb) rfl | (go_simp; first | exact ⟨rfl, rfl⟩ | rfl)); simp only [Act.put, Act.eval, List.setIfInBounds_toArray, List.set_cons_zero, List.set_cons_succ, Array.getD_eq_getD_getElem?, List.getElem?_toArray, List.getElem?_cons_zero, List.getElem?_cons_succ, Option.getD_some]) | (refine wpG_go 16 (by simp only [List.getElem?_toArray, List.getElem?_cons_zero, List.getElem?_cons_succ] <;> rfl) (by decide +kernel) (by decide +kernel) (by kernel_rfl) (by rfl) (by exact fun _ _ _ _ h => h) (Nat.le_of_lt hGL.out) ?_; apply Exists.intro; refine ⟨fun w1 h1 => ?_, ?_⟩; (first | exact g_move _ rfl | exact g_assign _ rfl | exact g_load_mid _ _ rfl rfl (FA w1 h1) T36 (evv ea) rfl | exact g_load_mid _ _ rfl rfl (FB w1 h1) T36 (evv eb) rfl | (go_simp; first | exact ⟨rfl, rfl⟩ | rfl)); simp only [Act.put, Act.eval, List.setIfInBounds_toArray, List.set_cons_zero, List.set_cons_succ, Array.getD_eq_getD_getElem?, List.getElem?_toArray, List.getElem?_cons_zero, List.getElem?_cons_succ, Option.getD_some]) | (refine wpG_skip 0 (by simp only [List.getElem?_toArray, List.getElem?_cons_zero, List.getElem?_cons_succ] <;> rfl) (by decide +kernel) (by decide +kernel) (by kernel_rfl) (by rfl) (by exact fun _ _ _ _ h => h) (Nat.le_of_lt hGL.out) ?_; simp only [Act.put, Act.eval, List.setIfInBounds_toArray, List.set_cons_zero, List.set_cons_succ, Array.getD_eq_getD_getElem?, List.getElem?_toArray, List.getElem?_cons_zero, List.getElem?_cons_succ, Option.getD_some]) | (refine wpG_skip 1 (by simp only [List.getElem?_toArray, List.getElem?_cons_zero, List.getElem?_cons_succ] <;> rfl) (by decide +kernel) (by decide +kernel) (by kernel_rfl) (by rfl) (by exact fun _ _ _ _ h => h) (Nat.le_of_lt hGL.out) ?_; simp only [Act.put, Act.eval, List.setIfInBounds_toArray, List.set_cons_zero, List.set_cons_succ, Array.getD_eq_getD_getElem?, List.getElem?_toArray, List.getElem?_cons_zero, List.getElem?_cons_succ, Option.getD_some]) | (refine wpG_skip 2 (by simp only [List.getElem?_toArray, List.getElem?_cons_zero, List.getElem?_cons_succ] <;> rfl) (by decide +kernel) (by decide +kernel) (by kernel_rfl) (by rfl) (by exact fun _ _ _ _ h => h) (Nat.le_of_lt hGL.out) ?_; simp only [Act.put, Act.eval, List.setIfInBounds_toArray, List.set_cons_zero, List.set_cons_succ, Array.getD_eq_getD_getElem?, List.getElem?_toArray, List.getElem?_cons_zero, List.getElem?_cons_succ, Option.getD_some]) | (refine wpG_skip 3 (by simp only [List.getElem?_toArray, List.getElem?_cons_zero, List.getElem?_cons_succ] <;> rfl) (by decide +kernel) (by decide +kernel) (by kernel_rfl) (by rfl) (by exact fun _ _ _ _ h => h) (Nat.le_of_lt hGL.out) ?_; simp only [Act.put, Act.eval, List.setIfInBounds_toArray, List.set_cons_zero, List.set_cons_succ, Array.getD_eq_getD_getElem?, List.getElem?_toArray, List.getElem?_cons_zero, List.getElem?_cons_succ, Option.getD_some]) | (refine wpG_skip 4 (by simp only [List.getElem?_toArray, List.getElem?_cons_zero, List.getElem?_cons_succ] <;> rfl) (by decide +kernel) (by decide +kernel) (by kernel_rfl) (by rfl) (by exact fun _ _ _ _ h => h) (Nat.le_of_lt hGL.out) ?_; simp only [Act.put, Act.eval, List.setIfInBounds_toArray, List.set_cons_zero, List.set_cons_succ, Array.getD_eq_getD_getElem?, List.getElem?_toArray, List.getElem?_cons_zero, List.getElem?_cons_succ, Option.getD_some]) | (refine wpG_skip 5 (by simp only [List.getElem?_toArray, List.getElem?_cons_zero, List.getElem?_cons_succ] <;> rfl) (by decide +kernel) (by decide +kernel) (by kernel_rfl) (by rfl) (by exact fun _ _ _ _ h => h) (Nat.le_of_lt hGL.out) ?_; simp only [Act.put, Act.eval, List.setIfInBounds_toArray, List.set_cons_zero, List.set_cons_succ, Array.getD_eq_getD_getElem?, List.getElem?_toArray, List.getElem?_cons_zero, List.getElem?_cons_succ, Option.getD_some]) | (refine wpG_skip 6 (by simp only [List.getElem?_toArray, List.getElem?_cons_zero, List.getElem?_cons_succ] <;> rfl) (by decide +kernel) (by decide +kernel) (by kernel_rfl) (by rfl) (by exact fun _ _ _ _ h => h) (Nat.le_of_lt hGL.out) ?_; simp only [Act.put, Act.eval, List.setIfInBounds_toArray, List.set_cons_zero, List.set_cons_succ, Array.getD_eq_getD_getElem?, List.getElem?_toArray, List.getElem?_cons_zero, List.getElem?_cons_succ, Option.getD_some]) | (refine wpG_skip 7 (by simp only [List.getElem?_toArray, List.getElem?_cons_zero, List.getElem?_cons_succ] <;> rfl) (by decide +kernel) (by decide +kernel) (by kernel_rfl) (by rfl) (by exact fun _ _ _ _ h => h) (Nat.le_of_lt hGL.out) ?_; simp only [Act.put, Act.eval, List.setIfInBounds_toArray, List.set_cons_zero, List.set_cons_succ, Array.getD_eq_getD_getElem?, List.getElem?_toArray, List.getElem?_cons_zero, List.getElem?_cons_succ, Option.getD_some]) | (refine wpG_skip 8 (by simp only [List.getElem?_toArray, List.getElem?_cons_zero, List.getElem?_cons_succ] <;> rfl) (by decide +kernel) (by decide +kernel) (by kernel_rfl) (by rfl) (by exact fun _ _ _ _ h => h) (Nat.le_of_lt hGL.out) ?_; simp only [Act.put, Act.eval, List.setIfInBounds_toArray, List.set_cons_zero, List.set_cons_succ, Array.getD_eq_getD_getElem?, List.getElem?_toArray, List.getElem?_cons_zero, List.getElem?_cons_succ, Option.getD_some]) | (refine wpG_skip 9 (by simp only [List.getElem?_toArray, List.getElem?_cons_zero, List.getElem?_cons_succ] <;> rfl) (by decide +kernel) (by decide +kernel) (by kernel_rfl) (by rfl) (by exact fun _ _ _ _ h => h) (Nat.le_of_lt hGL.out) ?_; simp only [Act.put, Act.eval, List.setIfInBounds_toArray, List.set_cons_zero, List.set_cons_succ, Array.getD_eq_getD_getElem?, List.getElem?_toArray, List.getElem?_cons_zero, List.getElem?_cons_succ, Option.getD_some]) | (refine wpG_skip 10 (by simp only [List.getElem?_toArray, List.getElem?_cons_zero, List.getElem?_cons_succ] <;> rfl) (by decide +kernel) (by decide +kernel) (by kernel_rfl) (by rfl) (by exact fun _ _ _ _ h => h) (Nat.le_of_lt hGL.out) ?_; simp only [Act.put, Act.eval, List.setIfInBounds_toArray, List.set_cons_zero, List.set_cons_succ, Array.getD_eq_getD_getElem?, List.getElem?_toArray, List.getElem?_cons_zero, List.getElem?_cons_succ, Option.getD_some]) | (refine wpG_skip 11 (by simp only [List.getElem?_toArray, List.getElem?_cons_zero, List.getElem?_cons_succ] <;> rfl) (by decide +kernel) (by decide +kernel) (by kernel_rfl) (by rfl) (by exact fun _ _ _ _ h => h) (Nat.le_of_lt hGL.out) ?_; simp only [Act.put, Act.eval, List.setIfInBounds_toArray, List.set_cons_zero, List.set_cons_succ, Array.getD_eq_getD_getElem?, List.getElem?_toArray, List.getElem?_cons_zero, List.getElem?_cons_succ, Option.getD_some]) | (refine wpG_skip 12 (by simp only [List.getElem?_toArray, List.getElem?_cons_zero, List.getElem?_cons_succ] <;> rfl) (by decide +kernel) (by decide +kernel) (by kernel_rfl) (by rfl) (by exact fun _ _ _ _ h => h) (Nat.le_of_lt hGL.out) ?_; simp only [Act.put, Act.eval, List.setIfInBounds_toArray, List.set_cons_zero, List.set_cons_succ, Array.getD_eq_getD_getElem?, List.getElem?_toArray, List.getElem?_cons_zero, List.getElem?_cons_succ, Option.getD_some]) | (refine wpG_skip 13 (by simp only [List.getElem?_toArray, List.getElem?_cons_zero, List.getElem?_cons_succ] <;> rfl) (by decide +kernel) (by decide +kernel) (by kernel_rfl) (by rfl) (by exact fun _ _ _ _ h => h) (Nat.le_of_lt hGL.out) ?_; simp only [Act.put, Act.eval, List.setIfInBounds_toArray, List.set_cons_zero, List.set_cons_succ, Array.getD_eq_getD_getElem?, List.getElem?_toArray, List.getElem?_cons_zero, List.getElem?_cons_succ, Option.getD_some]) | (refine wpG_skip 14 (by simp only [List.getElem?_toArray, List.getElem?_cons_zero, List.getElem?_cons_succ] <;> rfl) (by decide +kernel) (by decide +kernel) (by kernel_rfl) (by rfl) (by exact fun _ _ _ _ h => h) (Nat.le_of_lt hGL.out) ?_; simp only [Act.put, Act.eval, List.setIfInBounds_toArray, List.set_cons_zero, List.set_cons_succ, Array.getD_eq_getD_getElem?, List.getElem?_toArray, List.getElem?_cons_zero, List.getElem?_cons_succ, Option.getD_some]) | (refine wpG_skip 16 (by simp only [List.getElem?_toArray, List.getElem?_cons_zero, List.getElem?_cons_succ] <;> rfl) (by decide +kernel) (by decide +kernel) (by kernel_rfl) (by rfl) (by exact fun _ _ _ _ h => h) (Nat.le_of_lt hGL.out) ?_; simp only [Act.put, Act.eval, List.setIfInBounds_toArray, List.set_cons_zero, List.set_cons_succ, Array.getD_eq_getD_getElem?, List.getElem?_toArray, List.getElem?_cons_zero, List.getElem?_cons_succ, Option.getD_some])))
          (refine wpG_one 15 (by decide +kernel) ?_; intro wA hwA; refine op_wanted (by simp only [List.getElem?_toArray, List.getElem?_cons_zero, List.getElem?_cons_succ] <;> rfl) rfl ?_)
          have HA0 := hwA.box HBX.out
          refine wp_store_mid 29 _ _ rfl g (k * 3) (evv eb) rfl rfl (there_row HA0 (HRW.out k ea HE1.out)) (by kernel_rfl) (evv_all _) ⟨below_set3 (Nat.le_refl _) _ _ _, ?_⟩
          simp only [Act.put, Act.eval, List.setIfInBounds_toArray, List.set_cons_zero, List.set_cons_succ, Array.getD_eq_getD_getElem?, List.getElem?_toArray, List.getElem?_cons_zero, List.getElem?_cons_succ, Option.getD_some]
          have HA1 := HA0.set3 (k * 3) eb
          have hGL1 := HA1.lt
          (repeat (first | (refine wpG_go 16 (by simp only [List.getElem?_toArray, List.getElem?_cons_zero, List.getElem?_cons_succ] <;> rfl) (by decide +kernel) (by decide +kernel) (by kernel_rfl) (by rfl) (by exact fun _ _ _ _ h => h) (Nat.le_of_lt hGL1) ?_; apply Exists.intro; refine ⟨fun w1 h1 => ?_, ?_⟩; (first | exact g_move _ rfl | exact g_assign _ rfl | (go_simp; first | exact ⟨rfl, rfl⟩ | rfl)); simp only [Act.put, Act.eval, List.setIfInBounds_toArray, List.set_cons_zero, List.set_cons_succ, Array.getD_eq_getD_getElem?, List.getElem?_toArray, List.getElem?_cons_zero, List.getElem?_cons_succ, Option.getD_some]) | (refine wpG_skip 16 (by simp only [List.getElem?_toArray, List.getElem?_cons_zero, List.getElem?_cons_succ] <;> rfl) (by decide +kernel) (by decide +kernel) (by kernel_rfl) (by rfl) (by exact fun _ _ _ _ h => h) (Nat.le_of_lt hGL1) ?_; simp only [Act.put, Act.eval, List.setIfInBounds_toArray, List.set_cons_zero, List.set_cons_succ, Array.getD_eq_getD_getElem?, List.getElem?_toArray, List.getElem?_cons_zero, List.getElem?_cons_succ, Option.getD_some])))
          (refine wpG_one 17 (by decide +kernel) ?_; intro wB hwB; refine op_wanted (by simp only [List.getElem?_toArray, List.getElem?_cons_zero, List.getElem?_cons_succ] <;> rfl) rfl ?_)
          have HB0 := hwB.box HA1
          refine wp_store_mid 29 _ _ rfl g ((k + 1) * 3) (evv ea) rfl rfl (there_row HB0 ((HRW.out (k + 1) eb HE2.out).set_ne (by omega))) (by kernel_rfl) (evv_all _) ⟨below_set3 (Nat.le_refl _) _ _ _, ?_⟩
          simp only [Act.put, Act.eval, List.setIfInBounds_toArray, List.set_cons_zero, List.set_cons_succ, Array.getD_eq_getD_getElem?, List.getElem?_toArray, List.getElem?_cons_zero, List.getElem?_cons_succ, Option.getD_some]
          have HB1 := HB0.set3 ((k + 1) * 3) ea
          (refine wpG_done (by decide +kernel) ?_ _; intro wC hwC; try simp only [Act.put, Act.eval, List.setIfInBounds_toArray, List.set_cons_zero, List.set_cons_succ, Array.getD_eq_getD_getElem?, List.getElem?_toArray, List.getElem?_cons_zero, List.getElem?_cons_succ, Option.getD_some])
          have hRR := swap_R3 HRW.out HAT.out HE1.out HE2.out
          have HSW := Lib.hid (rows_own (base := w.heap.size) (hwC.box HB1) hRR (by rw [← HAT.out.sw.length]; exact HL.out.1) hcap hcm (by rw [set3_size, set3_size]; exact hsz) (Nat.le_trans (HW1.out.trans HB2.out).size HGE.out))
          have HG0 := Lib.hid (show w.heap.size ≤ g from Nat.le_trans (HW1.out.trans HB2.out).size HGE.out)
          have HWC := Lib.hid (show Below w.heap.size w wC from HW8.out.out.trans ((hwA.out.mono HW8.out.size).trans ((below_set3 HG0.out _ _ _).trans ((hwB.out.mono (Nat.le_trans HW8.out.size (Nat.le_trans hwA.size (set3_le _ _ _ _)))).trans ((below_set3 HG0.out _ _ _).trans (hwC.out.mono (Nat.le_trans HW8.out.size (Nat.le_trans hwA.size (Nat.le_trans (set3_le _ _ _ _) (Nat.le_trans hwB.size (set3_le _ _ _ _)))))))))))
          clear hwA hwB hwC HA0 HA1 HB0 HB1 FA FB hGL1 hRR
          go_wp2
          go_ret2
          exact ⟨_, 0, .inr (.inr (.inr ⟨HM.out, ⟨k, rfl, HAT.out⟩, rfl⟩)), _, rfl, by rw [← HAT.out.sw.length, HL.out.1]; exact HSW.out, HWC.out⟩
        · rw [hd] at HRB
          have HRC := Lib.hid HRB
          have HD := Lib.hid hd
          clear HRB hd
          go_wp2
          (refine region_bel (by kernel_rfl) (by kernel_rfl) ?_; (repeat (first | ((with_reducible refine BigFrame.wpQuiet_skip ?_ ?_); exact rfl; simp only [Act.put, Act.eval, List.setIfInBounds_toArray, List.set_cons_zero, List.set_cons_succ, Array.getD_eq_getD_getElem?, List.getElem?_toArray, List.getElem?_cons_zero, List.getElem?_cons_succ, Option.getD_some]) | (refine q_move _ rfl rfl ?_; simp only [Act.put, Act.eval, List.setIfInBounds_toArray, List.set_cons_zero, List.set_cons_succ, Array.getD_eq_getD_getElem?, List.getElem?_toArray, List.getElem?_cons_zero, List.getElem?_cons_succ, Option.getD_some]) | (refine q_assign _ rfl rfl ?_; simp only [Act.put, Act.eval, List.setIfInBounds_toArray, List.set_cons_zero, List.set_cons_succ, Array.getD_eq_getD_getElem?, List.getElem?_toArray, List.getElem?_cons_zero, List.getElem?_cons_succ, Option.getD_some]) | (refine q_load_mid _ _ rfl rfl rfl R1.out T36 (evv ea) rfl ?_; simp only [Act.put, Act.eval, List.setIfInBounds_toArray, List.set_cons_zero, List.set_cons_succ, Array.getD_eq_getD_getElem?, List.getElem?_toArray, List.getElem?_cons_zero, List.getElem?_cons_succ, Option.getD_some]) | (refine q_load_mid _ _ rfl rfl rfl R2.out T36 (evv eb) rfl ?_; simp only [Act.put, Act.eval, List.setIfInBounds_toArray, List.set_cons_zero, List.set_cons_succ, Array.getD_eq_getD_getElem?, List.getElem?_toArray, List.getElem?_cons_zero, List.getElem?_cons_succ, Option.getD_some]) | (refine q_any rfl ?_; apply Exists.intro; refine ⟨fun w hw => ?_, ?_⟩; (go_simp; first | exact ⟨rfl, rfl⟩ | rfl | (go_at_call 35; (with_reducible refine (HRC.out _).mono ?_); rintro e w' ⟨rfl, hb⟩; exact ⟨rfl, hw.call hb⟩)); simp only [Act.put, Act.eval, List.setIfInBounds_toArray, List.set_cons_zero, List.set_cons_succ, Array.getD_eq_getD_getElem?, List.getElem?_toArray, List.getElem?_cons_zero, List.getElem?_cons_succ, Option.getD_some]))); refine wpQuiet_nil ?_; intro w2 hw2)
          have HB2 := Lib.hid hw2
          clear hw2
          go_wp2
          go_ret2
          exact ⟨[], 5, .inr (.inr (.inl ⟨HM.out, ⟨k, rfl, by have := HL.out.1; omega, by rw [evZ_at HE1.out, evZ_at HE2.out]; exact HD.out⟩, rfl, rfl⟩)), own_nil _ _ _ (HW1.out.trans HB2.out).out⟩
  · have hm : may l ≠ 0 := by simpa using h1
    have HM := Lib.hid hm
    clear hm
    go_wp2
    go_ret2
    exact ⟨[], may l, .inl ⟨HM.out, rfl, rfl⟩, own_nil _ _ _ HW1.out.out⟩
set_option maxHeartbeats 16000000 in
theorem least_own (A : Option Addr) (n c : Nat) (l : List Ev) (w : World) (hl : Sl w A n l) (hnc : n ≤ c) (hcm : c ≤ maxLen) :
    Calls Try.prog 23 #[.slice A n c] w fun e w' => ∃ r c, LeB l r c ∧ EvsOwn w r c e w' := by
  have HL := Lib.hid hl
  have HML := Lib.hid (show (check l).2 = may l from rfl)
  clear hl hnc hcm
  go_enter Try.func23, Try.ntmps23
  go_wp2_with fail
  refine (check_any A n c l _ HL.out).mono ?_
  rintro e1 w1 ⟨rfl, hb1⟩
  rw [HML.out]
  have HW1 := Lib.hid (Bel.of hb1)
  clear hb1
  cases h1 : (may l != 0)
  · have hm : may l = 0 := by simpa using h1
    have HM := Lib.hid hm
    have hn80 : n ≤ 80 := by rw [← HL.out.1]; exact ((may_iff l).1 hm).1
    have HN8 := Lib.hid hn80
    obtain ⟨i0, hi0, hz0, hz1, hz2⟩ := info_parts ev_info
    have J := Lib.hid (And.intro hi0 (And.intro hz0 (And.intro hz1 hz2)))
    clear hm hi0 hz0 hz1 hz2
    go_wp2_with fail
    refine (clone_any A n c l _ (HL.out.bel HW1.out.out) (by omega)).mono ?_
    rintro e2 w2 ⟨v2, rfl, ho2, hb2⟩
    have H0 := Lib.hid (show LsR w l v2 (.slice none 0 0) w2 from ⟨l, [], rfl, may_fit HM.out, by simp, ⟨own_drop_alloc (by rw [HL.out.1]; exact ho2) HW1.out.size, World.ownsRow_nil _ _ _ _, fun g _ hv => (by cases hv), HW1.out.call hb2⟩⟩)
    clear ho2 hb2
    go_wp2
    go_loopw [6, 7] (fun v6 v7 wr => LsR w l v6 v7 wr) (fun v6 _ _ => lenV v6)
    case atStart => exact H0.out
    case round =>
      obtain ⟨R, L, hinv, hfit, hlen, htw⟩ := hrel
      have HI := Lib.hid (And.intro hinv (And.intro hfit hlen))
      have HT := Lib.hid htw
      have hRl : R.length ≤ 80 := by have := HL.out.1; omega
      have hLl : L.length ≤ 80 := by have := HL.out.1; omega
      obtain ⟨B, d, rfl, hs, hnd, hdm⟩ := Sl.own htw.own1
      have HS := Lib.hid hs
      have HDM := Lib.hid (And.intro hnd hdm)
      clear hinv hfit hlen htw hs H0
      generalize hr : R.length = r at *
      by_cases hr0 : 0 < r
      · have hr0' : (0 : Int) < r := by omega
        have HR := Lib.hid hr
        obtain ⟨b, off, e0, rfl, hbb, _, _⟩ := HS.out.at_ hr0
        clear hr
        go_wp2_with fail
        refine (lowest_any (some ⟨b, off, none⟩) r d R _ HS.out hr0 hnd (by omega)).mono ?_
        rintro e3 w3 ⟨f, x, rfl, hf, hlow, hb3⟩
        have HPK := Lib.hid (show pick R = some (x, R.eraseIdx f) from Low.pick (by rw [HR.out]; exact hlow) HI.out.2.1)
        have HW3 := Lib.hid (Bel.of hb3)
        have HT3 := Lib.hid (HT.out.bel HW3.out)
        have hR := Lib.hid ((HS.out.bel hb3).rng hf hlow.can.1).2
        have HTA := Lib.hid (HT3.out.bel ((Bel.refl w3).alloc (.cells (evv x) 29)))
        have HNW := Lib.hid (Box.news (l := evl x) (Box.new w3 (evv x) 29))
        have HSZ := Lib.hid HTA.out.below.size
        have hf' : (f : Int) < r := by omega
        have hwf : IntKind.i64.wrap ((f : Int) + 1) = (f : Int) + 1 := IntWalk.i64_in _ (by omega)
        clear hb3 hlow hbb
        go_wp2_with (first | (refine build1 22 _ rfl rfl 29 i0 Try.underlying22 J.out.1 J.out.2.1 J.out.2.2.1 x rfl ?_) | (refine load_ev T36 _ rfl rfl rfl hR.out ?_) | (refine ewld_store T36 _ _ rfl rfl _ rfl rfl rfl ?_) | (at_builtin; refine wpList_append_own_at _ rfl (.tmp 24) (.tmp 29) _ rfl w.heap.size 29 i0 _ 3 24 Try.underlying22 J.out.1 J.out.2.1 J.out.2.2.1 J.out.2.2.2 rfl (by omega) _ L.length (evc L) rfl HTA.out.own2 _ 1 1 (evl x) rfl rfl HNW.out (by simp [evl, Value.oneCell']) (by unfold maxLen; omega) (by omega) HSZ.out ?_; intro v8 w8 hown8 hg8 hn8 hat8))
        have HT8 := Lib.hid (HTA.out.add2 hg8 hat8 hown8)
        clear hown8 hg8 hn8 hat8
        refine (delete_any w.heap.size r f (r - 1) _ R w8 (by have := HT8.out.own1; rwa [HR.out] at this) hf (by omega) (by omega)).mono ?_
        rintro e9 w9 ⟨v9, rfl, ho9, hg9, hb9⟩
        have hel : (R.eraseIdx f).length = r - 1 := by rw [List.length_eraseIdx_of_lt (by rw [HR.out]; exact hf), HR.out]
        have HT9 := Lib.hid (HT8.out.del (q := R.eraseIdx f) hg9 hb9 (by rw [hel]; exact ho9))
        obtain ⟨C, c9, rfl, _, _, _⟩ := Sl.own ho9
        have HEL := Lib.hid hel
        clear ho9 hg9 hb9 hel
        go_wp2
        go_roundw
        case rel =>
          refine ⟨R.eraseIdx f, L ++ [x], ?_, pick_fit HPK.out HI.out.2.1, ?_, HT9.out⟩
          · rw [HI.out.1, leastL_cons HPK.out, List.append_assoc]; rfl
          · have := HI.out.2.2; rw [HEL.out, List.length_append, List.length_singleton]; have := HR.out; omega
        case measure => simp [lenV]; omega
      · obtain rfl : r = 0 := by omega
        have hRn : R = [] := List.eq_nil_of_length_eq_zero hr
        subst hRn
        have hLL : L = leastL l := by rw [HI.out.1]; unfold leastL least; simp
        have HO := Lib.hid (show wr.ownsRow w.heap.size 29 3 _ (leastL l).length (evc (leastL l)) from by have h := HT.out.own2; rwa [hLL] at h)
        clear hr hLL
        go_wp2
        go_ret2
        exact ⟨leastL l, 0, .inr ⟨HM.out, rfl, rfl⟩, _, rfl, HO.out, HT.out.below.out⟩
  · have hm : may l ≠ 0 := by simpa using h1
    have HM := Lib.hid hm
    clear hm
    go_wp2
    go_ret2
    exact ⟨[], may l, .inl ⟨HM.out, rfl, rfl⟩, own_nil _ _ _ HW1.out.out⟩
end Go.Proofs.Ytmdpegljpdjfoaa

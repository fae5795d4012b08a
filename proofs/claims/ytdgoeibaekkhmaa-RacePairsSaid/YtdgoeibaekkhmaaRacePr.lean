/- The walk of 'deadheatkeep.RacePairs': it returns true for every input and leaves its arguments as they are. -/
import Derived.Test.YtdgoeibaekkhmaaOpenTr
import Derived.Test.YtdgoeibaekkhmaaKeepRc
import Derived.Test.YtdgoeibaekkhmaaKeepTw
import Derived.Test.YtdgoeibaekkhmaaRefRc
import Derived.Test.YtdgoeibaekkhmaaKeepAh
import Derived.Deep.DeepCutAuto
import Derived.WideLaws
set_option linter.all false
set_option maxRecDepth 100000
namespace Go.Proofs.Ytdgoeibaekkhmaa.LRacePairs
open Go Go.ChangeShapes Go.WideShapes Go.ChangeAt Go.RowKit

theorem conf_yes {a b : Ev} (ho : a.o = b.o) (ha : a.k = 1 ∨ a.k = 2) (hb : b.k = 1 ∨ b.k = 2) (hs : 3 ≤ a.k + b.k) : conf a b ≠ 0 := by
  rw [conf_of ho ha hb hs]; repeat' split
  all_goals omega
theorem look_pair {w : World} {B : Nat} {ps : List (Nat × Nat)} (h : MapB w B ps) (a b : Nat) :
    (Instr.lookup 46 (.map (some B)) (.agg #[.int .i64 a, .int .i64 b]) false).run Try.prog w = .ok (.bool (decide ((a, b) ∈ ps))) w := run_look_pr h (a, b)
theorem prM_size (ps : List (Nat × Nat)) : (prM ps).size = ps.length := by
  have : ∀ (ps : List (Nat × Nat)) k, (entsF k ps).length = ps.length := by
    intro ps
    induction ps with
    | nil => intro k; rfl
    | cons p ps ih => intro k; simp [entsF, ih]
  simp [prM, this]
theorem len_pairs {w : World} {B : Nat} {ps : List (Nat × Nat)} (h : MapB w B ps) (ty : TypeId) : (Builtin.len_ #[46] ty #[.map (some B)]).run Try.prog w = .ok (.int .i64 ps.length) w := by
  rw [run_len_map _ _ _ _ _ _ (by kernel_rfl) h, prM_size]; rfl
/-- The two boxes that a round makes of its events. -/
structure TwoB (w : World) (B C : Nat) (ea eb : Ev) (wr : World) : Prop where
  ba : Box wr B (evv ea) 43
  bb : Box wr C (evv eb) 43
  below : Bel w wr
set_option maxHeartbeats 32000000 in
theorem walk (W : World) (A : Option Addr) (n c : Nat) (l : List Ev) (s : Sl W A n l) (m : n ≤ c) (x : c ≤ maxLen) (g : ∀ e ∈ l, EvOk e) :
    Calls Try.prog 6 #[.slice A n c] W fun e w' => e = .returned (.bool true) ∧ Below W.heap.size W w' := by
  unfold maxLen at x
  have hw0 : Bel W W := Bel.refl _
  have HL := Lib.hid s
  clear s g
  cases h1 : (may l != 0)
  · have hm : may l = 0 := by simpa using h1
    have HM := Lib.hid hm
    have HN := Lib.hid HL.out.1
    have hn80 : n ≤ 80 := by rw [← HN.out]; exact ((may_iff l).1 hm).1
    have hmm := @run_makeMap Try.prog
    obtain ⟨nr, hnr⟩ : ∃ nr, (prsA (racB l) l.length).length = nr := ⟨_, rfl⟩
    have HLA := Lib.hid (show (rcsA l).length = nr by unfold rcsA; rw [List.length_map, hnr])
    clear hm
    go_enter Try.func6, Try.ntmps6
    go_wp2_with fail
    refine (raced_any _).mono ?_
    rintro e1 w1 ⟨rfl, hb1⟩
    have hw1 := hw0.call hb1
    clear hb1
    go_wp2_with fail
    refine (all_ok A n c l _ (HL.out.bel hw1) HM.out).mono ?_
    rintro e2 w2 ⟨v2, rfl, hown2, hb2⟩
    have hw2 := hw1.call hb2
    clear hb2
    rw [rcs_ok HM.out, HLA.out] at hown2
    obtain ⟨A2, c2, rfl, hs2, _⟩ := SlR.own hown2
    rw [HM.out]
    have HC2 := Lib.hid hs2
    clear hown2 hs2
    go_wp2_with fail
    refine (kahead_any A n c l _ (HL.out.bel hw2) HM.out).mono ?_
    rintro e3 w3 ⟨B, rfl, hmap, hb3⟩
    have HC3 := Lib.hid (HC2.out.bel (Bel.of hb3))
    have HMAP := Lib.hid hmap
    have HW3 := Lib.hid (hw2.call hb3)
    have HPM := Lib.hid (fun (p : Nat × Nat) (h : p ∈ prsA (racB l) l.length) => mem_prsA.1 h)
    have HMP := Lib.hid (fun (p : Nat × Nat) (h : p.1 < l.length ∧ p.2 < l.length ∧ racB l p.1 p.2 = true) => mem_prsA.2 h)
    have HND := Lib.hid (prsA_nodup (racB l) l.length)
    have hln : (prsA (racB l) l.length).length ≤ 6480 := prs_small ((may_iff l).1 HM.out).1 (Nat.le_refl _) (Nat.zero_le _)
    have hrs : rcsA l = (prsA (racB l) l.length).map (rcOf l) := rfl
    rw [hrs] at HC3
    rw [hnr] at hln
    generalize prsA (racB l) l.length = ps at *
    have HNR := Lib.hid hnr
    have H0 := Lib.hid (FillR.mk (show MapB (w3.alloc (.map #[] 0)) w3.heap.size [] from heap_alloc_new w3 _) (Nat.le_refl _) ((Bel.refl w3).alloc _) : FillR w3 w3.heap.size (ps.take 0) (w3.alloc (.map #[] 0)))
    clear hmap hb3 hw2 hw1 hw0 hrs hnr HC2 HLA
    go_wp2
    go_loopw [38] (fun t38 wr => ∃ i : Nat, i ≤ nr ∧ t38 = .int .i64 i ∧ FillR w3 w3.heap.size (ps.take i) wr) (fun t38 _ => nr - (intOf t38).toNat)
    case atStart => exact ⟨0, by omega, rfl, H0.out⟩
    case round =>
      obtain ⟨i, hi, rfl, hr⟩ := hrel
      have HR := Lib.hid hr
      clear hr H0
      by_cases hlt : i < nr
      · have hlt' : (i : Int) < nr := by omega
        obtain ⟨sb, so, r, rfl, hsb, he, hrg⟩ := HC3.out.at_ hlt
        obtain ⟨⟨a, b⟩, hp⟩ : ∃ p, ps[i]? = some p := ⟨_, List.getElem?_eq_getElem (by rw [HNR.out]; exact hlt)⟩
        have hpm := HPM.out (a, b) (List.mem_of_getElem? hp)
        have hea := List.getElem?_eq_getElem hpm.1
        have heb := List.getElem?_eq_getElem hpm.2.1
        rw [List.getElem?_map, hp] at he
        have hr2 : rcOf l (a, b) = r := by simpa using he
        rw [rcOf_at hea heb] at hr2
        have hab := racB_lt hpm.2.2
        have hrac := hpm.2.2
        rw [racB_at hea heb hab] at hrac
        simp only [Bool.and_eq_true, decide_eq_true_eq, Bool.not_eq_true'] at hrac
        have hcb := conf_bin (l := l) hrac.1
        have hne : l[a].t ≠ l[b].t := fun e => by
          have := dir_bef (thread_dir hea heb hab e); rw [hrac.2] at this; cases this
        have ha80 : a < n := by rw [← HN.out]; exact hpm.1
        have hb80 : b < n := by rw [← HN.out]; exact hpm.2.1
        generalize conf l[a] l[b] = kk at *
        generalize l[a] = ea at *
        generalize l[b] = eb at *
        obtain ⟨ek, et, eo⟩ := ea
        obtain ⟨fk, ft, fo⟩ := eb
        obtain rfl : eo = fo := hcb.1
        subst hr2
        have hk : ek = 1 ∧ fk = 2 ∨ ek = 2 ∧ fk = 1 ∨ ek = 2 ∧ fk = 2 := by have h1 := hcb.2.1; have h2 := hcb.2.2.1; have h3 := hcb.2.2.2; dsimp only at h1 h2 h3; omega
        have ht : (et == ft) = false := by simpa using hne
        have HBEF := Lib.hid hrac.2
        have HNI := Lib.hid (show (a, b) ∉ ps.take i from fun hin => by
          obtain ⟨j, hj, hje⟩ := List.mem_iff_getElem.1 hin
          rw [List.length_take] at hj
          rw [List.getElem_take] at hje
          obtain ⟨h1a, h1b⟩ := List.getElem?_eq_some_iff.1 hp
          exact List.pairwise_iff_getElem.1 HND.out j i (by omega) h1a (by omega) (by rw [hje, h1b]))
        have HTK := Lib.hid (ptake_snoc hp)
        obtain ⟨lb, lo, _, rfl, hlb, _, _⟩ := HL.out.at_ ha80
        have hR := Lib.hid (rangeAt_below HR.out.below.out hsb hrg)
        have HX := Lib.hid (rwld_box wr ⟨a, b, eo, kk⟩ 31)
        have HB5 := Lib.hid (HR.out.below.trans (rwld_below wr ⟨a, b, eo, kk⟩ 31))
        have HM5 := Lib.hid (HR.out.map.bel (rwld_below wr ⟨a, b, eo, kk⟩ 31))
        have hRA := (HL.out.rng ha80 hea).2
        have hRB := (HL.out.rng hb80 heb).2
        have HRA := Lib.hid (fun (w' : World) (h : Bel W w') => rangeAt_below h.out hlb hRA)
        have HRB := Lib.hid (fun (w' : World) (h : Bel W w') => rangeAt_below h.out hlb hRB)
        have ha0 : (0 : Int) ≤ (a : Int) := by omega
        have hb0 : (0 : Int) ≤ (b : Int) := by omega
        have han : (a : Int) < n := by omega
        have hbn : (b : Int) < n := by omega
        have hab' : (a : Int) < b := by omega
        clear he hp hpm hea heb hab hrac hcb hne hRA hRB hrg HR
        go_wp2_with (first | (refine load_rc TRc _ rfl rfl rfl hR.out ?_) | (refine rwld_store TRc _ _ rfl rfl _ rfl rfl rfl ?_))
        generalize rwld wr ⟨a, b, eo, kk⟩ 31 = w5 at *
        generalize wr.heap.size = X at *
        have HRA5 := Lib.hid (fun (w' : World) (h : Bel w5 w') => HRA.out w' (HW3.out.trans (HB5.out.trans h)))
        have HRB5 := Lib.hid (fun (w' : World) (h : Bel w5 w') => HRB.out w' (HW3.out.trans (HB5.out.trans h)))
        have F0 := fun (w' : World) (h : Below w5.heap.size w5 w') => (Bel.box (Bel.of h) HX.out).cell 0 (v := .int .i64 a) rfl
        have F1 := fun (w' : World) (h : Below w5.heap.size w5 w') => (Bel.box (Bel.of h) HX.out).cell 1 (v := .int .i64 b) rfl
        refine region_grow (by kernel_rfl) ?_
        (repeat (first | (refine wpG_go 0 (by simp only [List.getElem?_toArray, List.getElem?_cons_zero, List.getElem?_cons_succ] <;> rfl) (by decide +kernel) (by decide +kernel) (by kernel_rfl) (by rfl) (by exact fun _ _ _ _ h => h) (Nat.le_refl _) ?_; apply Exists.intro; refine ⟨fun w1 h1 => ?_, ?_⟩; (first | exact g_move _ rfl | exact g_assign _ rfl | exact g_load_mid _ _ rfl rfl (HRA5.out w1 h1) T36 (evv ⟨ek, et, eo⟩) rfl | exact g_load_mid _ _ rfl rfl (HRB5.out w1 h1) T36 (evv ⟨fk, ft, eo⟩) rfl | (have fct0 := F0 w1 h1; have fct1 := F1 w1 h1; go_simp; first | exact ⟨rfl, rfl⟩ | rfl)); simp only [Act.put, Act.eval, List.setIfInBounds_toArray, List.set_cons_zero, List.set_cons_succ, Array.getD_eq_getD_getElem?, List.getElem?_toArray, List.getElem?_cons_zero, List.getElem?_cons_succ, Option.getD_some]) | (refine wpG_go 1 (by simp only [List.getElem?_toArray, List.getElem?_cons_zero, List.getElem?_cons_succ] <;> rfl) (by decide +kernel) (by decide +kernel) (by kernel_rfl) (by rfl) (by exact fun _ _ _ _ h => h) (Nat.le_refl _) ?_; apply Exists.intro; refine ⟨fun w1 h1 => ?_, ?_⟩; (first | exact g_move _ rfl | exact g_assign _ rfl | exact g_load_mid _ _ rfl rfl (HRA5.out w1 h1) T36 (evv ⟨ek, et, eo⟩) rfl | exact g_load_mid _ _ rfl rfl (HRB5.out w1 h1) T36 (evv ⟨fk, ft, eo⟩) rfl | (have fct0 := F0 w1 h1; have fct1 := F1 w1 h1; go_simp; first | exact ⟨rfl, rfl⟩ | rfl)); simp only [Act.put, Act.eval, List.setIfInBounds_toArray, List.set_cons_zero, List.set_cons_succ, Array.getD_eq_getD_getElem?, List.getElem?_toArray, List.getElem?_cons_zero, List.getElem?_cons_succ, Option.getD_some]) | (refine wpG_go 2 (by simp only [List.getElem?_toArray, List.getElem?_cons_zero, List.getElem?_cons_succ] <;> rfl) (by decide +kernel) (by decide +kernel) (by kernel_rfl) (by rfl) (by exact fun _ _ _ _ h => h) (Nat.le_refl _) ?_; apply Exists.intro; refine ⟨fun w1 h1 => ?_, ?_⟩; (first | exact g_move _ rfl | exact g_assign _ rfl | exact g_load_mid _ _ rfl rfl (HRA5.out w1 h1) T36 (evv ⟨ek, et, eo⟩) rfl | exact g_load_mid _ _ rfl rfl (HRB5.out w1 h1) T36 (evv ⟨fk, ft, eo⟩) rfl | (have fct0 := F0 w1 h1; have fct1 := F1 w1 h1; go_simp; first | exact ⟨rfl, rfl⟩ | rfl)); simp only [Act.put, Act.eval, List.setIfInBounds_toArray, List.set_cons_zero, List.set_cons_succ, Array.getD_eq_getD_getElem?, List.getElem?_toArray, List.getElem?_cons_zero, List.getElem?_cons_succ, Option.getD_some]) | (refine wpG_go 3 (by simp only [List.getElem?_toArray, List.getElem?_cons_zero, List.getElem?_cons_succ] <;> rfl) (by decide +kernel) (by decide +kernel) (by kernel_rfl) (by rfl) (by exact fun _ _ _ _ h => h) (Nat.le_refl _) ?_; apply Exists.intro; refine ⟨fun w1 h1 => ?_, ?_⟩; (first | exact g_move _ rfl | exact g_assign _ rfl | exact g_load_mid _ _ rfl rfl (HRA5.out w1 h1) T36 (evv ⟨ek, et, eo⟩) rfl | exact g_load_mid _ _ rfl rfl (HRB5.out w1 h1) T36 (evv ⟨fk, ft, eo⟩) rfl | (have fct0 := F0 w1 h1; have fct1 := F1 w1 h1; go_simp; first | exact ⟨rfl, rfl⟩ | rfl)); simp only [Act.put, Act.eval, List.setIfInBounds_toArray, List.set_cons_zero, List.set_cons_succ, Array.getD_eq_getD_getElem?, List.getElem?_toArray, List.getElem?_cons_zero, List.getElem?_cons_succ, Option.getD_some]) | (refine wpG_go 4 (by simp only [List.getElem?_toArray, List.getElem?_cons_zero, List.getElem?_cons_succ] <;> rfl) (by decide +kernel) (by decide +kernel) (by kernel_rfl) (by rfl) (by exact fun _ _ _ _ h => h) (Nat.le_refl _) ?_; apply Exists.intro; refine ⟨fun w1 h1 => ?_, ?_⟩; (first | exact g_move _ rfl | exact g_assign _ rfl | exact g_load_mid _ _ rfl rfl (HRA5.out w1 h1) T36 (evv ⟨ek, et, eo⟩) rfl | exact g_load_mid _ _ rfl rfl (HRB5.out w1 h1) T36 (evv ⟨fk, ft, eo⟩) rfl | (have fct0 := F0 w1 h1; have fct1 := F1 w1 h1; go_simp; first | exact ⟨rfl, rfl⟩ | rfl)); simp only [Act.put, Act.eval, List.setIfInBounds_toArray, List.set_cons_zero, List.set_cons_succ, Array.getD_eq_getD_getElem?, List.getElem?_toArray, List.getElem?_cons_zero, List.getElem?_cons_succ, Option.getD_some]) | (refine wpG_go 5 (by simp only [List.getElem?_toArray, List.getElem?_cons_zero, List.getElem?_cons_succ] <;> rfl) (by decide +kernel) (by decide +kernel) (by kernel_rfl) (by rfl) (by exact fun _ _ _ _ h => h) (Nat.le_refl _) ?_; apply Exists.intro; refine ⟨fun w1 h1 => ?_, ?_⟩; (first | exact g_move _ rfl | exact g_assign _ rfl | exact g_load_mid _ _ rfl rfl (HRA5.out w1 h1) T36 (evv ⟨ek, et, eo⟩) rfl | exact g_load_mid _ _ rfl rfl (HRB5.out w1 h1) T36 (evv ⟨fk, ft, eo⟩) rfl | (have fct0 := F0 w1 h1; have fct1 := F1 w1 h1; go_simp; first | exact ⟨rfl, rfl⟩ | rfl)); simp only [Act.put, Act.eval, List.setIfInBounds_toArray, List.set_cons_zero, List.set_cons_succ, Array.getD_eq_getD_getElem?, List.getElem?_toArray, List.getElem?_cons_zero, List.getElem?_cons_succ, Option.getD_some]) | (refine wpG_go 6 (by simp only [List.getElem?_toArray, List.getElem?_cons_zero, List.getElem?_cons_succ] <;> rfl) (by decide +kernel) (by decide +kernel) (by kernel_rfl) (by rfl) (by exact fun _ _ _ _ h => h) (Nat.le_refl _) ?_; apply Exists.intro; refine ⟨fun w1 h1 => ?_, ?_⟩; (first | exact g_move _ rfl | exact g_assign _ rfl | exact g_load_mid _ _ rfl rfl (HRA5.out w1 h1) T36 (evv ⟨ek, et, eo⟩) rfl | exact g_load_mid _ _ rfl rfl (HRB5.out w1 h1) T36 (evv ⟨fk, ft, eo⟩) rfl | (have fct0 := F0 w1 h1; have fct1 := F1 w1 h1; go_simp; first | exact ⟨rfl, rfl⟩ | rfl)); simp only [Act.put, Act.eval, List.setIfInBounds_toArray, List.set_cons_zero, List.set_cons_succ, Array.getD_eq_getD_getElem?, List.getElem?_toArray, List.getElem?_cons_zero, List.getElem?_cons_succ, Option.getD_some]) | (refine wpG_go 7 (by simp only [List.getElem?_toArray, List.getElem?_cons_zero, List.getElem?_cons_succ] <;> rfl) (by decide +kernel) (by decide +kernel) (by kernel_rfl) (by rfl) (by exact fun _ _ _ _ h => h) (Nat.le_refl _) ?_; apply Exists.intro; refine ⟨fun w1 h1 => ?_, ?_⟩; (first | exact g_move _ rfl | exact g_assign _ rfl | exact g_load_mid _ _ rfl rfl (HRA5.out w1 h1) T36 (evv ⟨ek, et, eo⟩) rfl | exact g_load_mid _ _ rfl rfl (HRB5.out w1 h1) T36 (evv ⟨fk, ft, eo⟩) rfl | (have fct0 := F0 w1 h1; have fct1 := F1 w1 h1; go_simp; first | exact ⟨rfl, rfl⟩ | rfl)); simp only [Act.put, Act.eval, List.setIfInBounds_toArray, List.set_cons_zero, List.set_cons_succ, Array.getD_eq_getD_getElem?, List.getElem?_toArray, List.getElem?_cons_zero, List.getElem?_cons_succ, Option.getD_some]) | (refine wpG_go 8 (by simp only [List.getElem?_toArray, List.getElem?_cons_zero, List.getElem?_cons_succ] <;> rfl) (by decide +kernel) (by decide +kernel) (by kernel_rfl) (by rfl) (by exact fun _ _ _ _ h => h) (Nat.le_refl _) ?_; apply Exists.intro; refine ⟨fun w1 h1 => ?_, ?_⟩; (first | exact g_move _ rfl | exact g_assign _ rfl | exact g_load_mid _ _ rfl rfl (HRA5.out w1 h1) T36 (evv ⟨ek, et, eo⟩) rfl | exact g_load_mid _ _ rfl rfl (HRB5.out w1 h1) T36 (evv ⟨fk, ft, eo⟩) rfl | (have fct0 := F0 w1 h1; have fct1 := F1 w1 h1; go_simp; first | exact ⟨rfl, rfl⟩ | rfl)); simp only [Act.put, Act.eval, List.setIfInBounds_toArray, List.set_cons_zero, List.set_cons_succ, Array.getD_eq_getD_getElem?, List.getElem?_toArray, List.getElem?_cons_zero, List.getElem?_cons_succ, Option.getD_some]) | (refine wpG_go 9 (by simp only [List.getElem?_toArray, List.getElem?_cons_zero, List.getElem?_cons_succ] <;> rfl) (by decide +kernel) (by decide +kernel) (by kernel_rfl) (by rfl) (by exact fun _ _ _ _ h => h) (Nat.le_refl _) ?_; apply Exists.intro; refine ⟨fun w1 h1 => ?_, ?_⟩; (first | exact g_move _ rfl | exact g_assign _ rfl | exact g_load_mid _ _ rfl rfl (HRA5.out w1 h1) T36 (evv ⟨ek, et, eo⟩) rfl | exact g_load_mid _ _ rfl rfl (HRB5.out w1 h1) T36 (evv ⟨fk, ft, eo⟩) rfl | (have fct0 := F0 w1 h1; have fct1 := F1 w1 h1; go_simp; first | exact ⟨rfl, rfl⟩ | rfl)); simp only [Act.put, Act.eval, List.setIfInBounds_toArray, List.set_cons_zero, List.set_cons_succ, Array.getD_eq_getD_getElem?, List.getElem?_toArray, List.getElem?_cons_zero, List.getElem?_cons_succ, Option.getD_some]) | (refine wpG_skip 0 (by simp only [List.getElem?_toArray, List.getElem?_cons_zero, List.getElem?_cons_succ] <;> rfl) (by decide +kernel) (by decide +kernel) (by kernel_rfl) (by rfl) (by exact fun _ _ _ _ h => h) (Nat.le_refl _) ?_; simp only [Act.put, Act.eval, List.setIfInBounds_toArray, List.set_cons_zero, List.set_cons_succ, Array.getD_eq_getD_getElem?, List.getElem?_toArray, List.getElem?_cons_zero, List.getElem?_cons_succ, Option.getD_some]) | (refine wpG_skip 1 (by simp only [List.getElem?_toArray, List.getElem?_cons_zero, List.getElem?_cons_succ] <;> rfl) (by decide +kernel) (by decide +kernel) (by kernel_rfl) (by rfl) (by exact fun _ _ _ _ h => h) (Nat.le_refl _) ?_; simp only [Act.put, Act.eval, List.setIfInBounds_toArray, List.set_cons_zero, List.set_cons_succ, Array.getD_eq_getD_getElem?, List.getElem?_toArray, List.getElem?_cons_zero, List.getElem?_cons_succ, Option.getD_some]) | (refine wpG_skip 2 (by simp only [List.getElem?_toArray, List.getElem?_cons_zero, List.getElem?_cons_succ] <;> rfl) (by decide +kernel) (by decide +kernel) (by kernel_rfl) (by rfl) (by exact fun _ _ _ _ h => h) (Nat.le_refl _) ?_; simp only [Act.put, Act.eval, List.setIfInBounds_toArray, List.set_cons_zero, List.set_cons_succ, Array.getD_eq_getD_getElem?, List.getElem?_toArray, List.getElem?_cons_zero, List.getElem?_cons_succ, Option.getD_some]) | (refine wpG_skip 3 (by simp only [List.getElem?_toArray, List.getElem?_cons_zero, List.getElem?_cons_succ] <;> rfl) (by decide +kernel) (by decide +kernel) (by kernel_rfl) (by rfl) (by exact fun _ _ _ _ h => h) (Nat.le_refl _) ?_; simp only [Act.put, Act.eval, List.setIfInBounds_toArray, List.set_cons_zero, List.set_cons_succ, Array.getD_eq_getD_getElem?, List.getElem?_toArray, List.getElem?_cons_zero, List.getElem?_cons_succ, Option.getD_some]) | (refine wpG_skip 4 (by simp only [List.getElem?_toArray, List.getElem?_cons_zero, List.getElem?_cons_succ] <;> rfl) (by decide +kernel) (by decide +kernel) (by kernel_rfl) (by rfl) (by exact fun _ _ _ _ h => h) (Nat.le_refl _) ?_; simp only [Act.put, Act.eval, List.setIfInBounds_toArray, List.set_cons_zero, List.set_cons_succ, Array.getD_eq_getD_getElem?, List.getElem?_toArray, List.getElem?_cons_zero, List.getElem?_cons_succ, Option.getD_some]) | (refine wpG_skip 5 (by simp only [List.getElem?_toArray, List.getElem?_cons_zero, List.getElem?_cons_succ] <;> rfl) (by decide +kernel) (by decide +kernel) (by kernel_rfl) (by rfl) (by exact fun _ _ _ _ h => h) (Nat.le_refl _) ?_; simp only [Act.put, Act.eval, List.setIfInBounds_toArray, List.set_cons_zero, List.set_cons_succ, Array.getD_eq_getD_getElem?, List.getElem?_toArray, List.getElem?_cons_zero, List.getElem?_cons_succ, Option.getD_some]) | (refine wpG_skip 6 (by simp only [List.getElem?_toArray, List.getElem?_cons_zero, List.getElem?_cons_succ] <;> rfl) (by decide +kernel) (by decide +kernel) (by kernel_rfl) (by rfl) (by exact fun _ _ _ _ h => h) (Nat.le_refl _) ?_; simp only [Act.put, Act.eval, List.setIfInBounds_toArray, List.set_cons_zero, List.set_cons_succ, Array.getD_eq_getD_getElem?, List.getElem?_toArray, List.getElem?_cons_zero, List.getElem?_cons_succ, Option.getD_some]) | (refine wpG_skip 7 (by simp only [List.getElem?_toArray, List.getElem?_cons_zero, List.getElem?_cons_succ] <;> rfl) (by decide +kernel) (by decide +kernel) (by kernel_rfl) (by rfl) (by exact fun _ _ _ _ h => h) (Nat.le_refl _) ?_; simp only [Act.put, Act.eval, List.setIfInBounds_toArray, List.set_cons_zero, List.set_cons_succ, Array.getD_eq_getD_getElem?, List.getElem?_toArray, List.getElem?_cons_zero, List.getElem?_cons_succ, Option.getD_some]) | (refine wpG_skip 8 (by simp only [List.getElem?_toArray, List.getElem?_cons_zero, List.getElem?_cons_succ] <;> rfl) (by decide +kernel) (by decide +kernel) (by kernel_rfl) (by rfl) (by exact fun _ _ _ _ h => h) (Nat.le_refl _) ?_; simp only [Act.put, Act.eval, List.setIfInBounds_toArray, List.set_cons_zero, List.set_cons_succ, Array.getD_eq_getD_getElem?, List.getElem?_toArray, List.getElem?_cons_zero, List.getElem?_cons_succ, Option.getD_some]) | (refine wpG_skip 9 (by simp only [List.getElem?_toArray, List.getElem?_cons_zero, List.getElem?_cons_succ] <;> rfl) (by decide +kernel) (by decide +kernel) (by kernel_rfl) (by rfl) (by exact fun _ _ _ _ h => h) (Nat.le_refl _) ?_; simp only [Act.put, Act.eval, List.setIfInBounds_toArray, List.set_cons_zero, List.set_cons_succ, Array.getD_eq_getD_getElem?, List.getElem?_toArray, List.getElem?_cons_zero, List.getElem?_cons_succ, Option.getD_some])))
        clear F0 F1
        (refine wpG_two 10 11 (by decide +kernel) ?_ ?_ <;> (intro wa hwa; refine op_wanted (by simp only [List.getElem?_toArray, List.getElem?_cons_zero, List.getElem?_cons_succ] <;> rfl) rfl ?_))
        · go_simp
          refine ⟨Below.alloc (Below.refl _ _) hwa.size _, ?_⟩
          (refine wpG_one 11 (by decide +kernel) ?_; intro wb hwb; refine op_wanted (by simp only [List.getElem?_toArray, List.getElem?_cons_zero, List.getElem?_cons_succ] <;> rfl) rfl ?_)
          go_simp
          have h7 := (hwa.alloc (.cells #[.int .i64 0, .int .i64 0, .int .i64 0] 43)).trans hwb
          refine ⟨Below.alloc (Below.refl _ _) h7.size _, ?_⟩
          have bx7 := (hwb.box (Box.new wa #[.int .i64 0, .int .i64 0, .int .i64 0] 43)).old (.cells #[.int .i64 0, .int .i64 0, .int .i64 0] 43)
          have bx8 := Box.new wb #[.int .i64 0, .int .i64 0, .int .i64 0] 43
          have hne : wa.heap.size ≠ wb.heap.size := by have := hwb.size; simp at this; omega
          have hN := h7.alloc (.cells #[.int .i64 0, .int .i64 0, .int .i64 0] 43)
          have g7 : w5.heap.size ≤ wa.heap.size := hwa.size
          have g8 : w5.heap.size ≤ wb.heap.size := h7.size
          clear hwa hwb h7
          generalize wb.alloc (.cells #[.int .i64 0, .int .i64 0, .int .i64 0] 43) = w7 at *
          generalize wa.heap.size = BX at *
          generalize wb.heap.size = BY at *
          (refine wpG_one 12 (by decide +kernel) ?_; intro w8 hw8; refine op_wanted (by simp only [List.getElem?_toArray, List.getElem?_cons_zero, List.getElem?_cons_succ] <;> rfl) rfl ?_)
          refine wp_storeB T36 _ _ rfl rfl rfl rfl (hw8.box bx7) rfl (evv_all ⟨ek, et, eo⟩) ⟨below_setRow' (Below.refl _ _) _ _ g7, ?_⟩
          have k7 := (hw8.box bx7).setRow (evv ⟨ek, et, eo⟩)
          have k8 := (hw8.box bx8).setRow_ne BX (evv ⟨ek, et, eo⟩) (Ne.symm hne)
          have hN6 : Bel w5 _ := below_setRow' (hN.trans hw8).out BX (evv ⟨ek, et, eo⟩) g7
          clear hw8 bx7 bx8 hN
          generalize w8.setRow BX (evv ⟨ek, et, eo⟩) = w9 at *
          (refine wpG_one 13 (by decide +kernel) ?_; intro w10 hw10; refine op_wanted (by simp only [List.getElem?_toArray, List.getElem?_cons_zero, List.getElem?_cons_succ] <;> rfl) rfl ?_)
          refine wp_storeB T36 _ _ rfl rfl rfl rfl (hw10.box k8) rfl (evv_all ⟨fk, ft, eo⟩) ⟨below_setRow' (Below.refl _ _) _ _ g8, ?_⟩
          have m8 := (hw10.box k8).setRow (evv ⟨fk, ft, eo⟩)
          have m7 := (hw10.box k7).setRow_ne BY (evv ⟨fk, ft, eo⟩) hne
          have hN8 : Bel w5 _ := below_setRow' (hN6.trans hw10).out BY (evv ⟨fk, ft, eo⟩) g8
          clear hw10 k7 k8 hN6
          (refine wpG_done (by decide +kernel) ?_ _; intro w11 hw11; try simp only [Act.put, Act.eval, List.setIfInBounds_toArray, List.set_cons_zero, List.set_cons_succ, Array.getD_eq_getD_getElem?, List.getElem?_toArray, List.getElem?_cons_zero, List.getElem?_cons_succ, Option.getD_some])
          have q7 := hw11.box m7
          have q8 := hw11.box m8
          have HB11 := Lib.hid (hN8.trans hw11)
          have HX11 := Lib.hid (HB11.out.box HX.out)
          have HM11 := Lib.hid (HM5.out.bel HB11.out)
          have a0 := q7.cell 0 (v := .int .i64 ek) rfl
          have a1 := q7.cell 1 (v := .int .i64 et) rfl
          have a2 := q7.cell 2 (v := .int .i64 eo) rfl
          have b0 := q8.cell 0 (v := .int .i64 fk) rfl
          have b1 := q8.cell 1 (v := .int .i64 ft) rfl
          have b2 := q8.cell 2 (v := .int .i64 eo) rfl
          have r0 := HX11.out.cell 0 (v := .int .i64 a) rfl
          have r1 := HX11.out.cell 1 (v := .int .i64 b) rfl
          have r2 := HX11.out.cell 2 (v := .int .i64 eo) rfl
          have L := look_bef (HMAP.out.bel (HB5.out.trans HB11.out)) a b
          rw [HBEF.out] at L
          clear m7 m8 hN8 hw11 q7 q8 hne g7 g8
          rcases hk with ⟨rfl, rfl⟩ | ⟨rfl, rfl⟩ | ⟨rfl, rfl⟩
          all_goals
            go_upto_region 14 with fail
            go_wp2_with (refine updPr _ _ _ rfl rfl rfl rfl rfl HM11.out HNI.out ?_)
            go_roundw
            case rel => exact ⟨i + 1, by omega, by go_num, by rw [HTK.out]; exact mset_map _ HM11.out.lt, Nat.le_refl _, below_mset (HB5.out.trans HB11.out).out (Nat.le_refl _) _⟩
            case measure => simp [intOf]; omega
        · go_simp
          refine ⟨Below.alloc (Below.refl _ _) hwa.size _, ?_⟩
          (refine wpG_one 10 (by decide +kernel) ?_; intro wb hwb; refine op_wanted (by simp only [List.getElem?_toArray, List.getElem?_cons_zero, List.getElem?_cons_succ] <;> rfl) rfl ?_)
          go_simp
          have h7 := (hwa.alloc (.cells #[.int .i64 0, .int .i64 0, .int .i64 0] 43)).trans hwb
          refine ⟨Below.alloc (Below.refl _ _) h7.size _, ?_⟩
          have bx7 := (hwb.box (Box.new wa #[.int .i64 0, .int .i64 0, .int .i64 0] 43)).old (.cells #[.int .i64 0, .int .i64 0, .int .i64 0] 43)
          have bx8 := Box.new wb #[.int .i64 0, .int .i64 0, .int .i64 0] 43
          have hne : wa.heap.size ≠ wb.heap.size := by have := hwb.size; simp at this; omega
          have hN := h7.alloc (.cells #[.int .i64 0, .int .i64 0, .int .i64 0] 43)
          have g7 : w5.heap.size ≤ wa.heap.size := hwa.size
          have g8 : w5.heap.size ≤ wb.heap.size := h7.size
          clear hwa hwb h7
          generalize wb.alloc (.cells #[.int .i64 0, .int .i64 0, .int .i64 0] 43) = w7 at *
          generalize wa.heap.size = BX at *
          generalize wb.heap.size = BY at *
          (refine wpG_one 12 (by decide +kernel) ?_; intro w8 hw8; refine op_wanted (by simp only [List.getElem?_toArray, List.getElem?_cons_zero, List.getElem?_cons_succ] <;> rfl) rfl ?_)
          refine wp_storeB T36 _ _ rfl rfl rfl rfl (hw8.box bx8) rfl (evv_all ⟨ek, et, eo⟩) ⟨below_setRow' (Below.refl _ _) _ _ g8, ?_⟩
          have k7 := (hw8.box bx8).setRow (evv ⟨ek, et, eo⟩)
          have k8 := (hw8.box bx7).setRow_ne BY (evv ⟨ek, et, eo⟩) hne
          have hN6 : Bel w5 _ := below_setRow' (hN.trans hw8).out BY (evv ⟨ek, et, eo⟩) g8
          clear hw8 bx7 bx8 hN
          generalize w8.setRow BY (evv ⟨ek, et, eo⟩) = w9 at *
          (refine wpG_one 13 (by decide +kernel) ?_; intro w10 hw10; refine op_wanted (by simp only [List.getElem?_toArray, List.getElem?_cons_zero, List.getElem?_cons_succ] <;> rfl) rfl ?_)
          refine wp_storeB T36 _ _ rfl rfl rfl rfl (hw10.box k8) rfl (evv_all ⟨fk, ft, eo⟩) ⟨below_setRow' (Below.refl _ _) _ _ g7, ?_⟩
          have m8 := (hw10.box k8).setRow (evv ⟨fk, ft, eo⟩)
          have m7 := (hw10.box k7).setRow_ne BX (evv ⟨fk, ft, eo⟩) (Ne.symm hne)
          have hN8 : Bel w5 _ := below_setRow' (hN6.trans hw10).out BX (evv ⟨fk, ft, eo⟩) g7
          clear hw10 k7 k8 hN6
          (refine wpG_done (by decide +kernel) ?_ _; intro w11 hw11; try simp only [Act.put, Act.eval, List.setIfInBounds_toArray, List.set_cons_zero, List.set_cons_succ, Array.getD_eq_getD_getElem?, List.getElem?_toArray, List.getElem?_cons_zero, List.getElem?_cons_succ, Option.getD_some])
          have q7 := hw11.box m7
          have q8 := hw11.box m8
          have HB11 := Lib.hid (hN8.trans hw11)
          have HX11 := Lib.hid (HB11.out.box HX.out)
          have HM11 := Lib.hid (HM5.out.bel HB11.out)
          have a0 := q7.cell 0 (v := .int .i64 ek) rfl
          have a1 := q7.cell 1 (v := .int .i64 et) rfl
          have a2 := q7.cell 2 (v := .int .i64 eo) rfl
          have b0 := q8.cell 0 (v := .int .i64 fk) rfl
          have b1 := q8.cell 1 (v := .int .i64 ft) rfl
          have b2 := q8.cell 2 (v := .int .i64 eo) rfl
          have r0 := HX11.out.cell 0 (v := .int .i64 a) rfl
          have r1 := HX11.out.cell 1 (v := .int .i64 b) rfl
          have r2 := HX11.out.cell 2 (v := .int .i64 eo) rfl
          have L := look_bef (HMAP.out.bel (HB5.out.trans HB11.out)) a b
          rw [HBEF.out] at L
          clear m7 m8 hN8 hw11 q7 q8 hne g7 g8
          rcases hk with ⟨rfl, rfl⟩ | ⟨rfl, rfl⟩ | ⟨rfl, rfl⟩
          all_goals
            go_upto_region 14 with fail
            go_wp2_with (refine updPr _ _ _ rfl rfl rfl rfl rfl HM11.out HNI.out ?_)
            go_roundw
            case rel => exact ⟨i + 1, by omega, by go_num, by rw [HTK.out]; exact mset_map _ HM11.out.lt, Nat.le_refl _, below_mset (HB5.out.trans HB11.out).out (Nat.le_refl _) _⟩
            case measure => simp [intOf]; omega
      · obtain rfl : i = nr := by omega
        have HT := Lib.hid (show ps.take i = ps by rw [← HNR.out, List.take_length])
        have hr := HR.out
        rw [HT.out] at hr
        have HR1 := Lib.hid (And.intro hr.map hr.below)
        clear hr HR
        go_wp2
        go_loopw [114] (fun t114 wx => ∃ j : Nat, j ≤ n ∧ t114 = .int .i64 j ∧ MapB wx w3.heap.size ps ∧ Bel w3 wx) (fun t114 _ => n - (intOf t114).toNat)
        case atStart => exact ⟨0, by omega, rfl, HR1.out⟩
        case round =>
          obtain ⟨j, hj, rfl, hmb⟩ := hrel
          have HB7 := Lib.hid hmb
          clear hmb HR1
          by_cases hlj : j < n
          · have hlj' : (j : Int) < n := by omega
            obtain ⟨lb, lo, eb, rfl, hlb, heb, hrb⟩ := HL.out.at_ hlj
            obtain ⟨fk, ft, fo⟩ := eb
            have HEB := Lib.hid heb
            have hR := Lib.hid (rangeAt_below (HW3.out.trans HB7.out.2) hlb hrb)
            have HKB := Lib.hid (isEv_k (wrong_isEv (wrong_at HM.out heb)))
            have HB8 := Lib.hid (And.intro (HB7.out.1.bel (ewld_below wr ⟨fk, ft, fo⟩ 43)) (And.intro (HB7.out.2.trans (ewld_below wr ⟨fk, ft, fo⟩ 43)) (ewld_box wr ⟨fk, ft, fo⟩ 43)))
            clear heb hrb HB7
            go_wp2_with (first | (refine load_ev T36 _ rfl rfl rfl hR.out ?_) | (refine ewld_store T36 _ _ rfl rfl _ rfl rfl rfl ?_))
            generalize ewld wr ⟨fk, ft, fo⟩ 43 = w8 at *
            generalize wr.heap.size = XB at *
            clear hR
            go_loopw [120] (fun t120 wx => ∃ i : Nat, i ≤ j ∧ t120 = .int .i64 i ∧ MapB wx w3.heap.size ps ∧ Bel w3 wx ∧ Box wx XB (evv ⟨fk, ft, fo⟩) 43) (fun t120 _ => j - (intOf t120).toNat)
            case atStart => exact ⟨0, by omega, rfl, HB8.out⟩
            case round =>
              obtain ⟨i, hi, rfl, hmb⟩ := hrel
              have HB9 := Lib.hid hmb
              clear hmb HB8
              by_cases hli : i < j
              · have hli' : (i : Int) < j := by omega
                have hin : i < n := by omega
                have hin' : (i : Int) < n := by omega
                have hi0 : (0 : Int) ≤ (i : Int) := by omega
                obtain ⟨ea, hea⟩ := HL.out.get hin
                obtain ⟨ek, et, eo⟩ := ea
                have hR := Lib.hid (rangeAt_below (HW3.out.trans HB9.out.2.1) hlb (HL.out.rng hin hea).2)
                have HKA := Lib.hid (isEv_k (wrong_isEv (wrong_at HM.out hea)))
                have HRC := Lib.hid (racB_at hea HEB.out hli)
                have hbx1 := Bel.of (ewld_below wr ⟨ek, et, eo⟩ 43)
                have hbx2 := pwld_below (ewld wr ⟨ek, et, eo⟩ 43) (i, j) 49
                have HXA := Lib.hid (Bel.box hbx2 (ewld_box wr ⟨ek, et, eo⟩ 43))
                have HXP := Lib.hid (pwld_box (ewld wr ⟨ek, et, eo⟩ 43) (i, j) 49)
                have HREL := Lib.hid (And.intro (HB9.out.1.bel (hbx1.trans hbx2)) (And.intro (HB9.out.2.1.trans (hbx1.trans hbx2)) (Bel.box (hbx1.trans hbx2) HB9.out.2.2)))
                have HIN := Lib.hid (fun (h : racB l i j = true) => HMP.out (i, j) ⟨by rw [HN.out]; exact hin, by rw [HN.out]; exact hlj, h⟩)
                clear hea hbx1 hbx2
                go_upto_region 24 with (first | (refine load_ev T36 _ rfl rfl rfl hR.out ?_) | (refine ewld_store T36 _ _ rfl rfl _ rfl rfl rfl ?_) | (refine pwld_store (p := (i, j)) TPr _ _ rfl rfl _ rfl rfl rfl ?_))
                generalize ewld wr ⟨ek, et, eo⟩ 43 = w10 at *
                generalize wr.heap.size = XA at *
                generalize pwld w10 (i, j) 49 = w11 at *
                generalize w10.heap.size = XP at *
                have a0 := HXA.out.cell 0 (v := .int .i64 ek) rfl
                have a2 := HXA.out.cell 2 (v := .int .i64 eo) rfl
                have b0 := HREL.out.2.2.cell 0 (v := .int .i64 fk) rfl
                have b2 := HREL.out.2.2.cell 2 (v := .int .i64 fo) rfl
                have L1 := run_look_pr (HMAP.out.bel HREL.out.2.1) (i, j)
                rw [mem_bef] at L1
                have L2 := run_look_pr HREL.out.1 (i, j)
                clear hR
                by_cases ha : 2 < ek
                · clear L1 L2
                  go_wp2
                  go_roundw
                  case rel => exact ⟨i + 1, by omega, by go_num, HREL.out⟩
                  case measure => simp [intOf]; omega
                · by_cases hb : 2 < fk
                  · clear L1 L2
                    go_wp2
                    go_roundw
                    case rel => exact ⟨i + 1, by omega, by go_num, HREL.out⟩
                    case measure => simp [intOf]; omega
                  · by_cases ho : eo = fo
                    · subst ho
                      obtain hka : ek = 1 ∨ ek = 2 := by have h : 1 ≤ ek := HKA.out.1; omega
                      obtain hkb : fk = 1 ∨ fk = 2 := by have h : 1 ≤ fk := HKB.out.1; omega
                      clear ha hb HKA
                      rcases hka with rfl | rfl <;> rcases hkb with rfl | rfl
                      · clear L1 L2
                        go_wp2
                        go_roundw
                        case rel => exact ⟨i + 1, by omega, by go_num, HREL.out⟩
                        case measure => simp [intOf]; omega
                      · cases hq : bef l i j
                        · have hin2 : (i, j) ∈ ps := HIN.out (by rw [HRC.out, hq]; simp [conf])
                          rw [hq] at L1
                          rw [decide_eq_true hin2] at L2
                          clear hq hin2
                          go_wp2_with (refine loadG _ _ rfl rfl rfl HXP.out TPr ?_)
                          go_roundw
                          case rel => exact ⟨i + 1, by omega, by go_num, HREL.out⟩
                          case measure => simp [intOf]; omega
                        · rw [hq] at L1
                          clear hq L2
                          go_wp2_with (refine loadG _ _ rfl rfl rfl HXP.out TPr ?_)
                          go_roundw
                          case rel => exact ⟨i + 1, by omega, by go_num, HREL.out⟩
                          case measure => simp [intOf]; omega
                      · cases hq : bef l i j
                        · have hin2 : (i, j) ∈ ps := HIN.out (by rw [HRC.out, hq]; simp [conf])
                          rw [hq] at L1
                          rw [decide_eq_true hin2] at L2
                          clear hq hin2
                          go_wp2_with (refine loadG _ _ rfl rfl rfl HXP.out TPr ?_)
                          go_roundw
                          case rel => exact ⟨i + 1, by omega, by go_num, HREL.out⟩
                          case measure => simp [intOf]; omega
                        · rw [hq] at L1
                          clear hq L2
                          go_wp2_with (refine loadG _ _ rfl rfl rfl HXP.out TPr ?_)
                          go_roundw
                          case rel => exact ⟨i + 1, by omega, by go_num, HREL.out⟩
                          case measure => simp [intOf]; omega
                      · cases hq : bef l i j
                        · have hin2 : (i, j) ∈ ps := HIN.out (by rw [HRC.out, hq]; simp [conf])
                          rw [hq] at L1
                          rw [decide_eq_true hin2] at L2
                          clear hq hin2
                          go_wp2_with (refine loadG _ _ rfl rfl rfl HXP.out TPr ?_)
                          go_roundw
                          case rel => exact ⟨i + 1, by omega, by go_num, HREL.out⟩
                          case measure => simp [intOf]; omega
                        · rw [hq] at L1
                          clear hq L2
                          go_wp2_with (refine loadG _ _ rfl rfl rfl HXP.out TPr ?_)
                          go_roundw
                          case rel => exact ⟨i + 1, by omega, by go_num, HREL.out⟩
                          case measure => simp [intOf]; omega
                    · have ho' : (eo == fo) = false := by simpa using ho
                      clear L1 L2 ho
                      go_wp2
                      go_roundw
                      case rel => exact ⟨i + 1, by omega, by go_num, HREL.out⟩
                      case measure => simp [intOf]; omega
              · obtain rfl : i = j := by omega
                have HE := Lib.hid (And.intro HB9.out.1 HB9.out.2.1)
                go_wp2
                go_roundw
                case rel => exact ⟨i + 1, by omega, by go_num, HE.out⟩
                case measure => simp [intOf]; omega
          · obtain rfl : j = n := by omega
            have HLEN := len_pairs HB7.out.1
            rw [HNR.out] at HLEN
            go_wp2
            go_ret
            exact ⟨rfl, HW3.out.trans HB7.out.2⟩
  · have HM := Lib.hid (show may l ≠ 0 by simpa using h1)
    have h2 : (may l == 0) = false := by simpa using h1
    have HMY := Lib.hid (fun (w : World) (h : Sl w A n l) => may_any A n c l w h)
    rw [h2] at HMY
    clear h2
    go_enter Try.func6, Try.ntmps6
    go_wp2_with fail
    refine (raced_any _).mono ?_
    rintro e1 w1 ⟨rfl, hb1⟩
    have hw1 := hw0.call hb1
    clear hb1
    go_wp2_with fail
    refine (all_bad A n c l _ (HL.out.bel hw1) HM.out).mono ?_
    rintro e2 w2 ⟨rfl, hb2⟩
    have hw2 := hw1.call hb2
    clear hb2
    go_wp2_with fail
    refine (HMY.out _ (HL.out.bel hw2)).mono ?_
    rintro e3 w3 ⟨rfl, hb3⟩
    have hw3 := hw2.call hb3
    clear hb3
    go_wp2
    go_ret
    exact ⟨rfl, hw3⟩
end Go.Proofs.Ytdgoeibaekkhmaa.LRacePairs

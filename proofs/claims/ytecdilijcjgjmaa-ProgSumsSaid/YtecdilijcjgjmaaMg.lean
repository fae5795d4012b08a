/- The machine's method goOn. -/
import Derived.Test.YtecdilijcjgjmaaMn
import Derived.Test.YtecdilijcjgjmaaMx
import Derived.Deep.DeepCutAuto
set_option linter.all false
set_option maxRecDepth 100000
namespace Go.Proofs.Ytecdilijcjgjmaa
open Go Go.RowKit

def GoPost (w : World) (M base : Nat) (A : Option Addr) (n c : Nat) (s' : Ps) (e : Ending) (w' : World) : Prop :=
  ∃ LV', e = .returned (.tuple #[]) ∧ MBx w' M A n c (mcP s') LV' ∧ w'.ownsRow base 37 3 LV' s'.L.length (evc s'.L) ∧ (∀ g, LV'.ownBlock = some g → g ≠ M) ∧ Below base w w'
set_option maxHeartbeats 16000000 in
theorem goon_any {w : World} {M : Nat} {A : Option Addr} {n c : Nat} {s : Ps} {LV : Value} (u base : Nat) {P : List (List Ev)} {K : Int} {o : Ev} (hb : MBx w M A n c (mcP s) LV) (hP : Prg w A n P) (hnc : n ≤ c) (hO : OkP P) (hu : u < n) (ho : (opsP P u)[s.a u]? = some o)
    (hlim : LimS K s) (hK : K ≤ 1000000) (hown : w.ownsRow base 37 3 LV s.L.length (evc s.L)) (hne : ∀ g, LV.ownBlock = some g → g ≠ M) (hbM : base ≤ M) (hL : s.L.length ≤ 900) (hle : s.a u ≤ 12) :
    Calls Try.prog 47 #[.pointer (some ⟨M, 0, none⟩), .int .i64 u] w (GoPost w M base A n c (stepO P s u o)) := by
  have h6 : n ≤ 6 := by rw [← hP.1]; exact hO.six
  have hu6 : u < 6 := by omega
  have hu6' : (u : Int) < 6 := by omega
  have HB := Lib.hid hb
  have HP := Lib.hid hP
  have HI := Lib.hid (hO.op u o (List.mem_of_getElem? ho))
  have HHO := Lib.hid (show (opsP P u)[(mcP s).a u]? = some o from ho)
  have HLM := Lib.hid (And.intro hlim hK)
  have HOW := Lib.hid hown
  have HNE := Lib.hid hne
  have HLL := Lib.hid (And.intro hL hbM)
  have HMW := Lib.hid hb.lt
  have hwa : IntKind.i64.wrap ((s.a u : Int) + 1) = (s.a u : Int) + 1 := IntWalk.i64_in _ (by omega)
  clear hb hP hO ho hlim hK hown hne hbM hL hle
  go_enter Try.func47, Try.ntmps47
  go_wp2_with fail
  refine (next_any u HB.out HP.out hnc h6 hu HHO.out).mono ?_
  rintro e1 w1 ⟨rfl, hb1⟩
  have HB1 := Lib.hid (Bel.of hb1)
  clear hb1
  go_upto_region 1 with (refine ewld_store TOp' _ _ rfl rfl _ rfl rfl rfl ?_)
  have HB2 := Lib.hid (HB1.out.trans (Bel.of (ewld_below w1 o 55)))
  have HX2 := Lib.hid (ewld_box w1 o 55)
  have HG2 := Lib.hid (HB.out.bel HB2.out)
  have HXM := Lib.hid (show w1.heap.size ≠ M by have := HMW.out; have := HB1.out.size; omega)
  clear HB1
  generalize ewld w1 o 55 = w2 at *
  generalize w1.heap.size = X at *
  have g_at := (show w2.cell? ⟨M, 7 + u, none⟩ = some (.int .i64 (s.a u)) from HG2.out.don hu6)
  have g_fz := HG2.out.box.frozen (7 + u)
  (refine wp_region_still_tail 10 (by kernel_rfl) (by kernel_rfl) ?_; simp only [List.take_succ_cons, List.take_zero, List.drop_succ_cons, List.drop_zero]; (repeat (first | ((with_reducible refine s_skip ?_ ?_); exact rfl; simp only [Act.put, Act.eval, List.setIfInBounds_toArray, List.set_cons_zero, List.set_cons_succ, Array.getD_eq_getD_getElem?, List.getElem?_toArray, List.getElem?_cons_zero, List.getElem?_cons_succ, Option.getD_some]) | ((with_reducible refine wpStill_step ?_); intro K hK; go_simp; (with_reducible refine hK _ ?_); clear hK K))); (with_reducible refine wpStill_nil ?_))
  change wpList _ _ _ _ _ w2.drew
  go_upto_region 2 with fail
  rw [show ((s.a u : Int) + 1) = ((s.a u + 1 : Nat) : Int) by omega]
  have HG3 := Lib.hid (show MBx ((w2.setCell ⟨M, 7 + u, none⟩ (.int .i64 ((s.a u + 1 : Nat) : Int))).drew) M A n c (mcQ s u) LV from HG2.out.drew.setA (v := s.a u + 1) hu6)
  have HX3 := Lib.hid (show Box ((w2.setCell ⟨M, 7 + u, none⟩ (.int .i64 ((s.a u + 1 : Nat) : Int))).drew) X (evv o) 55 from HX2.out.drew.set_ne ⟨M, 7 + u, none⟩ _ HXM.out)
  have HP3 := Lib.hid (show Pm M w (w2.setCell ⟨M, 7 + u, none⟩ (.int .i64 ((s.a u + 1 : Nat) : Int))).drew from ((Pm.of (M := M) HB2.out).setC (7 + u) (.int .i64 ((s.a u + 1 : Nat) : Int))).bel (Bel.refl _).drew)
  clear HG2 HX2 HB2 g_at g_fz hwa
  generalize (w2.setCell ⟨M, 7 + u, none⟩ (.int .i64 ((s.a u + 1 : Nat) : Int))).drew = w3 at *
  have HPL := Lib.hid HP.out.1
  have HRG := Lib.hid (show w3.rangeAt X 0 (evl o) from Box.range (l := evl o) HX3.out)
  go_wp2_with (refine load_ev TOp' _ rfl rfl rfl HRG.out ?_)
  refine (exec_any u HG3.out HPL.out HI.out hu h6 HLM.out.1 HLM.out.2).mono ?_
  rintro e4 w4 ⟨rfl, hm4, hp4⟩
  have HG4 := Lib.hid hm4
  have HX4 := Lib.hid (hp4.box HX3.out HXM.out)
  have HP4 := Lib.hid (HP3.out.trans hp4)
  have HO4 := Lib.hid ((HP3.out.trans hp4).own HOW.out HNE.out)
  clear hm4 hp4 HG3 HX3 HP3
  have HBW := Lib.hid (show base ≤ w.heap.size by have := HLL.out.2; have := HMW.out; omega)
  by_cases h0 : kindO P s u o = 0
  · have h0' : (kindO P s u o != 0) = false := by simp [h0]
    have HE := Lib.hid (show (stepO P s u o).L = s.L by show s.L ++ evO P s u o = _; unfold evO; rw [if_pos h0, List.append_nil])
    clear h0
    go_wp2
    go_end0
    exact ⟨LV, rfl, HG4.out, by rw [HE.out]; exact HO4.out, HNE.out, HP4.out.below HLL.out.2 HBW.out⟩
  · have h0' : (kindO P s u o != 0) = true := by simpa using h0
    obtain ⟨v, hv⟩ : ∃ v : Nat, o.t = v := ⟨o.t.toNat, by have := isOp_obj HI.out; omega⟩
    have HE := Lib.hid (show (stepO P s u o).L = s.L ++ [⟨kindO P s u o, u, v⟩] by show s.L ++ evO P s u o = _; unfold evO; rw [if_neg h0, hv])
    generalize kindO P s u o = kd at *
    clear h0
    obtain ⟨i0, hi0, hz0, hz1, hz2⟩ := info_parts ev_info
    have F := fun (w1 : World) (h1 : Below w4.heap.size w4 w1) => And.intro (HG4.out.bel (Bel.of h1)).l ((Bel.of h1).cell ((HX4.out.cell 1 (v := .int .i64 o.t) rfl).trans (show _ = some (Value.int .i64 (v : Int)) by rw [hv])))
    have HV := Lib.hid hv
    clear hv
    go_wp2_with fail
    refine region_growU 11 (by kernel_rfl) ?_
    (repeat (first | (refine wpU_goN 0 (by simp only [List.getElem?_toArray, List.getElem?_cons_zero, List.getElem?_cons_succ] <;> rfl) (by decide +kernel) (by decide +kernel) (by kernel_rfl) (by rfl) (by exact fun _ _ _ _ h => h) (Nat.le_refl _) ?_; apply Exists.intro; refine ⟨fun w1 h1 => ?_, ?_⟩; (first | exact g_move _ rfl | exact g_assign _ rfl | (have fct0 := F w1 h1; go_simp; first | exact ⟨rfl, rfl⟩ | rfl)); simp only [Act.put, Act.eval, List.setIfInBounds_toArray, List.set_cons_zero, List.set_cons_succ, Array.getD_eq_getD_getElem?, List.getElem?_toArray, List.getElem?_cons_zero, List.getElem?_cons_succ, Option.getD_some]) | (refine wpU_goN 1 (by simp only [List.getElem?_toArray, List.getElem?_cons_zero, List.getElem?_cons_succ] <;> rfl) (by decide +kernel) (by decide +kernel) (by kernel_rfl) (by rfl) (by exact fun _ _ _ _ h => h) (Nat.le_refl _) ?_; apply Exists.intro; refine ⟨fun w1 h1 => ?_, ?_⟩; (first | exact g_move _ rfl | exact g_assign _ rfl | (have fct0 := F w1 h1; go_simp; first | exact ⟨rfl, rfl⟩ | rfl)); simp only [Act.put, Act.eval, List.setIfInBounds_toArray, List.set_cons_zero, List.set_cons_succ, Array.getD_eq_getD_getElem?, List.getElem?_toArray, List.getElem?_cons_zero, List.getElem?_cons_succ, Option.getD_some]) | (refine wpU_goN 2 (by simp only [List.getElem?_toArray, List.getElem?_cons_zero, List.getElem?_cons_succ] <;> rfl) (by decide +kernel) (by decide +kernel) (by kernel_rfl) (by rfl) (by exact fun _ _ _ _ h => h) (Nat.le_refl _) ?_; apply Exists.intro; refine ⟨fun w1 h1 => ?_, ?_⟩; (first | exact g_move _ rfl | exact g_assign _ rfl | (have fct0 := F w1 h1; go_simp; first | exact ⟨rfl, rfl⟩ | rfl)); simp only [Act.put, Act.eval, List.setIfInBounds_toArray, List.set_cons_zero, List.set_cons_succ, Array.getD_eq_getD_getElem?, List.getElem?_toArray, List.getElem?_cons_zero, List.getElem?_cons_succ, Option.getD_some]) | (refine wpU_goN 3 (by simp only [List.getElem?_toArray, List.getElem?_cons_zero, List.getElem?_cons_succ] <;> rfl) (by decide +kernel) (by decide +kernel) (by kernel_rfl) (by rfl) (by exact fun _ _ _ _ h => h) (Nat.le_refl _) ?_; apply Exists.intro; refine ⟨fun w1 h1 => ?_, ?_⟩; (first | exact g_move _ rfl | exact g_assign _ rfl | (have fct0 := F w1 h1; go_simp; first | exact ⟨rfl, rfl⟩ | rfl)); simp only [Act.put, Act.eval, List.setIfInBounds_toArray, List.set_cons_zero, List.set_cons_succ, Array.getD_eq_getD_getElem?, List.getElem?_toArray, List.getElem?_cons_zero, List.getElem?_cons_succ, Option.getD_some]) | (refine wpU_goN 4 (by simp only [List.getElem?_toArray, List.getElem?_cons_zero, List.getElem?_cons_succ] <;> rfl) (by decide +kernel) (by decide +kernel) (by kernel_rfl) (by rfl) (by exact fun _ _ _ _ h => h) (Nat.le_refl _) ?_; apply Exists.intro; refine ⟨fun w1 h1 => ?_, ?_⟩; (first | exact g_move _ rfl | exact g_assign _ rfl | (have fct0 := F w1 h1; go_simp; first | exact ⟨rfl, rfl⟩ | rfl)); simp only [Act.put, Act.eval, List.setIfInBounds_toArray, List.set_cons_zero, List.set_cons_succ, Array.getD_eq_getD_getElem?, List.getElem?_toArray, List.getElem?_cons_zero, List.getElem?_cons_succ, Option.getD_some]) | (refine wpU_goN 5 (by simp only [List.getElem?_toArray, List.getElem?_cons_zero, List.getElem?_cons_succ] <;> rfl) (by decide +kernel) (by decide +kernel) (by kernel_rfl) (by rfl) (by exact fun _ _ _ _ h => h) (Nat.le_refl _) ?_; apply Exists.intro; refine ⟨fun w1 h1 => ?_, ?_⟩; (first | exact g_move _ rfl | exact g_assign _ rfl | (have fct0 := F w1 h1; go_simp; first | exact ⟨rfl, rfl⟩ | rfl)); simp only [Act.put, Act.eval, List.setIfInBounds_toArray, List.set_cons_zero, List.set_cons_succ, Array.getD_eq_getD_getElem?, List.getElem?_toArray, List.getElem?_cons_zero, List.getElem?_cons_succ, Option.getD_some]) | (refine wpU_goN 6 (by simp only [List.getElem?_toArray, List.getElem?_cons_zero, List.getElem?_cons_succ] <;> rfl) (by decide +kernel) (by decide +kernel) (by kernel_rfl) (by rfl) (by exact fun _ _ _ _ h => h) (Nat.le_refl _) ?_; apply Exists.intro; refine ⟨fun w1 h1 => ?_, ?_⟩; (first | exact g_move _ rfl | exact g_assign _ rfl | (have fct0 := F w1 h1; go_simp; first | exact ⟨rfl, rfl⟩ | rfl)); simp only [Act.put, Act.eval, List.setIfInBounds_toArray, List.set_cons_zero, List.set_cons_succ, Array.getD_eq_getD_getElem?, List.getElem?_toArray, List.getElem?_cons_zero, List.getElem?_cons_succ, Option.getD_some]) | (refine wpU_goN 7 (by simp only [List.getElem?_toArray, List.getElem?_cons_zero, List.getElem?_cons_succ] <;> rfl) (by decide +kernel) (by decide +kernel) (by kernel_rfl) (by rfl) (by exact fun _ _ _ _ h => h) (Nat.le_refl _) ?_; apply Exists.intro; refine ⟨fun w1 h1 => ?_, ?_⟩; (first | exact g_move _ rfl | exact g_assign _ rfl | (have fct0 := F w1 h1; go_simp; first | exact ⟨rfl, rfl⟩ | rfl)); simp only [Act.put, Act.eval, List.setIfInBounds_toArray, List.set_cons_zero, List.set_cons_succ, Array.getD_eq_getD_getElem?, List.getElem?_toArray, List.getElem?_cons_zero, List.getElem?_cons_succ, Option.getD_some]) | (refine wpU_goN 8 (by simp only [List.getElem?_toArray, List.getElem?_cons_zero, List.getElem?_cons_succ] <;> rfl) (by decide +kernel) (by decide +kernel) (by kernel_rfl) (by rfl) (by exact fun _ _ _ _ h => h) (Nat.le_refl _) ?_; apply Exists.intro; refine ⟨fun w1 h1 => ?_, ?_⟩; (first | exact g_move _ rfl | exact g_assign _ rfl | (have fct0 := F w1 h1; go_simp; first | exact ⟨rfl, rfl⟩ | rfl)); simp only [Act.put, Act.eval, List.setIfInBounds_toArray, List.set_cons_zero, List.set_cons_succ, Array.getD_eq_getD_getElem?, List.getElem?_toArray, List.getElem?_cons_zero, List.getElem?_cons_succ, Option.getD_some]) | (refine wpU_goN 9 (by simp only [List.getElem?_toArray, List.getElem?_cons_zero, List.getElem?_cons_succ] <;> rfl) (by decide +kernel) (by decide +kernel) (by kernel_rfl) (by rfl) (by exact fun _ _ _ _ h => h) (Nat.le_refl _) ?_; apply Exists.intro; refine ⟨fun w1 h1 => ?_, ?_⟩; (first | exact g_move _ rfl | exact g_assign _ rfl | (have fct0 := F w1 h1; go_simp; first | exact ⟨rfl, rfl⟩ | rfl)); simp only [Act.put, Act.eval, List.setIfInBounds_toArray, List.set_cons_zero, List.set_cons_succ, Array.getD_eq_getD_getElem?, List.getElem?_toArray, List.getElem?_cons_zero, List.getElem?_cons_succ, Option.getD_some]) | (refine wpU_skip 0 (by simp only [List.getElem?_toArray, List.getElem?_cons_zero, List.getElem?_cons_succ] <;> rfl) (by decide +kernel) (by decide +kernel) (by kernel_rfl) (by rfl) (by exact fun _ _ _ _ h => h) (Nat.le_refl _) ?_; simp only [Act.put, Act.eval, List.setIfInBounds_toArray, List.set_cons_zero, List.set_cons_succ, Array.getD_eq_getD_getElem?, List.getElem?_toArray, List.getElem?_cons_zero, List.getElem?_cons_succ, Option.getD_some]) | (refine wpU_skip 1 (by simp only [List.getElem?_toArray, List.getElem?_cons_zero, List.getElem?_cons_succ] <;> rfl) (by decide +kernel) (by decide +kernel) (by kernel_rfl) (by rfl) (by exact fun _ _ _ _ h => h) (Nat.le_refl _) ?_; simp only [Act.put, Act.eval, List.setIfInBounds_toArray, List.set_cons_zero, List.set_cons_succ, Array.getD_eq_getD_getElem?, List.getElem?_toArray, List.getElem?_cons_zero, List.getElem?_cons_succ, Option.getD_some]) | (refine wpU_skip 2 (by simp only [List.getElem?_toArray, List.getElem?_cons_zero, List.getElem?_cons_succ] <;> rfl) (by decide +kernel) (by decide +kernel) (by kernel_rfl) (by rfl) (by exact fun _ _ _ _ h => h) (Nat.le_refl _) ?_; simp only [Act.put, Act.eval, List.setIfInBounds_toArray, List.set_cons_zero, List.set_cons_succ, Array.getD_eq_getD_getElem?, List.getElem?_toArray, List.getElem?_cons_zero, List.getElem?_cons_succ, Option.getD_some]) | (refine wpU_skip 3 (by simp only [List.getElem?_toArray, List.getElem?_cons_zero, List.getElem?_cons_succ] <;> rfl) (by decide +kernel) (by decide +kernel) (by kernel_rfl) (by rfl) (by exact fun _ _ _ _ h => h) (Nat.le_refl _) ?_; simp only [Act.put, Act.eval, List.setIfInBounds_toArray, List.set_cons_zero, List.set_cons_succ, Array.getD_eq_getD_getElem?, List.getElem?_toArray, List.getElem?_cons_zero, List.getElem?_cons_succ, Option.getD_some]) | (refine wpU_skip 4 (by simp only [List.getElem?_toArray, List.getElem?_cons_zero, List.getElem?_cons_succ] <;> rfl) (by decide +kernel) (by decide +kernel) (by kernel_rfl) (by rfl) (by exact fun _ _ _ _ h => h) (Nat.le_refl _) ?_; simp only [Act.put, Act.eval, List.setIfInBounds_toArray, List.set_cons_zero, List.set_cons_succ, Array.getD_eq_getD_getElem?, List.getElem?_toArray, List.getElem?_cons_zero, List.getElem?_cons_succ, Option.getD_some]) | (refine wpU_skip 5 (by simp only [List.getElem?_toArray, List.getElem?_cons_zero, List.getElem?_cons_succ] <;> rfl) (by decide +kernel) (by decide +kernel) (by kernel_rfl) (by rfl) (by exact fun _ _ _ _ h => h) (Nat.le_refl _) ?_; simp only [Act.put, Act.eval, List.setIfInBounds_toArray, List.set_cons_zero, List.set_cons_succ, Array.getD_eq_getD_getElem?, List.getElem?_toArray, List.getElem?_cons_zero, List.getElem?_cons_succ, Option.getD_some]) | (refine wpU_skip 6 (by simp only [List.getElem?_toArray, List.getElem?_cons_zero, List.getElem?_cons_succ] <;> rfl) (by decide +kernel) (by decide +kernel) (by kernel_rfl) (by rfl) (by exact fun _ _ _ _ h => h) (Nat.le_refl _) ?_; simp only [Act.put, Act.eval, List.setIfInBounds_toArray, List.set_cons_zero, List.set_cons_succ, Array.getD_eq_getD_getElem?, List.getElem?_toArray, List.getElem?_cons_zero, List.getElem?_cons_succ, Option.getD_some]) | (refine wpU_skip 7 (by simp only [List.getElem?_toArray, List.getElem?_cons_zero, List.getElem?_cons_succ] <;> rfl) (by decide +kernel) (by decide +kernel) (by kernel_rfl) (by rfl) (by exact fun _ _ _ _ h => h) (Nat.le_refl _) ?_; simp only [Act.put, Act.eval, List.setIfInBounds_toArray, List.set_cons_zero, List.set_cons_succ, Array.getD_eq_getD_getElem?, List.getElem?_toArray, List.getElem?_cons_zero, List.getElem?_cons_succ, Option.getD_some]) | (refine wpU_skip 8 (by simp only [List.getElem?_toArray, List.getElem?_cons_zero, List.getElem?_cons_succ] <;> rfl) (by decide +kernel) (by decide +kernel) (by kernel_rfl) (by rfl) (by exact fun _ _ _ _ h => h) (Nat.le_refl _) ?_; simp only [Act.put, Act.eval, List.setIfInBounds_toArray, List.set_cons_zero, List.set_cons_succ, Array.getD_eq_getD_getElem?, List.getElem?_toArray, List.getElem?_cons_zero, List.getElem?_cons_succ, Option.getD_some]) | (refine wpU_skip 9 (by simp only [List.getElem?_toArray, List.getElem?_cons_zero, List.getElem?_cons_succ] <;> rfl) (by decide +kernel) (by decide +kernel) (by kernel_rfl) (by rfl) (by exact fun _ _ _ _ h => h) (Nat.le_refl _) ?_; simp only [Act.put, Act.eval, List.setIfInBounds_toArray, List.set_cons_zero, List.set_cons_succ, Array.getD_eq_getD_getElem?, List.getElem?_toArray, List.getElem?_cons_zero, List.getElem?_cons_succ, Option.getD_some]) | (refine wpU_goA 0 (by simp only [List.getElem?_toArray, List.getElem?_cons_zero, List.getElem?_cons_succ] <;> rfl) (by decide +kernel) (by decide +kernel) (by kernel_rfl) (by rfl) (by exact fun _ _ _ _ h => h) ?_; apply Exists.intro; refine ⟨fun w1 => ?_, ?_⟩; (first | exact a_move _ rfl | exact a_assign _ rfl | (go_simp; first | exact ⟨rfl, rfl⟩ | rfl)); simp only [Act.put, Act.eval, List.setIfInBounds_toArray, List.set_cons_zero, List.set_cons_succ, Array.getD_eq_getD_getElem?, List.getElem?_toArray, List.getElem?_cons_zero, List.getElem?_cons_succ, Option.getD_some]) | (refine wpU_goA 1 (by simp only [List.getElem?_toArray, List.getElem?_cons_zero, List.getElem?_cons_succ] <;> rfl) (by decide +kernel) (by decide +kernel) (by kernel_rfl) (by rfl) (by exact fun _ _ _ _ h => h) ?_; apply Exists.intro; refine ⟨fun w1 => ?_, ?_⟩; (first | exact a_move _ rfl | exact a_assign _ rfl | (go_simp; first | exact ⟨rfl, rfl⟩ | rfl)); simp only [Act.put, Act.eval, List.setIfInBounds_toArray, List.set_cons_zero, List.set_cons_succ, Array.getD_eq_getD_getElem?, List.getElem?_toArray, List.getElem?_cons_zero, List.getElem?_cons_succ, Option.getD_some]) | (refine wpU_goA 2 (by simp only [List.getElem?_toArray, List.getElem?_cons_zero, List.getElem?_cons_succ] <;> rfl) (by decide +kernel) (by decide +kernel) (by kernel_rfl) (by rfl) (by exact fun _ _ _ _ h => h) ?_; apply Exists.intro; refine ⟨fun w1 => ?_, ?_⟩; (first | exact a_move _ rfl | exact a_assign _ rfl | (go_simp; first | exact ⟨rfl, rfl⟩ | rfl)); simp only [Act.put, Act.eval, List.setIfInBounds_toArray, List.set_cons_zero, List.set_cons_succ, Array.getD_eq_getD_getElem?, List.getElem?_toArray, List.getElem?_cons_zero, List.getElem?_cons_succ, Option.getD_some]) | (refine wpU_goA 3 (by simp only [List.getElem?_toArray, List.getElem?_cons_zero, List.getElem?_cons_succ] <;> rfl) (by decide +kernel) (by decide +kernel) (by kernel_rfl) (by rfl) (by exact fun _ _ _ _ h => h) ?_; apply Exists.intro; refine ⟨fun w1 => ?_, ?_⟩; (first | exact a_move _ rfl | exact a_assign _ rfl | (go_simp; first | exact ⟨rfl, rfl⟩ | rfl)); simp only [Act.put, Act.eval, List.setIfInBounds_toArray, List.set_cons_zero, List.set_cons_succ, Array.getD_eq_getD_getElem?, List.getElem?_toArray, List.getElem?_cons_zero, List.getElem?_cons_succ, Option.getD_some]) | (refine wpU_goA 4 (by simp only [List.getElem?_toArray, List.getElem?_cons_zero, List.getElem?_cons_succ] <;> rfl) (by decide +kernel) (by decide +kernel) (by kernel_rfl) (by rfl) (by exact fun _ _ _ _ h => h) ?_; apply Exists.intro; refine ⟨fun w1 => ?_, ?_⟩; (first | exact a_move _ rfl | exact a_assign _ rfl | (go_simp; first | exact ⟨rfl, rfl⟩ | rfl)); simp only [Act.put, Act.eval, List.setIfInBounds_toArray, List.set_cons_zero, List.set_cons_succ, Array.getD_eq_getD_getElem?, List.getElem?_toArray, List.getElem?_cons_zero, List.getElem?_cons_succ, Option.getD_some]) | (refine wpU_goA 5 (by simp only [List.getElem?_toArray, List.getElem?_cons_zero, List.getElem?_cons_succ] <;> rfl) (by decide +kernel) (by decide +kernel) (by kernel_rfl) (by rfl) (by exact fun _ _ _ _ h => h) ?_; apply Exists.intro; refine ⟨fun w1 => ?_, ?_⟩; (first | exact a_move _ rfl | exact a_assign _ rfl | (go_simp; first | exact ⟨rfl, rfl⟩ | rfl)); simp only [Act.put, Act.eval, List.setIfInBounds_toArray, List.set_cons_zero, List.set_cons_succ, Array.getD_eq_getD_getElem?, List.getElem?_toArray, List.getElem?_cons_zero, List.getElem?_cons_succ, Option.getD_some]) | (refine wpU_goA 6 (by simp only [List.getElem?_toArray, List.getElem?_cons_zero, List.getElem?_cons_succ] <;> rfl) (by decide +kernel) (by decide +kernel) (by kernel_rfl) (by rfl) (by exact fun _ _ _ _ h => h) ?_; apply Exists.intro; refine ⟨fun w1 => ?_, ?_⟩; (first | exact a_move _ rfl | exact a_assign _ rfl | (go_simp; first | exact ⟨rfl, rfl⟩ | rfl)); simp only [Act.put, Act.eval, List.setIfInBounds_toArray, List.set_cons_zero, List.set_cons_succ, Array.getD_eq_getD_getElem?, List.getElem?_toArray, List.getElem?_cons_zero, List.getElem?_cons_succ, Option.getD_some]) | (refine wpU_goA 7 (by simp only [List.getElem?_toArray, List.getElem?_cons_zero, List.getElem?_cons_succ] <;> rfl) (by decide +kernel) (by decide +kernel) (by kernel_rfl) (by rfl) (by exact fun _ _ _ _ h => h) ?_; apply Exists.intro; refine ⟨fun w1 => ?_, ?_⟩; (first | exact a_move _ rfl | exact a_assign _ rfl | (go_simp; first | exact ⟨rfl, rfl⟩ | rfl)); simp only [Act.put, Act.eval, List.setIfInBounds_toArray, List.set_cons_zero, List.set_cons_succ, Array.getD_eq_getD_getElem?, List.getElem?_toArray, List.getElem?_cons_zero, List.getElem?_cons_succ, Option.getD_some]) | (refine wpU_goA 8 (by simp only [List.getElem?_toArray, List.getElem?_cons_zero, List.getElem?_cons_succ] <;> rfl) (by decide +kernel) (by decide +kernel) (by kernel_rfl) (by rfl) (by exact fun _ _ _ _ h => h) ?_; apply Exists.intro; refine ⟨fun w1 => ?_, ?_⟩; (first | exact a_move _ rfl | exact a_assign _ rfl | (go_simp; first | exact ⟨rfl, rfl⟩ | rfl)); simp only [Act.put, Act.eval, List.setIfInBounds_toArray, List.set_cons_zero, List.set_cons_succ, Array.getD_eq_getD_getElem?, List.getElem?_toArray, List.getElem?_cons_zero, List.getElem?_cons_succ, Option.getD_some]) | (refine wpU_goA 9 (by simp only [List.getElem?_toArray, List.getElem?_cons_zero, List.getElem?_cons_succ] <;> rfl) (by decide +kernel) (by decide +kernel) (by kernel_rfl) (by rfl) (by exact fun _ _ _ _ h => h) ?_; apply Exists.intro; refine ⟨fun w1 => ?_, ?_⟩; (first | exact a_move _ rfl | exact a_assign _ rfl | (go_simp; first | exact ⟨rfl, rfl⟩ | rfl)); simp only [Act.put, Act.eval, List.setIfInBounds_toArray, List.set_cons_zero, List.set_cons_succ, Array.getD_eq_getD_getElem?, List.getElem?_toArray, List.getElem?_cons_zero, List.getElem?_cons_succ, Option.getD_some])))
    clear F
    (refine wpU_one 10 (by decide +kernel) ?_; intro y1 hy1; refine op_wanted (by simp only [List.getElem?_toArray, List.getElem?_cons_zero, List.getElem?_cons_succ] <;> rfl) rfl ?_)
    refine wp_build1 32 _ rfl 37 i0 Try.underlying32 hi0 hz0 hz1 ⟨kd, u, v⟩ rfl ?_
    refine ⟨Below.alloc (Below.refl _ _) hy1.size _, ?_⟩
    simp only [Act.put, Act.eval, List.setIfInBounds_toArray, List.set_cons_zero, List.set_cons_succ, Array.getD_eq_getD_getElem?, List.getElem?_toArray, List.getElem?_cons_zero, List.getElem?_cons_succ, Option.getD_some]
    have hbx0 := Box.new y1 (evv ⟨kd, u, v⟩) 37
    have hE1 := hy1.alloc (.cells (evv ⟨kd, u, v⟩) 37)
    generalize y1.heap.size = yb at *
    generalize y1.alloc (.cells (evv ⟨kd, u, v⟩) 37) = y2 at *
    refine wpU_now (by decide +kernel) ?_
    intro y5 hy5
    refine op_wanted (by simp only [List.getElem?_toArray, List.getElem?_cons_zero, List.getElem?_cons_succ] <;> rfl) rfl ?_
    have hE5 := hE1.trans hy5
    have hoc := own_bel HO4.out hE5
    have hbx := hy5.box hbx0
    have hsz5 : base ≤ y5.heap.size := by have := HBW.out; have := HP4.out.size; have := hE5.size; omega
    refine wp_append_src (.tmp 29) (.tmp 35) _ rfl base 37 i0 _ 3 24 Try.underlying32 hi0 hz0 hz1 hz2 rfl (by omega) LV s.L.length (evc s.L) rfl hoc (some ⟨yb, 0, none⟩) 1 1 (evl ⟨kd, u, v⟩) rfl rfl (Src.box (show Box y5 yb (evl ⟨kd, u, v⟩).toArray 37 from hbx) 1) (by simp [evl, Value.oneCell']) (by have := HLL.out.1; unfold maxLen; omega) (by have := HLL.out.1; omega) hsz5 ?_
    intro v3 u3 ho3 hg3 hat3
    simp only [Act.put, Act.eval, List.setIfInBounds_toArray, List.set_cons_zero, List.set_cons_succ, Array.getD_eq_getD_getElem?, List.getElem?_toArray, List.getElem?_cons_zero, List.getElem?_cons_succ, Option.getD_some]
    have hG5 := HG4.out.bel hE5
    have hG3 := (show MBx u3 M A n c (mcP (stepO P s u o)) LV from ⟨hG5.box.grown hg3 (fun e => HNE.out M e.symm rfl)⟩)
    have hB3 : Below base w u3 := ((HP4.out.below HLL.out.2 HBW.out).trans (Below.mono hE5.out (by have := HBW.out; have := HP4.out.size; omega))).trans (grown_below hg3 hoc (Nat.le_refl _) hsz5)
    rw [show evc s.L ++ evl ⟨kd, u, v⟩ = evc (s.L ++ [⟨kd, u, v⟩]) by rw [evc_append]; rfl] at ho3
    have hne3 : ∀ g, v3.ownBlock = some g → g ≠ M := fun g hg => by
      rcases hat3 with h | h
      · exact HNE.out g (h ▸ hg)
      · rw [h] at hg
        have := hG5.lt
        have := Option.some.inj hg
        omega
    refine wpU_next 12 (by decide +kernel) (by decide +kernel) ?_
    intro y8 hy8
    refine op_wanted (by simp only [List.getElem?_toArray, List.getElem?_cons_zero, List.getElem?_cons_succ] <;> rfl) rfl ?_
    go_simp
    refine wpU_next 13 (by decide +kernel) (by decide +kernel) ?_
    intro y9 hy9
    refine op_wanted (by simp only [List.getElem?_toArray, List.getElem?_cons_zero, List.getElem?_cons_succ] <;> rfl) rfl ?_
    go_simp
    refine wpU_next 14 (by decide +kernel) (by decide +kernel) ?_
    intro y6 hy6
    refine op_wanted (by simp only [List.getElem?_toArray, List.getElem?_cons_zero, List.getElem?_cons_succ] <;> rfl) rfl ?_
    have hy6 := (hy8.trans hy9).trans hy6
    have hG6 := hG3.bel hy6
    have ho6 := own_bel ho3 hy6
    refine wp_cell1 32 _ _ rfl rfl rfl (by kernel_rfl) (own_one ho3) (by rw [hG6.l]; rfl) (hG6.box.frozen 38) ?_
    refine wpU_done (by decide +kernel) ?_ _
    intro y7 hy7
    have hG7 := (hG6.setL (LV' := v3)).bel hy7
    have ho7 := own_bel (own_keep ho6 (fun g hg _ => heap_setCell_other y6 ⟨M, 38, none⟩ g v3 (hne3 g hg))) hy7
    have hB7 : Below base w y7 := ((hB3.trans (Below.mono hy6.out (by have := hB3.size; have := HBW.out; omega))).setCell (p := ⟨M, 38, none⟩) HLL.out.2 v3).trans (Below.mono hy7.out (by have := hB3.size; have := HBW.out; have := hy6.size; simp; omega))
    have HFN := Lib.hid (And.intro hG7 (And.intro ho7 (And.intro hne3 hB7)))
    clear hG7 ho7 hB7 hne3 ho6 hG6 hy7 hy6 hB3 hG3 hG5 hat3 hg3 ho3 hsz5 hbx hoc hE5 hy5 hE1 hbx0 hy1 hi0 hz0 hz1 hz2
    simp only [Act.put, Act.eval, List.setIfInBounds_toArray, List.set_cons_zero, List.set_cons_succ, Array.getD_eq_getD_getElem?, List.getElem?_toArray, List.getElem?_cons_zero, List.getElem?_cons_succ, Option.getD_some]
    go_wp2
    go_end0
    exact ⟨v3, rfl, HFN.out.1, by rw [HE.out, List.length_append]; exact HFN.out.2.1, HFN.out.2.2.1, HFN.out.2.2.2⟩
end Go.Proofs.Ytecdilijcjgjmaa

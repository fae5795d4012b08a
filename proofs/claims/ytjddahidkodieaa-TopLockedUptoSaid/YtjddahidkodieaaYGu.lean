import Derived.Test.YtjddahidkodieaaYGuP
import Derived.Test.YtjddahidkodieaaYGrow
import Derived.Test.YtjddahidkodieaaYBase
set_option linter.all false
set_option maxRecDepth 100000
namespace Go.Proofs.Ytjddahidkodieaa
open Go Go.RowKit Go.Shelf
attribute [local go_sem] Oper.semAt_some

structure Acc (l : List Ev) where
  i : Nat
  lt : i < l.length
  ac : acB l i = true
def accE (l : List Ev) (x : Acc l) : Array Value := #[.int .i64 ((x.i : Nat) : Int), .int .i64 (hN l x.i)]
theorem rangeAt_heapG {w w' : World} {b off : Nat} {cs : List Value} (h : w'.heap[b]? = w.heap[b]?) (hr : w.rangeAt b off cs) : w'.rangeAt b off cs := fun j v hv => by
  have := hr j v hv
  unfold World.cell? at this ⊢
  rw [h]
  exact this
theorem Sl.ks {N : Nat → Prop} {w w' : World} {A : Option Addr} {n : Nat} {l : List Ev} (h : Sl w A n l) (hk : Ks N w w') (hA : 0 < n → ∀ b off, A = some ⟨b, off, none⟩ → N b) : Sl w' A n l :=
  ⟨h.1, fun h0 => by
    obtain ⟨b, off, hA', hlt, hr⟩ := h.2 h0
    exact ⟨b, off, hA', Nat.lt_of_lt_of_le hlt hk.1, rangeAt_heapG (hk.2 b (hA h0 b off hA') hlt) hr⟩⟩
theorem held_acc (A : Option Addr) (n c k : Nat) (l : List Ev) (w : World) (hl : Sl w A n l) (hm : may l = 0) (hk : k < n) :
    Calls Try.prog 96 #[.slice A k c, .int .i64 (eZ l k).t] w fun e w' => e = .returned (.tuple #[.int .i64 (hN l k), .int .i64 0]) ∧ Below w.heap.size w w' := by
  have h := held_any A k c (l.take k) (eZ l k).t w (hl.take (Nat.le_of_lt hk))
  have ht := isEv_t (eZ_ok hm (i := k) (by rw [hl.1]; exact hk))
  have e : pheld (l.take k) (eZ l k).t = (hN l k, 0) := by unfold pheld; rw [if_pos (may_take hm k), inB_yes ht.1 ht.2]; rfl
  rw [e] at h
  exact h
set_option maxHeartbeats 8000000 in
theorem acc1_in (d : Nat) (hd : 1 ≤ d) (lp Bs M : Nat) (N : Nat → Prop) (A : Option Addr) (n c : Nat) (l : List Ev) (hm : may l = 0) (hnc : n ≤ c) (J Jx : List (Acc l) → World → Prop) (hJ : AbidesFrom M J)
    (hY : ∀ pre x W, J pre W → pre.length < n → YieldAt Fence.wide (d - 1) Try.prog lp (accE l x) W fun e W' =>
      (e = .returned (.bool true) ∧ J (pre ++ [x]) W' ∧ Ks N W W') ∨ (e = .returned (.bool false) ∧ Jx (pre ++ [x]) W'))
    (W : World) (hBs : Box W Bs #[.slice A n c] 22) (hN : N Bs) (hl : Sl W A n l) (hA : 0 < n → ∀ b off, A = some ⟨b, off, none⟩ → N b) (h0 : J [] W) :
    CallsIn Fence.wide d Try.prog 95 #[.func (.yield lp) #[] #[], .pointer (some ⟨Bs, 0, none⟩)] W fun e W' => (∃ v, e = .returned v) ∧
      ((∃ ys : List (Acc l), ys.map Acc.i = acs l n ∧ J ys W') ∨ (∃ pre, True ∧ Jx pre W')) := by
  have hn80 : n ≤ 80 := by rw [← hl.1]; exact ((may_iff l).1 hm).1
  have HBs := Lib.hid hBs
  have HL := Lib.hid hl
  have HA := Lib.hid hA
  have HM := Lib.hid hm
  have HJ := Lib.hid hJ
  have HY := Lib.hid hY
  have HNB := Lib.hid hN
  have cB := hBs.cell 0 (v := .slice A n c) rfl
  clear hBs hl hA hm hJ hY hN
  refine callsIn_of_wp Try.func95 rfl trivial ?_ rfl
  simp only [Try.ntmps95, List.size_toArray, List.length_cons, List.length_nil, Nat.reduceAdd, Nat.reduceSub, Array.replicate_succ, Array.replicate_zero, List.push_toArray, List.append_toArray, List.nil_append, List.cons_append]
  gi_wp2
  gi_loopw [9] (fun i wr => ∃ (k : Nat) (pre : List (Acc l)), k ≤ n ∧ i = .int .i64 (k : Nat) ∧ pre.map Acc.i = acs l k ∧ J pre wr ∧ Ks N W wr) (fun i _ => n - (intOf i).toNat)
  case atStart => exact ⟨0, [], Nat.zero_le _, rfl, rfl, h0, Ks.of (Bel.refl W)⟩
  case round =>
    obtain ⟨k, pre, hk, rfl, hpre, hJs, hks⟩ := hrel
    clear cB
    by_cases hlt : k < n
    · have hlt' : (k : Int) < n := by omega
      have hkl : k < l.length := by rw [HL.out.1]; exact hlt
      obtain ⟨bb, off, e, hAe, hbb, he, hrg⟩ := (HL.out.ks hks HA.out).at_ hlt
      subst hAe
      obtain rfl : e = eZ l k := (eZ_at he).symm
      have hk80 : k < 80 := by omega
      have hR := Lib.hid hrg
      have HX := Lib.hid (Box.new wr (evv (eZ l k)) 54)
      have HKW := Lib.hid (hks.trans (Ks.of ((Bel.refl wr).alloc (.cells (evv (eZ l k)) 54))))
      have HJW := Lib.hid (show J pre (wr.alloc (.cells (evv (eZ l k)) 54)) from HJ.out pre wr _ none hJs (World.grownBy_alloc wr _ none) (fun r h => by cases h))
      have HP := Lib.hid hpre
      have HKN := Lib.hid hlt
      have HKL := Lib.hid hkl
      have d0 := HX.out.cell 0 (v := .int .i64 (eZ l k).k) rfl
      have HE80 := Lib.hid hn80
      have HNC := Lib.hid hnc
      clear hks hJs hpre he hrg hbb hn80 hnc h0
      generalize hW1 : wr.alloc (.cells (evv (eZ l k)) 54) = W1 at *
      by_cases h1 : (eZ l k).k = 1
      · have b1 : ((eZ l k).k != 1) = false := by simp [h1]
        have HAC := Lib.hid (show acB l k = true by unfold acB kZ; simp [h1])
        clear h1
        have d1 := HX.out.cell 1 (v := .int .i64 (eZ l k).t) rfl
        gi_wp2_with (first | (refine load_rowIn _ _ rfl rfl rfl hR.out T36 (evv (eZ l k)) rfl ?_) | (refine store_newIn 54 _ _ rfl rfl (c := #[.int .i64 0, .int .i64 0, .int .i64 0]) (c' := evv (eZ l k)) (t := 54) rfl rfl rfl T36 (evv_all _) ?_))
        refine wpIn_wide.2 ?_
        have hc1 : (k : Int) ≤ c := by have := HNC.out; omega
        have F1 := fun (w' : World) (h : Bel W1 w') => (h.box ((HKW.out.box HNB.out HBs.out))).cell 0 (v := .slice (some ⟨bb, off, none⟩) n c) rfl
        have F2 := fun (w' : World) (h : Bel W1 w') => (h.box HX.out).cell 1 (v := .int .i64 (eZ l k).t) rfl
        have HF1 := Lib.hid F1
        have HF2 := Lib.hid F2
        clear F1 F2 d0 d1 hW1
        (refine region_bel (by kernel_rfl) (by kernel_rfl) ?_; (repeat (first | ((with_reducible refine BigFrame.wpQuiet_skip ?_ ?_); exact rfl; simp only [Act.put, Act.eval, List.setIfInBounds_toArray, List.set_cons_zero, List.set_cons_succ, Array.getD_eq_getD_getElem?, List.getElem?_toArray, List.getElem?_cons_zero, List.getElem?_cons_succ, Option.getD_some]) | (refine q_move _ rfl rfl ?_; simp only [Act.put, Act.eval, List.setIfInBounds_toArray, List.set_cons_zero, List.set_cons_succ, Array.getD_eq_getD_getElem?, List.getElem?_toArray, List.getElem?_cons_zero, List.getElem?_cons_succ, Option.getD_some]) | (refine q_assign _ rfl rfl ?_; simp only [Act.put, Act.eval, List.setIfInBounds_toArray, List.set_cons_zero, List.set_cons_succ, Array.getD_eq_getD_getElem?, List.getElem?_toArray, List.getElem?_cons_zero, List.getElem?_cons_succ, Option.getD_some]) | (refine q_any rfl ?_; apply Exists.intro; refine ⟨fun w hw => ?_, ?_⟩; (have fct0 := HF1.out w hw; have fct1 := HF2.out w hw; go_simp; first | exact ⟨rfl, rfl⟩ | rfl | (go_at_call 96; (with_reducible refine (held_acc (some ⟨bb, off, none⟩) n c k l _ ((HL.out.ks HKW.out HA.out).bel hw.out) HM.out HKN.out).mono ?_); rintro e w' ⟨rfl, hb⟩; exact ⟨rfl, hw.call hb⟩)); simp only [Act.put, Act.eval, List.setIfInBounds_toArray, List.set_cons_zero, List.set_cons_succ, Array.getD_eq_getD_getElem?, List.getElem?_toArray, List.getElem?_cons_zero, List.getElem?_cons_succ, Option.getD_some]))); refine wpQuiet_nil ?_; intro w2 hw2)
        have HK2 := Lib.hid (HKW.out.trans (Ks.of hw2))
        have HJ2 := HJ.out pre W1 w2 none HJW.out (chg_bel hw2 none) (fun r h => by cases h)
        obtain ⟨fn, tmps, assign, body, hy, hRd⟩ := HY.out pre ⟨k, HKL.out, HAC.out⟩ w2 HJ2 (by
          have h9 := congrArg List.length HP.out
          rw [List.length_map] at h9
          have := acs_len l k
          have := HKN.out
          omega)
        clear HJ2 hw2
        unfold accE at hy
        dsimp only at hy
        gi_wp2_with fail
        refine hRd.mono ?_
        rintro e W3 (⟨rfl, hJ3, hk3⟩ | ⟨rfl, hJx3⟩)
        · have HK3 := Lib.hid (HK2.out.trans hk3)
          gi_wp2
          go_roundw
          case rel => exact ⟨k + 1, _, by omega, by go_num, by rw [List.map_append, HP.out, acs_yes HAC.out]; rfl, hJ3, HK3.out⟩
          case measure => simp [intOf]; omega
        · gi_wp2
          refine bodyPost_ret (results_none rfl _ _ _) rfl ?_
          exact ⟨⟨_, rfl⟩, .inr ⟨_, trivial, hJx3⟩⟩
      · by_cases h2 : (eZ l k).k = 2
        · have b1 : ((eZ l k).k != 1) = true := by simp [h2]
          have b2 : ((eZ l k).k != 2) = false := by simp [h2]
          have HAC := Lib.hid (show acB l k = true by unfold acB kZ; simp [h2])
          clear h1 h2
          have d1 := HX.out.cell 1 (v := .int .i64 (eZ l k).t) rfl
          gi_wp2_with (first | (refine load_rowIn _ _ rfl rfl rfl hR.out T36 (evv (eZ l k)) rfl ?_) | (refine store_newIn 54 _ _ rfl rfl (c := #[.int .i64 0, .int .i64 0, .int .i64 0]) (c' := evv (eZ l k)) (t := 54) rfl rfl rfl T36 (evv_all _) ?_))
          refine wpIn_wide.2 ?_
          have hc1 : (k : Int) ≤ c := by have := HNC.out; omega
          have F1 := fun (w' : World) (h : Bel W1 w') => (h.box ((HKW.out.box HNB.out HBs.out))).cell 0 (v := .slice (some ⟨bb, off, none⟩) n c) rfl
          have F2 := fun (w' : World) (h : Bel W1 w') => (h.box HX.out).cell 1 (v := .int .i64 (eZ l k).t) rfl
          have HF1 := Lib.hid F1
          have HF2 := Lib.hid F2
          clear F1 F2 d0 d1 hW1
          (refine region_bel (by kernel_rfl) (by kernel_rfl) ?_; (repeat (first | ((with_reducible refine BigFrame.wpQuiet_skip ?_ ?_); exact rfl; simp only [Act.put, Act.eval, List.setIfInBounds_toArray, List.set_cons_zero, List.set_cons_succ, Array.getD_eq_getD_getElem?, List.getElem?_toArray, List.getElem?_cons_zero, List.getElem?_cons_succ, Option.getD_some]) | (refine q_move _ rfl rfl ?_; simp only [Act.put, Act.eval, List.setIfInBounds_toArray, List.set_cons_zero, List.set_cons_succ, Array.getD_eq_getD_getElem?, List.getElem?_toArray, List.getElem?_cons_zero, List.getElem?_cons_succ, Option.getD_some]) | (refine q_assign _ rfl rfl ?_; simp only [Act.put, Act.eval, List.setIfInBounds_toArray, List.set_cons_zero, List.set_cons_succ, Array.getD_eq_getD_getElem?, List.getElem?_toArray, List.getElem?_cons_zero, List.getElem?_cons_succ, Option.getD_some]) | (refine q_any rfl ?_; apply Exists.intro; refine ⟨fun w hw => ?_, ?_⟩; (have fct0 := HF1.out w hw; have fct1 := HF2.out w hw; go_simp; first | exact ⟨rfl, rfl⟩ | rfl | (go_at_call 96; (with_reducible refine (held_acc (some ⟨bb, off, none⟩) n c k l _ ((HL.out.ks HKW.out HA.out).bel hw.out) HM.out HKN.out).mono ?_); rintro e w' ⟨rfl, hb⟩; exact ⟨rfl, hw.call hb⟩)); simp only [Act.put, Act.eval, List.setIfInBounds_toArray, List.set_cons_zero, List.set_cons_succ, Array.getD_eq_getD_getElem?, List.getElem?_toArray, List.getElem?_cons_zero, List.getElem?_cons_succ, Option.getD_some]))); refine wpQuiet_nil ?_; intro w2 hw2)
          have HK2 := Lib.hid (HKW.out.trans (Ks.of hw2))
          have HJ2 := HJ.out pre W1 w2 none HJW.out (chg_bel hw2 none) (fun r h => by cases h)
          obtain ⟨fn, tmps, assign, body, hy, hRd⟩ := HY.out pre ⟨k, HKL.out, HAC.out⟩ w2 HJ2 (by
            have h9 := congrArg List.length HP.out
            rw [List.length_map] at h9
            have := acs_len l k
            have := HKN.out
            omega)
          clear HJ2 hw2
          unfold accE at hy
          dsimp only at hy
          gi_wp2_with fail
          refine hRd.mono ?_
          rintro e W3 (⟨rfl, hJ3, hk3⟩ | ⟨rfl, hJx3⟩)
          · have HK3 := Lib.hid (HK2.out.trans hk3)
            gi_wp2
            go_roundw
            case rel => exact ⟨k + 1, _, by omega, by go_num, by rw [List.map_append, HP.out, acs_yes HAC.out]; rfl, hJ3, HK3.out⟩
            case measure => simp [intOf]; omega
          · gi_wp2
            refine bodyPost_ret (results_none rfl _ _ _) rfl ?_
            exact ⟨⟨_, rfl⟩, .inr ⟨_, trivial, hJx3⟩⟩
        · have b1 : ((eZ l k).k != 1) = true := by simpa using h1
          have b2 : ((eZ l k).k != 2) = true := by simpa using h2
          have HNO := Lib.hid (show acB l k = false by unfold acB kZ; simp [h1, h2])
          clear h1 h2
          gi_wp2_with (first | (refine load_rowIn _ _ rfl rfl rfl hR.out T36 (evv (eZ l k)) rfl ?_) | (refine store_newIn 54 _ _ rfl rfl (c := #[.int .i64 0, .int .i64 0, .int .i64 0]) (c' := evv (eZ l k)) (t := 54) rfl rfl rfl T36 (evv_all _) ?_))
          go_roundw
          case rel => exact ⟨k + 1, pre, by omega, by go_num, by rw [HP.out, acs_no HNO.out], HJW.out, HKW.out⟩
          case measure => simp [intOf]; omega
    · obtain rfl : k = n := by omega
      gi_wp2
      go_end0
      exact ⟨⟨_, rfl⟩, .inl ⟨_, hpre, hJs⟩⟩
end Go.Proofs.Ytjddahidkodieaa
set_option linter.all false
set_option maxRecDepth 100000
namespace Go.Proofs.Ytjddahidkodieaa
open Go Go.RowKit

theorem TGs : RowTy Try.prog 102 24 := ⟨_, Try.underlying102, rfl, by kernel_rfl⟩
theorem TGz (g : Nat → Nat) : RowTy Try.prog 102 (ns 24 g).size := by rw [ns_size]; exact TGs
theorem TGd : RowTy Try.prog 101 3 := ⟨_, Try.underlying101, rfl, by kernel_rfl⟩
def gQ (k : Nat) : Nat → Nat := fun i => if i % 3 = 2 ∧ i / 3 < k then 31 else 0
theorem gQ_up {k : Nat} : ns 24 (updN (gQ k) (k * 3 + 2) 31) = ns 24 (gQ (k + 1)) := ns_congr fun i _ => by
  unfold updN gQ
  by_cases h : i = k * 3 + 2
  · rw [if_pos h, if_pos ⟨by omega, by omega⟩]
  · rw [if_neg h]
    by_cases h2 : i % 3 = 2 ∧ i / 3 < k
    · rw [if_pos h2, if_pos ⟨h2.1, by omega⟩]
    · rw [if_neg h2, if_neg (by omega)]
def gdZ : Nat → Gd := fun _ => gdStart
theorem gQ_all : ns 24 (gQ 8) = ns 24 (gG gdZ) := ns_congr fun i hi => by
  unfold gQ gG gdZ gdStart
  by_cases h0 : i % 3 = 0
  · rw [if_neg (by omega), if_pos h0]
  · by_cases h1 : i % 3 = 1
    · rw [if_neg (by omega), if_neg h0, if_pos h1]
    · rw [if_pos (by omega), if_neg h0, if_neg h1]; rfl
structure StG (w : World) (k : Nat) (wr : World) : Prop where
  res : Box wr w.heap.size (ns 24 fun _ => 0) 102
  now : Box wr (w.heap.size + 1) (ns 24 (gQ k)) 102
  below : Below w.heap.size w wr
set_option maxHeartbeats 4000000 in
theorem gstart_any (w : World) : Calls Try.prog 74 #[] w fun e w' => e = .returned (.agg (ns 24 (gG gdZ))) ∧ Below w.heap.size w w' := by
  obtain ⟨b1, b2, hB, hs⟩ := boxes2 w (ns 24 fun _ => 0) (ns 24 (gQ 0)) 102 102
  have H0 := Lib.hid (StG.mk b1 b2 hB)
  clear b1 b2 hB hs
  go_enter Try.func74, Try.ntmps74
  go_wp2
  change Code.wp _ _ _ _ ((w.alloc (.cells (ns 24 fun _ => 0) 102)).alloc (.cells (ns 24 (gQ 0)) 102))
  generalize ((w.alloc (.cells (ns 24 fun _ => 0) 102)).alloc (.cells (ns 24 (gQ 0)) 102)) = W at *
  go_loopw [3] (fun t wr => ∃ k : Nat, k ≤ 8 ∧ t = .int .i64 k ∧ StG w k wr) (fun t _ => 8 - (intOf t).toNat)
  case atStart => exact ⟨0, by omega, rfl, H0.out⟩
  case round =>
    obtain ⟨k, hk, rfl, hr⟩ := hrel
    have HR := Lib.hid hr
    clear hr H0
    by_cases hlt : k < 8
    · have hlt' : (k : Int) < 8 := by omega
      have c0 := HR.out.now.cell (k * 3 + 2) (ns_get _ (by omega))
      have g0 := HR.out.now.frozen (k * 3 + 2)
      go_wp2
      go_roundw
      case rel => exact ⟨k + 1, by omega, by go_num, ⟨HR.out.res.set_ne _ _ (by simp), by have := HR.out.now.set (k * 3 + 2) (.int .i64 ((31 : Nat) : Int)); rw [ns_set, gQ_up] at this; exact this, HR.out.below.setCell (by simp) _⟩⟩
      case measure => simp [intOf]; omega
    · obtain rfl : k = 8 := by omega
      have hn := HR.out.now
      rw [gQ_all] at hn
      have hr := HR.out.res
      go_wp2_with (first | (refine loadB _ _ rfl rfl rfl hn (TGz _) ?_) | (refine storeB _ _ _ rfl rfl rfl rfl hr (by rw [ns_size, ns_size]) (TGz _) (gns_all _ _) ?_))
      refine bodyPost_ret (res_c Try.results74 rfl (hr.setRow (ns 24 (gG gdZ))) (TGz _)) rfl ⟨rfl, ?_⟩
      exact below_setRow' HR.out.below _ _ (Nat.le_refl _)

end Go.Proofs.Ytjddahidkodieaa

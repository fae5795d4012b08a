/- Contracts of the reference: Guards. -/
import Derived.Test.YtlifmedkadjdcaaGu
import Derived.Test.YtlifmedkadjdcaaGuA
import Derived.Test.YtlifmedkadjdcaaRefTr3
import Derived.Test.YtlifmedkadjdcaaKeepTw
import Derived.Deep.DeepCutAuto
set_option linter.all false
set_option maxRecDepth 100000
namespace Go.Proofs.Ytlifmedkadjdcaa
open Go Go.RowKit

theorem TI8 : RowTy Try.prog 32 8 := ⟨_, Try.underlying32, rfl, by kernel_rfl⟩
theorem TIz (g : Nat → Nat) : RowTy Try.prog 32 (ns 8 g).size := by rw [ns_size]; exact TI8
theorem rgfl_info : (Try.prog.info? 40).map (fun i => (i.zero, i.size, i.bytes)) = some (some (.agg #[.int .i64 0, .int .i64 0, .int .i64 0]), 3, 24) := by kernel_rfl
theorem gdT_yes {l : List Ev} {k o : Nat} (h : acB l k = true) (ho : oZ l k = o) : gdT l (k + 1) = upG (gdT l k) o (gdStep (gdT l k o) (kZ l k) (tZ l k) (hB l k)) := by
  rw [← gdF_acs, acs_yes h, gdF_snoc, gdF_acs, ho]
theorem gdT_no {l : List Ev} {k : Nat} (h : acB l k = false) : gdT l (k + 1) = gdT l k := by
  rw [← gdF_acs, acs_no h, gdF_acs]
/-- The sets in common, as eight numbers. -/
def cmN (l : List Ev) (k : Nat) : Nat → Nat := fun x => lkN (comTo l x k)
theorem cmN_yes {l : List Ev} {k o : Nat} (h : acB l k = true) (ho : oZ l k = o) : ns 8 (updN (cmN l k) o (lkN fun q => comTo l o k q && hB l k q)) = ns 8 (cmN l (k + 1)) := ns_congr fun x _ => by
  unfold updN cmN
  rw [comTo]
  by_cases e : x = o
  · subst e; rw [if_pos rfl, if_pos ⟨h, ho⟩]
  · rw [if_neg e, if_neg (fun h9 => e (h9.2.symm.trans ho))]
theorem cmN_no {l : List Ev} {k : Nat} (h : acB l k = false) : cmN l (k + 1) = cmN l k := by
  funext x
  unfold cmN
  rw [comTo, if_neg (fun h9 => by rw [h] at h9; cases h9.1)]
def cQ (k : Nat) : Nat → Nat := fun x => if x < k then 31 else 0
theorem cQ_up {k : Nat} : ns 8 (updN (cQ k) k 31) = ns 8 (cQ (k + 1)) := ns_congr fun i _ => by
  unfold updN cQ
  by_cases h : i = k
  · rw [if_pos h, if_pos (by omega)]
  · rw [if_neg h]
    by_cases h2 : i < k
    · rw [if_pos h2, if_pos (by omega)]
    · rw [if_neg h2, if_neg (by omega)]
theorem cQ_all (l : List Ev) : ns 8 (cQ 8) = ns 8 (cmN l 0) := ns_congr fun i hi => by
  unfold cQ cmN
  rw [if_pos hi]; rfl
theorem gG_upd (f : Nat → Gd) (x s : Nat) (p : Nat → Bool) : ns 24 (updN (updN (gG f) (x * 3 + 2) (lkN p)) (x * 3) s) = ns 24 (gG (upG f x ⟨s, (f x).th, p⟩)) := ns_congr fun i _ => by
  unfold updN
  by_cases h0 : i = x * 3
  · rw [if_pos h0, h0, gG_0, upG_at]
  · rw [if_neg h0]
    by_cases h2 : i = x * 3 + 2
    · rw [if_pos h2, h2, gG_2, upG_at]
    · rw [if_neg h2]
      by_cases h1 : i = x * 3 + 1
      · rw [h1, gG_1, gG_1, upG_at]
      · unfold gG upG
        rw [if_neg (show ¬ i / 3 = x by omega)]
theorem upG_self (f : Nat → Gd) (x : Nat) : upG f x (f x) = f := by
  funext y
  unfold upG
  by_cases h : y = x
  · rw [if_pos h, h]
  · rw [if_neg h]
theorem rheld_acc (A : Option Addr) (n c k : Nat) (l : List Ev) (w : World) (hl : Sl w A n l) (hk : k < n) (hn : n ≤ 80) :
    Calls Try.prog 26 #[.slice A k c, .int .i64 (eZ l k).t] w fun e w' => e = .returned (.int .i64 (hN l k)) ∧ Below w.heap.size w w' :=
  rheld_any A k c (l.take k) (eZ l k).t w (hl.take (Nat.le_of_lt hk)) (by omega)
theorem results_ctc {P : Program} {w : World} {fn : Func} {p q u : Tmp} {ty tz : TypeId} (h : fn.results = #[.cell p ty, .tmp u, .cell q tz]) {tmps : Array Value} {B C : Nat} {c d : Array Value} {t s : TypeId} (hp : tmps.getD p undef = .pointer (some ⟨B, 0, none⟩)) (hq : tmps.getD q undef = .pointer (some ⟨C, 0, none⟩)) (hb : Box w B c t) (hT : RowTy P ty c.size) (hd : Box w C d s) (hU : RowTy P tz d.size) :
    (results fn tmps).run P w = .ok (.tuple #[.agg c, tmps.getD u undef, .agg d]) w := by
  obtain ⟨d1, hu1, hd1, hi1⟩ := hT
  obtain ⟨d2, hu2, hd2, hi2⟩ := hU
  have hp' : tmps[p]?.getD undef = .pointer (some ⟨B, 0, none⟩) := by rw [← Array.getD_eq_getD_getElem?]; exact hp
  have hq' : tmps[q]?.getD undef = .pointer (some ⟨C, 0, none⟩) := by rw [← Array.getD_eq_getD_getElem?]; exact hq
  simp [results, h, hp', hq', asAddr, Sem.run_pure, Result.andThen_ok, run_loadVar_row w B t ty c (0, 0) d1 hb hu1 (by cases d1 <;> simp_all [TypeDesc.isRow]) hi1, run_loadVar_row w C s tz d (0, 0) d2 hd hu2 (by cases d2 <;> simp_all [TypeDesc.isRow]) hi2, Sem.run_bind]
theorem store_mid_to {P : Program} {ops : Array Oper} {rest : List Oper} {op : Oper} {a : Act} {w wz : World} {Q : Exit → Act → World → Prop} (hgd : op.guard = none) (ty : TypeId) (x y : Operand) (ho : op.op = .store ty x y)
    (b o : Nat) (cells : Array Value) (hx : a.eval x = .pointer (some ⟨b, o, none⟩)) (hy : a.eval y = .agg cells) (ht : w.there b o cells.size) (hi : (P.info? ty).map (·.size) = some cells.size) (h1 : cells.all (·.oneCell') = true)
    (hw : wz = w.setCells b o cells.toList) (h : wpList P ops Q rest (a.put op.dst undef) wz) : wpList P ops Q (op :: rest) a w := by
  subst hw
  exact wpList_store_mid hgd ty x y ho b o cells hx hy ht hi h1 h
structure Rg0 (w : World) (k : Nat) (wr : World) : Prop where
  r1 : Box wr w.heap.size (ns 24 fun _ => 0) 25
  r2 : Box wr (w.heap.size + 1) (ns 8 fun _ => 0) 32
  gs : Box wr (w.heap.size + 1 + 1) (ns 24 (gQ k)) 25
  cs : Box wr (w.heap.size + 1 + 1 + 1) (ns 8 (cQ k)) 32
  below : Below w.heap.size w wr
structure RgR (w : World) (f : Nat → Gd) (c : Nat → Nat) (v : Value) (F : List Ev) (wr : World) : Prop where
  r1 : Box wr w.heap.size (ns 24 fun _ => 0) 25
  r2 : Box wr (w.heap.size + 1) (ns 8 fun _ => 0) 32
  gs : Box wr (w.heap.size + 1 + 1) (ns 24 (gG f)) 25
  cs : Box wr (w.heap.size + 1 + 1 + 1) (ns 8 c) 32
  own : wr.ownsRow (w.heap.size + 4) 40 3 v F.length (evc F)
  below : Below w.heap.size w wr
theorem RgR.bel {w : World} {f : Nat → Gd} {c : Nat → Nat} {v : Value} {F : List Ev} {wr wx : World} (h : RgR w f c v F wr) (hb : Bel wr wx) : RgR w f c v F wx :=
  ⟨hb.box h.r1, hb.box h.r2, hb.box h.gs, hb.box h.cs, own_bel h.own hb, h.below.trans (hb.out.mono h.below.size)⟩
theorem RgR.gput {w : World} {f f' : Nat → Gd} {c : Nat → Nat} {v : Value} {F : List Ev} {wr wx : World} (h : RgR w f c v F wr) (hg : wr.grownBy wx (some (w.heap.size + 1 + 1))) (hb : Box wx (w.heap.size + 1 + 1) (ns 24 (gG f')) 25) : RgR w f' c v F wx :=
  ⟨h.r1.grown hg (by intro h; have := Option.some.inj h; omega), h.r2.grown hg (by intro h; have := Option.some.inj h; omega), hb, h.cs.grown hg (by simp), h.own.kept hg (.inr fun e => by have := (own_lt h.own e).1; omega),
    h.below.trans ((Below.refl _ wr).grown hg h.below.size (fun b e => by have := Option.some.inj e; omega))⟩
theorem RgR.cput {w : World} {f : Nat → Gd} {c c' : Nat → Nat} {v : Value} {F : List Ev} {wr wx : World} (h : RgR w f c v F wr) (hg : wr.grownBy wx (some (w.heap.size + 1 + 1 + 1))) (hb : Box wx (w.heap.size + 1 + 1 + 1) (ns 8 c') 32) : RgR w f c' v F wx :=
  ⟨h.r1.grown hg (by intro h; have := Option.some.inj h; omega), h.r2.grown hg (by intro h; have := Option.some.inj h; omega), h.gs.grown hg (by simp), hb, h.own.kept hg (.inr fun e => by have := (own_lt h.own e).1; omega),
    h.below.trans ((Below.refl _ wr).grown hg h.below.size (fun b e => by have := Option.some.inj e; omega))⟩
theorem RgR.add {w : World} {f : Nat → Gd} {c : Nat → Nat} {v v' : Value} {F : List Ev} {e : Ev} {wr wx : World} {o : Obj} (h : RgR w f c v F wr) (hown : wx.ownsRow (w.heap.size + 4) 40 3 v' (F.length + 1) (evc F ++ evl e)) (hg : (wr.alloc o).grownBy wx v.ownBlock) : RgR w f c v' (F ++ [e]) wx := by
  have hne : ∀ b, b < w.heap.size + 4 → some b ≠ v.ownBlock := fun b hb he => by have := (own_lt h.own he.symm).1; omega
  refine ⟨(h.r1.old _).grown hg (hne _ (by omega)), (h.r2.old _).grown hg (hne _ (by omega)), (h.gs.old _).grown hg (hne _ (by omega)), (h.cs.old _).grown hg (hne _ (by omega)), ?_, (h.below.alloc h.below.size o).trans (grown_below hg (own_alloc h.own o) (by omega) (by have := h.below.size; simp; omega))⟩
  rw [List.length_append, evc_append]
  exact hown
/-- What the reference's Guards hands back. -/
def RgPost (w : World) (l : List Ev) (e : Ending) (w' : World) : Prop :=
  ∃ v, e = .returned (.tuple #[.agg (ns 24 (gG (gdT l l.length))), v, .agg (ns 8 (cmN l l.length))]) ∧ w'.ownsRow w.heap.size 40 3 v (wl l l.length).length (evc (wl l l.length)) ∧ Below w.heap.size w w'
set_option maxHeartbeats 16000000 in
theorem rguards_any (A : Option Addr) (n c : Nat) (l : List Ev) (w : World) (hl : Sl w A n l) (hnc : n ≤ c) (hm : may l = 0) : Calls Try.prog 14 #[.slice A n c] w (RgPost w l) := by
  obtain ⟨b1, b2, b3, b4, hB, hs⟩ := boxes4 w (ns 24 fun _ => 0) (ns 8 fun _ => 0) (ns 24 (gQ 0)) (ns 8 (cQ 0)) 25 32 25 32
  obtain ⟨i0, hi0, hz0, hz1, hz2⟩ := info_parts rgfl_info
  have J := Lib.hid (And.intro hi0 (And.intro hz0 (And.intro hz1 hz2)))
  have H0 := Lib.hid (Rg0.mk b1 b2 b3 b4 hB)
  have HL := Lib.hid hl
  have HM := Lib.hid hm
  have hn80 : n ≤ 80 := by rw [← hl.1]; exact ((may_iff l).1 hm).1
  clear b1 b2 b3 b4 hB hi0 hz0 hz1 hz2 hl hm
  go_enter Try.func14, Try.ntmps14
  go_wp2
  change Code.wp _ _ _ _ ((((w.alloc (.cells (ns 24 fun _ => 0) 25)).alloc (.cells (ns 8 fun _ => 0) 32)).alloc (.cells (ns 24 (gQ 0)) 25)).alloc (.cells (ns 8 (cQ 0)) 32))
  generalize ((((w.alloc (.cells (ns 24 fun _ => 0) 25)).alloc (.cells (ns 8 fun _ => 0) 32)).alloc (.cells (ns 24 (gQ 0)) 25)).alloc (.cells (ns 8 (cQ 0)) 32)) = W at *
  go_loopw [13] (fun t wr => ∃ k : Nat, k ≤ 8 ∧ t = .int .i64 k ∧ Rg0 w k wr) (fun t _ => 8 - (intOf t).toNat)
  case atStart => exact ⟨0, by omega, rfl, H0.out⟩
  case round =>
    obtain ⟨k, hk, rfl, hr⟩ := hrel
    have HR := Lib.hid hr
    clear hr H0
    by_cases hlt : k < 8
    · have hlt' : (k : Int) < 8 := by omega
      have c0 := HR.out.gs.cell (k * 3 + 2) (ns_get _ (by omega))
      have g0 := HR.out.gs.frozen (k * 3 + 2)
      have c1 := HR.out.cs.cell k (ns_get _ hlt)
      have g1 := HR.out.cs.frozen k
      go_wp2
      go_roundw
      case rel =>
        refine ⟨k + 1, by omega, by go_num, ⟨(HR.out.r1.set_ne _ _ (by simp; omega)).set_ne _ _ (by simp; omega), (HR.out.r2.set_ne _ _ (by simp)).set_ne _ _ (by simp), ?_, ?_, (HR.out.below.setCell (by simp; omega) _).setCell (by simp; omega) _⟩⟩
        · have := (HR.out.gs.set (k * 3 + 2) (.int .i64 ((31 : Nat) : Int))).set_ne ⟨w.heap.size + 1 + 1 + 1, k, none⟩ (.int .i64 31) (by simp)
          rw [ns_set, gQ_up] at this; exact this
        · have := (HR.out.cs.set_ne ⟨w.heap.size + 1 + 1, k * 3 + 2, none⟩ (.int .i64 31) (by simp)).set k (.int .i64 ((31 : Nat) : Int))
          rw [ns_set, cQ_up] at this; exact this
      case measure => simp [intOf]; omega
    · have hge : 8 ≤ (k : Int) := by omega
      have HR1 := Lib.hid (show RgR w (gdT l 0) (cmN l 0) (.slice none 0 0) (wl l 0) wr from by
        obtain rfl : k = 8 := by omega
        exact ⟨HR.out.r1, HR.out.r2, by have := HR.out.gs; rw [gQ_all] at this; exact this, by have := HR.out.cs; rw [cQ_all l] at this; exact this, World.ownsRow_nil _ _ _ _, HR.out.below⟩)
      clear hk hlt
      go_wp2
      generalize hwS : wr = wS at *
      clear hwS HR hge
      generalize (k : Int) = kk at *
      go_loopw [7, 24] (fun v i wr => ∃ k : Nat, k ≤ n ∧ i = .int .i64 k ∧ RgR w (gdT l k) (cmN l k) v (wl l k) wr) (fun _ i _ => n - (intOf i).toNat)
      case atStart => exact ⟨0, Nat.zero_le _, rfl, HR1.out⟩
      case round =>
        obtain ⟨k, hk, rfl, hr⟩ := hrel
        have HR := Lib.hid hr
        clear hr HR1
        by_cases hkn : k < n
        · have hkn' : (k : Int) < n := by omega
          have hkl : k < l.length := by rw [HL.out.1]; exact hkn
          have hkc : (k : Int) ≤ c := by omega
          have hk80 : k < 80 := by omega
          obtain ⟨bb, off, e, rfl, hbb, he, hrg⟩ := HL.out.at_ hkn
          obtain rfl : e = eZ l k := (eZ_at he).symm
          have hR := Lib.hid (rangeAt_below HR.out.below hbb hrg)
          have HX := Lib.hid (ewld_box wr (eZ l k) 50)
          have HRX := Lib.hid (HR.out.bel (ewld_below wr (eZ l k) 50))
          have hev := eZ_ok HM.out hkl
          have ht := isEv_t hev
          have ho := isEv_o hev
          have HK80 := Lib.hid hk80
          have HKN := Lib.hid hkn
          have HTN := Lib.hid (show (eZ l k).t = (tZ l k : Nat) by unfold tZ; omega)
          have HON := Lib.hid (show (eZ l k).o = (oZ l k : Nat) by unfold oZ; omega)
          clear he hrg hbb
          by_cases hk2 : 2 < (eZ l k).k
          · have HNO := Lib.hid (show acB l k = false by unfold acB kZ; rw [decide_eq_false]; omega)
            have d0 := HX.out.cell 0 (v := .int .i64 (eZ l k).k) rfl
            clear hev ht ho
            go_wp2_with (first | (refine load_ev T36 _ rfl rfl rfl hR.out ?_) | (refine ewld_store T36 _ _ rfl rfl _ rfl rfl rfl ?_))
            go_roundw
            case rel => exact ⟨k + 1, by omega, by go_num, by rw [gdT_no HNO.out, cmN_no HNO.out, wl_no (by unfold wn; rw [HNO.out]; rfl)]; exact HRX.out⟩
            case measure => simp [intOf]; omega
          · have hk12 : (eZ l k).k = 1 ∨ (eZ l k).k = 2 := by
              have h1 := ho.1
              have h2 := ho.2
              unfold nobj at h2
              repeat' split at h2
              all_goals omega
            have hk2' : (eZ l k).k ≤ 2 := by omega
            have HAC := Lib.hid (show acB l k = true by unfold acB kZ; rw [decide_eq_true]; exact hk12)
            have HO8 := Lib.hid (show oZ l k < 8 by
              have h2 := ho.2
              unfold nobj at h2
              rw [if_pos hk12, HON.out] at h2
              omega)
            have d0 := HX.out.cell 0 (v := .int .i64 (eZ l k).k) rfl
            have HK12 := Lib.hid hk12
            have HKZ := Lib.hid (show (eZ l k).k = kZ l k from rfl)
            clear hev ht ho hk2 hk12
            go_upto_region 13 with (first | (refine load_ev T36 _ rfl rfl rfl hR.out ?_) | (refine ewld_store T36 _ _ rfl rfl _ rfl rfl rfl ?_))
            generalize hwE : ewld wr (eZ l k) 50 = wE at *
            clear hwE
            have F1 := Lib.hid (fun (w' : World) (h : Bel wE w') => (h.box HX.out).cell 1 (v := .int .i64 (eZ l k).t) rfl)
            have F2 := Lib.hid (fun (w' : World) (h : Bel wE w') => show w'.cell? ⟨wr.heap.size, 2, none⟩ = some (.int .i64 ((oZ l k : Nat) : Int)) by
              have := (h.box HX.out).cell 2 (v := .int .i64 (eZ l k).o) rfl
              rwa [HON.out] at this)
            have HLE := Lib.hid (HL.out.bel HRX.out.below)
            (refine region_bel (by kernel_rfl) (by kernel_rfl) ?_; (repeat (first | ((with_reducible refine BigFrame.wpQuiet_skip ?_ ?_); exact rfl; simp only [Act.put, Act.eval, List.setIfInBounds_toArray, List.set_cons_zero, List.set_cons_succ, Array.getD_eq_getD_getElem?, List.getElem?_toArray, List.getElem?_cons_zero, List.getElem?_cons_succ, Option.getD_some]) | (refine q_move _ rfl rfl ?_; simp only [Act.put, Act.eval, List.setIfInBounds_toArray, List.set_cons_zero, List.set_cons_succ, Array.getD_eq_getD_getElem?, List.getElem?_toArray, List.getElem?_cons_zero, List.getElem?_cons_succ, Option.getD_some]) | (refine q_assign _ rfl rfl ?_; simp only [Act.put, Act.eval, List.setIfInBounds_toArray, List.set_cons_zero, List.set_cons_succ, Array.getD_eq_getD_getElem?, List.getElem?_toArray, List.getElem?_cons_zero, List.getElem?_cons_succ, Option.getD_some]) | (refine q_any rfl ?_; apply Exists.intro; refine ⟨fun w hw => ?_, ?_⟩; (have fct0 := F1.out w hw; have fct1 := F2.out w hw; go_simp; first | exact ⟨rfl, rfl⟩ | rfl | (go_at_call 26; (with_reducible refine (rheld_acc (some ⟨bb, off, none⟩) n c k l _ (HLE.out.bel hw.out) HKN.out hn80).mono ?_); rintro e w' ⟨rfl, hb⟩; exact ⟨rfl, hw.call hb⟩)); simp only [Act.put, Act.eval, List.setIfInBounds_toArray, List.set_cons_zero, List.set_cons_succ, Array.getD_eq_getD_getElem?, List.getElem?_toArray, List.getElem?_cons_zero, List.getElem?_cons_succ, Option.getD_some]))); refine wpQuiet_nil ?_; intro w2 hw2)
            have HX2 := Lib.hid (hw2.box HX.out)
            have HR2 := Lib.hid (HRX.out.bel hw2)
            clear hw2 d0
            generalize hw2E : w2 = wB at *
            clear hw2E
            have HGY := Lib.hid (gdT_yes HAC.out rfl)
            have HCY := Lib.hid (cmN_yes HAC.out rfl)
            have HOK := Lib.hid (show GdOk (gdT l k (oZ l k)) from gd_okT l (oZ l k) k)
            have HWN := Lib.hid (show wn l k = (decide ((gdStep (gdT l k (oZ l k)) (kZ l k) (tZ l k) (hB l k)).st = 3) && emp (gdStep (gdT l k (oZ l k)) (kZ l k) (tZ l k) (hB l k)).lk) by
              unfold wn
              rw [HAC.out, Bool.true_and]
              have h9 := congrFun HGY.out (oZ l k)
              rw [upG_at] at h9
              rw [show gdTo l (oZ l k) (k + 1) = gdT l (k + 1) (oZ l k) from rfl, h9])
            have HWL := Lib.hid (wl_len l k)
            have HD0 := Lib.hid (show Box wB wr.heap.size (evv ⟨kZ l k, (tZ l k : Nat), (oZ l k : Nat)⟩) 50 by
              have h9 := HX2.out
              rwa [show eZ l k = ⟨kZ l k, (tZ l k : Nat), (oZ l k : Nat)⟩ from Ev.ext' rfl HTN.out HON.out] at h9)
            have HWLY := Lib.hid (show wn l k = true → wl l (k + 1) = wl l k ++ [⟨(k : Nat), (oZ l k : Nat), 0⟩] from fun h => by rw [wl_yes h, HON.out])
            have HWLN := Lib.hid (show wn l k = false → wl l (k + 1) = wl l k from fun h => wl_no h)
            have HK12' := Lib.hid (show kZ l k = 1 ∨ kZ l k = 2 from HK12.out)
            rw [show hN l k = hset (hB l k) from rfl, HTN.out, show (eZ l k).k = kZ l k from rfl]
            have fa := gand_sets (comTo l (oZ l k) k) (hB l k)
            have c6 := HR2.out.cs.cell (oZ l k) (ns_get _ HO8.out)
            have g6 := HR2.out.cs.frozen (oZ l k)
            rw [show ((cmN l k (oZ l k) : Nat) : Int) = hset (comTo l (oZ l k) k) from lkN_eq _] at c6
            have HCM := Lib.hid (show ns 8 (updN (cmN l k) (oZ l k) (lkN fun q => comTo l (oZ l k) k q && hB l k q)) = ns 8 (cmN l (k + 1)) from HCY.out)
            have HPC := Lib.hid (lkN_eq (fun q => comTo l (oZ l k) k q && hB l k q))
            generalize hpc : (fun q => comTo l (oZ l k) k q && hB l k q) = pc at *
            clear hpc HCY
            have HLB := Lib.hid (show w.heap.size + 1 + 1 + 1 < wr.heap.size from HR.out.cs.lt)
            have hn1 : ¬ w.heap.size + 1 + 1 + 1 = wr.heap.size := by have := HLB.out; omega
            have hn2 : ¬ wr.heap.size = w.heap.size + 1 + 1 + 1 := fun h => hn1 h.symm
            have HRA := Lib.hid (show RgR w (gdT l k) (cmN l (k + 1)) u7 (wl l k) (wB.setCell ⟨w.heap.size + 1 + 1 + 1, oZ l k, none⟩ (.int .i64 (hset pc))) from HR2.out.cput (chg_cell _ _ _) (by
              have h9 := HR2.out.cs.set (oZ l k) (.int .i64 ((lkN pc : Nat) : Int))
              rw [ns_set, HCM.out, HPC.out] at h9
              exact h9))
            have HDA := Lib.hid (show Box (wB.setCell ⟨w.heap.size + 1 + 1 + 1, oZ l k, none⟩ (.int .i64 (hset pc))) wr.heap.size (evv ⟨kZ l k, (tZ l k : Nat), (oZ l k : Nat)⟩) 50 from HD0.out.set_ne _ _ (by dsimp only; have := HLB.out; omega))
            have s0 := HR2.out.gs.cell (oZ l k * 3) (ns_get _ (by have := HO8.out; omega))
            rw [gG_0] at s0
            have ho8 : ((oZ l k : Nat) : Int) < 8 := by have := HO8.out; omega
            generalize htt : tZ l k = t at *
            generalize hoo : oZ l k = o at *
            generalize hqq : kZ l k = q at *
            generalize hpp : hB l k = p at *
            generalize hff : gdT l k = f at *
            have HKX := Lib.hid hkn
            have d0 := HD0.out.cell 0 (v := .int .i64 q) rfl
            have d1 := HD0.out.cell 1 (v := .int .i64 (t : Nat)) rfl
            clear htt hoo hqq hpp hff HR2 HX2 HX HRX HD0 HR HLE F1 F2 hR
            by_cases h0 : (f o).st = 0
            · have hs : (((f o).st : Int) == 0) = true := by simp [h0]
              have HST := Lib.hid (show gdStep (f o) q t p = ⟨1, t, fun _ => true⟩ by unfold gdStep; rw [if_pos h0, HOK.out.lk (by omega)])
              have HRZ := Lib.hid (show RgR w (upG f o ⟨1, t, fun _ => true⟩) (cmN l (k + 1)) u7 (wl l k) ((wB.setCell ⟨w.heap.size + 1 + 1 + 1, o, none⟩ (.int .i64 (hset pc))).setCells (w.heap.size + 1 + 1) (o * 3) (evl ⟨1, (t : Nat), 31⟩)) from by
                have h9 := box_three HRA.out.gs o ⟨1, t, fun _ => true⟩
                rw [show gev ⟨1, t, fun _ => true⟩ = ⟨1, (t : Nat), 31⟩ by unfold gev; rw [lkN_full]; rfl] at h9
                exact HRA.out.gput (chg_six _ _ _ _) h9)
              have HWZ := Lib.hid (show wl l (k + 1) = wl l k from HWLN.out (by rw [HWN.out, HST.out]; rfl))
              have HGZ := Lib.hid (show gdT l (k + 1) = upG f o ⟨1, t, fun _ => true⟩ by rw [HGY.out, HST.out])
              clear h0 hn1
              obtain ⟨wZ, hwZ⟩ : ∃ wZ, wZ = (wB.setCell ⟨w.heap.size + 1 + 1 + 1, o, none⟩ (.int .i64 (hset pc))).setCells (w.heap.size + 1 + 1) (o * 3) (evv ⟨1, (t : Nat), 31⟩).toList := ⟨_, rfl⟩
              have HRW := Lib.hid (show RgR w (upG f o ⟨1, t, fun _ => true⟩) (cmN l (k + 1)) u7 (wl l k) wZ from by rw [hwZ]; exact HRZ.out)
              have HWE := Lib.hid hwZ
              clear hwZ HRZ
              go_wp2_with (refine store_mid_to rfl 24 _ _ rfl (w.heap.size + 1 + 1) (o * 3) (evv ⟨1, (t : Nat), 31⟩) rfl rfl (there_three HRA.out.gs (by have := HO8.out; omega)) (by kernel_rfl) (evv_all _) HWE.out ?_)
              go_roundw
              case rel => exact ⟨k + 1, HKX.out, by go_num, by rw [HGZ.out, HWZ.out]; exact HRW.out⟩
              case measure => simp [intOf]; omega
            · have hs : (((f o).st : Int) == 0) = false := by simp; omega
              have hst0 := Lib.hid h0
              clear h0
              go_wp2
              generalize hwA : wB.setCell ⟨w.heap.size + 1 + 1 + 1, o, none⟩ (.int .i64 (hset pc)) = wA at *
              clear hwA c6 g6 s0 d0 d1 fa hs hn1 hn2
              have FG0 := Lib.hid (fun (w' : World) (h : Bel wA w') => show w'.cell? ⟨w.heap.size + 1 + 1, o * 3, none⟩ = some (.int .i64 ((f o).st : Nat)) by
                have := (h.box HRA.out.gs).cell (o * 3) (ns_get _ (by have := HO8.out; omega))
                rwa [gG_0] at this)
              have FG1 := Lib.hid (fun (w' : World) (h : Bel wA w') => show w'.cell? ⟨w.heap.size + 1 + 1, o * 3 + 1, none⟩ = some (.int .i64 ((f o).th : Nat)) by
                have := (h.box HRA.out.gs).cell (o * 3 + 1) (ns_get _ (by have := HO8.out; omega))
                rwa [gG_1] at this)
              have FE1 := Lib.hid (fun (w' : World) (h : Bel wA w') => (h.box HDA.out).cell 1 (v := .int .i64 (t : Nat)) rfl)
              by_cases h1 : (f o).st = 1
              · have b1 : (((f o).st : Int) == 1) = true := by simp [h1]
                by_cases h2 : (f o).th = t
                · have b2 : (((f o).th : Int) == (t : Int)) = true := by simp [h2]
                  have HST := Lib.hid (show gdStep (f o) q t p = f o by unfold gdStep; rw [if_neg hst0.out, if_pos ⟨h1, h2⟩])
                  have HWZ := Lib.hid (show wl l (k + 1) = wl l k from HWLN.out (by rw [HWN.out, HST.out, decide_eq_false (by omega)]; rfl))
                  have HGZ := Lib.hid (show gdT l (k + 1) = f by rw [HGY.out, HST.out, upG_self])
                  clear h1 h2
                  (refine region_bel (by kernel_rfl) (by kernel_rfl) ?_; (repeat (first | ((with_reducible refine BigFrame.wpQuiet_skip ?_ ?_); exact rfl; simp only [Act.put, Act.eval, List.setIfInBounds_toArray, List.set_cons_zero, List.set_cons_succ, Array.getD_eq_getD_getElem?, List.getElem?_toArray, List.getElem?_cons_zero, List.getElem?_cons_succ, Option.getD_some]) | (refine q_move _ rfl rfl ?_; simp only [Act.put, Act.eval, List.setIfInBounds_toArray, List.set_cons_zero, List.set_cons_succ, Array.getD_eq_getD_getElem?, List.getElem?_toArray, List.getElem?_cons_zero, List.getElem?_cons_succ, Option.getD_some]) | (refine q_assign _ rfl rfl ?_; simp only [Act.put, Act.eval, List.setIfInBounds_toArray, List.set_cons_zero, List.set_cons_succ, Array.getD_eq_getD_getElem?, List.getElem?_toArray, List.getElem?_cons_zero, List.getElem?_cons_succ, Option.getD_some]) | (refine q_any rfl ?_; apply Exists.intro; refine ⟨fun w hw => ?_, ?_⟩; (have fct0 := FG0.out w hw; have fct1 := FG1.out w hw; have fct2 := FE1.out w hw; go_simp; first | exact ⟨rfl, rfl⟩ | rfl); simp only [Act.put, Act.eval, List.setIfInBounds_toArray, List.set_cons_zero, List.set_cons_succ, Array.getD_eq_getD_getElem?, List.getElem?_toArray, List.getElem?_cons_zero, List.getElem?_cons_succ, Option.getD_some]))); refine wpQuiet_nil ?_; intro w2 hw2)
                  have HW2 := Lib.hid hw2
                  clear hw2 b1 b2
                  go_wp2
                  go_roundw
                  case rel => exact ⟨k + 1, HKX.out, by go_num, by rw [HGZ.out, HWZ.out]; exact HRA.out.bel HW2.out⟩
                  case measure => simp [intOf]; omega
                · have b2 : (((f o).th : Int) == (t : Int)) = false := by simp; omega
                  have HLK := Lib.hid (HOK.out.lk (by omega))
                  have HST := Lib.hid (show gdStep (f o) q t p = ⟨if q = 2 then 3 else 2, (f o).th, fun x => (f o).lk x && p x⟩ by
                    unfold gdStep; rw [if_neg hst0.out, if_neg (fun h => h2 h.2)]
                    simp only [show ¬ (f o).st = 3 by omega, or_false])
                  have H3 := Lib.hid (show ¬ (f o).st = 3 by omega)
                  clear h1 h2
                  (refine region_bel (by kernel_rfl) (by kernel_rfl) ?_; (repeat (first | ((with_reducible refine BigFrame.wpQuiet_skip ?_ ?_); exact rfl; simp only [Act.put, Act.eval, List.setIfInBounds_toArray, List.set_cons_zero, List.set_cons_succ, Array.getD_eq_getD_getElem?, List.getElem?_toArray, List.getElem?_cons_zero, List.getElem?_cons_succ, Option.getD_some]) | (refine q_move _ rfl rfl ?_; simp only [Act.put, Act.eval, List.setIfInBounds_toArray, List.set_cons_zero, List.set_cons_succ, Array.getD_eq_getD_getElem?, List.getElem?_toArray, List.getElem?_cons_zero, List.getElem?_cons_succ, Option.getD_some]) | (refine q_assign _ rfl rfl ?_; simp only [Act.put, Act.eval, List.setIfInBounds_toArray, List.set_cons_zero, List.set_cons_succ, Array.getD_eq_getD_getElem?, List.getElem?_toArray, List.getElem?_cons_zero, List.getElem?_cons_succ, Option.getD_some]) | (refine q_any rfl ?_; apply Exists.intro; refine ⟨fun w hw => ?_, ?_⟩; (have fct0 := FG0.out w hw; have fct1 := FG1.out w hw; have fct2 := FE1.out w hw; go_simp; first | exact ⟨rfl, rfl⟩ | rfl); simp only [Act.put, Act.eval, List.setIfInBounds_toArray, List.set_cons_zero, List.set_cons_succ, Array.getD_eq_getD_getElem?, List.getElem?_toArray, List.getElem?_cons_zero, List.getElem?_cons_succ, Option.getD_some]))); refine wpQuiet_nil ?_; intro w2 hw2)
                  have HW2 := Lib.hid hw2
                  have HRD := Lib.hid (HRA.out.bel HW2.out)
                  have HDD := Lib.hid (HW2.out.box HDA.out)
                  clear hw2 b1 b2
                  generalize hwD : w2 = wD at *
                  clear hwD
                  have s0 := HRD.out.gs.cell (o * 3) (ns_get _ (by have := HO8.out; omega))
                  have s2 := HRD.out.gs.cell (o * 3 + 2) (ns_get _ (by have := HO8.out; omega))
                  have g0 := HRD.out.gs.frozen (o * 3)
                  have g2 := HRD.out.gs.frozen (o * 3 + 2)
                  rw [gG_0] at s0
                  rw [gG_2, lkN_eq] at s2
                  have d0 := HDD.out.cell 0 (v := .int .i64 q) rfl
                  have hn1 : ¬ w.heap.size + 1 + 1 = wr.heap.size := by have := HLB.out; omega
                  have hn2 : ¬ wr.heap.size = w.heap.size + 1 + 1 := fun h => hn1 h.symm
                  have fa := gand_sets (f o).lk p
                  have HPQ := Lib.hid (lkN_eq (fun x => (f o).lk x && p x))
                  generalize hpq : (fun x => (f o).lk x && p x) = pq at *
                  clear hpq
                  have HRF := Lib.hid (fun (s : Nat) => show RgR w (upG f o ⟨s, (f o).th, pq⟩) (cmN l (k + 1)) u7 (wl l k) ((wD.setCell ⟨w.heap.size + 1 + 1, o * 3 + 2, none⟩ (.int .i64 (hset pq))).setCell ⟨w.heap.size + 1 + 1, o * 3, none⟩ (.int .i64 ((s : Nat) : Int))) from
                    HRD.out.gput ((chg_cell _ _ _).trans (chg_cell _ _ _)) (by
                      have h9 := (HRD.out.gs.set (o * 3 + 2) (.int .i64 ((lkN pq : Nat) : Int))).set (o * 3) (.int .i64 ((s : Nat) : Int))
                      rw [ns_set, ns_set, gG_upd, HPQ.out] at h9
                      exact h9))
                  by_cases hq : q = 2
                  · have bq : (q == 2) = true := by simp [hq]
                    have HSX := Lib.hid (show gdStep (f o) q t p = ⟨3, (f o).th, pq⟩ by rw [HST.out]; simp [hq])
                    have HGZ := Lib.hid (show gdT l (k + 1) = upG f o ⟨3, (f o).th, pq⟩ by rw [HGY.out, HSX.out])
                    have HRX3 := Lib.hid (HRF.out 3)
                    by_cases he : emp pq = true
                    · have h0q : hset pq = 0 := (hset_emp pq).2 he
                      have hq0 : (hset pq == 0) = true := by rw [h0q]; rfl
                      have HWZ := Lib.hid (show wl l (k + 1) = wl l k ++ [⟨(k : Nat), (o : Nat), 0⟩] from HWLY.out (by rw [HWN.out, HSX.out]; simp [he]))
                      clear he h0q hq
                      have HBD := Lib.hid (show (wl l k).length < 80 by have := HWL.out; have := HK80.out; omega)
                      obtain ⟨wG, hwG⟩ : ∃ wG, wG = (wD.setCell ⟨w.heap.size + 1 + 1, o * 3 + 2, none⟩ (.int .i64 (hset pq))).setCell ⟨w.heap.size + 1 + 1, o * 3, none⟩ (.int .i64 3) := ⟨_, rfl⟩
                      have HRG := Lib.hid (show RgR w (upG f o ⟨3, (f o).th, pq⟩) (cmN l (k + 1)) u7 (wl l k) wG from by rw [hwG]; exact HRX3.out)
                      have HGW := Lib.hid hwG
                      clear hwG HRX3
                      have HOA := Lib.hid (own_alloc HRG.out.own (.cells (evv ⟨(k : Nat), (o : Nat), 0⟩) 40))
                      have HNW := Lib.hid (Box.news (l := evl ⟨(k : Nat), (o : Nat), 0⟩) (Box.new wG (evv ⟨(k : Nat), (o : Nat), 0⟩) 40))
                      have HSG := Lib.hid (show w.heap.size + 4 ≤ wG.heap.size by have := HRG.out.cs.lt; omega)
                      go_upto_region 23 with fail
                      rw [← HGW.out]
                      have HZQ := Lib.hid hq0
                      clear s0 s2 g0 g2 d0 hn1 hn2 fa hq0
                      go_wp2_with (first | (refine build1 31 _ rfl rfl 40 i0 Try.underlying31 J.out.1 J.out.2.1 J.out.2.2.1 ⟨(k : Nat), (o : Nat), 0⟩ rfl ?_) | (at_builtin; refine wpList_append_own_at _ rfl (.tmp 106) (.tmp 110) _ rfl (w.heap.size + 4) 40 i0 _ 3 24 Try.underlying31 J.out.1 J.out.2.1 J.out.2.2.1 J.out.2.2.2 rfl (by omega) _ (wl l k).length _ rfl HOA.out _ 1 1 (evl ⟨(k : Nat), (o : Nat), 0⟩) rfl rfl HNW.out (by simp [evl, Value.oneCell']) (by have := HBD.out; unfold maxLen; omega) (by have := HBD.out; omega) (by have := HSG.out; simp; omega) ?_; intro v8 w8 hown8 hg8 hn8 hat8))
                      refine ⟨⟨k + 1, HKX.out, by go_num, by rw [HGZ.out, HWZ.out]; exact HRG.out.add hown8 hg8⟩, by simp [intOf]; omega⟩
                    · have hq0 : (hset pq == 0) = false := by
                        rw [beq_eq_false_iff_ne]
                        exact fun h => he ((hset_emp pq).1 h)
                      have HWZ := Lib.hid (show wl l (k + 1) = wl l k from HWLN.out (by rw [HWN.out, HSX.out]; simp [he]))
                      clear he hq
                      go_wp2
                      go_roundw
                      case rel => exact ⟨k + 1, HKX.out, by go_num, by rw [HGZ.out, HWZ.out]; exact HRX3.out⟩
                      case measure => simp [intOf]; omega
                  · have bq : (q == 2) = false := by simp [hq]
                    have b3 : (((f o).st : Int) == 3) = false := by have := H3.out; simp; omega
                    have HSX := Lib.hid (show gdStep (f o) q t p = ⟨2, (f o).th, pq⟩ by rw [HST.out]; simp [hq])
                    have HGZ := Lib.hid (show gdT l (k + 1) = upG f o ⟨2, (f o).th, pq⟩ by rw [HGY.out, HSX.out])
                    have HRX2 := Lib.hid (HRF.out 2)
                    have HWZ := Lib.hid (show wl l (k + 1) = wl l k from HWLN.out (by rw [HWN.out, HSX.out]; rfl))
                    clear hq
                    go_wp2
                    go_roundw
                    case rel => exact ⟨k + 1, HKX.out, by go_num, by rw [HGZ.out, HWZ.out]; exact HRX2.out⟩
                    case measure => simp [intOf]; omega
              · have b1 : (((f o).st : Int) == 1) = false := by simp; omega
                have HST := Lib.hid (show gdStep (f o) q t p = ⟨if q = 2 ∨ (f o).st = 3 then 3 else 2, (f o).th, fun x => (f o).lk x && p x⟩ by
                  unfold gdStep; rw [if_neg hst0.out, if_neg (fun h => h1 h.1)])
                clear h1
                (refine region_bel (by kernel_rfl) (by kernel_rfl) ?_; (repeat (first | ((with_reducible refine BigFrame.wpQuiet_skip ?_ ?_); exact rfl; simp only [Act.put, Act.eval, List.setIfInBounds_toArray, List.set_cons_zero, List.set_cons_succ, Array.getD_eq_getD_getElem?, List.getElem?_toArray, List.getElem?_cons_zero, List.getElem?_cons_succ, Option.getD_some]) | (refine q_move _ rfl rfl ?_; simp only [Act.put, Act.eval, List.setIfInBounds_toArray, List.set_cons_zero, List.set_cons_succ, Array.getD_eq_getD_getElem?, List.getElem?_toArray, List.getElem?_cons_zero, List.getElem?_cons_succ, Option.getD_some]) | (refine q_assign _ rfl rfl ?_; simp only [Act.put, Act.eval, List.setIfInBounds_toArray, List.set_cons_zero, List.set_cons_succ, Array.getD_eq_getD_getElem?, List.getElem?_toArray, List.getElem?_cons_zero, List.getElem?_cons_succ, Option.getD_some]) | (refine q_any rfl ?_; apply Exists.intro; refine ⟨fun w hw => ?_, ?_⟩; (have fct0 := FG0.out w hw; have fct1 := FG1.out w hw; have fct2 := FE1.out w hw; go_simp; first | exact ⟨rfl, rfl⟩ | rfl); simp only [Act.put, Act.eval, List.setIfInBounds_toArray, List.set_cons_zero, List.set_cons_succ, Array.getD_eq_getD_getElem?, List.getElem?_toArray, List.getElem?_cons_zero, List.getElem?_cons_succ, Option.getD_some]))); refine wpQuiet_nil ?_; intro w2 hw2)
                have HW2 := Lib.hid hw2
                have HRD := Lib.hid (HRA.out.bel HW2.out)
                have HDD := Lib.hid (HW2.out.box HDA.out)
                clear hw2 b1
                generalize hwD : w2 = wD at *
                clear hwD
                have s0 := HRD.out.gs.cell (o * 3) (ns_get _ (by have := HO8.out; omega))
                have s2 := HRD.out.gs.cell (o * 3 + 2) (ns_get _ (by have := HO8.out; omega))
                have g0 := HRD.out.gs.frozen (o * 3)
                have g2 := HRD.out.gs.frozen (o * 3 + 2)
                rw [gG_0] at s0
                rw [gG_2, lkN_eq] at s2
                have d0 := HDD.out.cell 0 (v := .int .i64 q) rfl
                have hn1 : ¬ w.heap.size + 1 + 1 = wr.heap.size := by have := HLB.out; omega
                have hn2 : ¬ wr.heap.size = w.heap.size + 1 + 1 := fun h => hn1 h.symm
                have fa := gand_sets (f o).lk p
                have HPQ := Lib.hid (lkN_eq (fun x => (f o).lk x && p x))
                generalize hpq : (fun x => (f o).lk x && p x) = pq at *
                clear hpq
                have HRF := Lib.hid (fun (s : Nat) => show RgR w (upG f o ⟨s, (f o).th, pq⟩) (cmN l (k + 1)) u7 (wl l k) ((wD.setCell ⟨w.heap.size + 1 + 1, o * 3 + 2, none⟩ (.int .i64 (hset pq))).setCell ⟨w.heap.size + 1 + 1, o * 3, none⟩ (.int .i64 ((s : Nat) : Int))) from
                  HRD.out.gput ((chg_cell _ _ _).trans (chg_cell _ _ _)) (by
                    have h9 := (HRD.out.gs.set (o * 3 + 2) (.int .i64 ((lkN pq : Nat) : Int))).set (o * 3) (.int .i64 ((s : Nat) : Int))
                    rw [ns_set, ns_set, gG_upd, HPQ.out] at h9
                    exact h9))
                by_cases hq : q = 2
                · have bq : (q == 2) = true := by simp [hq]
                  have HSX := Lib.hid (show gdStep (f o) q t p = ⟨3, (f o).th, pq⟩ by rw [HST.out]; simp [hq])
                  have HGZ := Lib.hid (show gdT l (k + 1) = upG f o ⟨3, (f o).th, pq⟩ by rw [HGY.out, HSX.out])
                  have HRX3 := Lib.hid (HRF.out 3)
                  by_cases he : emp pq = true
                  · have h0q : hset pq = 0 := (hset_emp pq).2 he
                    have hq0 : (hset pq == 0) = true := by rw [h0q]; rfl
                    have HWZ := Lib.hid (show wl l (k + 1) = wl l k ++ [⟨(k : Nat), (o : Nat), 0⟩] from HWLY.out (by rw [HWN.out, HSX.out]; simp [he]))
                    clear he h0q hq
                    have HBD := Lib.hid (show (wl l k).length < 80 by have := HWL.out; have := HK80.out; omega)
                    obtain ⟨wG, hwG⟩ : ∃ wG, wG = (wD.setCell ⟨w.heap.size + 1 + 1, o * 3 + 2, none⟩ (.int .i64 (hset pq))).setCell ⟨w.heap.size + 1 + 1, o * 3, none⟩ (.int .i64 3) := ⟨_, rfl⟩
                    have HRG := Lib.hid (show RgR w (upG f o ⟨3, (f o).th, pq⟩) (cmN l (k + 1)) u7 (wl l k) wG from by rw [hwG]; exact HRX3.out)
                    have HGW := Lib.hid hwG
                    clear hwG HRX3
                    have HOA := Lib.hid (own_alloc HRG.out.own (.cells (evv ⟨(k : Nat), (o : Nat), 0⟩) 40))
                    have HNW := Lib.hid (Box.news (l := evl ⟨(k : Nat), (o : Nat), 0⟩) (Box.new wG (evv ⟨(k : Nat), (o : Nat), 0⟩) 40))
                    have HSG := Lib.hid (show w.heap.size + 4 ≤ wG.heap.size by have := HRG.out.cs.lt; omega)
                    go_upto_region 23 with fail
                    rw [← HGW.out]
                    have HZQ := Lib.hid hq0
                    clear s0 s2 g0 g2 d0 hn1 hn2 fa hq0
                    go_wp2_with (first | (refine build1 31 _ rfl rfl 40 i0 Try.underlying31 J.out.1 J.out.2.1 J.out.2.2.1 ⟨(k : Nat), (o : Nat), 0⟩ rfl ?_) | (at_builtin; refine wpList_append_own_at _ rfl (.tmp 106) (.tmp 110) _ rfl (w.heap.size + 4) 40 i0 _ 3 24 Try.underlying31 J.out.1 J.out.2.1 J.out.2.2.1 J.out.2.2.2 rfl (by omega) _ (wl l k).length _ rfl HOA.out _ 1 1 (evl ⟨(k : Nat), (o : Nat), 0⟩) rfl rfl HNW.out (by simp [evl, Value.oneCell']) (by have := HBD.out; unfold maxLen; omega) (by have := HBD.out; omega) (by have := HSG.out; simp; omega) ?_; intro v8 w8 hown8 hg8 hn8 hat8))
                    refine ⟨⟨k + 1, HKX.out, by go_num, by rw [HGZ.out, HWZ.out]; exact HRG.out.add hown8 hg8⟩, by simp [intOf]; omega⟩
                  · have hq0 : (hset pq == 0) = false := by
                      rw [beq_eq_false_iff_ne]
                      exact fun h => he ((hset_emp pq).1 h)
                    have HWZ := Lib.hid (show wl l (k + 1) = wl l k from HWLN.out (by rw [HWN.out, HSX.out]; simp [he]))
                    clear he hq
                    go_wp2
                    go_roundw
                    case rel => exact ⟨k + 1, HKX.out, by go_num, by rw [HGZ.out, HWZ.out]; exact HRX3.out⟩
                    case measure => simp [intOf]; omega
                · by_cases h3 : (f o).st = 3
                  · have bq : (q == 2) = false := by simp [hq]
                    have b3 : (((f o).st : Int) == 3) = true := by simp [h3]
                    have HSX := Lib.hid (show gdStep (f o) q t p = ⟨3, (f o).th, pq⟩ by rw [HST.out]; simp [hq, h3])
                    have HGZ := Lib.hid (show gdT l (k + 1) = upG f o ⟨3, (f o).th, pq⟩ by rw [HGY.out, HSX.out])
                    have HRX3 := Lib.hid (HRF.out 3)
                    by_cases he : emp pq = true
                    · have h0q : hset pq = 0 := (hset_emp pq).2 he
                      have hq0 : (hset pq == 0) = true := by rw [h0q]; rfl
                      have HWZ := Lib.hid (show wl l (k + 1) = wl l k ++ [⟨(k : Nat), (o : Nat), 0⟩] from HWLY.out (by rw [HWN.out, HSX.out]; simp [he]))
                      clear he h0q hq h3
                      have HBD := Lib.hid (show (wl l k).length < 80 by have := HWL.out; have := HK80.out; omega)
                      obtain ⟨wG, hwG⟩ : ∃ wG, wG = (wD.setCell ⟨w.heap.size + 1 + 1, o * 3 + 2, none⟩ (.int .i64 (hset pq))).setCell ⟨w.heap.size + 1 + 1, o * 3, none⟩ (.int .i64 3) := ⟨_, rfl⟩
                      have HRG := Lib.hid (show RgR w (upG f o ⟨3, (f o).th, pq⟩) (cmN l (k + 1)) u7 (wl l k) wG from by rw [hwG]; exact HRX3.out)
                      have HGW := Lib.hid hwG
                      clear hwG HRX3
                      have HOA := Lib.hid (own_alloc HRG.out.own (.cells (evv ⟨(k : Nat), (o : Nat), 0⟩) 40))
                      have HNW := Lib.hid (Box.news (l := evl ⟨(k : Nat), (o : Nat), 0⟩) (Box.new wG (evv ⟨(k : Nat), (o : Nat), 0⟩) 40))
                      have HSG := Lib.hid (show w.heap.size + 4 ≤ wG.heap.size by have := HRG.out.cs.lt; omega)
                      go_upto_region 23 with fail
                      rw [← HGW.out]
                      have HZQ := Lib.hid hq0
                      clear s0 s2 g0 g2 d0 hn1 hn2 fa hq0
                      go_wp2_with (first | (refine build1 31 _ rfl rfl 40 i0 Try.underlying31 J.out.1 J.out.2.1 J.out.2.2.1 ⟨(k : Nat), (o : Nat), 0⟩ rfl ?_) | (at_builtin; refine wpList_append_own_at _ rfl (.tmp 106) (.tmp 110) _ rfl (w.heap.size + 4) 40 i0 _ 3 24 Try.underlying31 J.out.1 J.out.2.1 J.out.2.2.1 J.out.2.2.2 rfl (by omega) _ (wl l k).length _ rfl HOA.out _ 1 1 (evl ⟨(k : Nat), (o : Nat), 0⟩) rfl rfl HNW.out (by simp [evl, Value.oneCell']) (by have := HBD.out; unfold maxLen; omega) (by have := HBD.out; omega) (by have := HSG.out; simp; omega) ?_; intro v8 w8 hown8 hg8 hn8 hat8))
                      refine ⟨⟨k + 1, HKX.out, by go_num, by rw [HGZ.out, HWZ.out]; exact HRG.out.add hown8 hg8⟩, by simp [intOf]; omega⟩
                    · have hq0 : (hset pq == 0) = false := by
                        rw [beq_eq_false_iff_ne]
                        exact fun h => he ((hset_emp pq).1 h)
                      have HWZ := Lib.hid (show wl l (k + 1) = wl l k from HWLN.out (by rw [HWN.out, HSX.out]; simp [he]))
                      clear he hq h3
                      go_wp2
                      go_roundw
                      case rel => exact ⟨k + 1, HKX.out, by go_num, by rw [HGZ.out, HWZ.out]; exact HRX3.out⟩
                      case measure => simp [intOf]; omega
                  · have bq : (q == 2) = false := by simp [hq]
                    have b3 : (((f o).st : Int) == 3) = false := by simp; omega
                    have HSX := Lib.hid (show gdStep (f o) q t p = ⟨2, (f o).th, pq⟩ by rw [HST.out]; simp [hq, h3])
                    have HGZ := Lib.hid (show gdT l (k + 1) = upG f o ⟨2, (f o).th, pq⟩ by rw [HGY.out, HSX.out])
                    have HRX2 := Lib.hid (HRF.out 2)
                    have HWZ := Lib.hid (show wl l (k + 1) = wl l k from HWLN.out (by rw [HWN.out, HSX.out]; rfl))
                    clear hq h3
                    go_wp2
                    go_roundw
                    case rel => exact ⟨k + 1, HKX.out, by go_num, by rw [HGZ.out, HWZ.out]; exact HRX2.out⟩
                    case measure => simp [intOf]; omega
        · obtain rfl : k = n := by omega
          have hlen : k = l.length := HL.out.1.symm
          have HLEN := Lib.hid hlen
          have hge : ¬ ((k : Int) < k) := by omega
          clear hkn hk hnc hn80 hlen
          go_wp2
          have HVG := Lib.hid (fun (w' : World) (h : Ks (fun b => b = w.heap.size + 1 + 1 ∨ b = w.heap.size + 1 + 1 + 1) wr w') => h.box (.inl rfl) HR.out.gs)
          have HVC := Lib.hid (fun (w' : World) (h : Ks (fun b => b = w.heap.size + 1 + 1 ∨ b = w.heap.size + 1 + 1 + 1) wr w') => h.box (.inr rfl) HR.out.cs)
          refine region_keepS (fun b => b = w.heap.size + 1 + 1 ∨ b = w.heap.size + 1 + 1 + 1) (by kernel_rfl) ?_
          (repeat (first | (refine wpS_go 0 (by simp only [List.getElem?_toArray, List.getElem?_cons_zero, List.getElem?_cons_succ] <;> rfl) (by decide +kernel) (by decide +kernel) (by kernel_rfl) (by rfl) (by exact fun _ _ _ _ h => h) ?_; apply Exists.intro; refine ⟨fun w1 h1 => ?_, ?_⟩; (first | exact g_move _ rfl | exact g_assign _ rfl | exact g_load _ _ rfl (TGz _) rfl (HVG.out w1 h1) | exact g_load _ _ rfl (TIz _) rfl (HVC.out w1 h1) | (go_simp; first | exact ⟨rfl, rfl⟩ | rfl)); simp only [Act.put, Act.eval, List.setIfInBounds_toArray, List.set_cons_zero, List.set_cons_succ, Array.getD_eq_getD_getElem?, List.getElem?_toArray, List.getElem?_cons_zero, List.getElem?_cons_succ, Option.getD_some]) | (refine wpS_go 1 (by simp only [List.getElem?_toArray, List.getElem?_cons_zero, List.getElem?_cons_succ] <;> rfl) (by decide +kernel) (by decide +kernel) (by kernel_rfl) (by rfl) (by exact fun _ _ _ _ h => h) ?_; apply Exists.intro; refine ⟨fun w1 h1 => ?_, ?_⟩; (first | exact g_move _ rfl | exact g_assign _ rfl | exact g_load _ _ rfl (TGz _) rfl (HVG.out w1 h1) | exact g_load _ _ rfl (TIz _) rfl (HVC.out w1 h1) | (go_simp; first | exact ⟨rfl, rfl⟩ | rfl)); simp only [Act.put, Act.eval, List.setIfInBounds_toArray, List.set_cons_zero, List.set_cons_succ, Array.getD_eq_getD_getElem?, List.getElem?_toArray, List.getElem?_cons_zero, List.getElem?_cons_succ, Option.getD_some]) | (refine wpS_go 2 (by simp only [List.getElem?_toArray, List.getElem?_cons_zero, List.getElem?_cons_succ] <;> rfl) (by decide +kernel) (by decide +kernel) (by kernel_rfl) (by rfl) (by exact fun _ _ _ _ h => h) ?_; apply Exists.intro; refine ⟨fun w1 h1 => ?_, ?_⟩; (first | exact g_move _ rfl | exact g_assign _ rfl | exact g_load _ _ rfl (TGz _) rfl (HVG.out w1 h1) | exact g_load _ _ rfl (TIz _) rfl (HVC.out w1 h1) | (go_simp; first | exact ⟨rfl, rfl⟩ | rfl)); simp only [Act.put, Act.eval, List.setIfInBounds_toArray, List.set_cons_zero, List.set_cons_succ, Array.getD_eq_getD_getElem?, List.getElem?_toArray, List.getElem?_cons_zero, List.getElem?_cons_succ, Option.getD_some]) | (refine wpS_skip 0 (by simp only [List.getElem?_toArray, List.getElem?_cons_zero, List.getElem?_cons_succ] <;> rfl) (by decide +kernel) (by decide +kernel) (by kernel_rfl) (by rfl) (by exact fun _ _ _ _ h => h) ?_; simp only [Act.put, Act.eval, List.setIfInBounds_toArray, List.set_cons_zero, List.set_cons_succ, Array.getD_eq_getD_getElem?, List.getElem?_toArray, List.getElem?_cons_zero, List.getElem?_cons_succ, Option.getD_some]) | (refine wpS_skip 1 (by simp only [List.getElem?_toArray, List.getElem?_cons_zero, List.getElem?_cons_succ] <;> rfl) (by decide +kernel) (by decide +kernel) (by kernel_rfl) (by rfl) (by exact fun _ _ _ _ h => h) ?_; simp only [Act.put, Act.eval, List.setIfInBounds_toArray, List.set_cons_zero, List.set_cons_succ, Array.getD_eq_getD_getElem?, List.getElem?_toArray, List.getElem?_cons_zero, List.getElem?_cons_succ, Option.getD_some]) | (refine wpS_skip 2 (by simp only [List.getElem?_toArray, List.getElem?_cons_zero, List.getElem?_cons_succ] <;> rfl) (by decide +kernel) (by decide +kernel) (by kernel_rfl) (by rfl) (by exact fun _ _ _ _ h => h) ?_; simp only [Act.put, Act.eval, List.setIfInBounds_toArray, List.set_cons_zero, List.set_cons_succ, Array.getD_eq_getD_getElem?, List.getElem?_toArray, List.getElem?_cons_zero, List.getElem?_cons_succ, Option.getD_some])))
          (refine wpS_one 3 (by decide +kernel) ?_; intro w6 hw6; refine op_wanted (by simp only [List.getElem?_toArray, List.getElem?_cons_zero, List.getElem?_cons_succ] <;> rfl) rfl ?_)
          have HR6 := Lib.hid (HR.out.bel hw6)
          clear hw6
          refine wp_storeB TGs _ _ rfl rfl (ns_size _ _) rfl HR6.out.r1 (ns_size _ _) (gns_all _ _) ?_
          refine ⟨Ks.setRow (by omega) _ _, ?_⟩
          simp only [Act.put, Act.eval, List.setIfInBounds_toArray, List.set_cons_zero, List.set_cons_succ, Array.getD_eq_getD_getElem?, List.getElem?_toArray, List.getElem?_cons_zero, List.getElem?_cons_succ, Option.getD_some]
          have HA7 := Lib.hid (HR6.out.r1.setRow (ns 24 (gG (gdT l k))))
          have HB7 := Lib.hid (HR6.out.r2.setRow_ne w.heap.size (ns 24 (gG (gdT l k))) (by omega))
          have HO7 := Lib.hid (HR6.out.own.kept (chg_setRow w6 w.heap.size (ns 24 (gG (gdT l k)))) (.inr fun e => by have := (own_lt HR6.out.own e).1; omega))
          have HE7 := Lib.hid (below_setRow' HR6.out.below w.heap.size (ns 24 (gG (gdT l k))) (Nat.le_refl _))
          generalize w6.setRow w.heap.size (ns 24 (gG (gdT l k))) = w7 at *
          (repeat (first | (refine wpS_go 4 (by simp only [List.getElem?_toArray, List.getElem?_cons_zero, List.getElem?_cons_succ] <;> rfl) (by decide +kernel) (by decide +kernel) (by kernel_rfl) (by rfl) (by exact fun _ _ _ _ h => h) ?_; apply Exists.intro; refine ⟨fun w1 h1 => ?_, ?_⟩; (first | exact g_move _ rfl | exact g_assign _ rfl | (go_simp; first | exact ⟨rfl, rfl⟩ | rfl)); simp only [Act.put, Act.eval, List.setIfInBounds_toArray, List.set_cons_zero, List.set_cons_succ, Array.getD_eq_getD_getElem?, List.getElem?_toArray, List.getElem?_cons_zero, List.getElem?_cons_succ, Option.getD_some]) | (refine wpS_skip 4 (by simp only [List.getElem?_toArray, List.getElem?_cons_zero, List.getElem?_cons_succ] <;> rfl) (by decide +kernel) (by decide +kernel) (by kernel_rfl) (by rfl) (by exact fun _ _ _ _ h => h) ?_; simp only [Act.put, Act.eval, List.setIfInBounds_toArray, List.set_cons_zero, List.set_cons_succ, Array.getD_eq_getD_getElem?, List.getElem?_toArray, List.getElem?_cons_zero, List.getElem?_cons_succ, Option.getD_some])))
          (refine wpS_one 5 (by decide +kernel) ?_; intro w8 hw8; refine op_wanted (by simp only [List.getElem?_toArray, List.getElem?_cons_zero, List.getElem?_cons_succ] <;> rfl) rfl ?_)
          have HA8 := Lib.hid ((hw8.box HA7.out).setRow_ne (w.heap.size + 1) (ns 8 (cmN l k)) (by omega))
          have HB8 := Lib.hid (hw8.box HB7.out)
          have HO8 := Lib.hid ((own_bel HO7.out hw8).kept (chg_setRow w8 (w.heap.size + 1) (ns 8 (cmN l k))) (.inr fun e => by have := (own_lt HO7.out e).1; omega))
          have HE8 := Lib.hid (below_setRow' (HE7.out.trans (hw8.out.mono HE7.out.size)) (w.heap.size + 1) (ns 8 (cmN l k)) (by omega))
          clear hw8
          refine wp_storeB TI8 _ _ rfl rfl (ns_size _ _) rfl HB8.out (ns_size _ _) (gns_all _ _) ?_
          refine ⟨Ks.setRow (by omega) _ _, ?_⟩
          simp only [Act.put, Act.eval, List.setIfInBounds_toArray, List.set_cons_zero, List.set_cons_succ, Array.getD_eq_getD_getElem?, List.getElem?_toArray, List.getElem?_cons_zero, List.getElem?_cons_succ, Option.getD_some]
          have HB9 := Lib.hid (HB8.out.setRow (ns 8 (cmN l k)))
          generalize w8.setRow (w.heap.size + 1) (ns 8 (cmN l k)) = w9 at *
          (refine wpS_done (by decide +kernel) ?_ _; intro w10 hw10; try simp only [Act.put, Act.eval, List.setIfInBounds_toArray, List.set_cons_zero, List.set_cons_succ, Array.getD_eq_getD_getElem?, List.getElem?_toArray, List.getElem?_cons_zero, List.getElem?_cons_succ, Option.getD_some])
          have HA10 := Lib.hid (hw10.box HA8.out)
          have HB10 := Lib.hid (hw10.box HB9.out)
          have HO10 := Lib.hid (own_bel HO8.out hw10)
          have HE10 := Lib.hid (HE8.out.trans (hw10.out.mono HE8.out.size))
          clear hw10
          go_wp2
          refine bodyPost_ret (results_ctc Try.results14 rfl rfl HA10.out (TGz _) HB10.out (TIz _)) rfl ⟨u7, ?_, ?_, HE10.out⟩
          · rw [← HLEN.out]; rfl
          · rw [← HLEN.out]; exact own_drop_alloc HO10.out (Nat.le_add_right _ _)
end Go.Proofs.Ytlifmedkadjdcaa

/- Contracts of package full: Run, Last. -/
import Derived.Test.YtnjaeampnakbbaaFull10
import Derived.Test.YtnjaeampnakbbaaAppend
import Derived.Deep.DeepCutAuto
set_option linter.all false
set_option maxRecDepth 100000
namespace Go.Proofs.Ytnjaeampnakbbaa
open Go Go.RowKit

def RunPost (w : World) (l : List Ev) (e : Ending) (w' : World) : Prop :=
  ∃ v, e = .returned (.tuple #[v, .int .i64 (may l)]) ∧ w'.ownsRow w.heap.size 35 3 v (flags l).length (evc (flags l)) ∧ Below w.heap.size w w'
set_option maxHeartbeats 4000000 in
theorem run_any (A : Option Addr) (n c : Nat) (l : List Ev) (w : World) (hl : Sl w A n l) : Calls Try.prog 17 #[.slice A n c] w (RunPost w l) := by
  have HL := Lib.hid hl
  clear hl
  go_enter Try.func17, Try.ntmps17
  go_wp2_with fail
  refine (detect_any A n c l _ HL.out).mono ?_
  rintro e w1 ⟨v, rfl, hown, hb⟩
  have HO := Lib.hid hown
  have HB := Lib.hid hb
  clear hown hb
  have hbn := Box.new w1 (ns 96 fun _ => 0) 61
  go_wp2_with (refine storeB _ _ _ rfl rfl rfl rfl hbn (by rw [ns_size, ns_size]) (TVz _) (ns_all _ _) ?_)
  go_ret2
  exact ⟨_, rfl, (own_alloc HO.out (.cells (ns 96 fun _ => 0) 61)).kept (chg_setRow _ _ _) (.inr fun e => by have := (own_lt HO.out e).2; omega), below_setRow' (HB.out.alloc HB.out.size _) _ _ HB.out.size⟩
theorem results_cct {P : Program} {w : World} {fn : Func} {p q r : Tmp} {ty u : TypeId} (h : fn.results = #[.cell p ty, .cell q u, .tmp r]) {tmps : Array Value} {B C : Nat} {c d : Array Value} {t s : TypeId} (hp : tmps.getD p undef = .pointer (some ⟨B, 0, none⟩)) (hq : tmps.getD q undef = .pointer (some ⟨C, 0, none⟩)) (hb : Box w B c t) (hT : RowTy P ty c.size) (hd : Box w C d s) (hU : RowTy P u d.size) :
    (results fn tmps).run P w = .ok (.tuple #[.agg c, .agg d, tmps.getD r undef]) w := by
  obtain ⟨d1, hu1, hd1, hi1⟩ := hT
  obtain ⟨d2, hu2, hd2, hi2⟩ := hU
  have hp' : tmps[p]?.getD undef = .pointer (some ⟨B, 0, none⟩) := by rw [← Array.getD_eq_getD_getElem?]; exact hp
  have hq' : tmps[q]?.getD undef = .pointer (some ⟨C, 0, none⟩) := by rw [← Array.getD_eq_getD_getElem?]; exact hq
  simp [results, h, hp', hq', asAddr, Sem.run_pure, Result.andThen_ok, run_loadVar_row w B t ty c (0, 0) d1 hb hu1 (by cases d1 <;> simp_all [TypeDesc.isRow]) hi1, run_loadVar_row w C s u d (0, 0) d2 hd hu2 (by cases d2 <;> simp_all [TypeDesc.isRow]) hi2, Sem.run_bind]
/-- What Last returns. -/
def lastR (l : List Ev) (q : Int) (x : Int) : Nat → Nat := if may l = 0 ∧ 0 ≤ x ∧ x < 8 then rwF l q l.length x.toNat else fun _ => 0
def lastE (l : List Ev) (x : Int) : Int := if may l = 0 then (if 0 ≤ x ∧ x < 8 then 0 else 1) else may l
def LastPost (w : World) (l : List Ev) (x : Int) (e : Ending) (w' : World) : Prop :=
  e = .returned (.tuple #[.agg (clk (ck (lastR l 1 x))), .agg (clk (ck (lastR l 2 x))), .int .i64 (lastE l x)]) ∧ Below w.heap.size w w'
theorem zck : clk (ck fun _ => 0) = #[.int .i64 0, .int .i64 0, .int .i64 0, .int .i64 0, .int .i64 0, .int .i64 0] := rfl
set_option maxHeartbeats 8000000 in
theorem last_any (A : Option Addr) (n c : Nat) (l : List Ev) (x : Int) (w : World) (hl : Sl w A n l) : Calls Try.prog 22 #[.slice A n c, .int .i64 x] w (LastPost w l x) := by
  obtain ⟨b1, b2, hB, hs⟩ := boxes2 w #[.int .i64 0, .int .i64 0, .int .i64 0, .int .i64 0, .int .i64 0, .int .i64 0] #[.int .i64 0, .int .i64 0, .int .i64 0, .int .i64 0, .int .i64 0, .int .i64 0] 30 30
  have HL := Lib.hid (hl.bel (Bel.of hB))
  have HB := Lib.hid hB
  have HB1 := Lib.hid b1
  have HB2 := Lib.hid b2
  clear hl hs hB b1 b2
  generalize hW : ((w.alloc (.cells #[.int .i64 0, .int .i64 0, .int .i64 0, .int .i64 0, .int .i64 0, .int .i64 0] 30)).alloc (.cells #[.int .i64 0, .int .i64 0, .int .i64 0, .int .i64 0, .int .i64 0, .int .i64 0] 30)) = W at *
  have HW := Lib.hid hW
  clear hW
  go_enter Try.func22, Try.ntmps22
  go_wp2_with fail
  rw [HW.out]
  refine (detect_any A n c l _ HL.out).mono ?_
  rintro e w1 ⟨v, rfl, hown, hb⟩
  have HX := Lib.hid (Bel.of hb)
  clear hown hb
  have hbn := Box.new w1 (ns 96 fun _ => 0) 61
  have HBV := Lib.hid (hbn.setRow (ns 96 (vF l)))
  have HG := Lib.hid (below_setRow' (((Bel.of HB.out).trans HX.out).alloc (.cells (ns 96 fun _ => 0) 61)).out w1.heap.size (ns 96 (vF l)) ((Bel.of HB.out).trans HX.out).size)
  have HNE := Lib.hid (show w.heap.size + 1 < w1.heap.size from (HX.out.box HB2.out).lt)
  have HC1 := Lib.hid (((HX.out.box HB1.out).old (.cells (ns 96 fun _ => 0) 61)).setRow_ne w1.heap.size (ns 96 (vF l)) (by have := HNE.out; omega))
  have HC2 := Lib.hid (((HX.out.box HB2.out).old (.cells (ns 96 fun _ => 0) 61)).setRow_ne w1.heap.size (ns 96 (vF l)) (by have := HNE.out; omega))
  go_upto_region 2 with (refine storeB _ _ _ rfl rfl rfl rfl hbn (by rw [ns_size, ns_size]) (TVz _) (ns_all _ _) ?_)
  change Code.wp _ _ _ _ ((w1.alloc (.cells (ns 96 fun _ => 0) 61)).setRow w1.heap.size (ns 96 (vF l)))
  generalize ((w1.alloc (.cells (ns 96 fun _ => 0) 61)).setRow w1.heap.size (ns 96 (vF l))) = w2 at *
  generalize w1.heap.size = V at *
  clear hbn
  by_cases hm : may l = 0
  · have hm' : (may l != 0) = false := by simp [hm]
    by_cases hx : 0 ≤ x ∧ x < 8
    · obtain ⟨x, rfl⟩ := Int.eq_ofNat_of_zero_le hx.1
      have hx8 : x < 8 := by omega
      have hx8' : (x : Int) < 8 := hx.2
      have hx0 : (0 : Int) ≤ (x : Int) := hx.1
      have HR := Lib.hid (show ∀ q, lastR l q (x : Int) = rwF l q l.length x from fun q => by unfold lastR; rw [if_pos ⟨hm, hx⟩]; rfl)
      have HE := Lib.hid (show lastE l (x : Int) = 0 by unfold lastE; rw [if_pos hm, if_pos hx])
      have HVF := Lib.hid (show vF l = gV (rwF l 1 l.length) (rwF l 2 l.length) by unfold vF; rw [if_pos hm])
      have hbv := HBV.out
      rw [HVF.out] at hbv
      have HR1 := Lib.hid (fun (w' : World) (h : Kp V w2 w') => ns_row (h.box hbv) (o := x * 12) (by omega) (c := rwF l 1 l.length x) (fun u hu => gV_R _ _ hu))
      have HR2 := Lib.hid (fun (w' : World) (h : Kp V w2 w') => ns_row (h.box hbv) (o := x * 12 + 6) (by omega) (c := rwF l 2 l.length x) (fun u hu => gV_W _ _ hu))
      clear hbv hx hm
      go_wp2
      refine region_keep V (by kernel_rfl) ?_
      (repeat (first | (refine wpK_go 0 (by simp only [List.getElem?_toArray, List.getElem?_cons_zero, List.getElem?_cons_succ] <;> rfl) (by decide +kernel) (by decide +kernel) (by kernel_rfl) (by rfl) (by exact fun _ _ _ _ h => h) ?_; apply Exists.intro; refine ⟨fun w1 h1 => ?_, ?_⟩; (first | exact g_move _ rfl | exact g_assign _ rfl | exact g_load_mid _ _ rfl rfl (HR1.out w1 h1) ty28 (clk (ck (rwF l 1 l.length x))) rfl | exact g_load_mid _ _ rfl rfl (HR2.out w1 h1) ty28 (clk (ck (rwF l 2 l.length x))) rfl | (go_simp; first | exact ⟨rfl, rfl⟩ | rfl)); simp only [Act.put, Act.eval, List.setIfInBounds_toArray, List.set_cons_zero, List.set_cons_succ, Array.getD_eq_getD_getElem?, List.getElem?_toArray, List.getElem?_cons_zero, List.getElem?_cons_succ, Option.getD_some]) | (refine wpK_go 1 (by simp only [List.getElem?_toArray, List.getElem?_cons_zero, List.getElem?_cons_succ] <;> rfl) (by decide +kernel) (by decide +kernel) (by kernel_rfl) (by rfl) (by exact fun _ _ _ _ h => h) ?_; apply Exists.intro; refine ⟨fun w1 h1 => ?_, ?_⟩; (first | exact g_move _ rfl | exact g_assign _ rfl | exact g_load_mid _ _ rfl rfl (HR1.out w1 h1) ty28 (clk (ck (rwF l 1 l.length x))) rfl | exact g_load_mid _ _ rfl rfl (HR2.out w1 h1) ty28 (clk (ck (rwF l 2 l.length x))) rfl | (go_simp; first | exact ⟨rfl, rfl⟩ | rfl)); simp only [Act.put, Act.eval, List.setIfInBounds_toArray, List.set_cons_zero, List.set_cons_succ, Array.getD_eq_getD_getElem?, List.getElem?_toArray, List.getElem?_cons_zero, List.getElem?_cons_succ, Option.getD_some]) | (refine wpK_go 2 (by simp only [List.getElem?_toArray, List.getElem?_cons_zero, List.getElem?_cons_succ] <;> rfl) (by decide +kernel) (by decide +kernel) (by kernel_rfl) (by rfl) (by exact fun _ _ _ _ h => h) ?_; apply Exists.intro; refine ⟨fun w1 h1 => ?_, ?_⟩; (first | exact g_move _ rfl | exact g_assign _ rfl | exact g_load_mid _ _ rfl rfl (HR1.out w1 h1) ty28 (clk (ck (rwF l 1 l.length x))) rfl | exact g_load_mid _ _ rfl rfl (HR2.out w1 h1) ty28 (clk (ck (rwF l 2 l.length x))) rfl | (go_simp; first | exact ⟨rfl, rfl⟩ | rfl)); simp only [Act.put, Act.eval, List.setIfInBounds_toArray, List.set_cons_zero, List.set_cons_succ, Array.getD_eq_getD_getElem?, List.getElem?_toArray, List.getElem?_cons_zero, List.getElem?_cons_succ, Option.getD_some]) | (refine wpK_go 3 (by simp only [List.getElem?_toArray, List.getElem?_cons_zero, List.getElem?_cons_succ] <;> rfl) (by decide +kernel) (by decide +kernel) (by kernel_rfl) (by rfl) (by exact fun _ _ _ _ h => h) ?_; apply Exists.intro; refine ⟨fun w1 h1 => ?_, ?_⟩; (first | exact g_move _ rfl | exact g_assign _ rfl | exact g_load_mid _ _ rfl rfl (HR1.out w1 h1) ty28 (clk (ck (rwF l 1 l.length x))) rfl | exact g_load_mid _ _ rfl rfl (HR2.out w1 h1) ty28 (clk (ck (rwF l 2 l.length x))) rfl | (go_simp; first | exact ⟨rfl, rfl⟩ | rfl)); simp only [Act.put, Act.eval, List.setIfInBounds_toArray, List.set_cons_zero, List.set_cons_succ, Array.getD_eq_getD_getElem?, List.getElem?_toArray, List.getElem?_cons_zero, List.getElem?_cons_succ, Option.getD_some]) | (refine wpK_go 4 (by simp only [List.getElem?_toArray, List.getElem?_cons_zero, List.getElem?_cons_succ] <;> rfl) (by decide +kernel) (by decide +kernel) (by kernel_rfl) (by rfl) (by exact fun _ _ _ _ h => h) ?_; apply Exists.intro; refine ⟨fun w1 h1 => ?_, ?_⟩; (first | exact g_move _ rfl | exact g_assign _ rfl | exact g_load_mid _ _ rfl rfl (HR1.out w1 h1) ty28 (clk (ck (rwF l 1 l.length x))) rfl | exact g_load_mid _ _ rfl rfl (HR2.out w1 h1) ty28 (clk (ck (rwF l 2 l.length x))) rfl | (go_simp; first | exact ⟨rfl, rfl⟩ | rfl)); simp only [Act.put, Act.eval, List.setIfInBounds_toArray, List.set_cons_zero, List.set_cons_succ, Array.getD_eq_getD_getElem?, List.getElem?_toArray, List.getElem?_cons_zero, List.getElem?_cons_succ, Option.getD_some]) | (refine wpK_go 5 (by simp only [List.getElem?_toArray, List.getElem?_cons_zero, List.getElem?_cons_succ] <;> rfl) (by decide +kernel) (by decide +kernel) (by kernel_rfl) (by rfl) (by exact fun _ _ _ _ h => h) ?_; apply Exists.intro; refine ⟨fun w1 h1 => ?_, ?_⟩; (first | exact g_move _ rfl | exact g_assign _ rfl | exact g_load_mid _ _ rfl rfl (HR1.out w1 h1) ty28 (clk (ck (rwF l 1 l.length x))) rfl | exact g_load_mid _ _ rfl rfl (HR2.out w1 h1) ty28 (clk (ck (rwF l 2 l.length x))) rfl | (go_simp; first | exact ⟨rfl, rfl⟩ | rfl)); simp only [Act.put, Act.eval, List.setIfInBounds_toArray, List.set_cons_zero, List.set_cons_succ, Array.getD_eq_getD_getElem?, List.getElem?_toArray, List.getElem?_cons_zero, List.getElem?_cons_succ, Option.getD_some]) | (refine wpK_go 6 (by simp only [List.getElem?_toArray, List.getElem?_cons_zero, List.getElem?_cons_succ] <;> rfl) (by decide +kernel) (by decide +kernel) (by kernel_rfl) (by rfl) (by exact fun _ _ _ _ h => h) ?_; apply Exists.intro; refine ⟨fun w1 h1 => ?_, ?_⟩; (first | exact g_move _ rfl | exact g_assign _ rfl | exact g_load_mid _ _ rfl rfl (HR1.out w1 h1) ty28 (clk (ck (rwF l 1 l.length x))) rfl | exact g_load_mid _ _ rfl rfl (HR2.out w1 h1) ty28 (clk (ck (rwF l 2 l.length x))) rfl | (go_simp; first | exact ⟨rfl, rfl⟩ | rfl)); simp only [Act.put, Act.eval, List.setIfInBounds_toArray, List.set_cons_zero, List.set_cons_succ, Array.getD_eq_getD_getElem?, List.getElem?_toArray, List.getElem?_cons_zero, List.getElem?_cons_succ, Option.getD_some]) | (refine wpK_go 7 (by simp only [List.getElem?_toArray, List.getElem?_cons_zero, List.getElem?_cons_succ] <;> rfl) (by decide +kernel) (by decide +kernel) (by kernel_rfl) (by rfl) (by exact fun _ _ _ _ h => h) ?_; apply Exists.intro; refine ⟨fun w1 h1 => ?_, ?_⟩; (first | exact g_move _ rfl | exact g_assign _ rfl | exact g_load_mid _ _ rfl rfl (HR1.out w1 h1) ty28 (clk (ck (rwF l 1 l.length x))) rfl | exact g_load_mid _ _ rfl rfl (HR2.out w1 h1) ty28 (clk (ck (rwF l 2 l.length x))) rfl | (go_simp; first | exact ⟨rfl, rfl⟩ | rfl)); simp only [Act.put, Act.eval, List.setIfInBounds_toArray, List.set_cons_zero, List.set_cons_succ, Array.getD_eq_getD_getElem?, List.getElem?_toArray, List.getElem?_cons_zero, List.getElem?_cons_succ, Option.getD_some]) | (refine wpK_go 10 (by simp only [List.getElem?_toArray, List.getElem?_cons_zero, List.getElem?_cons_succ] <;> rfl) (by decide +kernel) (by decide +kernel) (by kernel_rfl) (by rfl) (by exact fun _ _ _ _ h => h) ?_; apply Exists.intro; refine ⟨fun w1 h1 => ?_, ?_⟩; (first | exact g_move _ rfl | exact g_assign _ rfl | exact g_load_mid _ _ rfl rfl (HR1.out w1 h1) ty28 (clk (ck (rwF l 1 l.length x))) rfl | exact g_load_mid _ _ rfl rfl (HR2.out w1 h1) ty28 (clk (ck (rwF l 2 l.length x))) rfl | (go_simp; first | exact ⟨rfl, rfl⟩ | rfl)); simp only [Act.put, Act.eval, List.setIfInBounds_toArray, List.set_cons_zero, List.set_cons_succ, Array.getD_eq_getD_getElem?, List.getElem?_toArray, List.getElem?_cons_zero, List.getElem?_cons_succ, Option.getD_some]) | (refine wpK_skip 0 (by simp only [List.getElem?_toArray, List.getElem?_cons_zero, List.getElem?_cons_succ] <;> rfl) (by decide +kernel) (by decide +kernel) (by kernel_rfl) (by rfl) (by exact fun _ _ _ _ h => h) ?_; simp only [Act.put, Act.eval, List.setIfInBounds_toArray, List.set_cons_zero, List.set_cons_succ, Array.getD_eq_getD_getElem?, List.getElem?_toArray, List.getElem?_cons_zero, List.getElem?_cons_succ, Option.getD_some]) | (refine wpK_skip 1 (by simp only [List.getElem?_toArray, List.getElem?_cons_zero, List.getElem?_cons_succ] <;> rfl) (by decide +kernel) (by decide +kernel) (by kernel_rfl) (by rfl) (by exact fun _ _ _ _ h => h) ?_; simp only [Act.put, Act.eval, List.setIfInBounds_toArray, List.set_cons_zero, List.set_cons_succ, Array.getD_eq_getD_getElem?, List.getElem?_toArray, List.getElem?_cons_zero, List.getElem?_cons_succ, Option.getD_some]) | (refine wpK_skip 2 (by simp only [List.getElem?_toArray, List.getElem?_cons_zero, List.getElem?_cons_succ] <;> rfl) (by decide +kernel) (by decide +kernel) (by kernel_rfl) (by rfl) (by exact fun _ _ _ _ h => h) ?_; simp only [Act.put, Act.eval, List.setIfInBounds_toArray, List.set_cons_zero, List.set_cons_succ, Array.getD_eq_getD_getElem?, List.getElem?_toArray, List.getElem?_cons_zero, List.getElem?_cons_succ, Option.getD_some]) | (refine wpK_skip 3 (by simp only [List.getElem?_toArray, List.getElem?_cons_zero, List.getElem?_cons_succ] <;> rfl) (by decide +kernel) (by decide +kernel) (by kernel_rfl) (by rfl) (by exact fun _ _ _ _ h => h) ?_; simp only [Act.put, Act.eval, List.setIfInBounds_toArray, List.set_cons_zero, List.set_cons_succ, Array.getD_eq_getD_getElem?, List.getElem?_toArray, List.getElem?_cons_zero, List.getElem?_cons_succ, Option.getD_some]) | (refine wpK_skip 4 (by simp only [List.getElem?_toArray, List.getElem?_cons_zero, List.getElem?_cons_succ] <;> rfl) (by decide +kernel) (by decide +kernel) (by kernel_rfl) (by rfl) (by exact fun _ _ _ _ h => h) ?_; simp only [Act.put, Act.eval, List.setIfInBounds_toArray, List.set_cons_zero, List.set_cons_succ, Array.getD_eq_getD_getElem?, List.getElem?_toArray, List.getElem?_cons_zero, List.getElem?_cons_succ, Option.getD_some]) | (refine wpK_skip 5 (by simp only [List.getElem?_toArray, List.getElem?_cons_zero, List.getElem?_cons_succ] <;> rfl) (by decide +kernel) (by decide +kernel) (by kernel_rfl) (by rfl) (by exact fun _ _ _ _ h => h) ?_; simp only [Act.put, Act.eval, List.setIfInBounds_toArray, List.set_cons_zero, List.set_cons_succ, Array.getD_eq_getD_getElem?, List.getElem?_toArray, List.getElem?_cons_zero, List.getElem?_cons_succ, Option.getD_some]) | (refine wpK_skip 6 (by simp only [List.getElem?_toArray, List.getElem?_cons_zero, List.getElem?_cons_succ] <;> rfl) (by decide +kernel) (by decide +kernel) (by kernel_rfl) (by rfl) (by exact fun _ _ _ _ h => h) ?_; simp only [Act.put, Act.eval, List.setIfInBounds_toArray, List.set_cons_zero, List.set_cons_succ, Array.getD_eq_getD_getElem?, List.getElem?_toArray, List.getElem?_cons_zero, List.getElem?_cons_succ, Option.getD_some]) | (refine wpK_skip 7 (by simp only [List.getElem?_toArray, List.getElem?_cons_zero, List.getElem?_cons_succ] <;> rfl) (by decide +kernel) (by decide +kernel) (by kernel_rfl) (by rfl) (by exact fun _ _ _ _ h => h) ?_; simp only [Act.put, Act.eval, List.setIfInBounds_toArray, List.set_cons_zero, List.set_cons_succ, Array.getD_eq_getD_getElem?, List.getElem?_toArray, List.getElem?_cons_zero, List.getElem?_cons_succ, Option.getD_some]) | (refine wpK_skip 10 (by simp only [List.getElem?_toArray, List.getElem?_cons_zero, List.getElem?_cons_succ] <;> rfl) (by decide +kernel) (by decide +kernel) (by kernel_rfl) (by rfl) (by exact fun _ _ _ _ h => h) ?_; simp only [Act.put, Act.eval, List.setIfInBounds_toArray, List.set_cons_zero, List.set_cons_succ, Array.getD_eq_getD_getElem?, List.getElem?_toArray, List.getElem?_cons_zero, List.getElem?_cons_succ, Option.getD_some])))
      (refine wpK_one 8 (by decide +kernel) ?_; intro w4 hw4; refine op_wanted (by simp only [List.getElem?_toArray, List.getElem?_cons_zero, List.getElem?_cons_succ] <;> rfl) rfl ?_)
      have HB4 := Lib.hid ((Bel.of HG.out).trans hw4)
      have HC14 := Lib.hid (hw4.box HC1.out)
      have HC24 := Lib.hid ((hw4.box HC2.out).setRow_ne w.heap.size (clk (ck (rwF l 1 l.length x))) (by omega))
      clear hw4
      refine wp_storeB ty28 _ _ rfl rfl rfl rfl HC14.out rfl (clk_all _) ?_
      refine ⟨kp_setRow (by have := HNE.out; omega) _ _, ?_⟩
      simp only [Act.put, Act.eval, List.setIfInBounds_toArray, List.set_cons_zero, List.set_cons_succ, Array.getD_eq_getD_getElem?, List.getElem?_toArray, List.getElem?_cons_zero, List.getElem?_cons_succ, Option.getD_some]
      (refine wpK_one 9 (by decide +kernel) ?_; intro w5 hw5; refine op_wanted (by simp only [List.getElem?_toArray, List.getElem?_cons_zero, List.getElem?_cons_succ] <;> rfl) rfl ?_)
      have HC15 := Lib.hid ((hw5.box (HC14.out.setRow (clk (ck (rwF l 1 l.length x))))).setRow_ne (w.heap.size + 1) (clk (ck (rwF l 2 l.length x))) (by omega))
      have HC25 := Lib.hid (hw5.box HC24.out)
      have HB5 := Lib.hid ((Bel.of (below_setRow' HB4.out.out w.heap.size (clk (ck (rwF l 1 l.length x))) (Nat.le_refl _))).trans hw5)
      clear hw5
      refine wp_storeB ty28 _ _ rfl rfl rfl rfl HC25.out rfl (clk_all _) ?_
      refine ⟨kp_setRow (by have := HNE.out; omega) _ _, ?_⟩
      simp only [Act.put, Act.eval, List.setIfInBounds_toArray, List.set_cons_zero, List.set_cons_succ, Array.getD_eq_getD_getElem?, List.getElem?_toArray, List.getElem?_cons_zero, List.getElem?_cons_succ, Option.getD_some]
      (repeat (first | (refine wpK_go 10 (by simp only [List.getElem?_toArray, List.getElem?_cons_zero, List.getElem?_cons_succ] <;> rfl) (by decide +kernel) (by decide +kernel) (by kernel_rfl) (by rfl) (by exact fun _ _ _ _ h => h) ?_; apply Exists.intro; refine ⟨fun w1 h1 => ?_, ?_⟩; (first | exact g_move _ rfl | exact g_assign _ rfl | (go_simp; first | exact ⟨rfl, rfl⟩ | rfl)); simp only [Act.put, Act.eval, List.setIfInBounds_toArray, List.set_cons_zero, List.set_cons_succ, Array.getD_eq_getD_getElem?, List.getElem?_toArray, List.getElem?_cons_zero, List.getElem?_cons_succ, Option.getD_some]) | (refine wpK_skip 10 (by simp only [List.getElem?_toArray, List.getElem?_cons_zero, List.getElem?_cons_succ] <;> rfl) (by decide +kernel) (by decide +kernel) (by kernel_rfl) (by rfl) (by exact fun _ _ _ _ h => h) ?_; simp only [Act.put, Act.eval, List.setIfInBounds_toArray, List.set_cons_zero, List.set_cons_succ, Array.getD_eq_getD_getElem?, List.getElem?_toArray, List.getElem?_cons_zero, List.getElem?_cons_succ, Option.getD_some])))
      (refine wpK_done (by decide +kernel) ?_ _; intro w6 hw6; try simp only [Act.put, Act.eval, List.setIfInBounds_toArray, List.set_cons_zero, List.set_cons_succ, Array.getD_eq_getD_getElem?, List.getElem?_toArray, List.getElem?_cons_zero, List.getElem?_cons_succ, Option.getD_some])
      have HC16 := Lib.hid (hw6.box HC15.out)
      have HC26 := Lib.hid (hw6.box (HC25.out.setRow (clk (ck (rwF l 2 l.length x)))))
      have HB6 := Lib.hid ((Bel.of (below_setRow' HB5.out.out (w.heap.size + 1) (clk (ck (rwF l 2 l.length x))) (by omega))).trans hw6)
      clear hw6
      go_wp2
      refine bodyPost_ret (results_cct Try.results22 rfl rfl HC16.out ty28 HC26.out ty28) rfl ⟨?_, HB6.out.out⟩
      rw [HR.out, HR.out, HE.out]; rfl
    · have HR := Lib.hid (show ∀ q, lastR l q x = fun _ => 0 from fun q => by unfold lastR; rw [if_neg (fun h => hx h.2)])
      have HE := Lib.hid (show lastE l x = 1 by unfold lastE; rw [if_pos hm, if_neg hx])
      by_cases h0 : x < 0
      · have bx1 := HC1.out
        have bx2 := HC2.out
        have bx2' := bx2.setRow_ne w.heap.size #[.int .i64 0, .int .i64 0, .int .i64 0, .int .i64 0, .int .i64 0, .int .i64 0] (by omega)
        clear hm hx
        go_wp2_with (first | (refine storeB _ _ _ rfl rfl rfl rfl bx1 rfl ty28 z_all ?_) | (refine storeB _ _ _ rfl rfl rfl rfl bx2' rfl ty28 z_all ?_))
        refine bodyPost_ret (results_cct Try.results22 rfl rfl ((bx1.setRow #[.int .i64 0, .int .i64 0, .int .i64 0, .int .i64 0, .int .i64 0, .int .i64 0]).setRow_ne _ _ (by omega)) ty28 (bx2'.setRow #[.int .i64 0, .int .i64 0, .int .i64 0, .int .i64 0, .int .i64 0, .int .i64 0]) ty28) rfl ⟨?_, ?_⟩
        · rw [HR.out, HR.out, HE.out]; rfl
        · exact below_setRow' (below_setRow' HG.out _ _ (Nat.le_refl _)) _ _ (by omega)
      · have h8 : (8 : Int) ≤ x := by omega
        have h0' : (0 : Int) ≤ x := by omega
        have bx1 := HC1.out
        have bx2 := HC2.out
        have bx2' := bx2.setRow_ne w.heap.size #[.int .i64 0, .int .i64 0, .int .i64 0, .int .i64 0, .int .i64 0, .int .i64 0] (by omega)
        clear hm hx
        go_wp2_with (first | (refine storeB _ _ _ rfl rfl rfl rfl bx1 rfl ty28 z_all ?_) | (refine storeB _ _ _ rfl rfl rfl rfl bx2' rfl ty28 z_all ?_))
        refine bodyPost_ret (results_cct Try.results22 rfl rfl ((bx1.setRow #[.int .i64 0, .int .i64 0, .int .i64 0, .int .i64 0, .int .i64 0, .int .i64 0]).setRow_ne _ _ (by omega)) ty28 (bx2'.setRow #[.int .i64 0, .int .i64 0, .int .i64 0, .int .i64 0, .int .i64 0, .int .i64 0]) ty28) rfl ⟨?_, ?_⟩
        · rw [HR.out, HR.out, HE.out]; rfl
        · exact below_setRow' (below_setRow' HG.out _ _ (Nat.le_refl _)) _ _ (by omega)
  · have hm' : (may l != 0) = true := by simp [hm]
    have HR := Lib.hid (show ∀ q, lastR l q x = fun _ => 0 from fun q => by unfold lastR; rw [if_neg (fun h => hm h.1)])
    have HE := Lib.hid (show lastE l x = may l by unfold lastE; rw [if_neg hm])
    have bx1 := HC1.out
    have bx2 := HC2.out
    have bx2' := bx2.setRow_ne w.heap.size #[.int .i64 0, .int .i64 0, .int .i64 0, .int .i64 0, .int .i64 0, .int .i64 0] (by omega)
    clear hm
    go_wp2_with (first | (refine storeB _ _ _ rfl rfl rfl rfl bx1 rfl ty28 z_all ?_) | (refine storeB _ _ _ rfl rfl rfl rfl bx2' rfl ty28 z_all ?_))
    refine bodyPost_ret (results_cct Try.results22 rfl rfl ((bx1.setRow #[.int .i64 0, .int .i64 0, .int .i64 0, .int .i64 0, .int .i64 0, .int .i64 0]).setRow_ne _ _ (by omega)) ty28 (bx2'.setRow #[.int .i64 0, .int .i64 0, .int .i64 0, .int .i64 0, .int .i64 0, .int .i64 0]) ty28) rfl ⟨?_, ?_⟩
    · rw [HR.out, HR.out, HE.out]; rfl
    · exact below_setRow' (below_setRow' HG.out _ _ (Nat.le_refl _)) _ _ (by omega)
end Go.Proofs.Ytnjaeampnakbbaa

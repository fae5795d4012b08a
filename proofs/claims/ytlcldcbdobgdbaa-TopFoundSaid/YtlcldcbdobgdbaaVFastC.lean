import Derived.Deep.DeepCutAuto
import Derived.Test.YtlcldcbdobgdbaaVFv
import Derived.Test.YtlcldcbdobgdbaaVFs
set_option linter.all false
set_option maxRecDepth 100000
namespace Go.Proofs.Ytlcldcbdobgdbaa
open Go Go.RowKit

def gZ (k : Nat) : Nat → Value := fun i => if i % 4 = 2 then (if i / 4 < k then oneV 0 0 else .nilIface) else .int .i64 0
theorem gZ_up {k : Nat} : vs 32 (updC (gZ k) (k * 4 + 2) (oneV 0 0)) = vs 32 (gZ (k + 1)) := vs_congr fun i _ => by
  unfold updC gZ
  by_cases h : i = k * 4 + 2
  · rw [if_pos h, if_pos (by omega), if_pos (by omega)]
  · rw [if_neg h]
    by_cases h2 : i % 4 = 2
    · rw [if_pos h2, if_pos h2]
      by_cases h3 : i / 4 < k
      · rw [if_pos h3, if_pos (by omega)]
      · rw [if_neg h3, if_neg (by omega)]
    · rw [if_neg h2, if_neg h2]
def fZ : Nat → Fs := fun _ => fsStart
def qZ : Nat → Nat := fun _ => 0
theorem gZ_all : vs 32 (gZ 8) = vs 32 (gF fZ qZ) := vs_congr fun i hi => by
  unfold gZ gF fZ qZ
  by_cases h0 : i % 4 = 0
  · rw [if_neg (by omega), if_pos h0]; rfl
  · by_cases h1 : i % 4 = 1
    · rw [if_neg (by omega), if_neg h0, if_pos h1]; rfl
    · by_cases h2 : i % 4 = 2
      · rw [if_pos h2, if_pos (by omega), if_neg h0, if_neg h1, if_pos h2, rdv_one (s := fsStart) rfl]; rfl
      · rw [if_neg h2, if_neg h0, if_neg h1, if_neg h2]; rfl
structure StF (w : World) (k : Nat) (wr : World) : Prop where
  res : Box wr w.heap.size (vs 32 (gZ 0)) 124
  now : Box wr (w.heap.size + 1) (vs 32 (gZ k)) 124
  below : Below w.heap.size w wr
theorem TVz' (g : Nat → Value) : RowTy Try.prog 124 (vs 32 g).size := by rw [vs_size]; exact TVf
set_option maxHeartbeats 4000000 in
theorem fstart_any (w : World) : Calls Try.prog 100 #[] w fun e w' => e = .returned (.agg (vs 32 (gF fZ qZ))) ∧ Below w.heap.size w w' := by
  obtain ⟨b1, b2, hB, hs⟩ := boxes2 w (vs 32 (gZ 0)) (vs 32 (gZ 0)) 124 124
  have H0 := Lib.hid (StF.mk b1 b2 hB)
  clear b1 b2 hB hs
  go_enter Try.func100, Try.ntmps100
  go_wp2
  change Code.wp _ _ _ _ ((w.alloc (.cells (vs 32 (gZ 0)) 124)).alloc (.cells (vs 32 (gZ 0)) 124))
  generalize ((w.alloc (.cells (vs 32 (gZ 0)) 124)).alloc (.cells (vs 32 (gZ 0)) 124)) = W at *
  go_loopw [3] (fun t wr => ∃ k : Nat, k ≤ 8 ∧ t = .int .i64 k ∧ StF w k wr) (fun t _ => 8 - (intOf t).toNat)
  case atStart => exact ⟨0, by omega, rfl, H0.out⟩
  case round =>
    obtain ⟨k, hk, rfl, hr⟩ := hrel
    have HR := Lib.hid hr
    clear hr H0
    by_cases hlt : k < 8
    · have hlt' : (k : Int) < 8 := by omega
      have c0 := HR.out.now.cell (k * 4 + 2) (vs_get _ (by omega))
      have g0 := HR.out.now.frozen (k * 4 + 2)
      go_wp2
      go_roundw
      case rel => exact ⟨k + 1, by omega, by go_num, ⟨HR.out.res.set_ne _ _ (by simp), by have := HR.out.now.set (k * 4 + 2) (oneV 0 0); rw [vs_set, gZ_up] at this; exact this, HR.out.below.setCell (by simp) _⟩⟩
      case measure => simp [intOf]; omega
    · obtain rfl : k = 8 := by omega
      have hn := HR.out.now
      rw [gZ_all] at hn
      have hr := HR.out.res
      go_wp2_with (first | (refine loadB _ _ rfl rfl rfl hn (TVz' _) ?_) | (refine storeB _ _ _ rfl rfl rfl rfl hr (by rw [vs_size, vs_size]) (TVz' _) (vs_all (gF_cell _ _)) ?_))
      refine bodyPost_ret (res_c Try.results100 rfl (hr.setRow (vs 32 (gF fZ qZ))) (TVz' _)) rfl ⟨rfl, ?_⟩
      exact below_setRow' HR.out.below _ _ (Nat.le_refl _)
end Go.Proofs.Ytlcldcbdobgdbaa
namespace Go.Proofs.Ytlcldcbdobgdbaa
open Go Go.RowKit

def fT (l : List Ev) (k : Nat) : Nat → Fs := fun x => fsTo l x k
def fxS (l : List Ev) (x : Nat) : Nat → Nat
  | 0 => 0
  | k + 1 => fxS l x k + if oZ l k = x then fsSl (fsTo l (oZ l k) k) (kZ l k) (tZ l k) (cZ l k) else 0
def qT (l : List Ev) (k : Nat) : Nat → Nat := fun x => fxS l x k
theorem qT_le (l : List Ev) (x : Nat) : ∀ k, qT l k x ≤ k
  | 0 => Nat.le_refl _
  | k + 1 => by
    have h1 := qT_le l x k
    have h2 := fsSl_le (fsTo l (oZ l k) k) (kZ l k) (tZ l k) (cZ l k)
    show fxS l x k + _ ≤ _
    have : qT l k x = fxS l x k := rfl
    split <;> omega
section
variable {l : List Ev} {k t o : Nat} {q : Int} {c : Nat → Nat}
theorem fT_step (hk : kZ l k = q) (ho : oZ l k = o) (ht : tZ l k = t) (hc : cZ l k = c) : upFs (fT l k) o (fsStep (fT l k o) q t c) = fT l (k + 1) := by
  funext x
  unfold upFs fT
  rw [fsTo]
  subst hk ho ht hc
  by_cases h : x = oZ l k
  · subst h; rw [if_pos rfl]
  · rw [if_neg h, if_neg (fun e => h e.symm)]
theorem qT_step (hk : kZ l k = q) (ho : oZ l k = o) (ht : tZ l k = t) (hc : cZ l k = c) : updN (qT l k) o (qT l k o + fsSl (fT l k o) q t c) = qT l (k + 1) := by
  funext x
  unfold updN qT fT
  rw [fxS]
  subst hk ho ht hc
  by_cases h : x = oZ l k
  · subst h; rw [if_pos rfl, if_pos rfl]
  · rw [if_neg h, if_neg (fun e => h e.symm), Nat.add_zero]
theorem fK_step (hk : kZ l k = q) (ho : oZ l k = o) (ht : tZ l k = t) (hc : cZ l k = c) : fsK (fT l k o) q t c = fkK l k := by
  subst hk ho ht hc; rfl
theorem fT_no (h : ¬ isAc l k = true) : fT l (k + 1) = fT l k := by
  have h1 : kZ l k ≠ 1 := fun e => h (by unfold isAc; exact decide_eq_true (.inl e))
  have h2 : kZ l k ≠ 2 := fun e => h (by unfold isAc; exact decide_eq_true (.inr e))
  funext x
  show fsTo l x (k + 1) = fsTo l x k
  rw [fsTo]
  unfold fsStep
  rw [if_neg h1, if_neg h2, ite_self]
theorem qT_no (h : ¬ isAc l k = true) : qT l (k + 1) = qT l k := by
  have h1 : kZ l k ≠ 1 := fun e => h (by unfold isAc; exact decide_eq_true (.inl e))
  funext x
  show fxS l x (k + 1) = fxS l x k
  rw [fxS]
  unfold fsSl
  rw [if_neg h1, ite_self, Nat.add_zero]
theorem gF_no (h : ¬ isAc l k = true) : gl (fkK l) l (k + 1) = gl (fkK l) l k :=
  gl_no (Classical.byContradiction fun hn => h (by unfold isAc; exact decide_eq_true (fkK_acc hn)))
end
def sumQ (q : Nat → Nat) : Nat → Nat
  | 0 => 0
  | m + 1 => sumQ q m + q m
theorem sumQ_step (l : List Ev) (k : Nat) : ∀ m, sumQ (qT l (k + 1)) m = sumQ (qT l k) m + if oZ l k < m then fsSl (fsTo l (oZ l k) k) (kZ l k) (tZ l k) (cZ l k) else 0
  | 0 => by simp [sumQ]
  | m + 1 => by
    have e : qT l (k + 1) m = qT l k m + if oZ l k = m then fsSl (fsTo l (oZ l k) k) (kZ l k) (tZ l k) (cZ l k) else 0 := rfl
    rw [sumQ, sumQ, sumQ_step l k m, e]
    by_cases h1 : oZ l k = m
    · rw [if_pos h1, if_neg (by omega), if_pos (by omega)]; omega
    · rw [if_neg h1]
      by_cases h2 : oZ l k < m
      · rw [if_pos h2, if_pos (by omega)]; omega
      · rw [if_neg h2, if_neg (by omega)]; omega
theorem sumQ_zero (l : List Ev) : ∀ m, sumQ (qT l 0) m = 0
  | 0 => rfl
  | m + 1 => by rw [sumQ, sumQ_zero l m]; rfl
theorem sumQ_all {l : List Ev} (hm : may l = 0) : ∀ k, k ≤ l.length → sumQ (qT l k) 8 = slT l k
  | 0, _ => sumQ_zero l 8
  | k + 1, hk => by
    rw [sumQ_step, sumQ_all hm k (by omega), slT]
    by_cases h : oZ l k < 8
    · rw [if_pos h]
    · have : fsSl (fsTo l (oZ l k) k) (kZ l k) (tZ l k) (cZ l k) = 0 := Classical.byContradiction fun hn => h (acc_o hm (by omega) (.inl (fsSl_acc hn)))
      rw [if_neg h, this]
def fslow (l : List Ev) : Nat := if may l = 0 then slT l l.length else 0
def FDetPost (w : World) (l : List Ev) (e : Ending) (w' : World) : Prop :=
  ∃ v f q, e = .returned (.tuple #[v, .agg (vs 32 (gF f q)), .int .i64 (may l)]) ∧ (sumQ q 8 = fslow l ∧ ∀ x, q x ≤ 1000) ∧ w'.ownsRow w.heap.size 79 3 v (fflags l).length (evc (fflags l)) ∧ Below w.heap.size w w'
theorem kp_setRow' {N B : Nat} (hne : N ≠ B) (w : World) (c : Array Value) : Kp N w (w.setRow B c) := ⟨by simp, fun _ => setRow_other w B N c hne⟩
set_option maxHeartbeats 16000000 in
theorem fdetect_any (A : Option Addr) (n c : Nat) (l : List Ev) (w : World) (hl : Sl w A n l) : Calls Try.prog 67 #[.slice A n c] w (FDetPost w l) := by
  obtain ⟨i0, hi0, hz0, hz1, hz2⟩ := info_parts fl_info
  have J := Lib.hid (And.intro hi0 (And.intro hz0 (And.intro hz1 hz2)))
  have HL := Lib.hid hl
  have HB0 := Lib.hid (Box.new w (vs 32 (gZ 0)) 124)
  have HW0 := Lib.hid ((Bel.refl w).alloc (.cells (vs 32 (gZ 0)) 124))
  clear hi0 hz0 hz1 hz2 hl
  go_enter Try.func67, Try.ntmps67
  go_wp2_with fail
  change Calls _ _ _ (w.alloc (.cells (vs 32 (gZ 0)) 124)) _
  generalize (w.alloc (.cells (vs 32 (gZ 0)) 124)) = W at *
  refine (fstart_any _).mono ?_
  rintro e w2 ⟨rfl, hb⟩
  have HX2 := Lib.hid (HW0.out.call hb)
  have HB2 := Lib.hid ((Bel.of hb).box HB0.out)
  have HWV := Lib.hid (show w.heap.size < w2.heap.size from HB2.out.lt)
  have hbn := Box.new w2 (vs 32 (gZ 0)) 124
  have HX3 := Lib.hid (show Bel w ((w2.alloc (.cells (vs 32 (gZ 0)) 124)).setRow w2.heap.size (vs 32 (gF fZ qZ))) from below_setRow' (HX2.out.alloc _).out _ _ HX2.out.size)
  have HB3 := Lib.hid (show Box ((w2.alloc (.cells (vs 32 (gZ 0)) 124)).setRow w2.heap.size (vs 32 (gF fZ qZ))) w.heap.size (vs 32 (gZ 0)) 124 from (HB2.out.old _).setRow_ne _ _ (by have := HWV.out; omega))
  have HV3 := Lib.hid (show Box ((w2.alloc (.cells (vs 32 (gZ 0)) 124)).setRow w2.heap.size (vs 32 (gF fZ qZ))) w2.heap.size (vs 32 (gF fZ qZ)) 124 from hbn.setRow _)
  clear hb
  go_upto_region 3 with (refine storeB _ _ _ rfl rfl rfl rfl hbn (by rw [vs_size, vs_size]) (TVz' _) (vs_all (gF_cell _ _)) ?_)
  change Code.wp _ _ _ _ ((w2.alloc (.cells (vs 32 (gZ 0)) 124)).setRow w2.heap.size (vs 32 (gF fZ qZ)))
  generalize ((w2.alloc (.cells (vs 32 (gZ 0)) 124)).setRow w2.heap.size (vs 32 (gF fZ qZ))) = w3 at *
  generalize w2.heap.size = V at *
  clear hbn
  go_wp2_with fail
  refine (acc_any A n c l _ (HL.out.bel HX3.out)).mono ?_
  rintro e w1 ⟨va, rfl, hown, hb⟩
  have HX1 := Lib.hid (Bel.of hb)
  obtain ⟨A1, c1, rfl, hat⟩ := accs_own hown
  have HAT := Lib.hid hat
  have HV3L := Lib.hid HV3.out.lt
  have HNN := Lib.hid (show V < w1.heap.size from Nat.lt_of_lt_of_le HV3.out.lt HX1.out.size)
  have H0 := Lib.hid (show DtR w w1 w1.heap.size V 124 (vs 32 (gZ 0)) (vs 32 (gF (fT l 0) (qT l 0))) (gl (fkK l) l 0) (.slice none 0 0) w1 from
    ⟨HX1.out.box HB3.out, HX1.out.box HV3.out, World.ownsRow_nil _ _ _ _, fun _ _ _ => rfl, (HX3.out.trans HX1.out).out, Nat.le_refl _⟩)
  have HSM := Lib.hid (fun k k' (h : (acT l k).length = (acT l k').length) => show fT l k = fT l k' ∧ qT l k = qT l k' ∧ gl (fkK l) l k = gl (fkK l) l k' by
    have hs : ∀ {i k : Nat}, i ≤ k → (acT l i).length = (acT l k).length → fT l k = fT l i ∧ qT l k = qT l i ∧ gl (fkK l) l k = gl (fkK l) l i := fun hik he =>
      ⟨acT_same l (fT l) (fun k hk => fT_no hk) hik he, acT_same l (qT l) (fun k hk => qT_no hk) hik he, acT_same l (gl (fkK l) l) (fun k hk => gF_no hk) hik he⟩
    rcases Nat.le_total k k' with hk | hk
    · obtain ⟨h1, h2, h3⟩ := hs hk h; exact ⟨h1.symm, h2.symm, h3.symm⟩
    · exact hs hk h.symm)
  clear hown hb hat
  generalize hN : w1.heap.size = N at *
  have HN1 := Lib.hid hN
  clear hN
  generalize hm : (accs l).length = m at *
  have HM1 := Lib.hid hm
  have hm80 : m ≤ 80 := by
    by_cases h0 : may l = 0
    · rw [← hm, accs_ok h0]; exact Nat.le_trans (acT_len l _) ((may_iff l).1 h0).1
    · rw [← hm, accs_no h0]; exact Nat.zero_le _
  clear hm
  go_wp2
  go_loopw [5, 20] (fun v t20 wr => ∃ j k : Nat, k ≤ l.length ∧ (acT l k).length = j ∧ j ≤ m ∧ t20 = .int .i64 j ∧ DtR w w1 N V 124 (vs 32 (gZ 0)) (vs 32 (gF (fT l k) (qT l k))) (gl (fkK l) l k) v wr) (fun _ t20 _ => m - (intOf t20).toNat)
  case atStart => exact ⟨0, 0, Nat.zero_le _, rfl, Nat.zero_le _, rfl, H0.out⟩
  case round =>
    obtain ⟨j, k0, hk0, hkj0, hj, rfl, hr⟩ := hrel
    by_cases hlt : j < m
    · have hm : may l = 0 := Classical.byContradiction fun hm => by have := HM1.out; rw [accs_no hm] at this; simp at this; omega
      have hac : accs l = acT l l.length := accs_ok hm
      obtain ⟨k, hkl, hka, hkj, hget⟩ := acT_at l (j := j) (n := l.length) (by rw [← hac, HM1.out]; exact hlt)
      obtain ⟨g, rfl, hg1, hg2, hrg⟩ := HAT.out j k (by rw [hac]; exact hget)
      obtain ⟨hs1, hs2, hs3⟩ := HSM.out k0 k (by rw [hkj0, hkj])
      rw [hs1, hs2, hs3] at hr
      have hrg2 := rangeAt_heap (hr.keep g (by have := HV3L.out; omega) hg2) hrg
      have hlt' : (j : Int) < m := by omega
      have hev := eZ_ok hm hkl
      have HOKA := Lib.hid (fun x => fsOk_all hm x k (Nat.le_of_lt hkl))
      have het := isEv_t hev
      have heo := isEv_o hev
      have hk12 : (eZ l k).k = 1 ∨ (eZ l k).k = 2 := of_decide_eq_true (show decide (kZ l k = 1 ∨ kZ l k = 2) = true from hka)
      have hcz : cZ l k = (djTo l k).C (tZ l k) := rfl
      have htz : tZ l k = (eZ l k).t.toNat := rfl
      have hoz : oZ l k = (eZ l k).o.toNat := rfl
      rw [hcz] at hrg2
      generalize heq : eZ l k = ev at *
      obtain ⟨ek, et, eo⟩ := ev
      dsimp only at het heo hk12 htz hoz
      obtain ⟨t, rfl⟩ := Int.eq_ofNat_of_zero_le het.1
      obtain ⟨o, rfl⟩ := Int.eq_ofNat_of_zero_le heo.1
      have htz' : tZ l k = t := by rw [htz]; rfl
      have hoz' : oZ l k = o := by rw [hoz]; rfl
      rw [htz'] at hrg2
      have ht6 : t < 6 := by have := het.2; omega
      have ho8 : o < 8 := by have h9 := heo.2; unfold nobj at h9; rw [if_pos hk12] at h9; omega
      have ho8' : (o : Int) < 8 := by omega
      have HEZ := Lib.hid heq
      have HTZ := Lib.hid htz'
      have HOZ := Lib.hid hoz'
      have HCZ := Lib.hid (show cZ l k = (djTo l k).C t by rw [hcz, htz'])
      have HOK := Lib.hid (show FsOk (fT l k o) from HOKA.out o)
      have HO8 := Lib.hid ho8
      have HKL := Lib.hid hkl
      have HK80 := Lib.hid (show k < 80 by have := ((may_iff l).1 hm).1; omega)
      have HKA := Lib.hid hka
      have HKJ := Lib.hid hkj
      have hR := Lib.hid hrg2
      have HX := Lib.hid (acld_box wr ⟨ek, t, o⟩ k ((djTo l k).C t) 177)
      have HDX := Lib.hid (hr.bel (acld_below wr ⟨ek, t, o⟩ k ((djTo l k).C t) 177))
      have HXN := Lib.hid (show V < wr.heap.size from hr.vars.lt)
      clear H0 hr hs1 hs2 hs3 hm hac hget hg1 hg2 hrg hrg2 hev het heo htz hoz htz' hoz' hcz heq hkl hka hkj hk0 hkj0 ho8
      rcases hk12 with rfl | rfl
      · have HKZ := Lib.hid (show kZ l k = 1 by unfold kZ; rw [HEZ.out])
        have HKN := Lib.hid (fK_step HKZ.out HOZ.out HTZ.out HCZ.out)
        go_upto_region 7 with (first | (refine load_ac TAc _ rfl rfl rfl hR.out ?_) | (refine acld_store TAc _ _ rfl rfl _ rfl rfl rfl ?_))
        generalize hw3 : acld wr ⟨1, t, o⟩ k ((djTo l k).C t) 177 = w3 at *
        have F2 := fun (w' : World) (h : Bel w3 w') => (h.box HX.out).cell 2 (v := .int .i64 o) rfl
        have HLX := Lib.hid (fun (w' : World) (h : Bel w3 w') => h.box HX.out)
        clear hw3
        refine region_growT 5 (by kernel_rfl) ?_
        (repeat (first | ((first | refine wpT_goN 0 (by simp only [List.getElem?_toArray, List.getElem?_cons_zero, List.getElem?_cons_succ] <;> rfl) (by decide +kernel) (by decide +kernel) (by kernel_rfl) (by rfl) (by exact fun _ _ _ _ h => h) (Nat.le_refl _) ?_ | refine wpT_goN 1 (by simp only [List.getElem?_toArray, List.getElem?_cons_zero, List.getElem?_cons_succ] <;> rfl) (by decide +kernel) (by decide +kernel) (by kernel_rfl) (by rfl) (by exact fun _ _ _ _ h => h) (Nat.le_refl _) ?_ | refine wpT_goN 2 (by simp only [List.getElem?_toArray, List.getElem?_cons_zero, List.getElem?_cons_succ] <;> rfl) (by decide +kernel) (by decide +kernel) (by kernel_rfl) (by rfl) (by exact fun _ _ _ _ h => h) (Nat.le_refl _) ?_ | refine wpT_goN 3 (by simp only [List.getElem?_toArray, List.getElem?_cons_zero, List.getElem?_cons_succ] <;> rfl) (by decide +kernel) (by decide +kernel) (by kernel_rfl) (by rfl) (by exact fun _ _ _ _ h => h) (Nat.le_refl _) ?_ | refine wpT_goN 4 (by simp only [List.getElem?_toArray, List.getElem?_cons_zero, List.getElem?_cons_succ] <;> rfl) (by decide +kernel) (by decide +kernel) (by kernel_rfl) (by rfl) (by exact fun _ _ _ _ h => h) (Nat.le_refl _) ?_); apply Exists.intro; refine ⟨fun w1 h1 => ?_, ?_⟩; (first | exact g_move _ rfl | exact g_assign _ rfl | exact g_load _ _ rfl TAc rfl (HLX.out w1 h1) | (have fct0 := F2 w1 h1; go_simp; first | exact ⟨rfl, rfl⟩ | rfl)); simp only [Act.put, Act.eval, List.setIfInBounds_toArray, List.set_cons_zero, List.set_cons_succ, Array.getD_eq_getD_getElem?, List.getElem?_toArray, List.getElem?_cons_zero, List.getElem?_cons_succ, Option.getD_some]) | ((first | refine wpT_skip 0 (by simp only [List.getElem?_toArray, List.getElem?_cons_zero, List.getElem?_cons_succ] <;> rfl) (by decide +kernel) (by decide +kernel) (by kernel_rfl) (by rfl) (by exact fun _ _ _ _ h => h) (Nat.le_refl _) ?_ | refine wpT_skip 1 (by simp only [List.getElem?_toArray, List.getElem?_cons_zero, List.getElem?_cons_succ] <;> rfl) (by decide +kernel) (by decide +kernel) (by kernel_rfl) (by rfl) (by exact fun _ _ _ _ h => h) (Nat.le_refl _) ?_ | refine wpT_skip 2 (by simp only [List.getElem?_toArray, List.getElem?_cons_zero, List.getElem?_cons_succ] <;> rfl) (by decide +kernel) (by decide +kernel) (by kernel_rfl) (by rfl) (by exact fun _ _ _ _ h => h) (Nat.le_refl _) ?_ | refine wpT_skip 3 (by simp only [List.getElem?_toArray, List.getElem?_cons_zero, List.getElem?_cons_succ] <;> rfl) (by decide +kernel) (by decide +kernel) (by kernel_rfl) (by rfl) (by exact fun _ _ _ _ h => h) (Nat.le_refl _) ?_ | refine wpT_skip 4 (by simp only [List.getElem?_toArray, List.getElem?_cons_zero, List.getElem?_cons_succ] <;> rfl) (by decide +kernel) (by decide +kernel) (by kernel_rfl) (by rfl) (by exact fun _ _ _ _ h => h) (Nat.le_refl _) ?_); simp only [Act.put, Act.eval, List.setIfInBounds_toArray, List.set_cons_zero, List.set_cons_succ, Array.getD_eq_getD_getElem?, List.getElem?_toArray, List.getElem?_cons_zero, List.getElem?_cons_succ, Option.getD_some]) | ((first | refine wpT_goA 0 (by simp only [List.getElem?_toArray, List.getElem?_cons_zero, List.getElem?_cons_succ] <;> rfl) (by decide +kernel) (by decide +kernel) (by kernel_rfl) (by rfl) (by exact fun _ _ _ _ h => h) ?_ | refine wpT_goA 1 (by simp only [List.getElem?_toArray, List.getElem?_cons_zero, List.getElem?_cons_succ] <;> rfl) (by decide +kernel) (by decide +kernel) (by kernel_rfl) (by rfl) (by exact fun _ _ _ _ h => h) ?_ | refine wpT_goA 2 (by simp only [List.getElem?_toArray, List.getElem?_cons_zero, List.getElem?_cons_succ] <;> rfl) (by decide +kernel) (by decide +kernel) (by kernel_rfl) (by rfl) (by exact fun _ _ _ _ h => h) ?_ | refine wpT_goA 3 (by simp only [List.getElem?_toArray, List.getElem?_cons_zero, List.getElem?_cons_succ] <;> rfl) (by decide +kernel) (by decide +kernel) (by kernel_rfl) (by rfl) (by exact fun _ _ _ _ h => h) ?_ | refine wpT_goA 4 (by simp only [List.getElem?_toArray, List.getElem?_cons_zero, List.getElem?_cons_succ] <;> rfl) (by decide +kernel) (by decide +kernel) (by kernel_rfl) (by rfl) (by exact fun _ _ _ _ h => h) ?_); apply Exists.intro; refine ⟨fun w1 => ?_, ?_⟩; (first | exact a_move _ rfl | exact a_assign _ rfl | (go_simp; first | exact ⟨rfl, rfl⟩ | rfl)); simp only [Act.put, Act.eval, List.setIfInBounds_toArray, List.set_cons_zero, List.set_cons_succ, Array.getD_eq_getD_getElem?, List.getElem?_toArray, List.getElem?_cons_zero, List.getElem?_cons_succ, Option.getD_some])))
        refine wpT_then 6 (by decide +kernel) (by decide +kernel) (by decide +kernel) (by simp only [List.getElem?_toArray, List.getElem?_cons_zero, List.getElem?_cons_succ] <;> rfl) (by simp only [List.getElem?_toArray, List.getElem?_cons_zero, List.getElem?_cons_succ] <;> rfl) rfl ?_
        intro w5 hw5
        have HD5 := Lib.hid (HDX.out.bel hw5)
        have HX5 := Lib.hid (hw5.box HX.out)
        clear F2 hw5
        go_simp
        refine (facc_1 V o t k o (fT l k) (qT l k) ((djTo l k).C t) _ HO8.out ht6 HOK.out (by have := qT_le l o k; have := HK80.out; omega) HD5.out.vars).mono ?_
        rintro e6 w6 ⟨rfl, hb6, hc6⟩
        rw [fT_step HKZ.out HOZ.out HTZ.out HCZ.out, qT_step HKZ.out HOZ.out HTZ.out HCZ.out] at hb6
        have HD6 := Lib.hid (HD5.out.acc hb6 hc6 HWV.out HNN.out)
        have HX6 := Lib.hid (HX5.out.grown hc6 (fun e => by have := Option.some.inj e; have := HXN.out; omega))
        clear hb6 hc6
        refine ⟨_, .inl ⟨rfl, fun _ => a_assign _ rfl⟩, fun w7 hw7 => ?_⟩
        have HD7 := Lib.hid (HD6.out.bel hw7)
        have HX7 := Lib.hid (hw7.box HX6.out)
        clear hw7
        rw [HKN.out]
        simp only [Act.put, Act.eval, List.setIfInBounds_toArray, List.set_cons_zero, List.set_cons_succ, Array.getD_eq_getD_getElem?, List.getElem?_toArray, List.getElem?_cons_zero, List.getElem?_cons_succ, Option.getD_some]
        have HLE := Lib.hid (gl_len (fkK l) l k)
        by_cases h0 : fkK l k = 0
        · have h0' : (fkK l k != 0) = false := by simp [h0]
          have HF := Lib.hid (show gl (fkK l) l (k + 1) = gl (fkK l) l k from gl_no h0)
          clear h0
          go_wp2
          go_roundw
          case rel => exact ⟨j + 1, k + 1, HKL.out, by rw [acT_yes HKA.out, List.length_append, HKJ.out]; rfl, hlt, by go_num, by rw [HF.out]; exact HD7.out⟩
          case measure => simp [intOf]; omega
        · have h0' : (fkK l k != 0) = true := by simp [h0]
          have HF := Lib.hid (show gl (fkK l) l (k + 1) = gl (fkK l) l k ++ [⟨(k : Nat), o, fkK l k⟩] by rw [gl_yes h0, HEZ.out])
          clear h0
          have c2 := HX7.out.cell 2 (v := .int .i64 o) rfl
          have c3 := HX7.out.cell 3 (v := .int .i64 k) rfl
          have HDA := Lib.hid (HD7.out.bel ((Bel.refl w7).alloc (.cells (evv ⟨(k : Nat), o, fkK l k⟩) 79)))
          have HNW := Lib.hid (Box.news (l := evl ⟨(k : Nat), o, fkK l k⟩) (Box.new w7 (evv ⟨(k : Nat), o, fkK l k⟩) 79))
          have HSZ := Lib.hid HDA.out.le
          go_wp2_with (first | (refine build1 73 _ rfl rfl 79 i0 Try.underlying73 J.out.1 J.out.2.1 J.out.2.2.1 ⟨(k : Nat), o, fkK l k⟩ rfl ?_) | (at_builtin; refine wpList_append_own_at _ rfl (.tmp 32) (.tmp 40) _ rfl N 79 i0 _ 3 24 Try.underlying73 J.out.1 J.out.2.1 J.out.2.2.1 J.out.2.2.2 rfl (by omega) _ (gl (fkK l) l k).length _ rfl HDA.out.own _ 1 1 (evl ⟨(k : Nat), o, fkK l k⟩) rfl rfl HNW.out (by simp [evl, Value.oneCell']) (by have := HLE.out; have := HK80.out; unfold maxLen; omega) (by have := HLE.out; have := HK80.out; omega) HSZ.out ?_; intro v8 w8 hown8 hg8 hn8 hat8))
          refine ⟨⟨j + 1, k + 1, HKL.out, by rw [acT_yes HKA.out, List.length_append, HKJ.out]; rfl, hlt, by go_num, HDA.out.add HWV.out HNN.out HF.out hown8 hg8⟩, by simp [intOf]; omega⟩
      · have HKZ := Lib.hid (show kZ l k = 2 by unfold kZ; rw [HEZ.out])
        have HKN := Lib.hid (fK_step HKZ.out HOZ.out HTZ.out HCZ.out)
        go_upto_region 7 with (first | (refine load_ac TAc _ rfl rfl rfl hR.out ?_) | (refine acld_store TAc _ _ rfl rfl _ rfl rfl rfl ?_))
        generalize hw3 : acld wr ⟨2, t, o⟩ k ((djTo l k).C t) 177 = w3 at *
        have F2 := fun (w' : World) (h : Bel w3 w') => (h.box HX.out).cell 2 (v := .int .i64 o) rfl
        have HLX := Lib.hid (fun (w' : World) (h : Bel w3 w') => h.box HX.out)
        clear hw3
        refine region_growT 5 (by kernel_rfl) ?_
        (repeat (first | ((first | refine wpT_goN 0 (by simp only [List.getElem?_toArray, List.getElem?_cons_zero, List.getElem?_cons_succ] <;> rfl) (by decide +kernel) (by decide +kernel) (by kernel_rfl) (by rfl) (by exact fun _ _ _ _ h => h) (Nat.le_refl _) ?_ | refine wpT_goN 1 (by simp only [List.getElem?_toArray, List.getElem?_cons_zero, List.getElem?_cons_succ] <;> rfl) (by decide +kernel) (by decide +kernel) (by kernel_rfl) (by rfl) (by exact fun _ _ _ _ h => h) (Nat.le_refl _) ?_ | refine wpT_goN 2 (by simp only [List.getElem?_toArray, List.getElem?_cons_zero, List.getElem?_cons_succ] <;> rfl) (by decide +kernel) (by decide +kernel) (by kernel_rfl) (by rfl) (by exact fun _ _ _ _ h => h) (Nat.le_refl _) ?_ | refine wpT_goN 3 (by simp only [List.getElem?_toArray, List.getElem?_cons_zero, List.getElem?_cons_succ] <;> rfl) (by decide +kernel) (by decide +kernel) (by kernel_rfl) (by rfl) (by exact fun _ _ _ _ h => h) (Nat.le_refl _) ?_ | refine wpT_goN 4 (by simp only [List.getElem?_toArray, List.getElem?_cons_zero, List.getElem?_cons_succ] <;> rfl) (by decide +kernel) (by decide +kernel) (by kernel_rfl) (by rfl) (by exact fun _ _ _ _ h => h) (Nat.le_refl _) ?_); apply Exists.intro; refine ⟨fun w1 h1 => ?_, ?_⟩; (first | exact g_move _ rfl | exact g_assign _ rfl | exact g_load _ _ rfl TAc rfl (HLX.out w1 h1) | (have fct0 := F2 w1 h1; go_simp; first | exact ⟨rfl, rfl⟩ | rfl)); simp only [Act.put, Act.eval, List.setIfInBounds_toArray, List.set_cons_zero, List.set_cons_succ, Array.getD_eq_getD_getElem?, List.getElem?_toArray, List.getElem?_cons_zero, List.getElem?_cons_succ, Option.getD_some]) | ((first | refine wpT_skip 0 (by simp only [List.getElem?_toArray, List.getElem?_cons_zero, List.getElem?_cons_succ] <;> rfl) (by decide +kernel) (by decide +kernel) (by kernel_rfl) (by rfl) (by exact fun _ _ _ _ h => h) (Nat.le_refl _) ?_ | refine wpT_skip 1 (by simp only [List.getElem?_toArray, List.getElem?_cons_zero, List.getElem?_cons_succ] <;> rfl) (by decide +kernel) (by decide +kernel) (by kernel_rfl) (by rfl) (by exact fun _ _ _ _ h => h) (Nat.le_refl _) ?_ | refine wpT_skip 2 (by simp only [List.getElem?_toArray, List.getElem?_cons_zero, List.getElem?_cons_succ] <;> rfl) (by decide +kernel) (by decide +kernel) (by kernel_rfl) (by rfl) (by exact fun _ _ _ _ h => h) (Nat.le_refl _) ?_ | refine wpT_skip 3 (by simp only [List.getElem?_toArray, List.getElem?_cons_zero, List.getElem?_cons_succ] <;> rfl) (by decide +kernel) (by decide +kernel) (by kernel_rfl) (by rfl) (by exact fun _ _ _ _ h => h) (Nat.le_refl _) ?_ | refine wpT_skip 4 (by simp only [List.getElem?_toArray, List.getElem?_cons_zero, List.getElem?_cons_succ] <;> rfl) (by decide +kernel) (by decide +kernel) (by kernel_rfl) (by rfl) (by exact fun _ _ _ _ h => h) (Nat.le_refl _) ?_); simp only [Act.put, Act.eval, List.setIfInBounds_toArray, List.set_cons_zero, List.set_cons_succ, Array.getD_eq_getD_getElem?, List.getElem?_toArray, List.getElem?_cons_zero, List.getElem?_cons_succ, Option.getD_some]) | ((first | refine wpT_goA 0 (by simp only [List.getElem?_toArray, List.getElem?_cons_zero, List.getElem?_cons_succ] <;> rfl) (by decide +kernel) (by decide +kernel) (by kernel_rfl) (by rfl) (by exact fun _ _ _ _ h => h) ?_ | refine wpT_goA 1 (by simp only [List.getElem?_toArray, List.getElem?_cons_zero, List.getElem?_cons_succ] <;> rfl) (by decide +kernel) (by decide +kernel) (by kernel_rfl) (by rfl) (by exact fun _ _ _ _ h => h) ?_ | refine wpT_goA 2 (by simp only [List.getElem?_toArray, List.getElem?_cons_zero, List.getElem?_cons_succ] <;> rfl) (by decide +kernel) (by decide +kernel) (by kernel_rfl) (by rfl) (by exact fun _ _ _ _ h => h) ?_ | refine wpT_goA 3 (by simp only [List.getElem?_toArray, List.getElem?_cons_zero, List.getElem?_cons_succ] <;> rfl) (by decide +kernel) (by decide +kernel) (by kernel_rfl) (by rfl) (by exact fun _ _ _ _ h => h) ?_ | refine wpT_goA 4 (by simp only [List.getElem?_toArray, List.getElem?_cons_zero, List.getElem?_cons_succ] <;> rfl) (by decide +kernel) (by decide +kernel) (by kernel_rfl) (by rfl) (by exact fun _ _ _ _ h => h) ?_); apply Exists.intro; refine ⟨fun w1 => ?_, ?_⟩; (first | exact a_move _ rfl | exact a_assign _ rfl | (go_simp; first | exact ⟨rfl, rfl⟩ | rfl)); simp only [Act.put, Act.eval, List.setIfInBounds_toArray, List.set_cons_zero, List.set_cons_succ, Array.getD_eq_getD_getElem?, List.getElem?_toArray, List.getElem?_cons_zero, List.getElem?_cons_succ, Option.getD_some])))
        refine wpT_then 6 (by decide +kernel) (by decide +kernel) (by decide +kernel) (by simp only [List.getElem?_toArray, List.getElem?_cons_zero, List.getElem?_cons_succ] <;> rfl) (by simp only [List.getElem?_toArray, List.getElem?_cons_zero, List.getElem?_cons_succ] <;> rfl) rfl ?_
        intro w5 hw5
        have HD5 := Lib.hid (HDX.out.bel hw5)
        have HX5 := Lib.hid (hw5.box HX.out)
        clear F2 hw5
        go_simp
        refine (facc_2 V o t k o (fT l k) (qT l k) ((djTo l k).C t) _ HO8.out ht6 HOK.out (by have := qT_le l o k; have := HK80.out; omega) HD5.out.vars).mono ?_
        rintro e6 w6 ⟨rfl, hb6, hc6⟩
        rw [fT_step HKZ.out HOZ.out HTZ.out HCZ.out, qT_step HKZ.out HOZ.out HTZ.out HCZ.out] at hb6
        have HD6 := Lib.hid (HD5.out.acc hb6 hc6 HWV.out HNN.out)
        have HX6 := Lib.hid (HX5.out.grown hc6 (fun e => by have := Option.some.inj e; have := HXN.out; omega))
        clear hb6 hc6
        refine ⟨_, .inl ⟨rfl, fun _ => a_assign _ rfl⟩, fun w7 hw7 => ?_⟩
        have HD7 := Lib.hid (HD6.out.bel hw7)
        have HX7 := Lib.hid (hw7.box HX6.out)
        clear hw7
        rw [HKN.out]
        simp only [Act.put, Act.eval, List.setIfInBounds_toArray, List.set_cons_zero, List.set_cons_succ, Array.getD_eq_getD_getElem?, List.getElem?_toArray, List.getElem?_cons_zero, List.getElem?_cons_succ, Option.getD_some]
        have HLE := Lib.hid (gl_len (fkK l) l k)
        by_cases h0 : fkK l k = 0
        · have h0' : (fkK l k != 0) = false := by simp [h0]
          have HF := Lib.hid (show gl (fkK l) l (k + 1) = gl (fkK l) l k from gl_no h0)
          clear h0
          go_wp2
          go_roundw
          case rel => exact ⟨j + 1, k + 1, HKL.out, by rw [acT_yes HKA.out, List.length_append, HKJ.out]; rfl, hlt, by go_num, by rw [HF.out]; exact HD7.out⟩
          case measure => simp [intOf]; omega
        · have h0' : (fkK l k != 0) = true := by simp [h0]
          have HF := Lib.hid (show gl (fkK l) l (k + 1) = gl (fkK l) l k ++ [⟨(k : Nat), o, fkK l k⟩] by rw [gl_yes h0, HEZ.out])
          clear h0
          have c2 := HX7.out.cell 2 (v := .int .i64 o) rfl
          have c3 := HX7.out.cell 3 (v := .int .i64 k) rfl
          have HDA := Lib.hid (HD7.out.bel ((Bel.refl w7).alloc (.cells (evv ⟨(k : Nat), o, fkK l k⟩) 79)))
          have HNW := Lib.hid (Box.news (l := evl ⟨(k : Nat), o, fkK l k⟩) (Box.new w7 (evv ⟨(k : Nat), o, fkK l k⟩) 79))
          have HSZ := Lib.hid HDA.out.le
          go_wp2_with (first | (refine build1 73 _ rfl rfl 79 i0 Try.underlying73 J.out.1 J.out.2.1 J.out.2.2.1 ⟨(k : Nat), o, fkK l k⟩ rfl ?_) | (at_builtin; refine wpList_append_own_at _ rfl (.tmp 32) (.tmp 40) _ rfl N 79 i0 _ 3 24 Try.underlying73 J.out.1 J.out.2.1 J.out.2.2.1 J.out.2.2.2 rfl (by omega) _ (gl (fkK l) l k).length _ rfl HDA.out.own _ 1 1 (evl ⟨(k : Nat), o, fkK l k⟩) rfl rfl HNW.out (by simp [evl, Value.oneCell']) (by have := HLE.out; have := HK80.out; unfold maxLen; omega) (by have := HLE.out; have := HK80.out; omega) HSZ.out ?_; intro v8 w8 hown8 hg8 hn8 hat8))
          refine ⟨⟨j + 1, k + 1, HKL.out, by rw [acT_yes HKA.out, List.length_append, HKJ.out]; rfl, hlt, by go_num, HDA.out.add HWV.out HNN.out HF.out hown8 hg8⟩, by simp [intOf]; omega⟩
    · obtain rfl : j = m := by omega
      have hfin : sumQ (qT l k0) 8 = fslow l ∧ fflags l = gl (fkK l) l k0 := by
        by_cases hm : may l = 0
        · obtain ⟨h1, h2, h3⟩ := HSM.out l.length k0 (by rw [hkj0, ← HM1.out, accs_ok hm])
          refine ⟨?_, by rw [fflags_ok hm, h3]⟩
          unfold fslow
          rw [if_pos hm, ← h2, sumQ_all hm _ (Nat.le_refl _)]
        · obtain ⟨h1, h2, h3⟩ := HSM.out k0 0 (by rw [hkj0, ← HM1.out, accs_no hm]; rfl)
          refine ⟨?_, by rw [fflags_no hm, h3]; rfl⟩
          unfold fslow
          rw [if_neg hm, h2, sumQ_zero]
      have HSU := Lib.hid hfin.1
      have HFF := Lib.hid hfin.2
      have HQL := Lib.hid (show ∀ x, qT l k0 x ≤ 1000 from fun x => by
        have h1 := qT_le l x k0
        by_cases hm : may l = 0
        · have := ((may_iff l).1 hm).1; omega
        · obtain ⟨_, h2, _⟩ := HSM.out k0 0 (by rw [hkj0, ← HM1.out, accs_no hm]; rfl)
          rw [h2]; exact Nat.zero_le _)
      have HR := Lib.hid hr
      clear H0 hr hfin hkj0 hk0
      go_wp2
      have HV1 := Lib.hid (fun (w' : World) (h : Kp V wr w') => h.box HR.out.vars)
      refine region_keep V (by kernel_rfl) ?_
      (repeat (first | ((first | refine wpK_go 0 (by simp only [List.getElem?_toArray, List.getElem?_cons_zero, List.getElem?_cons_succ] <;> rfl) (by decide +kernel) (by decide +kernel) (by kernel_rfl) (by rfl) (by exact fun _ _ _ _ h => h) ?_ | refine wpK_go 1 (by simp only [List.getElem?_toArray, List.getElem?_cons_zero, List.getElem?_cons_succ] <;> rfl) (by decide +kernel) (by decide +kernel) (by kernel_rfl) (by rfl) (by exact fun _ _ _ _ h => h) ?_ | refine wpK_go 2 (by simp only [List.getElem?_toArray, List.getElem?_cons_zero, List.getElem?_cons_succ] <;> rfl) (by decide +kernel) (by decide +kernel) (by kernel_rfl) (by rfl) (by exact fun _ _ _ _ h => h) ?_ | refine wpK_go 3 (by simp only [List.getElem?_toArray, List.getElem?_cons_zero, List.getElem?_cons_succ] <;> rfl) (by decide +kernel) (by decide +kernel) (by kernel_rfl) (by rfl) (by exact fun _ _ _ _ h => h) ?_ | refine wpK_go 5 (by simp only [List.getElem?_toArray, List.getElem?_cons_zero, List.getElem?_cons_succ] <;> rfl) (by decide +kernel) (by decide +kernel) (by kernel_rfl) (by rfl) (by exact fun _ _ _ _ h => h) ?_); apply Exists.intro; refine ⟨fun w1 h1 => ?_, ?_⟩; (first | exact g_move _ rfl | exact g_assign _ rfl | exact g_load _ _ rfl (TVz' _) rfl (HV1.out w1 h1) | (go_simp; first | exact ⟨rfl, rfl⟩ | rfl)); simp only [Act.put, Act.eval, List.setIfInBounds_toArray, List.set_cons_zero, List.set_cons_succ, Array.getD_eq_getD_getElem?, List.getElem?_toArray, List.getElem?_cons_zero, List.getElem?_cons_succ, Option.getD_some]) | ((first | refine wpK_skip 0 (by simp only [List.getElem?_toArray, List.getElem?_cons_zero, List.getElem?_cons_succ] <;> rfl) (by decide +kernel) (by decide +kernel) (by kernel_rfl) (by rfl) (by exact fun _ _ _ _ h => h) ?_ | refine wpK_skip 1 (by simp only [List.getElem?_toArray, List.getElem?_cons_zero, List.getElem?_cons_succ] <;> rfl) (by decide +kernel) (by decide +kernel) (by kernel_rfl) (by rfl) (by exact fun _ _ _ _ h => h) ?_ | refine wpK_skip 2 (by simp only [List.getElem?_toArray, List.getElem?_cons_zero, List.getElem?_cons_succ] <;> rfl) (by decide +kernel) (by decide +kernel) (by kernel_rfl) (by rfl) (by exact fun _ _ _ _ h => h) ?_ | refine wpK_skip 3 (by simp only [List.getElem?_toArray, List.getElem?_cons_zero, List.getElem?_cons_succ] <;> rfl) (by decide +kernel) (by decide +kernel) (by kernel_rfl) (by rfl) (by exact fun _ _ _ _ h => h) ?_ | refine wpK_skip 5 (by simp only [List.getElem?_toArray, List.getElem?_cons_zero, List.getElem?_cons_succ] <;> rfl) (by decide +kernel) (by decide +kernel) (by kernel_rfl) (by rfl) (by exact fun _ _ _ _ h => h) ?_); simp only [Act.put, Act.eval, List.setIfInBounds_toArray, List.set_cons_zero, List.set_cons_succ, Array.getD_eq_getD_getElem?, List.getElem?_toArray, List.getElem?_cons_zero, List.getElem?_cons_succ, Option.getD_some])))
      (refine wpK_one 4 (by decide +kernel) ?_; intro w4 hw4; refine op_wanted (by simp only [List.getElem?_toArray, List.getElem?_cons_zero, List.getElem?_cons_succ] <;> rfl) rfl ?_)
      have HR4 := Lib.hid (HR.out.bel hw4)
      clear hw4
      refine wp_storeB TVf _ _ rfl rfl (vs_size _ _) rfl HR4.out.res (vs_size _ _) (vs_all (gF_cell _ _)) ?_
      refine ⟨kp_setRow' (by have := HWV.out; omega) _ _, ?_⟩
      simp only [Act.put, Act.eval, List.setIfInBounds_toArray, List.set_cons_zero, List.set_cons_succ, Array.getD_eq_getD_getElem?, List.getElem?_toArray, List.getElem?_cons_zero, List.getElem?_cons_succ, Option.getD_some]
      (repeat (first | ((first | refine wpK_go 5 (by simp only [List.getElem?_toArray, List.getElem?_cons_zero, List.getElem?_cons_succ] <;> rfl) (by decide +kernel) (by decide +kernel) (by kernel_rfl) (by rfl) (by exact fun _ _ _ _ h => h) ?_); apply Exists.intro; refine ⟨fun w1 h1 => ?_, ?_⟩; (first | exact g_move _ rfl | exact g_assign _ rfl | (go_simp; first | exact ⟨rfl, rfl⟩ | rfl)); simp only [Act.put, Act.eval, List.setIfInBounds_toArray, List.set_cons_zero, List.set_cons_succ, Array.getD_eq_getD_getElem?, List.getElem?_toArray, List.getElem?_cons_zero, List.getElem?_cons_succ, Option.getD_some]) | ((first | refine wpK_skip 5 (by simp only [List.getElem?_toArray, List.getElem?_cons_zero, List.getElem?_cons_succ] <;> rfl) (by decide +kernel) (by decide +kernel) (by kernel_rfl) (by rfl) (by exact fun _ _ _ _ h => h) ?_); simp only [Act.put, Act.eval, List.setIfInBounds_toArray, List.set_cons_zero, List.set_cons_succ, Array.getD_eq_getD_getElem?, List.getElem?_toArray, List.getElem?_cons_zero, List.getElem?_cons_succ, Option.getD_some])))
      (refine wpK_done (by decide +kernel) ?_ _; intro w5 hw5; try simp only [Act.put, Act.eval, List.setIfInBounds_toArray, List.set_cons_zero, List.set_cons_succ, Array.getD_eq_getD_getElem?, List.getElem?_toArray, List.getElem?_cons_zero, List.getElem?_cons_succ, Option.getD_some])
      have HS := Lib.hid (hw5.box (HR4.out.res.setRow (vs 32 (gF (fT l k0) (qT l k0)))))
      have HO := Lib.hid (own_bel (HR4.out.own.kept (chg_setRow _ _ _) (.inr fun e => by have := own_block_ge HR4.out.own _ e; have := HNN.out; have := HWV.out; omega)) hw5)
      have HB5 := Lib.hid ((below_setRow' HR4.out.below w.heap.size (vs 32 (gF (fT l k0) (qT l k0))) (Nat.le_refl _)).trans (hw5.out.mono (by have := HR4.out.below.size; simp; exact this)))
      clear hw5
      go_wp2
      refine bodyPost_ret (res_tct Try.results67 rfl HS.out (TVz' _)) rfl ⟨u5, fT l k0, qT l k0, rfl, ⟨HSU.out, HQL.out⟩, ?_, HB5.out⟩
      rw [HFF.out]; exact own_drop_alloc HO.out (by have := HNN.out; have := HWV.out; omega)
end Go.Proofs.Ytlcldcbdobgdbaa
namespace Go.Proofs.Ytlcldcbdobgdbaa
open Go Go.RowKit

def FRunPost (w : World) (l : List Ev) (e : Ending) (w' : World) : Prop :=
  ∃ v, e = .returned (.tuple #[v, .int .i64 (may l)]) ∧ w'.ownsRow w.heap.size 79 3 v (fflags l).length (evc (fflags l)) ∧ Below w.heap.size w w'
set_option maxHeartbeats 4000000 in
theorem frun_any (A : Option Addr) (n c : Nat) (l : List Ev) (w : World) (hl : Sl w A n l) : Calls Try.prog 36 #[.slice A n c] w (FRunPost w l) := by
  have HL := Lib.hid hl
  clear hl
  go_enter Try.func36, Try.ntmps36
  go_wp2_with fail
  refine (fdetect_any A n c l _ HL.out).mono ?_
  rintro e w1 ⟨v, f, q, rfl, hs, hown, hb⟩
  have HO := Lib.hid hown
  have HB := Lib.hid hb
  clear hown hb hs
  have hbn := Box.new w1 (vs 32 (gZ 0)) 124
  go_wp2_with (refine storeB _ _ _ rfl rfl rfl rfl hbn (by rw [vs_size, vs_size]) (TVz' _) (vs_all (gF_cell _ _)) ?_)
  go_ret2
  exact ⟨_, rfl, (own_alloc HO.out (.cells (vs 32 (gZ 0)) 124)).kept (chg_setRow _ _ _) (.inr fun e => by have := (own_lt HO.out e).2; omega), below_setRow' (HB.out.alloc HB.out.size _) _ _ HB.out.size⟩
end Go.Proofs.Ytlcldcbdobgdbaa

import Derived.Deep.DeepCutAuto
import Derived.Test.YtnklpifnknmdgaaGreatDoorZFull
import Derived.Test.YtnklpifnknmdgaaGreatDoorZTrace
import Derived.Test.YtnklpifnknmdgaaGreatDoorZGrow
import Derived.Test.YtnklpifnknmdgaaGreatDoorZAcP
import Derived.Test.YtnklpifnknmdgaaGreatDoorZKeepTw
set_option linter.all false
set_option maxRecDepth 100000
namespace Go.Proofs.YtnklpifnknmdgaaGreatDoor
open Go Go.RowKit

theorem pass_any (X : Nat) (s : Dj) (k : Int) (t o : Nat) (w : World) (ht : t < 6) (hk : 3 ≤ k ∧ k ≤ 8) (ho : (o : Int) < nobj k) (hc : s.C t t ≤ 1000) (hne : k = 5 → o ≠ t) (hb : Box w X (ns 90 (gD s)) 257) :
    Calls Tryz.prog 187 #[.pointer (some ⟨X, 0, none⟩), .agg (evv ⟨k, t, o⟩)] w (PassPost X (djStep s k t o) w) := by
  obtain h | h | h | h | h | h : k = 3 ∨ k = 4 ∨ k = 5 ∨ k = 6 ∨ k = 7 ∨ k = 8 := by omega
  · subst h; exact pass3 X s t o w ht (by have : (o : Int) < 5 := ho; omega) hb
  · subst h; exact pass4 X s t o w ht (by have : (o : Int) < 5 := ho; omega) hc hb
  · subst h; exact pass5 X s t o w ht (by have : (o : Int) < 6 := ho; omega) hc (hne rfl) hb
  · subst h; exact pass6 X s t o w ht (by have : (o : Int) < 6 := ho; omega) hb
  · subst h; exact pass7 X s t o w ht (by have : (o : Int) < 4 := ho; omega) hb
  · subst h; exact pass8 X s t o w ht (by have : (o : Int) < 4 := ho; omega) hc hb
end Go.Proofs.YtnklpifnknmdgaaGreatDoor
namespace Go.Proofs.YtnklpifnknmdgaaGreatDoor
open Go Go.RowKit

theorem TVz (g : Nat → Nat) : RowTy Tryz.prog 189 (ns 96 g).size := by rw [ns_size]; exact TVs
theorem TCz (g : Nat → Nat) : RowTy Tryz.prog 257 (ns 90 g).size := by rw [ns_size]; exact TCs
theorem res_tct {P : Program} {w : World} {fn : Func} {p u v : Tmp} {ty : TypeId} (h : fn.results = #[.tmp u, .cell p ty, .tmp v]) {tmps : Array Value} {B : Nat} {c : Array Value} {t : TypeId} (hp : tmps.getD p undef = .pointer (some ⟨B, 0, none⟩)) (hb : Box w B c t) (hT : RowTy P ty c.size) :
    (results fn tmps).run P w = .ok (.tuple #[tmps.getD u undef, .agg c, tmps.getD v undef]) w := by
  obtain ⟨d, hu, hd, hi⟩ := hT
  have hp' : tmps[p]?.getD undef = .pointer (some ⟨B, 0, none⟩) := by rw [← Array.getD_eq_getD_getElem?]; exact hp
  simp [results, h, hp', asAddr, Sem.run_pure, Result.andThen_ok, run_loadVar_row w B t ty c (0, 0) d hb hu (by cases d <;> simp_all [TypeDesc.isRow]) hi, Sem.run_bind]
theorem kp_setRow {N B : Nat} (hne : N ≠ B) (w : World) (c : Array Value) : Kp N w (w.setRow B c) := ⟨by simp, fun _ => setRow_other w B N c hne⟩
def vF (l : List Ev) : Nat → Nat := if may l = 0 then gV (rwF l 1 l.length) (rwF l 2 l.length) else fun _ => 0
def DetPost (w : World) (l : List Ev) (e : Ending) (w' : World) : Prop :=
  ∃ v, e = .returned (.tuple #[v, .agg (ns 96 (vF l)), .int .i64 (may l)]) ∧ w'.ownsRow w.heap.size 107 3 v (flags l).length (evc (flags l)) ∧ Below w.heap.size w w'
end Go.Proofs.YtnklpifnknmdgaaGreatDoor
namespace Go.Proofs.YtnklpifnknmdgaaGreatDoor
open Go Go.RowKit

theorem ac_parts {P : Program} {e : TypeId} (h : (P.info? e).map (fun i => (i.zero, i.size, i.bytes)) = some (some (.agg acZ), 10, 80)) : ∃ i, P.info? e = some i ∧ i.zero = some (.agg acZ) ∧ i.size = 10 ∧ i.bytes = 80 := by
  cases hi : P.info? e with
  | none => rw [hi] at h; cases h
  | some i => rw [hi] at h; simp at h; exact ⟨i, rfl, h.1, h.2.1, h.2.2⟩
theorem run_build_ac (x : Ev) (k : Nat) (c : Nat → Nat) (w : World) : (Instr.build 230 #[(0, .agg (evv x)), (1, .int .i64 (k : Nat)), (2, .agg (clk (ck c)))]).run Tryz.prog w = .ok (.agg (acv x k c)) w := by kernel_rfl
theorem g_build_ac {o : Oper} {a : Act} {w1 : World} (x y z : Operand) (ho : o.op = .build 230 #[(0, x), (1, y), (2, z)]) (e : Ev) (k : Nat) (c : Nat → Nat)
    (hx : a.eval x = .agg (evv e)) (hy : a.eval y = .int .i64 (k : Nat)) (hz : a.eval z = .agg (clk (ck c))) : o.quietAt Tryz.prog a (Bel w1) w1 (.agg (acv e k c)) := by
  unfold Oper.quietAt execOp
  simp only [ho, List.map_toArray, List.map_cons, List.map_nil, hx, hy, hz, Sem.run_bind, run_build_ac, Sem.run_pure, Result.andThen_ok]
  exact ⟨rfl, rfl⟩
theorem wp_builda {P : Program} {o : Oper} {a : Act} {w : World} {K : Act → World → Prop} {Q : Exit → Act → World → Prop} (t : TypeId) (x : Operand) (ho : o.op = .buildSlice t 1 #[(0, x)]) (e : TypeId) (i : TypeInfo) (ht : P.underlying t = some (.slice e)) (hi : P.info? e = some i)
    (hz : i.zero = some (.agg acZ)) (hs : i.size = 10) (v : Ev) (k : Nat) (c : Nat → Nat) (hx : a.eval x = .agg (acv v k c))
    (h : K (a.put o.dst (.slice (some ⟨w.heap.size, 0, none⟩) 1 1)) (w.alloc (.cells (acv v k c) e))) : o.wp P a w K Q := by
  unfold Oper.wp execOp
  simp only [ho, Sem.run_bind, Sem.run_pure, Result.andThen_ok, List.map_toArray, List.map_cons, List.map_nil, hx, run_builda t e i ht hi hz hs v k c w]
  exact h
def AccPost (w : World) (l : List Ev) (e : Ending) (w' : World) : Prop :=
  ∃ v, e = .returned (.tuple #[v, .int .i64 (may l)]) ∧ w'.ownsRow w.heap.size 230 10 v (accs l).length (accl l (accs l)) ∧ Below w.heap.size w w'
structure AccR (w : World) (N : Nat) (l : List Ev) (k : Nat) (v : Value) (wr : World) : Prop where
  now : Box wr N (ns 90 (gD (djTo l k))) 257
  own : wr.ownsRow (N + 1) 230 10 v (acT l k).length (accl l (acT l k))
  below : Below w.heap.size w wr
section
variable {w wr wr' : World} {N : Nat} {l : List Ev} {k : Nat} {v : Value}
theorem AccR.bel (h : AccR w N l k v wr) (hb : Bel wr wr') : AccR w N l k v wr' := ⟨hb.box h.now, own_bel h.own hb, h.below.trans (hb.out.mono h.below.size)⟩
theorem AccR.pass (h : AccR w N l k v wr) (hp : Psd N (djTo l (k + 1)) wr wr') (hN : w.heap.size ≤ N) (h1 : ¬ isAc l k = true) : AccR w N l (k + 1) v wr' :=
  ⟨hp.box, by rw [acT_no h1]; exact h.own.kept hp.chg (.inr fun e => by have := own_block_ge h.own N e; omega), h.below.grown hp.chg h.below.size (fun x e => by have := Option.some.inj e; omega)⟩
theorem AccR.add (h : AccR w N l k v wr) (hN : w.heap.size ≤ N) (hk : isAc l k = true) {v' : Value} (ho : wr'.ownsRow (N + 1) 230 10 v' ((acT l k).length + 1) (accl l (acT l k) ++ acl (eZ l k) k (cZ l k))) (hg : wr.grownBy wr' v.ownBlock) : AccR w N l (k + 1) v' wr' := by
  have hn : ∀ X, X ≤ N → some X ≠ v.ownBlock := fun X hX e => by have := own_block_ge h.own X e.symm; omega
  refine ⟨?_, ?_, h.below.grown hg h.below.size (fun x e => by have := own_block_ge h.own x e; omega)⟩
  · rw [djTo_acc (by simpa [isAc] using hk)]; exact h.now.grown hg (hn _ (Nat.le_refl _))
  · rw [acT_yes hk, List.length_append, accl_append, accl_one]; exact ho
end
set_option maxHeartbeats 4000000 in
theorem acc_bad (A : Option Addr) (n c : Nat) (l : List Ev) (w : World) (hl : Sl w A n l) (hm : may l ≠ 0) : Calls Tryz.prog 166 #[.slice A n c] w (AccPost w l) := by
  have h1 : ((check l).2 != 0) = true := by simpa [may] using hm
  have HL := Lib.hid hl
  have HF := Lib.hid (accs_no hm)
  clear hl hm
  go_enter Tryz.func166, Tryz.ntmps166
  go_wp2_with fail
  refine (check_any A n c l _ HL.out).mono ?_
  rintro e w1 ⟨rfl, hb⟩
  have HX := Lib.hid hb
  clear hb
  go_wp2
  go_ret2
  refine ⟨_, rfl, ?_, HX.out⟩
  rw [HF.out]; exact World.ownsRow_nil _ _ _ _
set_option maxHeartbeats 16000000 in
theorem acc_ok (A : Option Addr) (n c : Nat) (l : List Ev) (w : World) (hl : Sl w A n l) (hm : may l = 0) : Calls Tryz.prog 166 #[.slice A n c] w (AccPost w l) := by
  obtain ⟨i0, hi0, hz0, hz1, hz2⟩ := ac_parts ac_info
  have J := Lib.hid (And.intro hi0 (And.intro hz0 (And.intro hz1 hz2)))
  have hn80 : n ≤ 80 := by rw [← hl.1]; exact ((may_iff l).1 hm).1
  have h1 : ((check l).2 != 0) = false := by simpa [may] using hm
  have HL := Lib.hid hl
  have HN := Lib.hid hl.1
  have HM := Lib.hid hm
  clear hi0 hz0 hz1 hz2 hl hm
  go_enter Tryz.func166, Tryz.ntmps166
  go_wp2_with fail
  refine (check_any A n c l _ HL.out).mono ?_
  rintro e w1 ⟨rfl, hb⟩
  have HX1 := Lib.hid (Bel.of hb)
  clear hb
  go_wp2_with fail
  refine (start_any _).mono ?_
  rintro e w2 ⟨rfl, hb⟩
  have HX2 := Lib.hid (HX1.out.call hb)
  clear hb
  have hbn := Box.new w2 (ns 90 fun _ => 0) 257
  have HNN := Lib.hid (show w.heap.size ≤ w2.heap.size from HX2.out.size)
  have H0 := Lib.hid (show AccR w w2.heap.size l 0 (.slice none 0 0) ((w2.alloc (.cells (ns 90 fun _ => 0) 257)).setRow w2.heap.size (ns 90 (gD djStart))) from
    ⟨hbn.setRow _, World.ownsRow_nil _ _ _ _, below_setRow' (HX2.out.alloc _).out _ _ HNN.out⟩)
  have ZV := zv90
  go_upto_region 6 with (refine storeB _ _ _ rfl rfl rfl rfl hbn (by rw [ns_size, ns_size]) (TCz _) (ns_all _ _) ?_)
  clear ZV
  change Code.wp _ _ _ _ ((w2.alloc (.cells (ns 90 fun _ => 0) 257)).setRow w2.heap.size (ns 90 (gD djStart)))
  generalize ((w2.alloc (.cells (ns 90 fun _ => 0) 257)).setRow w2.heap.size (ns 90 (gD djStart))) = w3 at *
  generalize w2.heap.size = N at *
  clear hbn h1
  go_wp2
  go_loopw [6, 21] (fun v t21 wr => ∃ k : Nat, k ≤ n ∧ t21 = .int .i64 k ∧ AccR w N l k v wr) (fun _ t21 _ => n - (intOf t21).toNat)
  case atStart => exact ⟨0, by omega, rfl, H0.out⟩
  case round =>
    obtain ⟨k, hk, rfl, hr⟩ := hrel
    have HR := Lib.hid hr
    clear hr H0
    by_cases hlt : k < n
    · have hlt' : (k : Int) < n := by omega
      obtain ⟨bb, off, ⟨ek, et, eo⟩, rfl, hbb, he, hrg⟩ := HL.out.at_ hlt
      have hev := wrong_isEv (wrong_at HM.out he)
      have het := isEv_t hev
      have heo := isEv_o hev
      obtain ⟨t, rfl⟩ := Int.eq_ofNat_of_zero_le het.1
      obtain ⟨o, rfl⟩ := Int.eq_ofNat_of_zero_le heo.1
      have ht6 : t < 6 := by have := het.2; dsimp only at this; omega
      have ht6' : (t : Int) < 6 := by omega
      have HE := Lib.hid he
      have HEZ := Lib.hid (eZ_at he)
      have HEV := Lib.hid (show (o : Int) < nobj ek from heo.2)
      have HTZ := Lib.hid (show tZ l k = t by unfold tZ; rw [eZ_at he]; rfl)
      have HOZ := Lib.hid (show oZ l k = o by unfold oZ; rw [eZ_at he]; rfl)
      have HCZ := Lib.hid (show cZ l k = (djTo l k).C t by unfold cZ; rw [HTZ.out])
      have HKL := Lib.hid (show k < l.length by rw [HN.out]; exact hlt)
      have hR := Lib.hid (rangeAt_below HR.out.below hbb hrg)
      have HX := Lib.hid (ewld_box wr ⟨ek, t, o⟩ 45)
      have HDX := Lib.hid (HR.out.bel (ewld_below wr ⟨ek, t, o⟩ 45))
      have HXM := Lib.hid (show N < wr.heap.size from HR.out.now.lt)
      clear he hrg hev het heo
      by_cases hk1 : ek = 1 ∨ ek = 2
      · have HKA := Lib.hid (show isAc l k = true by unfold isAc kZ; rw [HEZ.out]; exact decide_eq_true hk1)
        have HLE := Lib.hid (acT_len l k)
        rcases hk1 with rfl | rfl
        · have c0 := HX.out.cell 0 (v := .int .i64 1) rfl
          have c1 := HX.out.cell 1 (v := .int .i64 t) rfl
          go_upto_region 10 with (first | (refine load_ev T36 _ rfl rfl rfl hR.out ?_) | (refine ewld_store T36 _ _ rfl rfl _ rfl rfl rfl ?_))
          generalize hw3 : ewld wr ⟨1, t, o⟩ 45 = w3 at *
          clear c0 hw3
          have HV1 := Lib.hid (fun (w' : World) (h : Ks (fun b => b = wr.heap.size ∨ b = N) w3 w') => h.box (.inl rfl) HX.out)
          have HV2 := Lib.hid (fun (w' : World) (h : Ks (fun b => b = wr.heap.size ∨ b = N) w3 w') => (Psd.start (h.box (.inr rfl) HDX.out.now) (Bel.refl _)).rC ht6)
          have F1 := fun (w' : World) (h : Ks (fun b => b = wr.heap.size ∨ b = N) w3 w') => (h.box (.inl rfl) HX.out).cell 1 (v := .int .i64 t) rfl
          refine region_keepS (fun b => b = wr.heap.size ∨ b = N) (by kernel_rfl) ?_
          (repeat (first | ((first | refine wpS_go 0 (by simp only [List.getElem?_toArray, List.getElem?_cons_zero, List.getElem?_cons_succ] <;> rfl) (by decide +kernel) (by decide +kernel) (by kernel_rfl) (by rfl) (by exact fun _ _ _ _ h => h) ?_ | refine wpS_go 1 (by simp only [List.getElem?_toArray, List.getElem?_cons_zero, List.getElem?_cons_succ] <;> rfl) (by decide +kernel) (by decide +kernel) (by kernel_rfl) (by rfl) (by exact fun _ _ _ _ h => h) ?_ | refine wpS_go 2 (by simp only [List.getElem?_toArray, List.getElem?_cons_zero, List.getElem?_cons_succ] <;> rfl) (by decide +kernel) (by decide +kernel) (by kernel_rfl) (by rfl) (by exact fun _ _ _ _ h => h) ?_ | refine wpS_go 3 (by simp only [List.getElem?_toArray, List.getElem?_cons_zero, List.getElem?_cons_succ] <;> rfl) (by decide +kernel) (by decide +kernel) (by kernel_rfl) (by rfl) (by exact fun _ _ _ _ h => h) ?_ | refine wpS_go 4 (by simp only [List.getElem?_toArray, List.getElem?_cons_zero, List.getElem?_cons_succ] <;> rfl) (by decide +kernel) (by decide +kernel) (by kernel_rfl) (by rfl) (by exact fun _ _ _ _ h => h) ?_ | refine wpS_go 5 (by simp only [List.getElem?_toArray, List.getElem?_cons_zero, List.getElem?_cons_succ] <;> rfl) (by decide +kernel) (by decide +kernel) (by kernel_rfl) (by rfl) (by exact fun _ _ _ _ h => h) ?_ | refine wpS_go 6 (by simp only [List.getElem?_toArray, List.getElem?_cons_zero, List.getElem?_cons_succ] <;> rfl) (by decide +kernel) (by decide +kernel) (by kernel_rfl) (by rfl) (by exact fun _ _ _ _ h => h) ?_ | refine wpS_go 7 (by simp only [List.getElem?_toArray, List.getElem?_cons_zero, List.getElem?_cons_succ] <;> rfl) (by decide +kernel) (by decide +kernel) (by kernel_rfl) (by rfl) (by exact fun _ _ _ _ h => h) ?_ | refine wpS_go 8 (by simp only [List.getElem?_toArray, List.getElem?_cons_zero, List.getElem?_cons_succ] <;> rfl) (by decide +kernel) (by decide +kernel) (by kernel_rfl) (by rfl) (by exact fun _ _ _ _ h => h) ?_); apply Exists.intro; refine ⟨fun w1 h1 => ?_, ?_⟩; (first | exact g_move _ rfl | exact g_assign _ rfl | exact g_load _ _ rfl T36 rfl (HV1.out w1 h1) | exact g_load_mid _ _ rfl rfl (HV2.out w1 h1) ty28 (clk (ck ((djTo l k).C t))) rfl | exact g_build_ac _ _ _ rfl ⟨1, t, o⟩ k ((djTo l k).C t) rfl rfl rfl | (have fct0 := F1 w1 h1; go_simp; first | exact ⟨rfl, rfl⟩ | rfl)); simp only [Act.put, Act.eval, List.setIfInBounds_toArray, List.set_cons_zero, List.set_cons_succ, Array.getD_eq_getD_getElem?, List.getElem?_toArray, List.getElem?_cons_zero, List.getElem?_cons_succ, Option.getD_some]) | ((first | refine wpS_skip 0 (by simp only [List.getElem?_toArray, List.getElem?_cons_zero, List.getElem?_cons_succ] <;> rfl) (by decide +kernel) (by decide +kernel) (by kernel_rfl) (by rfl) (by exact fun _ _ _ _ h => h) ?_ | refine wpS_skip 1 (by simp only [List.getElem?_toArray, List.getElem?_cons_zero, List.getElem?_cons_succ] <;> rfl) (by decide +kernel) (by decide +kernel) (by kernel_rfl) (by rfl) (by exact fun _ _ _ _ h => h) ?_ | refine wpS_skip 2 (by simp only [List.getElem?_toArray, List.getElem?_cons_zero, List.getElem?_cons_succ] <;> rfl) (by decide +kernel) (by decide +kernel) (by kernel_rfl) (by rfl) (by exact fun _ _ _ _ h => h) ?_ | refine wpS_skip 3 (by simp only [List.getElem?_toArray, List.getElem?_cons_zero, List.getElem?_cons_succ] <;> rfl) (by decide +kernel) (by decide +kernel) (by kernel_rfl) (by rfl) (by exact fun _ _ _ _ h => h) ?_ | refine wpS_skip 4 (by simp only [List.getElem?_toArray, List.getElem?_cons_zero, List.getElem?_cons_succ] <;> rfl) (by decide +kernel) (by decide +kernel) (by kernel_rfl) (by rfl) (by exact fun _ _ _ _ h => h) ?_ | refine wpS_skip 5 (by simp only [List.getElem?_toArray, List.getElem?_cons_zero, List.getElem?_cons_succ] <;> rfl) (by decide +kernel) (by decide +kernel) (by kernel_rfl) (by rfl) (by exact fun _ _ _ _ h => h) ?_ | refine wpS_skip 6 (by simp only [List.getElem?_toArray, List.getElem?_cons_zero, List.getElem?_cons_succ] <;> rfl) (by decide +kernel) (by decide +kernel) (by kernel_rfl) (by rfl) (by exact fun _ _ _ _ h => h) ?_ | refine wpS_skip 7 (by simp only [List.getElem?_toArray, List.getElem?_cons_zero, List.getElem?_cons_succ] <;> rfl) (by decide +kernel) (by decide +kernel) (by kernel_rfl) (by rfl) (by exact fun _ _ _ _ h => h) ?_ | refine wpS_skip 8 (by simp only [List.getElem?_toArray, List.getElem?_cons_zero, List.getElem?_cons_succ] <;> rfl) (by decide +kernel) (by decide +kernel) (by kernel_rfl) (by rfl) (by exact fun _ _ _ _ h => h) ?_); simp only [Act.put, Act.eval, List.setIfInBounds_toArray, List.set_cons_zero, List.set_cons_succ, Array.getD_eq_getD_getElem?, List.getElem?_toArray, List.getElem?_cons_zero, List.getElem?_cons_succ, Option.getD_some])))
          clear F1
          (refine wpS_one 9 (by decide +kernel) ?_; intro w4 hw4; refine op_wanted (by simp only [List.getElem?_toArray, List.getElem?_cons_zero, List.getElem?_cons_succ] <;> rfl) rfl ?_)
          refine wp_builda 226 _ rfl 230 i0 Tryz.underlying226 J.out.1 J.out.2.1 J.out.2.2.1 ⟨1, t, o⟩ k ((djTo l k).C t) rfl ?_
          refine ⟨Ks.of ((Bel.refl _).alloc _), ?_⟩
          simp only [Act.put, Act.eval, List.setIfInBounds_toArray, List.set_cons_zero, List.set_cons_succ, Array.getD_eq_getD_getElem?, List.getElem?_toArray, List.getElem?_cons_zero, List.getElem?_cons_succ, Option.getD_some]
          (refine wpS_one 10 (by decide +kernel) ?_; intro w5 hw5; refine op_wanted (by simp only [List.getElem?_toArray, List.getElem?_cons_zero, List.getElem?_cons_succ] <;> rfl) rfl ?_)
          have HDA := Lib.hid ((HDX.out.bel (hw4.alloc (.cells (acv ⟨1, t, o⟩ k ((djTo l k).C t)) 230))).bel hw5)
          refine wp_append_src _ _ 226 rfl (N + 1) 230 i0 _ 10 80 Tryz.underlying226 J.out.1 J.out.2.1 J.out.2.2.1 J.out.2.2.2 rfl (by omega) _ (acT l k).length _ rfl HDA.out.own (some ⟨w4.heap.size, 0, none⟩) 1 1 (acl ⟨1, t, o⟩ k ((djTo l k).C t)) rfl rfl (Src.box (l := acl ⟨1, t, o⟩ k ((djTo l k).C t)) (hw5.box (Box.new w4 (acv ⟨1, t, o⟩ k ((djTo l k).C t)) 230)) 1) (acl_one _ _ _) (by have := HLE.out; unfold maxLen; omega) (by have := HLE.out; omega) HDA.out.now.lt ?_
          intro v8 w8 hown8 hg8 hat8
          have HD8 := Lib.hid (HDA.out.add HNN.out HKA.out (by rw [HEZ.out, HCZ.out]; exact hown8) hg8)
          refine ⟨Ks.grown hg8 (fun b hb e => by rcases hb with hb | hb <;> rw [hb] at e <;> first | exact absurd (own_lt HR.out.own e.symm).2 (by omega) | exact absurd (own_lt HR.out.own e.symm).1 (by omega)), ?_⟩
          simp only [Act.put, Act.eval, List.setIfInBounds_toArray, List.set_cons_zero, List.set_cons_succ, Array.getD_eq_getD_getElem?, List.getElem?_toArray, List.getElem?_cons_zero, List.getElem?_cons_succ, Option.getD_some]
          clear hown8 hg8 hat8 hw4 hw5
          (repeat (first | ((first | refine wpS_go 11 (by simp only [List.getElem?_toArray, List.getElem?_cons_zero, List.getElem?_cons_succ] <;> rfl) (by decide +kernel) (by decide +kernel) (by kernel_rfl) (by rfl) (by exact fun _ _ _ _ h => h) ?_); apply Exists.intro; refine ⟨fun w1 h1 => ?_, ?_⟩; (first | exact g_move _ rfl | exact g_assign _ rfl | (go_simp; first | exact ⟨rfl, rfl⟩ | rfl)); simp only [Act.put, Act.eval, List.setIfInBounds_toArray, List.set_cons_zero, List.set_cons_succ, Array.getD_eq_getD_getElem?, List.getElem?_toArray, List.getElem?_cons_zero, List.getElem?_cons_succ, Option.getD_some]) | ((first | refine wpS_skip 11 (by simp only [List.getElem?_toArray, List.getElem?_cons_zero, List.getElem?_cons_succ] <;> rfl) (by decide +kernel) (by decide +kernel) (by kernel_rfl) (by rfl) (by exact fun _ _ _ _ h => h) ?_); simp only [Act.put, Act.eval, List.setIfInBounds_toArray, List.set_cons_zero, List.set_cons_succ, Array.getD_eq_getD_getElem?, List.getElem?_toArray, List.getElem?_cons_zero, List.getElem?_cons_succ, Option.getD_some])))
          (refine wpS_done (by decide +kernel) ?_ _; intro w9 hw9; try simp only [Act.put, Act.eval, List.setIfInBounds_toArray, List.set_cons_zero, List.set_cons_succ, Array.getD_eq_getD_getElem?, List.getElem?_toArray, List.getElem?_cons_zero, List.getElem?_cons_succ, Option.getD_some])
          have HD9 := Lib.hid (HD8.out.bel hw9)
          clear hw9
          go_wp2
          go_roundw
          case rel => exact ⟨k + 1, by omega, by go_num, HD9.out⟩
          case measure => simp [intOf]; omega
        · have c0 := HX.out.cell 0 (v := .int .i64 2) rfl
          have c1 := HX.out.cell 1 (v := .int .i64 t) rfl
          go_upto_region 10 with (first | (refine load_ev T36 _ rfl rfl rfl hR.out ?_) | (refine ewld_store T36 _ _ rfl rfl _ rfl rfl rfl ?_))
          generalize hw3 : ewld wr ⟨2, t, o⟩ 45 = w3 at *
          clear c0 hw3
          have HV1 := Lib.hid (fun (w' : World) (h : Ks (fun b => b = wr.heap.size ∨ b = N) w3 w') => h.box (.inl rfl) HX.out)
          have HV2 := Lib.hid (fun (w' : World) (h : Ks (fun b => b = wr.heap.size ∨ b = N) w3 w') => (Psd.start (h.box (.inr rfl) HDX.out.now) (Bel.refl _)).rC ht6)
          have F1 := fun (w' : World) (h : Ks (fun b => b = wr.heap.size ∨ b = N) w3 w') => (h.box (.inl rfl) HX.out).cell 1 (v := .int .i64 t) rfl
          refine region_keepS (fun b => b = wr.heap.size ∨ b = N) (by kernel_rfl) ?_
          (repeat (first | ((first | refine wpS_go 0 (by simp only [List.getElem?_toArray, List.getElem?_cons_zero, List.getElem?_cons_succ] <;> rfl) (by decide +kernel) (by decide +kernel) (by kernel_rfl) (by rfl) (by exact fun _ _ _ _ h => h) ?_ | refine wpS_go 1 (by simp only [List.getElem?_toArray, List.getElem?_cons_zero, List.getElem?_cons_succ] <;> rfl) (by decide +kernel) (by decide +kernel) (by kernel_rfl) (by rfl) (by exact fun _ _ _ _ h => h) ?_ | refine wpS_go 2 (by simp only [List.getElem?_toArray, List.getElem?_cons_zero, List.getElem?_cons_succ] <;> rfl) (by decide +kernel) (by decide +kernel) (by kernel_rfl) (by rfl) (by exact fun _ _ _ _ h => h) ?_ | refine wpS_go 3 (by simp only [List.getElem?_toArray, List.getElem?_cons_zero, List.getElem?_cons_succ] <;> rfl) (by decide +kernel) (by decide +kernel) (by kernel_rfl) (by rfl) (by exact fun _ _ _ _ h => h) ?_ | refine wpS_go 4 (by simp only [List.getElem?_toArray, List.getElem?_cons_zero, List.getElem?_cons_succ] <;> rfl) (by decide +kernel) (by decide +kernel) (by kernel_rfl) (by rfl) (by exact fun _ _ _ _ h => h) ?_ | refine wpS_go 5 (by simp only [List.getElem?_toArray, List.getElem?_cons_zero, List.getElem?_cons_succ] <;> rfl) (by decide +kernel) (by decide +kernel) (by kernel_rfl) (by rfl) (by exact fun _ _ _ _ h => h) ?_ | refine wpS_go 6 (by simp only [List.getElem?_toArray, List.getElem?_cons_zero, List.getElem?_cons_succ] <;> rfl) (by decide +kernel) (by decide +kernel) (by kernel_rfl) (by rfl) (by exact fun _ _ _ _ h => h) ?_ | refine wpS_go 7 (by simp only [List.getElem?_toArray, List.getElem?_cons_zero, List.getElem?_cons_succ] <;> rfl) (by decide +kernel) (by decide +kernel) (by kernel_rfl) (by rfl) (by exact fun _ _ _ _ h => h) ?_ | refine wpS_go 8 (by simp only [List.getElem?_toArray, List.getElem?_cons_zero, List.getElem?_cons_succ] <;> rfl) (by decide +kernel) (by decide +kernel) (by kernel_rfl) (by rfl) (by exact fun _ _ _ _ h => h) ?_); apply Exists.intro; refine ⟨fun w1 h1 => ?_, ?_⟩; (first | exact g_move _ rfl | exact g_assign _ rfl | exact g_load _ _ rfl T36 rfl (HV1.out w1 h1) | exact g_load_mid _ _ rfl rfl (HV2.out w1 h1) ty28 (clk (ck ((djTo l k).C t))) rfl | exact g_build_ac _ _ _ rfl ⟨2, t, o⟩ k ((djTo l k).C t) rfl rfl rfl | (have fct0 := F1 w1 h1; go_simp; first | exact ⟨rfl, rfl⟩ | rfl)); simp only [Act.put, Act.eval, List.setIfInBounds_toArray, List.set_cons_zero, List.set_cons_succ, Array.getD_eq_getD_getElem?, List.getElem?_toArray, List.getElem?_cons_zero, List.getElem?_cons_succ, Option.getD_some]) | ((first | refine wpS_skip 0 (by simp only [List.getElem?_toArray, List.getElem?_cons_zero, List.getElem?_cons_succ] <;> rfl) (by decide +kernel) (by decide +kernel) (by kernel_rfl) (by rfl) (by exact fun _ _ _ _ h => h) ?_ | refine wpS_skip 1 (by simp only [List.getElem?_toArray, List.getElem?_cons_zero, List.getElem?_cons_succ] <;> rfl) (by decide +kernel) (by decide +kernel) (by kernel_rfl) (by rfl) (by exact fun _ _ _ _ h => h) ?_ | refine wpS_skip 2 (by simp only [List.getElem?_toArray, List.getElem?_cons_zero, List.getElem?_cons_succ] <;> rfl) (by decide +kernel) (by decide +kernel) (by kernel_rfl) (by rfl) (by exact fun _ _ _ _ h => h) ?_ | refine wpS_skip 3 (by simp only [List.getElem?_toArray, List.getElem?_cons_zero, List.getElem?_cons_succ] <;> rfl) (by decide +kernel) (by decide +kernel) (by kernel_rfl) (by rfl) (by exact fun _ _ _ _ h => h) ?_ | refine wpS_skip 4 (by simp only [List.getElem?_toArray, List.getElem?_cons_zero, List.getElem?_cons_succ] <;> rfl) (by decide +kernel) (by decide +kernel) (by kernel_rfl) (by rfl) (by exact fun _ _ _ _ h => h) ?_ | refine wpS_skip 5 (by simp only [List.getElem?_toArray, List.getElem?_cons_zero, List.getElem?_cons_succ] <;> rfl) (by decide +kernel) (by decide +kernel) (by kernel_rfl) (by rfl) (by exact fun _ _ _ _ h => h) ?_ | refine wpS_skip 6 (by simp only [List.getElem?_toArray, List.getElem?_cons_zero, List.getElem?_cons_succ] <;> rfl) (by decide +kernel) (by decide +kernel) (by kernel_rfl) (by rfl) (by exact fun _ _ _ _ h => h) ?_ | refine wpS_skip 7 (by simp only [List.getElem?_toArray, List.getElem?_cons_zero, List.getElem?_cons_succ] <;> rfl) (by decide +kernel) (by decide +kernel) (by kernel_rfl) (by rfl) (by exact fun _ _ _ _ h => h) ?_ | refine wpS_skip 8 (by simp only [List.getElem?_toArray, List.getElem?_cons_zero, List.getElem?_cons_succ] <;> rfl) (by decide +kernel) (by decide +kernel) (by kernel_rfl) (by rfl) (by exact fun _ _ _ _ h => h) ?_); simp only [Act.put, Act.eval, List.setIfInBounds_toArray, List.set_cons_zero, List.set_cons_succ, Array.getD_eq_getD_getElem?, List.getElem?_toArray, List.getElem?_cons_zero, List.getElem?_cons_succ, Option.getD_some])))
          clear F1
          (refine wpS_one 9 (by decide +kernel) ?_; intro w4 hw4; refine op_wanted (by simp only [List.getElem?_toArray, List.getElem?_cons_zero, List.getElem?_cons_succ] <;> rfl) rfl ?_)
          refine wp_builda 226 _ rfl 230 i0 Tryz.underlying226 J.out.1 J.out.2.1 J.out.2.2.1 ⟨2, t, o⟩ k ((djTo l k).C t) rfl ?_
          refine ⟨Ks.of ((Bel.refl _).alloc _), ?_⟩
          simp only [Act.put, Act.eval, List.setIfInBounds_toArray, List.set_cons_zero, List.set_cons_succ, Array.getD_eq_getD_getElem?, List.getElem?_toArray, List.getElem?_cons_zero, List.getElem?_cons_succ, Option.getD_some]
          (refine wpS_one 10 (by decide +kernel) ?_; intro w5 hw5; refine op_wanted (by simp only [List.getElem?_toArray, List.getElem?_cons_zero, List.getElem?_cons_succ] <;> rfl) rfl ?_)
          have HDA := Lib.hid ((HDX.out.bel (hw4.alloc (.cells (acv ⟨2, t, o⟩ k ((djTo l k).C t)) 230))).bel hw5)
          refine wp_append_src _ _ 226 rfl (N + 1) 230 i0 _ 10 80 Tryz.underlying226 J.out.1 J.out.2.1 J.out.2.2.1 J.out.2.2.2 rfl (by omega) _ (acT l k).length _ rfl HDA.out.own (some ⟨w4.heap.size, 0, none⟩) 1 1 (acl ⟨2, t, o⟩ k ((djTo l k).C t)) rfl rfl (Src.box (l := acl ⟨2, t, o⟩ k ((djTo l k).C t)) (hw5.box (Box.new w4 (acv ⟨2, t, o⟩ k ((djTo l k).C t)) 230)) 1) (acl_one _ _ _) (by have := HLE.out; unfold maxLen; omega) (by have := HLE.out; omega) HDA.out.now.lt ?_
          intro v8 w8 hown8 hg8 hat8
          have HD8 := Lib.hid (HDA.out.add HNN.out HKA.out (by rw [HEZ.out, HCZ.out]; exact hown8) hg8)
          refine ⟨Ks.grown hg8 (fun b hb e => by rcases hb with hb | hb <;> rw [hb] at e <;> first | exact absurd (own_lt HR.out.own e.symm).2 (by omega) | exact absurd (own_lt HR.out.own e.symm).1 (by omega)), ?_⟩
          simp only [Act.put, Act.eval, List.setIfInBounds_toArray, List.set_cons_zero, List.set_cons_succ, Array.getD_eq_getD_getElem?, List.getElem?_toArray, List.getElem?_cons_zero, List.getElem?_cons_succ, Option.getD_some]
          clear hown8 hg8 hat8 hw4 hw5
          (repeat (first | ((first | refine wpS_go 11 (by simp only [List.getElem?_toArray, List.getElem?_cons_zero, List.getElem?_cons_succ] <;> rfl) (by decide +kernel) (by decide +kernel) (by kernel_rfl) (by rfl) (by exact fun _ _ _ _ h => h) ?_); apply Exists.intro; refine ⟨fun w1 h1 => ?_, ?_⟩; (first | exact g_move _ rfl | exact g_assign _ rfl | (go_simp; first | exact ⟨rfl, rfl⟩ | rfl)); simp only [Act.put, Act.eval, List.setIfInBounds_toArray, List.set_cons_zero, List.set_cons_succ, Array.getD_eq_getD_getElem?, List.getElem?_toArray, List.getElem?_cons_zero, List.getElem?_cons_succ, Option.getD_some]) | ((first | refine wpS_skip 11 (by simp only [List.getElem?_toArray, List.getElem?_cons_zero, List.getElem?_cons_succ] <;> rfl) (by decide +kernel) (by decide +kernel) (by kernel_rfl) (by rfl) (by exact fun _ _ _ _ h => h) ?_); simp only [Act.put, Act.eval, List.setIfInBounds_toArray, List.set_cons_zero, List.set_cons_succ, Array.getD_eq_getD_getElem?, List.getElem?_toArray, List.getElem?_cons_zero, List.getElem?_cons_succ, Option.getD_some])))
          (refine wpS_done (by decide +kernel) ?_ _; intro w9 hw9; try simp only [Act.put, Act.eval, List.setIfInBounds_toArray, List.set_cons_zero, List.set_cons_succ, Array.getD_eq_getD_getElem?, List.getElem?_toArray, List.getElem?_cons_zero, List.getElem?_cons_succ, Option.getD_some])
          have HD9 := Lib.hid (HD8.out.bel hw9)
          clear hw9
          go_wp2
          go_roundw
          case rel => exact ⟨k + 1, by omega, by go_num, HD9.out⟩
          case measure => simp [intOf]; omega
      · have HKA := Lib.hid (show ¬ isAc l k = true by unfold isAc kZ; rw [HEZ.out]; simpa using hk1)
        have h1 : (ek == 1) = false := by simp; omega
        have h2 : (ek == 2) = false := by simp; omega
        have HK3 := Lib.hid (show 3 ≤ ek ∧ ek ≤ 8 by
          have h9 := HEV.out
          unfold nobj at h9
          split at h9
          · omega
          · split at h9
            · omega
            · split at h9
              · omega
              · split at h9 <;> omega)
        have HKZ := Lib.hid (show kZ l k = ek by unfold kZ; rw [HEZ.out])
        have c0 := HX.out.cell 0 (v := .int .i64 ek) rfl
        clear hk1
        go_wp2_with (first | (refine load_ev T36 _ rfl rfl rfl hR.out ?_) | (refine ewld_store T36 _ _ rfl rfl _ rfl rfl rfl ?_) | (refine loadB _ _ rfl rfl rfl HX.out T36 ?_))
        refine (pass_any N (djTo l k) ek t o _ ht6 HK3.out HEV.out (by have := onr_le HM.out t k (Nat.le_of_lt HKL.out); have := HKL.out; rw [HN.out] at this; omega) (fun h5 => by have := fork_ne HM.out HKL.out (by rw [HKZ.out]; exact h5); rw [HOZ.out, HTZ.out] at this; exact this) HDX.out.now).mono ?_
        rintro e6 w6 ⟨rfl, hp⟩
        have HD6 := Lib.hid (HDX.out.pass (by have h9 := hp; rw [show djStep (djTo l k) ek t o = djTo l (k + 1) by rw [djTo, HKZ.out, HTZ.out, HOZ.out]] at h9; exact h9) HNN.out HKA.out)
        clear hp
        go_wp2
        go_roundw
        case rel => exact ⟨k + 1, by omega, by go_num, HD6.out⟩
        case measure => simp [intOf]; omega
    · obtain rfl : k = n := by omega
      have HFF := Lib.hid (show accs l = acT l k by rw [accs_ok HM.out, HN.out])
      have HM0 := Lib.hid HM.out
      go_wp2
      go_ret2
      refine ⟨u6, ?_, ?_, HR.out.below⟩
      · rw [HM0.out]; rfl
      · rw [HFF.out]; exact own_drop_alloc HR.out.own (by have := HNN.out; omega)
theorem acc_any (A : Option Addr) (n c : Nat) (l : List Ev) (w : World) (hl : Sl w A n l) : Calls Tryz.prog 166 #[.slice A n c] w (AccPost w l) := by
  by_cases hm : may l = 0
  · exact acc_ok A n c l w hl hm
  · exact acc_bad A n c l w hl hm
theorem accs_own {w : World} {base : Nat} {t : TypeId} {v : Value} {n : Nat} {l : List Ev} {ks : List Nat} (h : w.ownsRow base t 10 v n (accl l ks)) :
    ∃ A c, v = .slice A n c ∧ ∀ j k, ks[j]? = some k → ∃ g, A = some ⟨g, 0, none⟩ ∧ base ≤ g ∧ g < w.heap.size ∧ w.rangeAt g (j * 10) (acl (eZ l k) k (cZ l k)) := by
  have hl : ks.length = n := by have := h.1; rw [accl_length] at this; omega
  rcases h.2 with ⟨rfl, rfl⟩ | ⟨g, cap, cur, rfl, hg, hh, hn, hc, hs, ht⟩
  · exact ⟨none, 0, rfl, fun j k hk => by have := (List.getElem?_eq_some_iff.1 hk).1; omega⟩
  · have hb : Box w g cur t := hh
    refine ⟨_, cap, rfl, fun j k hk => ⟨g, rfl, hg, hb.lt, fun i v hv => ?_⟩⟩
    have h9 := accl_at l hk i v hv
    rw [← ht, List.getElem?_take] at h9
    split at h9
    · exact hb.cell (j * 10 + i) (by simpa using h9)
    · cases h9
theorem cell_heap {w w' : World} {p : Addr} (e : w'.heap[p.block]? = w.heap[p.block]?) : w'.cell? p = w.cell? p := by
  unfold World.cell?; rw [e]
theorem rangeAt_heap {w w' : World} {b o : Nat} {cs : List Value} (e : w'.heap[b]? = w.heap[b]?) (h : w.rangeAt b o cs) : w'.rangeAt b o cs := fun j v hv => (cell_heap (p := ⟨b, o + j, none⟩) e).trans (h j v hv)
structure DtR (w w1 : World) (N V : Nat) (tv : TypeId) (zc vc : Array Value) (F : List Ev) (v : Value) (wr : World) : Prop where
  res : Box wr w.heap.size zc tv
  vars : Box wr V vc tv
  own : wr.ownsRow N 107 3 v F.length (evc F)
  keep : ∀ b, V < b → b < N → wr.heap[b]? = w1.heap[b]?
  below : Below w.heap.size w wr
  le : N ≤ wr.heap.size
section
variable {w w1 wr wr' : World} {N V : Nat} {tv : TypeId} {zc vc vc' : Array Value} {F : List Ev} {v : Value}
theorem DtR.bel (h : DtR w w1 N V tv zc vc F v wr) (hb : Bel wr wr') : DtR w w1 N V tv zc vc F v wr' :=
  ⟨hb.box h.res, hb.box h.vars, own_bel h.own hb, fun b h1 h2 => (hb.out.block b (Nat.lt_of_lt_of_le h2 h.le)).trans (h.keep b h1 h2), h.below.trans (hb.out.mono h.below.size), Nat.le_trans h.le hb.size⟩
theorem DtR.acc (h : DtR w w1 N V tv zc vc F v wr) (hb : Box wr' V vc' tv) (hc : wr.grownBy wr' (some V)) (hw : w.heap.size < V) (hV : V < N) : DtR w w1 N V tv zc vc' F v wr' :=
  ⟨h.res.grown hc (fun e => by have := Option.some.inj e; omega), hb, h.own.kept hc (.inr fun e => by have := own_block_ge h.own V e; omega),
    fun b h1 h2 => (hc.block b (Nat.lt_of_lt_of_le h2 h.le) (fun e => by have := Option.some.inj e; omega)).trans (h.keep b h1 h2),
    h.below.grown hc h.below.size (fun x e => by have := Option.some.inj e; omega), Nat.le_trans h.le hc.size⟩
theorem DtR.add (h : DtR w w1 N V tv zc vc F v wr) (hw : w.heap.size < V) (hV : V < N) {v' : Value} {e : Ev} {F' : List Ev} (hF : F' = F ++ [e]) (ho : wr'.ownsRow N 107 3 v' (F.length + 1) (evc F ++ evl e)) (hg : wr.grownBy wr' v.ownBlock) : DtR w w1 N V tv zc vc F' v' wr' := by
  have hn : ∀ X, X < N → some X ≠ v.ownBlock := fun X hX e => by have := own_block_ge h.own X e.symm; omega
  refine ⟨h.res.grown hg (hn _ (by omega)), h.vars.grown hg (hn _ hV), ?_, fun b h1 h2 => (hg.block b (Nat.lt_of_lt_of_le h2 h.le) (hn b h2)).trans (h.keep b h1 h2), h.below.grown hg h.below.size (fun x e => by have := own_block_ge h.own x e; omega), Nat.le_trans h.le hg.size⟩
  rw [hF, List.length_append, evc_append]
  exact ho
end
end Go.Proofs.YtnklpifnknmdgaaGreatDoor

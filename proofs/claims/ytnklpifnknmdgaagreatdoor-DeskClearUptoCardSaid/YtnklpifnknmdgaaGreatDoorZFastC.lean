import Derived.Deep.DeepCutAuto
import Derived.Test.YtnklpifnknmdgaaGreatDoorZFv
import Derived.Test.YtnklpifnknmdgaaGreatDoorZTrace4
set_option linter.all false
set_option maxRecDepth 100000
namespace Go.Proofs.YtnklpifnknmdgaaGreatDoor
open Go Go.RowKit

def gZ (k : Nat) : Nat → Value := fun i => if i % 4 = 2 then (if i / 4 < k then oneV 0 0 else .nilIface) else .int .i64 0
theorem gZ_up {k : Nat} : vs 32 (updC (gZ k) (k * 4 + 2) (oneV 0 0)) = vs 32 (gZ (k + 1)) := vs_congr fun i _ => by
  unfold updC gZ
  by_cases h : i = k * 4 + 2
  · rw [if_pos h, if_pos (by omega), if_pos (by omega)]
  · rw [if_neg h]
    by_cases h2 : i % 4 = 2
    · rw [if_pos h2, if_pos h2]
      by_cases h3 : i / 4 < k
      · rw [if_pos h3, if_pos (by omega)]
      · rw [if_neg h3, if_neg (by omega)]
    · rw [if_neg h2, if_neg h2]
def fZ : Nat → Fs := fun _ => fsStart
def qZ : Nat → Nat := fun _ => 0
theorem gZ_all : vs 32 (gZ 8) = vs 32 (gF fZ qZ) := vs_congr fun i hi => by
  unfold gZ gF fZ qZ
  by_cases h0 : i % 4 = 0
  · rw [if_neg (by omega), if_pos h0]; rfl
  · by_cases h1 : i % 4 = 1
    · rw [if_neg (by omega), if_neg h0, if_pos h1]; rfl
    · by_cases h2 : i % 4 = 2
      · rw [if_pos h2, if_pos (by omega), if_neg h0, if_neg h1, if_pos h2, rdv_one (s := fsStart) rfl]; rfl
      · rw [if_neg h2, if_neg h0, if_neg h1, if_neg h2]; rfl
structure StF (w : World) (k : Nat) (wr : World) : Prop where
  now : Box wr w.heap.size (vs 32 (gZ k)) 269
  below : Below w.heap.size w wr
set_option maxHeartbeats 4000000 in
theorem fnew_any (w : World) : Calls Tryz.prog 168 #[] w fun e w' => e = .returned (.pointer (some ⟨w.heap.size, 0, none⟩)) ∧ Box w' w.heap.size (vs 32 (gF fZ qZ)) 269 ∧ Below w.heap.size w w' := by
  have H0 := Lib.hid (StF.mk (Box.new w (vs 32 (gZ 0)) 269) ((Below.refl _ w).alloc (Nat.le_refl _) _))
  go_enter Tryz.func168, Tryz.ntmps168
  go_wp2
  change Code.wp _ _ _ _ (w.alloc (.cells (vs 32 (gZ 0)) 269))
  generalize (w.alloc (.cells (vs 32 (gZ 0)) 269)) = W at *
  go_loopw [3] (fun t wr => ∃ k : Nat, k ≤ 8 ∧ t = .int .i64 k ∧ StF w k wr) (fun t _ => 8 - (intOf t).toNat)
  case atStart => exact ⟨0, by omega, rfl, H0.out⟩
  case round =>
    obtain ⟨k, hk, rfl, hr⟩ := hrel
    have HR := Lib.hid hr
    clear hr H0
    by_cases hlt : k < 8
    · have hlt' : (k : Int) < 8 := by omega
      have c0 := HR.out.now.cell (k * 4 + 2) (vs_get _ (by omega))
      have g0 := HR.out.now.frozen (k * 4 + 2)
      go_wp2
      go_roundw
      case rel => exact ⟨k + 1, by omega, by go_num, ⟨by have := HR.out.now.set (k * 4 + 2) (oneV 0 0); rw [vs_set, gZ_up] at this; exact this, HR.out.below.setCell (by simp) _⟩⟩
      case measure => simp [intOf]; omega
    · obtain rfl : k = 8 := by omega
      have hn := HR.out.now
      rw [gZ_all] at hn
      go_wp2
      go_ret
      exact ⟨rfl, hn, HR.out.below⟩
end Go.Proofs.YtnklpifnknmdgaaGreatDoor
namespace Go.Proofs.YtnklpifnknmdgaaGreatDoor
open Go Go.RowKit

def fT (l : List Ev) (k : Nat) : Nat → Fs := fun x => fsTo l x k
def fxS (l : List Ev) (x : Nat) : Nat → Nat
  | 0 => 0
  | k + 1 => fxS l x k + if oZ l k = x then fsSl (fsTo l (oZ l k) k) (kZ l k) (tZ l k) (cZ l k) else 0
def qT (l : List Ev) (k : Nat) : Nat → Nat := fun x => fxS l x k
theorem qT_le (l : List Ev) (x : Nat) : ∀ k, qT l k x ≤ k
  | 0 => Nat.le_refl _
  | k + 1 => by
    have h1 := qT_le l x k
    have h2 := fsSl_le (fsTo l (oZ l k) k) (kZ l k) (tZ l k) (cZ l k)
    show fxS l x k + _ ≤ _
    have : qT l k x = fxS l x k := rfl
    split <;> omega
section
variable {l : List Ev} {k t o : Nat} {q : Int} {c : Nat → Nat}
theorem fT_step (hk : kZ l k = q) (ho : oZ l k = o) (ht : tZ l k = t) (hc : cZ l k = c) : upFs (fT l k) o (fsStep (fT l k o) q t c) = fT l (k + 1) := by
  funext x
  unfold upFs fT
  rw [fsTo]
  subst hk ho ht hc
  by_cases h : x = oZ l k
  · subst h; rw [if_pos rfl]
  · rw [if_neg h, if_neg (fun e => h e.symm)]
theorem qT_step (hk : kZ l k = q) (ho : oZ l k = o) (ht : tZ l k = t) (hc : cZ l k = c) : updN (qT l k) o (qT l k o + fsSl (fT l k o) q t c) = qT l (k + 1) := by
  funext x
  unfold updN qT fT
  rw [fxS]
  subst hk ho ht hc
  by_cases h : x = oZ l k
  · subst h; rw [if_pos rfl, if_pos rfl]
  · rw [if_neg h, if_neg (fun e => h e.symm), Nat.add_zero]
theorem fK_step (hk : kZ l k = q) (ho : oZ l k = o) (ht : tZ l k = t) (hc : cZ l k = c) : fsK (fT l k o) q t c = fkK l k := by
  subst hk ho ht hc; rfl
theorem fT_no (h : ¬ isAc l k = true) : fT l (k + 1) = fT l k := by
  have h1 : kZ l k ≠ 1 := fun e => h (by unfold isAc; exact decide_eq_true (.inl e))
  have h2 : kZ l k ≠ 2 := fun e => h (by unfold isAc; exact decide_eq_true (.inr e))
  funext x
  show fsTo l x (k + 1) = fsTo l x k
  rw [fsTo]
  unfold fsStep
  rw [if_neg h1, if_neg h2, ite_self]
theorem qT_no (h : ¬ isAc l k = true) : qT l (k + 1) = qT l k := by
  have h1 : kZ l k ≠ 1 := fun e => h (by unfold isAc; exact decide_eq_true (.inl e))
  funext x
  show fxS l x (k + 1) = fxS l x k
  rw [fxS]
  unfold fsSl
  rw [if_neg h1, ite_self, Nat.add_zero]
theorem gF_no (h : ¬ isAc l k = true) : gl (fkK l) l (k + 1) = gl (fkK l) l k :=
  gl_no (Classical.byContradiction fun hn => h (by unfold isAc; exact decide_eq_true (fkK_acc hn)))
end
def sumQ (q : Nat → Nat) : Nat → Nat
  | 0 => 0
  | m + 1 => sumQ q m + q m
theorem sumQ_step (l : List Ev) (k : Nat) : ∀ m, sumQ (qT l (k + 1)) m = sumQ (qT l k) m + if oZ l k < m then fsSl (fsTo l (oZ l k) k) (kZ l k) (tZ l k) (cZ l k) else 0
  | 0 => by simp [sumQ]
  | m + 1 => by
    have e : qT l (k + 1) m = qT l k m + if oZ l k = m then fsSl (fsTo l (oZ l k) k) (kZ l k) (tZ l k) (cZ l k) else 0 := rfl
    rw [sumQ, sumQ, sumQ_step l k m, e]
    by_cases h1 : oZ l k = m
    · rw [if_pos h1, if_neg (by omega), if_pos (by omega)]; omega
    · rw [if_neg h1]
      by_cases h2 : oZ l k < m
      · rw [if_pos h2, if_pos (by omega)]; omega
      · rw [if_neg h2, if_neg (by omega)]; omega
theorem sumQ_zero (l : List Ev) : ∀ m, sumQ (qT l 0) m = 0
  | 0 => rfl
  | m + 1 => by rw [sumQ, sumQ_zero l m]; rfl
theorem sumQ_all {l : List Ev} (hm : may l = 0) : ∀ k, k ≤ l.length → sumQ (qT l k) 8 = slT l k
  | 0, _ => sumQ_zero l 8
  | k + 1, hk => by
    rw [sumQ_step, sumQ_all hm k (by omega), slT]
    by_cases h : oZ l k < 8
    · rw [if_pos h]
    · have : fsSl (fsTo l (oZ l k) k) (kZ l k) (tZ l k) (cZ l k) = 0 := Classical.byContradiction fun hn => h (acc_o hm (by omega) (.inl (fsSl_acc hn)))
      rw [if_neg h, this]
def fslow (l : List Ev) : Nat := if may l = 0 then slT l l.length else 0
def flgV (k x : Nat) (kd : Int) : Array Value := if kd = 0 then evv ⟨0, 0, 0⟩ else evv ⟨(k : Nat), x, kd⟩
def flgB (kd : Int) : Bool := if kd = 0 then false else true
theorem flgV_yes {k x : Nat} {kd : Int} (h : ¬ kd = 0) : flgV k x kd = evv ⟨(k : Nat), x, kd⟩ := if_neg h
theorem flgB_yes {kd : Int} (h : ¬ kd = 0) : flgB kd = true := if_neg h
theorem TFg : RowTy Tryz.prog 107 3 := ⟨_, Tryz.underlying107, rfl, by kernel_rfl⟩
def FAccPost (V : Nat) (f : Nat → Fs) (q : Nat → Nat) (k x : Nat) (kd : Int) (w : World) (e : Ending) (w' : World) : Prop :=
  e = .returned (.tuple #[.agg (flgV k x kd), .bool (flgB kd)]) ∧ Box w' V (vs 32 (gF f q)) 269 ∧ w.grownBy w' (some V)
theorem grownBy_off {w w1 w2 : World} {V B : Nat} (h : w.grownBy w1 (some V)) (h2 : w1.grownBy w2 (some B)) (hB : w.heap.size ≤ B) : w.grownBy w2 (some V) :=
  ⟨h2.os.trans h.os, h2.tape.trans h.tape, h2.output.trans h.output, Nat.le_trans h.size h2.size, fun k hk hne =>
    (h2.block k (Nat.lt_of_lt_of_le hk h.size) (fun e => by have := Option.some.inj e; omega)).trans (h.block k hk hne)⟩
set_option maxHeartbeats 8000000 in
theorem fAcc_1 (V x t k : Nat) (f : Nat → Fs) (q : Nat → Nat) (c : Nat → Nat) (w : World) {kd : Int} (hkd : fsK (f x) 1 t c = kd) (hx : x < 8) (ht : t < 6) (hok : FsOk (f x)) (hq : q x ≤ 1000) (hb : Box w V (vs 32 (gF f q)) 269) :
    Calls Tryz.prog 169 #[.pointer (some ⟨V, 0, none⟩), .agg (acv ⟨1, t, x⟩ k c)] w (FAccPost V (upFs f x (fsStep (f x) 1 t c)) (updN q x (q x + fsSl (f x) 1 t c)) k x kd w) := by
  obtain ⟨b1, b2, hB, hs⟩ := boxes2 w (acv ⟨1, t, x⟩ k c) #[.int .i64 0, .int .i64 0, .int .i64 0] 230 107
  have HB := Lib.hid (Bel.of hB)
  have HB1 := Lib.hid b1
  have HB2 := Lib.hid b2
  have HV := Lib.hid (HB.out.box hb)
  have HX := Lib.hid hx
  have HT := Lib.hid ht
  have HOK := Lib.hid hok
  have HQ := Lib.hid hq
  have HKD := Lib.hid hkd
  have HVL := Lib.hid hb.lt
  have hx8 : (x : Int) < 8 := by omega
  clear hok hq hb hB hs hkd ht
  generalize hW : ((w.alloc (.cells (acv ⟨1, t, x⟩ k c) 230)).alloc (.cells #[.int .i64 0, .int .i64 0, .int .i64 0] 107)) = W at *
  go_enter Tryz.func169, Tryz.ntmps169
  go_upto_region 1 with fail
  have F2 := fun (w' : World) (h : Bel W w') => (h.box HB1.out).cell 2 (v := .int .i64 x) rfl
  have HLX := Lib.hid (fun (w' : World) (h : Bel W w') => h.box HB1.out)
  clear hW b1 b2
  refine region_growT 8 (by kernel_rfl) ?_
  (repeat (first | ((first | refine wpT_goN 0 (by simp only [List.getElem?_toArray, List.getElem?_cons_zero, List.getElem?_cons_succ] <;> rfl) (by decide +kernel) (by decide +kernel) (by kernel_rfl) (by rfl) (by exact fun _ _ _ _ h => h) (Nat.le_refl _) ?_ | refine wpT_goN 1 (by simp only [List.getElem?_toArray, List.getElem?_cons_zero, List.getElem?_cons_succ] <;> rfl) (by decide +kernel) (by decide +kernel) (by kernel_rfl) (by rfl) (by exact fun _ _ _ _ h => h) (Nat.le_refl _) ?_ | refine wpT_goN 2 (by simp only [List.getElem?_toArray, List.getElem?_cons_zero, List.getElem?_cons_succ] <;> rfl) (by decide +kernel) (by decide +kernel) (by kernel_rfl) (by rfl) (by exact fun _ _ _ _ h => h) (Nat.le_refl _) ?_ | refine wpT_goN 3 (by simp only [List.getElem?_toArray, List.getElem?_cons_zero, List.getElem?_cons_succ] <;> rfl) (by decide +kernel) (by decide +kernel) (by kernel_rfl) (by rfl) (by exact fun _ _ _ _ h => h) (Nat.le_refl _) ?_ | refine wpT_goN 4 (by simp only [List.getElem?_toArray, List.getElem?_cons_zero, List.getElem?_cons_succ] <;> rfl) (by decide +kernel) (by decide +kernel) (by kernel_rfl) (by rfl) (by exact fun _ _ _ _ h => h) (Nat.le_refl _) ?_ | refine wpT_goN 5 (by simp only [List.getElem?_toArray, List.getElem?_cons_zero, List.getElem?_cons_succ] <;> rfl) (by decide +kernel) (by decide +kernel) (by kernel_rfl) (by rfl) (by exact fun _ _ _ _ h => h) (Nat.le_refl _) ?_ | refine wpT_goN 6 (by simp only [List.getElem?_toArray, List.getElem?_cons_zero, List.getElem?_cons_succ] <;> rfl) (by decide +kernel) (by decide +kernel) (by kernel_rfl) (by rfl) (by exact fun _ _ _ _ h => h) (Nat.le_refl _) ?_ | refine wpT_goN 7 (by simp only [List.getElem?_toArray, List.getElem?_cons_zero, List.getElem?_cons_succ] <;> rfl) (by decide +kernel) (by decide +kernel) (by kernel_rfl) (by rfl) (by exact fun _ _ _ _ h => h) (Nat.le_refl _) ?_); apply Exists.intro; refine ⟨fun w1 h1 => ?_, ?_⟩; (first | exact g_move _ rfl | exact g_assign _ rfl | exact g_load _ _ rfl TAc rfl (HLX.out w1 h1) | (have fct0 := F2 w1 h1; go_simp; first | exact ⟨rfl, rfl⟩ | rfl)); simp only [Act.put, Act.eval, List.setIfInBounds_toArray, List.set_cons_zero, List.set_cons_succ, Array.getD_eq_getD_getElem?, List.getElem?_toArray, List.getElem?_cons_zero, List.getElem?_cons_succ, Option.getD_some]) | ((first | refine wpT_skip 0 (by simp only [List.getElem?_toArray, List.getElem?_cons_zero, List.getElem?_cons_succ] <;> rfl) (by decide +kernel) (by decide +kernel) (by kernel_rfl) (by rfl) (by exact fun _ _ _ _ h => h) (Nat.le_refl _) ?_ | refine wpT_skip 1 (by simp only [List.getElem?_toArray, List.getElem?_cons_zero, List.getElem?_cons_succ] <;> rfl) (by decide +kernel) (by decide +kernel) (by kernel_rfl) (by rfl) (by exact fun _ _ _ _ h => h) (Nat.le_refl _) ?_ | refine wpT_skip 2 (by simp only [List.getElem?_toArray, List.getElem?_cons_zero, List.getElem?_cons_succ] <;> rfl) (by decide +kernel) (by decide +kernel) (by kernel_rfl) (by rfl) (by exact fun _ _ _ _ h => h) (Nat.le_refl _) ?_ | refine wpT_skip 3 (by simp only [List.getElem?_toArray, List.getElem?_cons_zero, List.getElem?_cons_succ] <;> rfl) (by decide +kernel) (by decide +kernel) (by kernel_rfl) (by rfl) (by exact fun _ _ _ _ h => h) (Nat.le_refl _) ?_ | refine wpT_skip 4 (by simp only [List.getElem?_toArray, List.getElem?_cons_zero, List.getElem?_cons_succ] <;> rfl) (by decide +kernel) (by decide +kernel) (by kernel_rfl) (by rfl) (by exact fun _ _ _ _ h => h) (Nat.le_refl _) ?_ | refine wpT_skip 5 (by simp only [List.getElem?_toArray, List.getElem?_cons_zero, List.getElem?_cons_succ] <;> rfl) (by decide +kernel) (by decide +kernel) (by kernel_rfl) (by rfl) (by exact fun _ _ _ _ h => h) (Nat.le_refl _) ?_ | refine wpT_skip 6 (by simp only [List.getElem?_toArray, List.getElem?_cons_zero, List.getElem?_cons_succ] <;> rfl) (by decide +kernel) (by decide +kernel) (by kernel_rfl) (by rfl) (by exact fun _ _ _ _ h => h) (Nat.le_refl _) ?_ | refine wpT_skip 7 (by simp only [List.getElem?_toArray, List.getElem?_cons_zero, List.getElem?_cons_succ] <;> rfl) (by decide +kernel) (by decide +kernel) (by kernel_rfl) (by rfl) (by exact fun _ _ _ _ h => h) (Nat.le_refl _) ?_); simp only [Act.put, Act.eval, List.setIfInBounds_toArray, List.set_cons_zero, List.set_cons_succ, Array.getD_eq_getD_getElem?, List.getElem?_toArray, List.getElem?_cons_zero, List.getElem?_cons_succ, Option.getD_some]) | ((first | refine wpT_goA 0 (by simp only [List.getElem?_toArray, List.getElem?_cons_zero, List.getElem?_cons_succ] <;> rfl) (by decide +kernel) (by decide +kernel) (by kernel_rfl) (by rfl) (by exact fun _ _ _ _ h => h) ?_ | refine wpT_goA 1 (by simp only [List.getElem?_toArray, List.getElem?_cons_zero, List.getElem?_cons_succ] <;> rfl) (by decide +kernel) (by decide +kernel) (by kernel_rfl) (by rfl) (by exact fun _ _ _ _ h => h) ?_ | refine wpT_goA 2 (by simp only [List.getElem?_toArray, List.getElem?_cons_zero, List.getElem?_cons_succ] <;> rfl) (by decide +kernel) (by decide +kernel) (by kernel_rfl) (by rfl) (by exact fun _ _ _ _ h => h) ?_ | refine wpT_goA 3 (by simp only [List.getElem?_toArray, List.getElem?_cons_zero, List.getElem?_cons_succ] <;> rfl) (by decide +kernel) (by decide +kernel) (by kernel_rfl) (by rfl) (by exact fun _ _ _ _ h => h) ?_ | refine wpT_goA 4 (by simp only [List.getElem?_toArray, List.getElem?_cons_zero, List.getElem?_cons_succ] <;> rfl) (by decide +kernel) (by decide +kernel) (by kernel_rfl) (by rfl) (by exact fun _ _ _ _ h => h) ?_ | refine wpT_goA 5 (by simp only [List.getElem?_toArray, List.getElem?_cons_zero, List.getElem?_cons_succ] <;> rfl) (by decide +kernel) (by decide +kernel) (by kernel_rfl) (by rfl) (by exact fun _ _ _ _ h => h) ?_ | refine wpT_goA 6 (by simp only [List.getElem?_toArray, List.getElem?_cons_zero, List.getElem?_cons_succ] <;> rfl) (by decide +kernel) (by decide +kernel) (by kernel_rfl) (by rfl) (by exact fun _ _ _ _ h => h) ?_ | refine wpT_goA 7 (by simp only [List.getElem?_toArray, List.getElem?_cons_zero, List.getElem?_cons_succ] <;> rfl) (by decide +kernel) (by decide +kernel) (by kernel_rfl) (by rfl) (by exact fun _ _ _ _ h => h) ?_); apply Exists.intro; refine ⟨fun w1 => ?_, ?_⟩; (first | exact a_move _ rfl | exact a_assign _ rfl | (go_simp; first | exact ⟨rfl, rfl⟩ | rfl)); simp only [Act.put, Act.eval, List.setIfInBounds_toArray, List.set_cons_zero, List.set_cons_succ, Array.getD_eq_getD_getElem?, List.getElem?_toArray, List.getElem?_cons_zero, List.getElem?_cons_succ, Option.getD_some])))
  refine wpT_then 9 (by decide +kernel) (by decide +kernel) (by decide +kernel) (by simp only [List.getElem?_toArray, List.getElem?_cons_zero, List.getElem?_cons_succ] <;> rfl) (by simp only [List.getElem?_toArray, List.getElem?_cons_zero, List.getElem?_cons_succ] <;> rfl) rfl ?_
  intro w5 hw5
  have HV5 := Lib.hid (hw5.box HV.out)
  have HX5 := Lib.hid (hw5.box HB1.out)
  have HF5 := Lib.hid (hw5.box HB2.out)
  have HG5 := Lib.hid (HB.out.trans hw5)
  clear F2 hw5
  go_simp
  refine (facc_1 V x t k x f q c _ HX.out HT.out HOK.out HQ.out HV5.out).mono ?_
  rintro e6 w6 ⟨rfl, hb6, hc6⟩
  rw [HKD.out]
  have HX6 := Lib.hid (HX5.out.grown hc6 (fun e => by have := Option.some.inj e; have := HVL.out; omega))
  have HF6 := Lib.hid (HF5.out.grown hc6 (fun e => by have := Option.some.inj e; have := HVL.out; omega))
  have HV6 := Lib.hid hb6
  have HC6 := Lib.hid ((chg_bel HG5.out _).trans hc6)
  clear hb6 hc6
  refine ⟨_, .inl ⟨rfl, fun _ => a_assign _ rfl⟩, fun w7 hw7 => ?_⟩
  have c1 := (hw7.box HX6.out).cell 2 (v := .int .i64 x) rfl
  have c2 := (hw7.box HX6.out).cell 3 (v := .int .i64 k) rfl
  have hf7 := hw7.box HF6.out
  have HF7 := Lib.hid hf7
  have HV7 := Lib.hid (hw7.box HV6.out)
  have HC7 := Lib.hid (HC6.out.trans (chg_bel hw7 _))
  clear hw7
  simp only [Act.put, Act.eval, List.setIfInBounds_toArray, List.set_cons_zero, List.set_cons_succ, Array.getD_eq_getD_getElem?, List.getElem?_toArray, List.getElem?_cons_zero, List.getElem?_cons_succ, Option.getD_some]
  by_cases h0 : kd = 0
  · have h0' : (kd == 0) = true := by simp [h0]
    have HK0 := Lib.hid h0
    clear h0
    go_wp2_with (refine storeB (c' := evv ⟨0, 0, 0⟩) _ _ _ rfl rfl rfl rfl hf7 rfl TFg (evv_all _) ?_)
    refine bodyPost_ret (res_ct Tryz.results169 rfl (HF7.out.setRow (evv ⟨0, 0, 0⟩)) TFg) rfl ⟨?_, ?_, ?_⟩
    · rw [HK0.out]; rfl
    · exact HV7.out.setRow_ne _ _ (by have := HVL.out; omega)
    · exact grownBy_off HC7.out (chg_setRow _ _ _) (by omega)
  · have h0' : (kd == 0) = false := by simp [h0]
    have HK0 := Lib.hid h0
    clear h0
    go_wp2_with (refine storeB (c' := evv ⟨(k : Nat), x, kd⟩) _ _ _ rfl rfl rfl rfl hf7 rfl TFg (evv_all _) ?_)
    refine bodyPost_ret (res_ct Tryz.results169 rfl (HF7.out.setRow (evv ⟨(k : Nat), x, kd⟩)) TFg) rfl ⟨?_, ?_, ?_⟩
    · rw [flgV_yes HK0.out, flgB_yes HK0.out]; rfl
    · exact HV7.out.setRow_ne _ _ (by have := HVL.out; omega)
    · exact grownBy_off HC7.out (chg_setRow _ _ _) (by omega)
set_option maxHeartbeats 8000000 in
theorem fAcc_2 (V x t k : Nat) (f : Nat → Fs) (q : Nat → Nat) (c : Nat → Nat) (w : World) {kd : Int} (hkd : fsK (f x) 2 t c = kd) (hx : x < 8) (ht : t < 6) (hok : FsOk (f x)) (hq : q x ≤ 1000) (hb : Box w V (vs 32 (gF f q)) 269) :
    Calls Tryz.prog 169 #[.pointer (some ⟨V, 0, none⟩), .agg (acv ⟨2, t, x⟩ k c)] w (FAccPost V (upFs f x (fsStep (f x) 2 t c)) (updN q x (q x + fsSl (f x) 2 t c)) k x kd w) := by
  obtain ⟨b1, b2, hB, hs⟩ := boxes2 w (acv ⟨2, t, x⟩ k c) #[.int .i64 0, .int .i64 0, .int .i64 0] 230 107
  have HB := Lib.hid (Bel.of hB)
  have HB1 := Lib.hid b1
  have HB2 := Lib.hid b2
  have HV := Lib.hid (HB.out.box hb)
  have HX := Lib.hid hx
  have HT := Lib.hid ht
  have HOK := Lib.hid hok
  have HQ := Lib.hid hq
  have HKD := Lib.hid hkd
  have HVL := Lib.hid hb.lt
  have hx8 : (x : Int) < 8 := by omega
  clear hok hq hb hB hs hkd ht
  generalize hW : ((w.alloc (.cells (acv ⟨2, t, x⟩ k c) 230)).alloc (.cells #[.int .i64 0, .int .i64 0, .int .i64 0] 107)) = W at *
  go_enter Tryz.func169, Tryz.ntmps169
  go_upto_region 1 with fail
  have F2 := fun (w' : World) (h : Bel W w') => (h.box HB1.out).cell 2 (v := .int .i64 x) rfl
  have HLX := Lib.hid (fun (w' : World) (h : Bel W w') => h.box HB1.out)
  clear hW b1 b2
  refine region_growT 8 (by kernel_rfl) ?_
  (repeat (first | ((first | refine wpT_goN 0 (by simp only [List.getElem?_toArray, List.getElem?_cons_zero, List.getElem?_cons_succ] <;> rfl) (by decide +kernel) (by decide +kernel) (by kernel_rfl) (by rfl) (by exact fun _ _ _ _ h => h) (Nat.le_refl _) ?_ | refine wpT_goN 1 (by simp only [List.getElem?_toArray, List.getElem?_cons_zero, List.getElem?_cons_succ] <;> rfl) (by decide +kernel) (by decide +kernel) (by kernel_rfl) (by rfl) (by exact fun _ _ _ _ h => h) (Nat.le_refl _) ?_ | refine wpT_goN 2 (by simp only [List.getElem?_toArray, List.getElem?_cons_zero, List.getElem?_cons_succ] <;> rfl) (by decide +kernel) (by decide +kernel) (by kernel_rfl) (by rfl) (by exact fun _ _ _ _ h => h) (Nat.le_refl _) ?_ | refine wpT_goN 3 (by simp only [List.getElem?_toArray, List.getElem?_cons_zero, List.getElem?_cons_succ] <;> rfl) (by decide +kernel) (by decide +kernel) (by kernel_rfl) (by rfl) (by exact fun _ _ _ _ h => h) (Nat.le_refl _) ?_ | refine wpT_goN 4 (by simp only [List.getElem?_toArray, List.getElem?_cons_zero, List.getElem?_cons_succ] <;> rfl) (by decide +kernel) (by decide +kernel) (by kernel_rfl) (by rfl) (by exact fun _ _ _ _ h => h) (Nat.le_refl _) ?_ | refine wpT_goN 5 (by simp only [List.getElem?_toArray, List.getElem?_cons_zero, List.getElem?_cons_succ] <;> rfl) (by decide +kernel) (by decide +kernel) (by kernel_rfl) (by rfl) (by exact fun _ _ _ _ h => h) (Nat.le_refl _) ?_ | refine wpT_goN 6 (by simp only [List.getElem?_toArray, List.getElem?_cons_zero, List.getElem?_cons_succ] <;> rfl) (by decide +kernel) (by decide +kernel) (by kernel_rfl) (by rfl) (by exact fun _ _ _ _ h => h) (Nat.le_refl _) ?_ | refine wpT_goN 7 (by simp only [List.getElem?_toArray, List.getElem?_cons_zero, List.getElem?_cons_succ] <;> rfl) (by decide +kernel) (by decide +kernel) (by kernel_rfl) (by rfl) (by exact fun _ _ _ _ h => h) (Nat.le_refl _) ?_); apply Exists.intro; refine ⟨fun w1 h1 => ?_, ?_⟩; (first | exact g_move _ rfl | exact g_assign _ rfl | exact g_load _ _ rfl TAc rfl (HLX.out w1 h1) | (have fct0 := F2 w1 h1; go_simp; first | exact ⟨rfl, rfl⟩ | rfl)); simp only [Act.put, Act.eval, List.setIfInBounds_toArray, List.set_cons_zero, List.set_cons_succ, Array.getD_eq_getD_getElem?, List.getElem?_toArray, List.getElem?_cons_zero, List.getElem?_cons_succ, Option.getD_some]) | ((first | refine wpT_skip 0 (by simp only [List.getElem?_toArray, List.getElem?_cons_zero, List.getElem?_cons_succ] <;> rfl) (by decide +kernel) (by decide +kernel) (by kernel_rfl) (by rfl) (by exact fun _ _ _ _ h => h) (Nat.le_refl _) ?_ | refine wpT_skip 1 (by simp only [List.getElem?_toArray, List.getElem?_cons_zero, List.getElem?_cons_succ] <;> rfl) (by decide +kernel) (by decide +kernel) (by kernel_rfl) (by rfl) (by exact fun _ _ _ _ h => h) (Nat.le_refl _) ?_ | refine wpT_skip 2 (by simp only [List.getElem?_toArray, List.getElem?_cons_zero, List.getElem?_cons_succ] <;> rfl) (by decide +kernel) (by decide +kernel) (by kernel_rfl) (by rfl) (by exact fun _ _ _ _ h => h) (Nat.le_refl _) ?_ | refine wpT_skip 3 (by simp only [List.getElem?_toArray, List.getElem?_cons_zero, List.getElem?_cons_succ] <;> rfl) (by decide +kernel) (by decide +kernel) (by kernel_rfl) (by rfl) (by exact fun _ _ _ _ h => h) (Nat.le_refl _) ?_ | refine wpT_skip 4 (by simp only [List.getElem?_toArray, List.getElem?_cons_zero, List.getElem?_cons_succ] <;> rfl) (by decide +kernel) (by decide +kernel) (by kernel_rfl) (by rfl) (by exact fun _ _ _ _ h => h) (Nat.le_refl _) ?_ | refine wpT_skip 5 (by simp only [List.getElem?_toArray, List.getElem?_cons_zero, List.getElem?_cons_succ] <;> rfl) (by decide +kernel) (by decide +kernel) (by kernel_rfl) (by rfl) (by exact fun _ _ _ _ h => h) (Nat.le_refl _) ?_ | refine wpT_skip 6 (by simp only [List.getElem?_toArray, List.getElem?_cons_zero, List.getElem?_cons_succ] <;> rfl) (by decide +kernel) (by decide +kernel) (by kernel_rfl) (by rfl) (by exact fun _ _ _ _ h => h) (Nat.le_refl _) ?_ | refine wpT_skip 7 (by simp only [List.getElem?_toArray, List.getElem?_cons_zero, List.getElem?_cons_succ] <;> rfl) (by decide +kernel) (by decide +kernel) (by kernel_rfl) (by rfl) (by exact fun _ _ _ _ h => h) (Nat.le_refl _) ?_); simp only [Act.put, Act.eval, List.setIfInBounds_toArray, List.set_cons_zero, List.set_cons_succ, Array.getD_eq_getD_getElem?, List.getElem?_toArray, List.getElem?_cons_zero, List.getElem?_cons_succ, Option.getD_some]) | ((first | refine wpT_goA 0 (by simp only [List.getElem?_toArray, List.getElem?_cons_zero, List.getElem?_cons_succ] <;> rfl) (by decide +kernel) (by decide +kernel) (by kernel_rfl) (by rfl) (by exact fun _ _ _ _ h => h) ?_ | refine wpT_goA 1 (by simp only [List.getElem?_toArray, List.getElem?_cons_zero, List.getElem?_cons_succ] <;> rfl) (by decide +kernel) (by decide +kernel) (by kernel_rfl) (by rfl) (by exact fun _ _ _ _ h => h) ?_ | refine wpT_goA 2 (by simp only [List.getElem?_toArray, List.getElem?_cons_zero, List.getElem?_cons_succ] <;> rfl) (by decide +kernel) (by decide +kernel) (by kernel_rfl) (by rfl) (by exact fun _ _ _ _ h => h) ?_ | refine wpT_goA 3 (by simp only [List.getElem?_toArray, List.getElem?_cons_zero, List.getElem?_cons_succ] <;> rfl) (by decide +kernel) (by decide +kernel) (by kernel_rfl) (by rfl) (by exact fun _ _ _ _ h => h) ?_ | refine wpT_goA 4 (by simp only [List.getElem?_toArray, List.getElem?_cons_zero, List.getElem?_cons_succ] <;> rfl) (by decide +kernel) (by decide +kernel) (by kernel_rfl) (by rfl) (by exact fun _ _ _ _ h => h) ?_ | refine wpT_goA 5 (by simp only [List.getElem?_toArray, List.getElem?_cons_zero, List.getElem?_cons_succ] <;> rfl) (by decide +kernel) (by decide +kernel) (by kernel_rfl) (by rfl) (by exact fun _ _ _ _ h => h) ?_ | refine wpT_goA 6 (by simp only [List.getElem?_toArray, List.getElem?_cons_zero, List.getElem?_cons_succ] <;> rfl) (by decide +kernel) (by decide +kernel) (by kernel_rfl) (by rfl) (by exact fun _ _ _ _ h => h) ?_ | refine wpT_goA 7 (by simp only [List.getElem?_toArray, List.getElem?_cons_zero, List.getElem?_cons_succ] <;> rfl) (by decide +kernel) (by decide +kernel) (by kernel_rfl) (by rfl) (by exact fun _ _ _ _ h => h) ?_); apply Exists.intro; refine ⟨fun w1 => ?_, ?_⟩; (first | exact a_move _ rfl | exact a_assign _ rfl | (go_simp; first | exact ⟨rfl, rfl⟩ | rfl)); simp only [Act.put, Act.eval, List.setIfInBounds_toArray, List.set_cons_zero, List.set_cons_succ, Array.getD_eq_getD_getElem?, List.getElem?_toArray, List.getElem?_cons_zero, List.getElem?_cons_succ, Option.getD_some])))
  refine wpT_then 9 (by decide +kernel) (by decide +kernel) (by decide +kernel) (by simp only [List.getElem?_toArray, List.getElem?_cons_zero, List.getElem?_cons_succ] <;> rfl) (by simp only [List.getElem?_toArray, List.getElem?_cons_zero, List.getElem?_cons_succ] <;> rfl) rfl ?_
  intro w5 hw5
  have HV5 := Lib.hid (hw5.box HV.out)
  have HX5 := Lib.hid (hw5.box HB1.out)
  have HF5 := Lib.hid (hw5.box HB2.out)
  have HG5 := Lib.hid (HB.out.trans hw5)
  clear F2 hw5
  go_simp
  refine (facc_2 V x t k x f q c _ HX.out HT.out HOK.out HQ.out HV5.out).mono ?_
  rintro e6 w6 ⟨rfl, hb6, hc6⟩
  rw [HKD.out]
  have HX6 := Lib.hid (HX5.out.grown hc6 (fun e => by have := Option.some.inj e; have := HVL.out; omega))
  have HF6 := Lib.hid (HF5.out.grown hc6 (fun e => by have := Option.some.inj e; have := HVL.out; omega))
  have HV6 := Lib.hid hb6
  have HC6 := Lib.hid ((chg_bel HG5.out _).trans hc6)
  clear hb6 hc6
  refine ⟨_, .inl ⟨rfl, fun _ => a_assign _ rfl⟩, fun w7 hw7 => ?_⟩
  have c1 := (hw7.box HX6.out).cell 2 (v := .int .i64 x) rfl
  have c2 := (hw7.box HX6.out).cell 3 (v := .int .i64 k) rfl
  have hf7 := hw7.box HF6.out
  have HF7 := Lib.hid hf7
  have HV7 := Lib.hid (hw7.box HV6.out)
  have HC7 := Lib.hid (HC6.out.trans (chg_bel hw7 _))
  clear hw7
  simp only [Act.put, Act.eval, List.setIfInBounds_toArray, List.set_cons_zero, List.set_cons_succ, Array.getD_eq_getD_getElem?, List.getElem?_toArray, List.getElem?_cons_zero, List.getElem?_cons_succ, Option.getD_some]
  by_cases h0 : kd = 0
  · have h0' : (kd == 0) = true := by simp [h0]
    have HK0 := Lib.hid h0
    clear h0
    go_wp2_with (refine storeB (c' := evv ⟨0, 0, 0⟩) _ _ _ rfl rfl rfl rfl hf7 rfl TFg (evv_all _) ?_)
    refine bodyPost_ret (res_ct Tryz.results169 rfl (HF7.out.setRow (evv ⟨0, 0, 0⟩)) TFg) rfl ⟨?_, ?_, ?_⟩
    · rw [HK0.out]; rfl
    · exact HV7.out.setRow_ne _ _ (by have := HVL.out; omega)
    · exact grownBy_off HC7.out (chg_setRow _ _ _) (by omega)
  · have h0' : (kd == 0) = false := by simp [h0]
    have HK0 := Lib.hid h0
    clear h0
    go_wp2_with (refine storeB (c' := evv ⟨(k : Nat), x, kd⟩) _ _ _ rfl rfl rfl rfl hf7 rfl TFg (evv_all _) ?_)
    refine bodyPost_ret (res_ct Tryz.results169 rfl (HF7.out.setRow (evv ⟨(k : Nat), x, kd⟩)) TFg) rfl ⟨?_, ?_, ?_⟩
    · rw [flgV_yes HK0.out, flgB_yes HK0.out]; rfl
    · exact HV7.out.setRow_ne _ _ (by have := HVL.out; omega)
    · exact grownBy_off HC7.out (chg_setRow _ _ _) (by omega)
def FDetPost (w : World) (l : List Ev) (e : Ending) (w' : World) : Prop :=
  ∃ v V f q, e = .returned (.tuple #[v, .pointer (some ⟨V, 0, none⟩), .int .i64 (may l)]) ∧ Box w' V (vs 32 (gF f q)) 269 ∧ w.heap.size ≤ V ∧ (sumQ q 8 = fslow l ∧ ∀ x, q x ≤ 1000) ∧ w'.ownsRow w.heap.size 107 3 v (fflags l).length (evc (fflags l)) ∧ Below w.heap.size w w'
structure DtF (w w1 : World) (N V : Nat) (vc : Array Value) (F : List Ev) (v : Value) (wr : World) : Prop where
  vars : Box wr V vc 269
  own : wr.ownsRow N 107 3 v F.length (evc F)
  keep : ∀ b, V < b → b < N → wr.heap[b]? = w1.heap[b]?
  below : Below w.heap.size w wr
  le : N ≤ wr.heap.size
section
variable {w w1 wr wr' : World} {N V : Nat} {vc vc' : Array Value} {F : List Ev} {v : Value}
theorem DtF.bel (h : DtF w w1 N V vc F v wr) (hb : Bel wr wr') : DtF w w1 N V vc F v wr' :=
  ⟨hb.box h.vars, own_bel h.own hb, fun b h1 h2 => (hb.out.block b (Nat.lt_of_lt_of_le h2 h.le)).trans (h.keep b h1 h2), h.below.trans (hb.out.mono h.below.size), Nat.le_trans h.le hb.size⟩
theorem DtF.acc (h : DtF w w1 N V vc F v wr) (hb : Box wr' V vc' 269) (hc : wr.grownBy wr' (some V)) (hw : w.heap.size ≤ V) (hV : V < N) : DtF w w1 N V vc' F v wr' :=
  ⟨hb, h.own.kept hc (.inr fun e => by have := own_block_ge h.own V e; omega),
    fun b h1 h2 => (hc.block b (Nat.lt_of_lt_of_le h2 h.le) (fun e => by have := Option.some.inj e; omega)).trans (h.keep b h1 h2),
    h.below.grown hc h.below.size (fun x e => by have := Option.some.inj e; omega), Nat.le_trans h.le hc.size⟩
theorem DtF.add (h : DtF w w1 N V vc F v wr) (hw : w.heap.size ≤ V) (hV : V < N) {v' : Value} {e : Ev} {F' : List Ev} (hF : F' = F ++ [e]) (ho : wr'.ownsRow N 107 3 v' (F.length + 1) (evc F ++ evl e)) (hg : wr.grownBy wr' v.ownBlock) : DtF w w1 N V vc F' v' wr' := by
  have hn : ∀ X, X < N → some X ≠ v.ownBlock := fun X hX e => by have := own_block_ge h.own X e.symm; omega
  refine ⟨h.vars.grown hg (hn _ hV), ?_, fun b h1 h2 => (hg.block b (Nat.lt_of_lt_of_le h2 h.le) (hn b h2)).trans (h.keep b h1 h2), h.below.grown hg h.below.size (fun x e => by have := own_block_ge h.own x e; omega), Nat.le_trans h.le hg.size⟩
  rw [hF, List.length_append, evc_append]
  exact ho
end
set_option maxHeartbeats 16000000 in
theorem fdetect_any (A : Option Addr) (n c : Nat) (l : List Ev) (w : World) (hl : Sl w A n l) : Calls Tryz.prog 140 #[.slice A n c] w (FDetPost w l) := by
  obtain ⟨i0, hi0, hz0, hz1, hz2⟩ := info_parts fl_info
  have J := Lib.hid (And.intro hi0 (And.intro hz0 (And.intro hz1 hz2)))
  have HL := Lib.hid hl
  clear hi0 hz0 hz1 hz2 hl
  go_enter Tryz.func140, Tryz.ntmps140
  go_wp2_with fail
  refine (fnew_any _).mono ?_
  rintro e w2 ⟨rfl, hv, hb⟩
  have HX3 := Lib.hid (Bel.of hb)
  have HV3 := Lib.hid hv
  clear hv hb
  have HVW := Lib.hid (Nat.le_refl w.heap.size)
  generalize hVV : w.heap.size = V at HV3 HVW ⊢
  have HVE := Lib.hid hVV
  clear hVV
  go_wp2_with fail
  refine (acc_any A n c l _ (HL.out.bel HX3.out)).mono ?_
  rintro e w1 ⟨va, rfl, hown, hb⟩
  have HX1 := Lib.hid (Bel.of hb)
  obtain ⟨A1, c1, rfl, hat⟩ := accs_own hown
  have HAT := Lib.hid hat
  have HV3L := Lib.hid HV3.out.lt
  have HNN := Lib.hid (show V < w1.heap.size from Nat.lt_of_lt_of_le HV3.out.lt HX1.out.size)
  have HWV := Lib.hid (show w.heap.size ≤ V by have := HVE.out; omega)
  have H0 := Lib.hid (show DtF w w1 w1.heap.size V (vs 32 (gF (fT l 0) (qT l 0))) (gl (fkK l) l 0) (.slice none 0 0) w1 from
    ⟨HX1.out.box HV3.out, World.ownsRow_nil _ _ _ _, fun _ _ _ => rfl, (HX3.out.trans HX1.out).out, Nat.le_refl _⟩)
  have HSM := Lib.hid (fun k k' (h : (acT l k).length = (acT l k').length) => show fT l k = fT l k' ∧ qT l k = qT l k' ∧ gl (fkK l) l k = gl (fkK l) l k' by
    have hs : ∀ {i k : Nat}, i ≤ k → (acT l i).length = (acT l k).length → fT l k = fT l i ∧ qT l k = qT l i ∧ gl (fkK l) l k = gl (fkK l) l i := fun hik he =>
      ⟨acT_same l (fT l) (fun k hk => fT_no hk) hik he, acT_same l (qT l) (fun k hk => qT_no hk) hik he, acT_same l (gl (fkK l) l) (fun k hk => gF_no hk) hik he⟩
    rcases Nat.le_total k k' with hk | hk
    · obtain ⟨h1, h2, h3⟩ := hs hk h; exact ⟨h1.symm, h2.symm, h3.symm⟩
    · exact hs hk h.symm)
  clear hown hb hat
  generalize hN : w1.heap.size = N at *
  have HN1 := Lib.hid hN
  clear hN
  generalize hm : (accs l).length = m at *
  have HM1 := Lib.hid hm
  have hm80 : m ≤ 80 := by
    by_cases h0 : may l = 0
    · rw [← hm, accs_ok h0]; exact Nat.le_trans (acT_len l _) ((may_iff l).1 h0).1
    · rw [← hm, accs_no h0]; exact Nat.zero_le _
  clear hm
  go_wp2
  go_loopw [5, 21] (fun v t20 wr => ∃ j k : Nat, k ≤ l.length ∧ (acT l k).length = j ∧ j ≤ m ∧ t20 = .int .i64 j ∧ DtF w w1 N V (vs 32 (gF (fT l k) (qT l k))) (gl (fkK l) l k) v wr) (fun _ t20 _ => m - (intOf t20).toNat)
  case atStart => exact ⟨0, 0, Nat.zero_le _, rfl, Nat.zero_le _, rfl, H0.out⟩
  case round =>
    obtain ⟨j, k0, hk0, hkj0, hj, rfl, hr⟩ := hrel
    by_cases hlt : j < m
    · have hm : may l = 0 := Classical.byContradiction fun hm => by have := HM1.out; rw [accs_no hm] at this; simp at this; omega
      have hac : accs l = acT l l.length := accs_ok hm
      obtain ⟨k, hkl, hka, hkj, hget⟩ := acT_at l (j := j) (n := l.length) (by rw [← hac, HM1.out]; exact hlt)
      obtain ⟨g, rfl, hg1, hg2, hrg⟩ := HAT.out j k (by rw [hac]; exact hget)
      obtain ⟨hs1, hs2, hs3⟩ := HSM.out k0 k (by rw [hkj0, hkj])
      rw [hs1, hs2, hs3] at hr
      have hrg2 := rangeAt_heap (hr.keep g (by have := HV3L.out; omega) hg2) hrg
      have hlt' : (j : Int) < m := by omega
      have hev := eZ_ok hm hkl
      have HOKA := Lib.hid (fun x => fsOk_all hm x k (Nat.le_of_lt hkl))
      have het := isEv_t hev
      have heo := isEv_o hev
      have hk12 : (eZ l k).k = 1 ∨ (eZ l k).k = 2 := of_decide_eq_true (show decide (kZ l k = 1 ∨ kZ l k = 2) = true from hka)
      have hcz : cZ l k = (djTo l k).C (tZ l k) := rfl
      have htz : tZ l k = (eZ l k).t.toNat := rfl
      have hoz : oZ l k = (eZ l k).o.toNat := rfl
      rw [hcz] at hrg2
      generalize heq : eZ l k = ev at *
      obtain ⟨ek, et, eo⟩ := ev
      dsimp only at het heo hk12 htz hoz
      obtain ⟨t, rfl⟩ := Int.eq_ofNat_of_zero_le het.1
      obtain ⟨o, rfl⟩ := Int.eq_ofNat_of_zero_le heo.1
      have htz' : tZ l k = t := by rw [htz]; rfl
      have hoz' : oZ l k = o := by rw [hoz]; rfl
      rw [htz'] at hrg2
      have ht6 : t < 6 := by have := het.2; omega
      have ho8 : o < 8 := by have h9 := heo.2; unfold nobj at h9; rw [if_pos hk12] at h9; omega
      have ho8' : (o : Int) < 8 := by omega
      have HEZ := Lib.hid heq
      have HTZ := Lib.hid htz'
      have HOZ := Lib.hid hoz'
      have HCZ := Lib.hid (show cZ l k = (djTo l k).C t by rw [hcz, htz'])
      have HOK := Lib.hid (show FsOk (fT l k o) from HOKA.out o)
      have HO8 := Lib.hid ho8
      have HKL := Lib.hid hkl
      have HK80 := Lib.hid (show k < 80 by have := ((may_iff l).1 hm).1; omega)
      have HKA := Lib.hid hka
      have HKJ := Lib.hid hkj
      have hR := Lib.hid hrg2
      have HX := Lib.hid (acld_box wr ⟨ek, t, o⟩ k ((djTo l k).C t) 230)
      have HDX := Lib.hid (hr.bel (acld_below wr ⟨ek, t, o⟩ k ((djTo l k).C t) 230))
      have HXN := Lib.hid (show V < wr.heap.size from hr.vars.lt)
      clear H0 hr hs1 hs2 hs3 hm hac hget hg1 hg2 hrg hrg2 hev het heo htz hoz htz' hoz' hcz heq hkl hka hkj hk0 hkj0 ho8
      rcases hk12 with rfl | rfl
      · have HKZ := Lib.hid (show kZ l k = 1 by unfold kZ; rw [HEZ.out])
        have HKN := Lib.hid (fK_step HKZ.out HOZ.out HTZ.out HCZ.out)
        go_upto_region 7 with (first | (refine load_ac TAc _ rfl rfl rfl hR.out ?_) | (refine acld_store TAc _ _ rfl rfl _ rfl rfl rfl ?_))
        generalize hw3 : acld wr ⟨1, t, o⟩ k ((djTo l k).C t) 230 = w3 at *
        have hx3 := HX.out
        clear hw3
        go_wp2_with (refine loadB _ _ rfl rfl rfl hx3 TAc ?_)
        refine (fAcc_1 V o t k (fT l k) (qT l k) ((djTo l k).C t) _ HKN.out HO8.out ht6 HOK.out (by have := qT_le l o k; have := HK80.out; omega) HDX.out.vars).mono ?_
        rintro e6 w6 ⟨rfl, hb6, hc6⟩
        rw [fT_step HKZ.out HOZ.out HTZ.out HCZ.out, qT_step HKZ.out HOZ.out HTZ.out HCZ.out] at hb6
        have HD6 := Lib.hid (HDX.out.acc hb6 hc6 HWV.out HNN.out)
        clear hb6 hc6 hx3
        have HLE := Lib.hid (gl_len (fkK l) l k)
        by_cases h0 : fkK l k = 0
        · have HF := Lib.hid (show gl (fkK l) l (k + 1) = gl (fkK l) l k from gl_no h0)
          have hV0 : flgV k o (fkK l k) = evv ⟨0, 0, 0⟩ := if_pos h0
          have hB0 : flgB (fkK l k) = false := if_pos h0
          rw [hV0, hB0]
          clear h0 hV0 hB0
          go_wp2_with (refine storeNew (c' := evv ⟨0, 0, 0⟩) _ _ _ rfl rfl rfl rfl rfl TFg (evv_all _) ?_)
          go_roundw
          case rel => exact ⟨j + 1, k + 1, HKL.out, by rw [acT_yes HKA.out, List.length_append, HKJ.out]; rfl, hlt, by go_num, by rw [HF.out]; exact HD6.out.bel ((Bel.refl w6).alloc _)⟩
          case measure => simp [intOf]; omega
        · have HF := Lib.hid (show gl (fkK l) l (k + 1) = gl (fkK l) l k ++ [⟨(k : Nat), o, fkK l k⟩] by rw [gl_yes h0, HEZ.out])
          rw [flgV_yes h0, flgB_yes h0]
          clear h0
          have HW7 := Lib.hid ((Bel.refl w6).alloc (.cells (evv ⟨(k : Nat), o, fkK l k⟩) 107))
          have hx7 := Box.new w6 (evv ⟨(k : Nat), o, fkK l k⟩) 107
          have HD7 := Lib.hid (HD6.out.bel HW7.out)
          go_upto_region 9 with (refine storeNew (c' := evv ⟨(k : Nat), o, fkK l k⟩) _ _ _ rfl rfl rfl rfl rfl TFg (evv_all _) ?_)
          generalize hw7 : (w6.alloc (.cells (evv ⟨(k : Nat), o, fkK l k⟩) 107)) = w7 at *
          clear hw7
          have HDA := Lib.hid (HD7.out.bel ((Bel.refl w7).alloc (.cells (evv ⟨(k : Nat), o, fkK l k⟩) 107)))
          have HNW := Lib.hid (Box.news (l := evl ⟨(k : Nat), o, fkK l k⟩) (Box.new w7 (evv ⟨(k : Nat), o, fkK l k⟩) 107))
          have HSZ := Lib.hid HDA.out.le
          go_wp2_with (first | (refine loadB _ _ rfl rfl rfl hx7 TFg ?_) | (refine build1 59 _ rfl rfl 107 i0 Tryz.underlying59 J.out.1 J.out.2.1 J.out.2.2.1 ⟨(k : Nat), o, fkK l k⟩ rfl ?_) | (at_builtin; refine wpList_append_own_at _ rfl (.tmp 32) (.tmp 34) _ rfl N 107 i0 _ 3 24 Tryz.underlying59 J.out.1 J.out.2.1 J.out.2.2.1 J.out.2.2.2 rfl (by omega) _ (gl (fkK l) l k).length _ rfl HDA.out.own _ 1 1 (evl ⟨(k : Nat), o, fkK l k⟩) rfl rfl HNW.out (by simp [evl, Value.oneCell']) (by have := HLE.out; have := HK80.out; unfold maxLen; omega) (by have := HLE.out; have := HK80.out; omega) HSZ.out ?_; intro v8 w8 hown8 hg8 hn8 hat8))
          refine ⟨⟨j + 1, k + 1, HKL.out, by rw [acT_yes HKA.out, List.length_append, HKJ.out]; rfl, hlt, by go_num, HDA.out.add HWV.out HNN.out HF.out hown8 hg8⟩, by simp [intOf]; omega⟩
      · have HKZ := Lib.hid (show kZ l k = 2 by unfold kZ; rw [HEZ.out])
        have HKN := Lib.hid (fK_step HKZ.out HOZ.out HTZ.out HCZ.out)
        go_upto_region 7 with (first | (refine load_ac TAc _ rfl rfl rfl hR.out ?_) | (refine acld_store TAc _ _ rfl rfl _ rfl rfl rfl ?_))
        generalize hw3 : acld wr ⟨2, t, o⟩ k ((djTo l k).C t) 230 = w3 at *
        have hx3 := HX.out
        clear hw3
        go_wp2_with (refine loadB _ _ rfl rfl rfl hx3 TAc ?_)
        refine (fAcc_2 V o t k (fT l k) (qT l k) ((djTo l k).C t) _ HKN.out HO8.out ht6 HOK.out (by have := qT_le l o k; have := HK80.out; omega) HDX.out.vars).mono ?_
        rintro e6 w6 ⟨rfl, hb6, hc6⟩
        rw [fT_step HKZ.out HOZ.out HTZ.out HCZ.out, qT_step HKZ.out HOZ.out HTZ.out HCZ.out] at hb6
        have HD6 := Lib.hid (HDX.out.acc hb6 hc6 HWV.out HNN.out)
        clear hb6 hc6 hx3
        have HLE := Lib.hid (gl_len (fkK l) l k)
        by_cases h0 : fkK l k = 0
        · have HF := Lib.hid (show gl (fkK l) l (k + 1) = gl (fkK l) l k from gl_no h0)
          have hV0 : flgV k o (fkK l k) = evv ⟨0, 0, 0⟩ := if_pos h0
          have hB0 : flgB (fkK l k) = false := if_pos h0
          rw [hV0, hB0]
          clear h0 hV0 hB0
          go_wp2_with (refine storeNew (c' := evv ⟨0, 0, 0⟩) _ _ _ rfl rfl rfl rfl rfl TFg (evv_all _) ?_)
          go_roundw
          case rel => exact ⟨j + 1, k + 1, HKL.out, by rw [acT_yes HKA.out, List.length_append, HKJ.out]; rfl, hlt, by go_num, by rw [HF.out]; exact HD6.out.bel ((Bel.refl w6).alloc _)⟩
          case measure => simp [intOf]; omega
        · have HF := Lib.hid (show gl (fkK l) l (k + 1) = gl (fkK l) l k ++ [⟨(k : Nat), o, fkK l k⟩] by rw [gl_yes h0, HEZ.out])
          rw [flgV_yes h0, flgB_yes h0]
          clear h0
          have HW7 := Lib.hid ((Bel.refl w6).alloc (.cells (evv ⟨(k : Nat), o, fkK l k⟩) 107))
          have hx7 := Box.new w6 (evv ⟨(k : Nat), o, fkK l k⟩) 107
          have HD7 := Lib.hid (HD6.out.bel HW7.out)
          go_upto_region 9 with (refine storeNew (c' := evv ⟨(k : Nat), o, fkK l k⟩) _ _ _ rfl rfl rfl rfl rfl TFg (evv_all _) ?_)
          generalize hw7 : (w6.alloc (.cells (evv ⟨(k : Nat), o, fkK l k⟩) 107)) = w7 at *
          clear hw7
          have HDA := Lib.hid (HD7.out.bel ((Bel.refl w7).alloc (.cells (evv ⟨(k : Nat), o, fkK l k⟩) 107)))
          have HNW := Lib.hid (Box.news (l := evl ⟨(k : Nat), o, fkK l k⟩) (Box.new w7 (evv ⟨(k : Nat), o, fkK l k⟩) 107))
          have HSZ := Lib.hid HDA.out.le
          go_wp2_with (first | (refine loadB _ _ rfl rfl rfl hx7 TFg ?_) | (refine build1 59 _ rfl rfl 107 i0 Tryz.underlying59 J.out.1 J.out.2.1 J.out.2.2.1 ⟨(k : Nat), o, fkK l k⟩ rfl ?_) | (at_builtin; refine wpList_append_own_at _ rfl (.tmp 32) (.tmp 34) _ rfl N 107 i0 _ 3 24 Tryz.underlying59 J.out.1 J.out.2.1 J.out.2.2.1 J.out.2.2.2 rfl (by omega) _ (gl (fkK l) l k).length _ rfl HDA.out.own _ 1 1 (evl ⟨(k : Nat), o, fkK l k⟩) rfl rfl HNW.out (by simp [evl, Value.oneCell']) (by have := HLE.out; have := HK80.out; unfold maxLen; omega) (by have := HLE.out; have := HK80.out; omega) HSZ.out ?_; intro v8 w8 hown8 hg8 hn8 hat8))
          refine ⟨⟨j + 1, k + 1, HKL.out, by rw [acT_yes HKA.out, List.length_append, HKJ.out]; rfl, hlt, by go_num, HDA.out.add HWV.out HNN.out HF.out hown8 hg8⟩, by simp [intOf]; omega⟩
    · obtain rfl : j = m := by omega
      have hfin : sumQ (qT l k0) 8 = fslow l ∧ fflags l = gl (fkK l) l k0 := by
        by_cases hm : may l = 0
        · obtain ⟨h1, h2, h3⟩ := HSM.out l.length k0 (by rw [hkj0, ← HM1.out, accs_ok hm])
          refine ⟨?_, by rw [fflags_ok hm, h3]⟩
          unfold fslow
          rw [if_pos hm, ← h2, sumQ_all hm _ (Nat.le_refl _)]
        · obtain ⟨h1, h2, h3⟩ := HSM.out k0 0 (by rw [hkj0, ← HM1.out, accs_no hm]; rfl)
          refine ⟨?_, by rw [fflags_no hm, h3]; rfl⟩
          unfold fslow
          rw [if_neg hm, h2, sumQ_zero]
      have HSU := Lib.hid hfin.1
      have HFF := Lib.hid hfin.2
      have HQL := Lib.hid (show ∀ x, qT l k0 x ≤ 1000 from fun x => by
        have h1 := qT_le l x k0
        by_cases hm : may l = 0
        · have := ((may_iff l).1 hm).1; omega
        · obtain ⟨_, h2, _⟩ := HSM.out k0 0 (by rw [hkj0, ← HM1.out, accs_no hm]; rfl)
          rw [h2]; exact Nat.zero_le _)
      have HR := Lib.hid hr
      clear H0 hr hfin hkj0 hk0
      have hfl := HR.out.own
      rw [← HFF.out] at hfl
      have HFL := Lib.hid hfl
      clear hfl
      go_wp2
      go_ret3
      exact ⟨_, V, fT l k0, qT l k0, rfl, HR.out.vars, HWV.out, ⟨HSU.out, HQL.out⟩, own_drop_alloc HFL.out (by have := HNN.out; have := HWV.out; omega), HR.out.below⟩
end Go.Proofs.YtnklpifnknmdgaaGreatDoor
namespace Go.Proofs.YtnklpifnknmdgaaGreatDoor
open Go Go.RowKit

def FRunPost (w : World) (l : List Ev) (e : Ending) (w' : World) : Prop :=
  ∃ v, e = .returned (.tuple #[v, .int .i64 (may l)]) ∧ w'.ownsRow w.heap.size 107 3 v (fflags l).length (evc (fflags l)) ∧ Below w.heap.size w w'
set_option maxHeartbeats 4000000 in
theorem frun_any (A : Option Addr) (n c : Nat) (l : List Ev) (w : World) (hl : Sl w A n l) : Calls Tryz.prog 102 #[.slice A n c] w (FRunPost w l) := by
  have HL := Lib.hid hl
  clear hl
  go_enter Tryz.func102, Tryz.ntmps102
  go_wp2_with fail
  refine (fdetect_any A n c l _ HL.out).mono ?_
  rintro e w1 ⟨v, V, f, q, rfl, _, _, hs, hown, hb⟩
  have HO := Lib.hid hown
  have HB := Lib.hid hb
  clear hown hb hs
  go_wp2
  go_ret2
  exact ⟨_, rfl, HO.out, HB.out⟩
end Go.Proofs.YtnklpifnknmdgaaGreatDoor

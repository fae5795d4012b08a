/- Contracts of package fast: conflict, write, access. | Contracts of package fast: access, start. -/
import Derived.Test.YtnjaeampnakbbaaFv
import Derived.Test.YtnjaeampnakbbaaAc
set_option linter.all false
set_option maxRecDepth 100000
namespace Go.Proofs.Ytnjaeampnakbbaa
open Go Go.RowKit

theorem wr_row {w : World} {V x : Nat} {f : Nat → Fs} {q : Nat → Nat} (h : Box w V (vs 32 (gF f q)) 73) (hx : x < 8) : w.rangeAt V (x * 4) [.int .i64 ((f x).wt : Nat), .int .i64 ((f x).wn : Nat)] := fun j v hv => by
  match j, hv with
  | 0, hv => cases hv; have := h.cell (x * 4) (vs_get _ (by omega)); rw [gF_0] at this; exact this
  | 1, hv => cases hv; have := h.cell (x * 4 + 1) (vs_get _ (by omega)); rw [gF_1] at this; exact this
/-- The kind of a Write's flag. -/
def cfK (s : Fs) (c : Nat → Nat) : Int := if s.wn ≤ c s.wt then (if rKn s c = true then 0 else 3) else 1
set_option maxHeartbeats 8000000 in
theorem fconf_any (V x : Nat) (f : Nat → Fs) (q : Nat → Nat) (c : Nat → Nat) (w : World) (hx : x < 8) (hok : FsOk (f x)) (hb : Box w V (vs 32 (gF f q)) 73) :
    Calls Try.prog 99 #[.pointer (some ⟨V, x * 4, none⟩), .agg (clk (ck c))] w fun e w' => e = .returned (.int .i64 (cfK (f x) c)) ∧ Below w.heap.size w w' := by
  have HBW := Lib.hid (show Bel w (w.alloc (.cells (clk (ck c)) 30)) from (Bel.refl w).alloc _)
  have bx := Box.new w (clk (ck c)) 30
  have HV := Lib.hid (HBW.out.box hb)
  have HBX := Lib.hid bx
  have HOK := Lib.hid hok
  have HX := Lib.hid hx
  have HW5 := Lib.hid (fun (w' : World) (h : Bel (w.alloc (.cells (clk (ck c)) 30)) w') => wr_row (h.box HV.out) hx)
  clear hb hok
  generalize hW : w.alloc (.cells (clk (ck c)) 30) = W at *
  by_cases hk : (f x).wn ≤ c (f x).wt
  · have hk' : decide ((f x).wn ≤ c (f x).wt) = true := decide_eq_true hk
    by_cases hm : (f x).many = true
    · have HC := Lib.hid (show gF f q (x * 4 + 2) = .iface 167 (.agg (clk (ck (f x).rc))) by rw [gF_2, rdv_many hm]; rfl)
      have HR := Lib.hid (show rKn (f x) c = knwB (f x).rc c by unfold rKn; rw [if_pos hm])
      have q2 := fun n => mk_many n (f x).rc
      have HKC := Lib.hid (show cfK (f x) c = if rKn (f x) c = true then 0 else 3 by unfold cfK; rw [if_pos hk])
      clear hk hm
      go_enter Try.func99, Try.ntmps99
      go_wp2
      clear hW
      (refine region_bel (by kernel_rfl) (by kernel_rfl) ?_; (repeat (first | ((with_reducible refine BigFrame.wpQuiet_skip ?_ ?_); exact rfl; simp only [Act.put, Act.eval, List.setIfInBounds_toArray, List.set_cons_zero, List.set_cons_succ, Array.getD_eq_getD_getElem?, List.getElem?_toArray, List.getElem?_cons_zero, List.getElem?_cons_succ, Option.getD_some]) | (refine q_move _ rfl rfl ?_; simp only [Act.put, Act.eval, List.setIfInBounds_toArray, List.set_cons_zero, List.set_cons_succ, Array.getD_eq_getD_getElem?, List.getElem?_toArray, List.getElem?_cons_zero, List.getElem?_cons_succ, Option.getD_some]) | (refine q_assign _ rfl rfl ?_; simp only [Act.put, Act.eval, List.setIfInBounds_toArray, List.set_cons_zero, List.set_cons_succ, Array.getD_eq_getD_getElem?, List.getElem?_toArray, List.getElem?_cons_zero, List.getElem?_cons_succ, Option.getD_some]) | (refine q_load _ _ rfl rfl rfl bx ty28 ?_; simp only [Act.put, Act.eval, List.setIfInBounds_toArray, List.set_cons_zero, List.set_cons_succ, Array.getD_eq_getD_getElem?, List.getElem?_toArray, List.getElem?_cons_zero, List.getElem?_cons_succ, Option.getD_some]) | (refine q_load_mid _ _ rfl rfl rfl HW5.out ty37 (ep ((f x).wt : Nat) ((f x).wn : Nat)) rfl ?_; simp only [Act.put, Act.eval, List.setIfInBounds_toArray, List.set_cons_zero, List.set_cons_succ, Array.getD_eq_getD_getElem?, List.getElem?_toArray, List.getElem?_cons_zero, List.getElem?_cons_succ, Option.getD_some]) | (refine q_any rfl ?_; apply Exists.intro; refine ⟨fun w hw => ?_, ?_⟩; (go_simp; first | exact ⟨rfl, rfl⟩ | rfl | (go_at_call 98; (with_reducible refine (seen_any _ _ _ _).mono ?_); rintro e w' ⟨rfl, hb⟩; exact ⟨rfl, hw.call hb⟩)); simp only [Act.put, Act.eval, List.setIfInBounds_toArray, List.set_cons_zero, List.set_cons_succ, Array.getD_eq_getD_getElem?, List.getElem?_toArray, List.getElem?_cons_zero, List.getElem?_cons_succ, Option.getD_some]))); refine wpQuiet_nil ?_; intro w2 hw2)
      rw [seen_ck c HOK.out.wt, hk']
      have HW2 := Lib.hid hw2
      have bx2 := hw2.box HBX.out
      have HV2 := Lib.hid (hw2.box HV.out)
      clear hw2 hk' bx
      go_wp2
      have F2 := fun (w' : World) (h : Bel w2 w') => HC.out ▸ (h.box HV2.out).cell (x * 4 + 2) (vs_get _ (by omega))
      (refine region_bel (by kernel_rfl) (by kernel_rfl) ?_; (repeat (first | ((with_reducible refine BigFrame.wpQuiet_skip ?_ ?_); exact rfl; simp only [Act.put, Act.eval, List.setIfInBounds_toArray, List.set_cons_zero, List.set_cons_succ, Array.getD_eq_getD_getElem?, List.getElem?_toArray, List.getElem?_cons_zero, List.getElem?_cons_succ, Option.getD_some]) | (refine q_move _ rfl rfl ?_; simp only [Act.put, Act.eval, List.setIfInBounds_toArray, List.set_cons_zero, List.set_cons_succ, Array.getD_eq_getD_getElem?, List.getElem?_toArray, List.getElem?_cons_zero, List.getElem?_cons_succ, Option.getD_some]) | (refine q_assign _ rfl rfl ?_; simp only [Act.put, Act.eval, List.setIfInBounds_toArray, List.set_cons_zero, List.set_cons_succ, Array.getD_eq_getD_getElem?, List.getElem?_toArray, List.getElem?_cons_zero, List.getElem?_cons_succ, Option.getD_some]) | (refine q_load _ _ rfl rfl rfl bx2 ty28 ?_; simp only [Act.put, Act.eval, List.setIfInBounds_toArray, List.set_cons_zero, List.set_cons_succ, Array.getD_eq_getD_getElem?, List.getElem?_toArray, List.getElem?_cons_zero, List.getElem?_cons_succ, Option.getD_some]) | (refine q_any rfl ?_; apply Exists.intro; refine ⟨fun w hw => ?_, ?_⟩; (have fct0 := F2 w hw; go_simp; first | exact ⟨rfl, rfl⟩ | rfl | (go_at_call 126; (with_reducible refine (vknown_any _ _ _).mono ?_); rintro e w' ⟨rfl, hb⟩; exact ⟨rfl, hw.call hb⟩)); simp only [Act.put, Act.eval, List.setIfInBounds_toArray, List.set_cons_zero, List.set_cons_succ, Array.getD_eq_getD_getElem?, List.getElem?_toArray, List.getElem?_cons_zero, List.getElem?_cons_succ, Option.getD_some]))); refine wpQuiet_nil ?_; intro w2 hw2)
      rw [← HR.out]
      have HWE := Lib.hid ((HBW.out.trans HW2.out).trans hw2)
      clear F2 hw2 bx2 q2
      cases hrk : rKn (f x) c
      · have HK := Lib.hid (show cfK (f x) c = 3 by rw [HKC.out, hrk]; rfl)
        clear hrk
        go_wp2
        go_ret
        exact ⟨by rw [HK.out]; rfl, HWE.out⟩
      · have HK := Lib.hid (show cfK (f x) c = 0 by rw [HKC.out, hrk]; rfl)
        clear hrk
        go_wp2
        go_ret
        exact ⟨by rw [HK.out]; rfl, HWE.out⟩
    · have HC := Lib.hid (show gF f q (x * 4 + 2) = .iface 128 (.agg (ep ((f x).rt : Nat) ((f x).rn : Nat))) by rw [gF_2, rdv_one (by simpa using hm)]; rfl)
      have HR := Lib.hid (show rKn (f x) c = decide ((f x).rn ≤ c (f x).rt) by unfold rKn; rw [if_neg hm])
      have q2 := fun n => mk_one n (f x).rt (f x).rn
      have HKC := Lib.hid (show cfK (f x) c = if rKn (f x) c = true then 0 else 3 by unfold cfK; rw [if_pos hk])
      clear hk hm
      go_enter Try.func99, Try.ntmps99
      go_wp2
      clear hW
      (refine region_bel (by kernel_rfl) (by kernel_rfl) ?_; (repeat (first | ((with_reducible refine BigFrame.wpQuiet_skip ?_ ?_); exact rfl; simp only [Act.put, Act.eval, List.setIfInBounds_toArray, List.set_cons_zero, List.set_cons_succ, Array.getD_eq_getD_getElem?, List.getElem?_toArray, List.getElem?_cons_zero, List.getElem?_cons_succ, Option.getD_some]) | (refine q_move _ rfl rfl ?_; simp only [Act.put, Act.eval, List.setIfInBounds_toArray, List.set_cons_zero, List.set_cons_succ, Array.getD_eq_getD_getElem?, List.getElem?_toArray, List.getElem?_cons_zero, List.getElem?_cons_succ, Option.getD_some]) | (refine q_assign _ rfl rfl ?_; simp only [Act.put, Act.eval, List.setIfInBounds_toArray, List.set_cons_zero, List.set_cons_succ, Array.getD_eq_getD_getElem?, List.getElem?_toArray, List.getElem?_cons_zero, List.getElem?_cons_succ, Option.getD_some]) | (refine q_load _ _ rfl rfl rfl bx ty28 ?_; simp only [Act.put, Act.eval, List.setIfInBounds_toArray, List.set_cons_zero, List.set_cons_succ, Array.getD_eq_getD_getElem?, List.getElem?_toArray, List.getElem?_cons_zero, List.getElem?_cons_succ, Option.getD_some]) | (refine q_load_mid _ _ rfl rfl rfl HW5.out ty37 (ep ((f x).wt : Nat) ((f x).wn : Nat)) rfl ?_; simp only [Act.put, Act.eval, List.setIfInBounds_toArray, List.set_cons_zero, List.set_cons_succ, Array.getD_eq_getD_getElem?, List.getElem?_toArray, List.getElem?_cons_zero, List.getElem?_cons_succ, Option.getD_some]) | (refine q_any rfl ?_; apply Exists.intro; refine ⟨fun w hw => ?_, ?_⟩; (go_simp; first | exact ⟨rfl, rfl⟩ | rfl | (go_at_call 98; (with_reducible refine (seen_any _ _ _ _).mono ?_); rintro e w' ⟨rfl, hb⟩; exact ⟨rfl, hw.call hb⟩)); simp only [Act.put, Act.eval, List.setIfInBounds_toArray, List.set_cons_zero, List.set_cons_succ, Array.getD_eq_getD_getElem?, List.getElem?_toArray, List.getElem?_cons_zero, List.getElem?_cons_succ, Option.getD_some]))); refine wpQuiet_nil ?_; intro w2 hw2)
      rw [seen_ck c HOK.out.wt, hk']
      have HW2 := Lib.hid hw2
      have bx2 := hw2.box HBX.out
      have HV2 := Lib.hid (hw2.box HV.out)
      clear hw2 hk' bx
      go_wp2
      have F2 := fun (w' : World) (h : Bel w2 w') => HC.out ▸ (h.box HV2.out).cell (x * 4 + 2) (vs_get _ (by omega))
      (refine region_bel (by kernel_rfl) (by kernel_rfl) ?_; (repeat (first | ((with_reducible refine BigFrame.wpQuiet_skip ?_ ?_); exact rfl; simp only [Act.put, Act.eval, List.setIfInBounds_toArray, List.set_cons_zero, List.set_cons_succ, Array.getD_eq_getD_getElem?, List.getElem?_toArray, List.getElem?_cons_zero, List.getElem?_cons_succ, Option.getD_some]) | (refine q_move _ rfl rfl ?_; simp only [Act.put, Act.eval, List.setIfInBounds_toArray, List.set_cons_zero, List.set_cons_succ, Array.getD_eq_getD_getElem?, List.getElem?_toArray, List.getElem?_cons_zero, List.getElem?_cons_succ, Option.getD_some]) | (refine q_assign _ rfl rfl ?_; simp only [Act.put, Act.eval, List.setIfInBounds_toArray, List.set_cons_zero, List.set_cons_succ, Array.getD_eq_getD_getElem?, List.getElem?_toArray, List.getElem?_cons_zero, List.getElem?_cons_succ, Option.getD_some]) | (refine q_load _ _ rfl rfl rfl bx2 ty28 ?_; simp only [Act.put, Act.eval, List.setIfInBounds_toArray, List.set_cons_zero, List.set_cons_succ, Array.getD_eq_getD_getElem?, List.getElem?_toArray, List.getElem?_cons_zero, List.getElem?_cons_succ, Option.getD_some]) | (refine q_any rfl ?_; apply Exists.intro; refine ⟨fun w hw => ?_, ?_⟩; (have fct0 := F2 w hw; go_simp; first | exact ⟨rfl, rfl⟩ | rfl | (go_at_call 124; (with_reducible refine (sknown_any _ _ _ _ HOK.out.rt).mono ?_); rintro e w' ⟨rfl, hb⟩; exact ⟨rfl, hw.call hb⟩)); simp only [Act.put, Act.eval, List.setIfInBounds_toArray, List.set_cons_zero, List.set_cons_succ, Array.getD_eq_getD_getElem?, List.getElem?_toArray, List.getElem?_cons_zero, List.getElem?_cons_succ, Option.getD_some]))); refine wpQuiet_nil ?_; intro w2 hw2)
      rw [← HR.out]
      have HWE := Lib.hid ((HBW.out.trans HW2.out).trans hw2)
      clear F2 hw2 bx2 q2
      cases hrk : rKn (f x) c
      · have HK := Lib.hid (show cfK (f x) c = 3 by rw [HKC.out, hrk]; rfl)
        clear hrk
        go_wp2
        go_ret
        exact ⟨by rw [HK.out]; rfl, HWE.out⟩
      · have HK := Lib.hid (show cfK (f x) c = 0 by rw [HKC.out, hrk]; rfl)
        clear hrk
        go_wp2
        go_ret
        exact ⟨by rw [HK.out]; rfl, HWE.out⟩
  · have HK := Lib.hid (show cfK (f x) c = 1 by unfold cfK; rw [if_neg hk])
    have hk' : decide ((f x).wn ≤ c (f x).wt) = false := decide_eq_false hk
    clear hk
    go_enter Try.func99, Try.ntmps99
    go_wp2
    clear hW
    (refine region_bel (by kernel_rfl) (by kernel_rfl) ?_; (repeat (first | ((with_reducible refine BigFrame.wpQuiet_skip ?_ ?_); exact rfl; simp only [Act.put, Act.eval, List.setIfInBounds_toArray, List.set_cons_zero, List.set_cons_succ, Array.getD_eq_getD_getElem?, List.getElem?_toArray, List.getElem?_cons_zero, List.getElem?_cons_succ, Option.getD_some]) | (refine q_move _ rfl rfl ?_; simp only [Act.put, Act.eval, List.setIfInBounds_toArray, List.set_cons_zero, List.set_cons_succ, Array.getD_eq_getD_getElem?, List.getElem?_toArray, List.getElem?_cons_zero, List.getElem?_cons_succ, Option.getD_some]) | (refine q_assign _ rfl rfl ?_; simp only [Act.put, Act.eval, List.setIfInBounds_toArray, List.set_cons_zero, List.set_cons_succ, Array.getD_eq_getD_getElem?, List.getElem?_toArray, List.getElem?_cons_zero, List.getElem?_cons_succ, Option.getD_some]) | (refine q_load _ _ rfl rfl rfl bx ty28 ?_; simp only [Act.put, Act.eval, List.setIfInBounds_toArray, List.set_cons_zero, List.set_cons_succ, Array.getD_eq_getD_getElem?, List.getElem?_toArray, List.getElem?_cons_zero, List.getElem?_cons_succ, Option.getD_some]) | (refine q_load_mid _ _ rfl rfl rfl HW5.out ty37 (ep ((f x).wt : Nat) ((f x).wn : Nat)) rfl ?_; simp only [Act.put, Act.eval, List.setIfInBounds_toArray, List.set_cons_zero, List.set_cons_succ, Array.getD_eq_getD_getElem?, List.getElem?_toArray, List.getElem?_cons_zero, List.getElem?_cons_succ, Option.getD_some]) | (refine q_any rfl ?_; apply Exists.intro; refine ⟨fun w hw => ?_, ?_⟩; (go_simp; first | exact ⟨rfl, rfl⟩ | rfl | (go_at_call 98; (with_reducible refine (seen_any _ _ _ _).mono ?_); rintro e w' ⟨rfl, hb⟩; exact ⟨rfl, hw.call hb⟩)); simp only [Act.put, Act.eval, List.setIfInBounds_toArray, List.set_cons_zero, List.set_cons_succ, Array.getD_eq_getD_getElem?, List.getElem?_toArray, List.getElem?_cons_zero, List.getElem?_cons_succ, Option.getD_some]))); refine wpQuiet_nil ?_; intro w2 hw2)
    rw [seen_ck c HOK.out.wt, hk']
    clear hk'
    go_wp2
    go_ret
    exact ⟨by rw [HK.out]; rfl, HBW.out.trans hw2⟩
theorem vs_there {w : World} {V x : Nat} {f : Nat → Fs} {q : Nat → Nat} (h : Box w V (vs 32 (gF f q)) 73) (hx : x < 8) : w.there V (x * 4) 2 := fun j hj => ⟨by rw [h.cell (x * 4 + j) (vs_get _ (by omega))]; rfl, h.frozen _⟩
theorem two_cells (w : World) (V k : Nat) (a b : Int) : w.setCells V k (ep a b).toList = (w.setCell ⟨V, k, none⟩ (.int .i64 a)).setCell ⟨V, k + 1, none⟩ (.int .i64 b) := rfl
theorem vs_wr {w : World} {V x t n : Nat} {f : Nat → Fs} {q : Nat → Nat} (h : Box w V (vs 32 (gF f q)) 73) {s : Fs} (h1 : s.wt = t) (h2 : s.wn = n) (h3 : rdv s = rdv (f x)) : Box (w.setCells V (x * 4) (ep (t : Nat) (n : Nat)).toList) V (vs 32 (gF (upF f x s) q)) 73 := by
  have h9 := (h.set (x * 4) (.int .i64 (t : Nat))).set (x * 4 + 1) (.int .i64 (n : Nat))
  rw [vs_set, vs_set, gF_wr f q x t n h1 h2 h3] at h9
  exact h9
theorem upF_two (f : Nat → Fs) (x : Nat) (s u : Fs) : upF (upF f x s) x u = upF f x u := by
  funext y; unfold upF; split <;> rfl
set_option maxHeartbeats 8000000 in
theorem fwrite_skip (V x t : Nat) (f : Nat → Fs) (q : Nat → Nat) (c : Nat → Nat) (w : World) (hx : x < 8) (h1 : (f x).wt = t) (h2 : (f x).wn = c t) (hb : Box w V (vs 32 (gF f q)) 73) :
    Calls Try.prog 75 #[.pointer (some ⟨V, x * 4, none⟩), .agg (ep t (c t)), .agg (clk (ck c))] w (FvPost V f q 0 w) := by
  obtain ⟨b1, b2, hB, hs⟩ := boxes2 w (ep t (c t)) (clk (ck c)) 68 30
  generalize hW : ((w.alloc (.cells (ep t (c t)) 68)).alloc (.cells (clk (ck c)) 30)) = W at *
  have HB := Lib.hid (Bel.of hB)
  have HV := Lib.hid ((Bel.of hB).box hb)
  have HW5 := Lib.hid (fun (w' : World) (h : Bel W w') => wr_row (h.box HV.out) hx)
  rw [h1, h2] at HW5
  have NE := eql_ep (t : Nat) (c t : Nat) (t : Nat) (c t : Nat)
  rw [decide_eq_true (And.intro rfl rfl)] at NE
  have G := grd_ep
  clear hB hb hs h1 h2 b2
  go_enter Try.func75, Try.ntmps75
  go_wp2
  clear hW
  (refine region_bel (by kernel_rfl) (by kernel_rfl) ?_; (repeat (first | ((with_reducible refine BigFrame.wpQuiet_skip ?_ ?_); exact rfl; simp only [Act.put, Act.eval, List.setIfInBounds_toArray, List.set_cons_zero, List.set_cons_succ, Array.getD_eq_getD_getElem?, List.getElem?_toArray, List.getElem?_cons_zero, List.getElem?_cons_succ, Option.getD_some]) | (refine q_move _ rfl rfl ?_; simp only [Act.put, Act.eval, List.setIfInBounds_toArray, List.set_cons_zero, List.set_cons_succ, Array.getD_eq_getD_getElem?, List.getElem?_toArray, List.getElem?_cons_zero, List.getElem?_cons_succ, Option.getD_some]) | (refine q_assign _ rfl rfl ?_; simp only [Act.put, Act.eval, List.setIfInBounds_toArray, List.set_cons_zero, List.set_cons_succ, Array.getD_eq_getD_getElem?, List.getElem?_toArray, List.getElem?_cons_zero, List.getElem?_cons_succ, Option.getD_some]) | (refine q_load _ _ rfl rfl rfl b1 ty37 ?_; simp only [Act.put, Act.eval, List.setIfInBounds_toArray, List.set_cons_zero, List.set_cons_succ, Array.getD_eq_getD_getElem?, List.getElem?_toArray, List.getElem?_cons_zero, List.getElem?_cons_succ, Option.getD_some]) | (refine q_load_mid _ _ rfl rfl rfl HW5.out ty37 (ep (t : Nat) (c t : Nat)) rfl ?_; simp only [Act.put, Act.eval, List.setIfInBounds_toArray, List.set_cons_zero, List.set_cons_succ, Array.getD_eq_getD_getElem?, List.getElem?_toArray, List.getElem?_cons_zero, List.getElem?_cons_succ, Option.getD_some]) | (refine q_any rfl ?_; apply Exists.intro; refine ⟨fun w hw => ?_, ?_⟩; (go_simp; first | exact ⟨rfl, rfl⟩ | rfl); simp only [Act.put, Act.eval, List.setIfInBounds_toArray, List.set_cons_zero, List.set_cons_succ, Array.getD_eq_getD_getElem?, List.getElem?_toArray, List.getElem?_cons_zero, List.getElem?_cons_succ, Option.getD_some]))); refine wpQuiet_nil ?_; intro w2 hw2)
  go_wp2
  go_ret
  exact ⟨rfl, hw2.box HV.out, chg_bel (HB.out.trans hw2) _⟩
set_option maxHeartbeats 8000000 in
theorem fwrite_many (V x t : Nat) (f : Nat → Fs) (q : Nat → Nat) (c : Nat → Nat) (w : World) (hx : x < 8) (ht : t < 6) (hok : FsOk (f x)) (hns : ¬ ((f x).wt = t ∧ (f x).wn = c t)) (hm : (f x).many = true) (hb : Box w V (vs 32 (gF f q)) 73) :
    Calls Try.prog 75 #[.pointer (some ⟨V, x * 4, none⟩), .agg (ep t (c t)), .agg (clk (ck c))] w (FvPost V (upF f x (fsW (f x) t c)) q (cfK (f x) c) w) := by
  obtain ⟨b1, b2, hB, hs⟩ := boxes2 w (ep t (c t)) (clk (ck c)) 68 30
  generalize hW : ((w.alloc (.cells (ep t (c t)) 68)).alloc (.cells (clk (ck c)) 30)) = W at *
  have HB := Lib.hid (Bel.of hB)
  have HB1 := Lib.hid b1
  have HB2 := Lib.hid b2
  have HX := Lib.hid hx
  have HOK := Lib.hid hok
  have HVL := Lib.hid (show V < w.heap.size from hb.lt)
  have HV := Lib.hid ((Bel.of hB).box hb)
  have HW5 := Lib.hid (fun (w' : World) (h : Bel W w') => wr_row (h.box HV.out) hx)
  have HM := Lib.hid hm
  have NE := eql_ep ((f x).wt : Nat) ((f x).wn : Nat) (t : Nat) (c t : Nat)
  rw [decide_eq_false (show ¬ (((f x).wt : Int) = (t : Int) ∧ ((f x).wn : Int) = (c t : Nat)) from fun h => hns ⟨by omega, by omega⟩)] at NE
  have G := grd_ep
  clear hB hb hs hns hm hok b2
  go_enter Try.func75, Try.ntmps75
  go_wp2
  clear hW
  (refine region_bel (by kernel_rfl) (by kernel_rfl) ?_; (repeat (first | ((with_reducible refine BigFrame.wpQuiet_skip ?_ ?_); exact rfl; simp only [Act.put, Act.eval, List.setIfInBounds_toArray, List.set_cons_zero, List.set_cons_succ, Array.getD_eq_getD_getElem?, List.getElem?_toArray, List.getElem?_cons_zero, List.getElem?_cons_succ, Option.getD_some]) | (refine q_move _ rfl rfl ?_; simp only [Act.put, Act.eval, List.setIfInBounds_toArray, List.set_cons_zero, List.set_cons_succ, Array.getD_eq_getD_getElem?, List.getElem?_toArray, List.getElem?_cons_zero, List.getElem?_cons_succ, Option.getD_some]) | (refine q_assign _ rfl rfl ?_; simp only [Act.put, Act.eval, List.setIfInBounds_toArray, List.set_cons_zero, List.set_cons_succ, Array.getD_eq_getD_getElem?, List.getElem?_toArray, List.getElem?_cons_zero, List.getElem?_cons_succ, Option.getD_some]) | (refine q_load _ _ rfl rfl rfl b1 ty37 ?_; simp only [Act.put, Act.eval, List.setIfInBounds_toArray, List.set_cons_zero, List.set_cons_succ, Array.getD_eq_getD_getElem?, List.getElem?_toArray, List.getElem?_cons_zero, List.getElem?_cons_succ, Option.getD_some]) | (refine q_load_mid _ _ rfl rfl rfl HW5.out ty37 (ep ((f x).wt : Nat) ((f x).wn : Nat)) rfl ?_; simp only [Act.put, Act.eval, List.setIfInBounds_toArray, List.set_cons_zero, List.set_cons_succ, Array.getD_eq_getD_getElem?, List.getElem?_toArray, List.getElem?_cons_zero, List.getElem?_cons_succ, Option.getD_some]) | (refine q_any rfl ?_; apply Exists.intro; refine ⟨fun w hw => ?_, ?_⟩; (go_simp; first | exact ⟨rfl, rfl⟩ | rfl); simp only [Act.put, Act.eval, List.setIfInBounds_toArray, List.set_cons_zero, List.set_cons_succ, Array.getD_eq_getD_getElem?, List.getElem?_toArray, List.getElem?_cons_zero, List.getElem?_cons_succ, Option.getD_some]))); refine wpQuiet_nil ?_; intro w2 hw2)
  have HW2 := Lib.hid hw2
  have b22 := hw2.box HB2.out
  clear hw2 b1 NE G
  go_wp2_with (first | (refine loadB _ _ rfl rfl rfl b22 ty28 ?_))
  refine (fconf_any V x f q c _ HX.out HOK.out (HW2.out.box HV.out)).mono ?_
  rintro e3 w3 ⟨rfl, hb3⟩
  have HB3 := Lib.hid ((HB.out.trans HW2.out).call hb3)
  have HX3 := Lib.hid (HW2.out.call hb3)
  have HV3 := Lib.hid (HX3.out.box HV.out)
  have b13 := HX3.out.box HB1.out
  have HT3 := Lib.hid (vs_there HV3.out HX.out)
  have HG4 := Lib.hid (show w.grownBy (w3.setCells V (x * 4) (ep (t : Nat) (c t : Nat)).toList) (some V) from (chg_bel HB3.out _).trans (chg_six _ _ _ _))
  have HV4 := Lib.hid (vs_wr (t := t) (n := c t) HV3.out (s := { f x with wt := t, wn := c t }) rfl rfl (by unfold rdv; rfl))
  have c4 := HV4.out.cell (x * 4 + 2) (vs_get _ (by omega))
  rw [gF_2, upF_at, rdv_many (s := { f x with wt := t, wn := c t }) HM.out] at c4
  unfold manyV at c4
  dsimp only at c4
  clear b22 hb3
  go_wp2_with (first | (refine loadB _ _ rfl rfl rfl b13 ty37 ?_) | (refine wpList_store_mid rfl _ _ _ rfl V (x * 4) (ep (t : Nat) (c t : Nat)) rfl rfl HT3.out (by kernel_rfl) (ep_all _ _) ?_))
  refine (isClock_many (f x).rc _).mono ?_
  rintro e5 w5 ⟨rfl, hb5⟩
  have HV5 := Lib.hid ((Bel.of hb5).box HV4.out)
  have HG5 := Lib.hid (HG4.out.trans (chg_bel (Bel.of hb5) _))
  have c5 := HV5.out.cell (x * 4 + 2) (vs_get _ (by omega))
  have g5 := HV5.out.frozen (x * 4 + 2)
  clear hb5 c4 b13
  go_wp2
  go_ret
  refine ⟨rfl, ?_, HG5.out.trans (chg_cell _ _ _)⟩
  have h9 := HV5.out.set (x * 4 + 2) (oneV 0 0)
  have hr : rdv (fsW (f x) t c) = oneV 0 0 := by
    rw [rdv_one (s := fsW (f x) t c) rfl]
    show oneV (f x).rt (f x).rn = _
    rw [(HOK.out.many HM.out).1, (HOK.out.many HM.out).2]
  rw [vs_set, ← hr, gF_rd _ _ _ (by rw [upF_at]; rfl) (by rw [upF_at]; rfl), upF_two] at h9
  rw [hr] at h9
  exact h9
set_option maxHeartbeats 8000000 in
theorem fwrite_one (V x t : Nat) (f : Nat → Fs) (q : Nat → Nat) (c : Nat → Nat) (w : World) (hx : x < 8) (ht : t < 6) (hok : FsOk (f x)) (hns : ¬ ((f x).wt = t ∧ (f x).wn = c t)) (hm : (f x).many = false) (hb : Box w V (vs 32 (gF f q)) 73) :
    Calls Try.prog 75 #[.pointer (some ⟨V, x * 4, none⟩), .agg (ep t (c t)), .agg (clk (ck c))] w (FvPost V (upF f x (fsW (f x) t c)) q (cfK (f x) c) w) := by
  obtain ⟨b1, b2, hB, hs⟩ := boxes2 w (ep t (c t)) (clk (ck c)) 68 30
  generalize hW : ((w.alloc (.cells (ep t (c t)) 68)).alloc (.cells (clk (ck c)) 30)) = W at *
  have HB := Lib.hid (Bel.of hB)
  have HB1 := Lib.hid b1
  have HB2 := Lib.hid b2
  have HX := Lib.hid hx
  have HOK := Lib.hid hok
  have HVL := Lib.hid (show V < w.heap.size from hb.lt)
  have HV := Lib.hid ((Bel.of hB).box hb)
  have HW5 := Lib.hid (fun (w' : World) (h : Bel W w') => wr_row (h.box HV.out) hx)
  have HM := Lib.hid hm
  have NE := eql_ep ((f x).wt : Nat) ((f x).wn : Nat) (t : Nat) (c t : Nat)
  rw [decide_eq_false (show ¬ (((f x).wt : Int) = (t : Int) ∧ ((f x).wn : Int) = (c t : Nat)) from fun h => hns ⟨by omega, by omega⟩)] at NE
  have G := grd_ep
  clear hB hb hs hns hm hok b2
  go_enter Try.func75, Try.ntmps75
  go_wp2
  clear hW
  (refine region_bel (by kernel_rfl) (by kernel_rfl) ?_; (repeat (first | ((with_reducible refine BigFrame.wpQuiet_skip ?_ ?_); exact rfl; simp only [Act.put, Act.eval, List.setIfInBounds_toArray, List.set_cons_zero, List.set_cons_succ, Array.getD_eq_getD_getElem?, List.getElem?_toArray, List.getElem?_cons_zero, List.getElem?_cons_succ, Option.getD_some]) | (refine q_move _ rfl rfl ?_; simp only [Act.put, Act.eval, List.setIfInBounds_toArray, List.set_cons_zero, List.set_cons_succ, Array.getD_eq_getD_getElem?, List.getElem?_toArray, List.getElem?_cons_zero, List.getElem?_cons_succ, Option.getD_some]) | (refine q_assign _ rfl rfl ?_; simp only [Act.put, Act.eval, List.setIfInBounds_toArray, List.set_cons_zero, List.set_cons_succ, Array.getD_eq_getD_getElem?, List.getElem?_toArray, List.getElem?_cons_zero, List.getElem?_cons_succ, Option.getD_some]) | (refine q_load _ _ rfl rfl rfl b1 ty37 ?_; simp only [Act.put, Act.eval, List.setIfInBounds_toArray, List.set_cons_zero, List.set_cons_succ, Array.getD_eq_getD_getElem?, List.getElem?_toArray, List.getElem?_cons_zero, List.getElem?_cons_succ, Option.getD_some]) | (refine q_load_mid _ _ rfl rfl rfl HW5.out ty37 (ep ((f x).wt : Nat) ((f x).wn : Nat)) rfl ?_; simp only [Act.put, Act.eval, List.setIfInBounds_toArray, List.set_cons_zero, List.set_cons_succ, Array.getD_eq_getD_getElem?, List.getElem?_toArray, List.getElem?_cons_zero, List.getElem?_cons_succ, Option.getD_some]) | (refine q_any rfl ?_; apply Exists.intro; refine ⟨fun w hw => ?_, ?_⟩; (go_simp; first | exact ⟨rfl, rfl⟩ | rfl); simp only [Act.put, Act.eval, List.setIfInBounds_toArray, List.set_cons_zero, List.set_cons_succ, Array.getD_eq_getD_getElem?, List.getElem?_toArray, List.getElem?_cons_zero, List.getElem?_cons_succ, Option.getD_some]))); refine wpQuiet_nil ?_; intro w2 hw2)
  have HW2 := Lib.hid hw2
  have b22 := hw2.box HB2.out
  clear hw2 b1 NE G
  go_wp2_with (first | (refine loadB _ _ rfl rfl rfl b22 ty28 ?_))
  refine (fconf_any V x f q c _ HX.out HOK.out (HW2.out.box HV.out)).mono ?_
  rintro e3 w3 ⟨rfl, hb3⟩
  have HB3 := Lib.hid ((HB.out.trans HW2.out).call hb3)
  have HX3 := Lib.hid (HW2.out.call hb3)
  have HV3 := Lib.hid (HX3.out.box HV.out)
  have b13 := HX3.out.box HB1.out
  have HT3 := Lib.hid (vs_there HV3.out HX.out)
  have HG4 := Lib.hid (show w.grownBy (w3.setCells V (x * 4) (ep (t : Nat) (c t : Nat)).toList) (some V) from (chg_bel HB3.out _).trans (chg_six _ _ _ _))
  have HR4 := Lib.hid (show rdv (fsW (f x) t c) = rdv (f x) by rw [rdv_one HM.out, rdv_one (s := fsW (f x) t c) rfl]; rfl)
  have HV4 := Lib.hid (vs_wr (t := t) (n := c t) HV3.out (s := fsW (f x) t c) rfl rfl HR4.out)
  have c4 := HV4.out.cell (x * 4 + 2) (vs_get _ (by omega))
  rw [gF_2, upF_at, HR4.out, rdv_one HM.out] at c4
  unfold oneV at c4
  clear b22 hb3
  go_wp2_with (first | (refine loadB _ _ rfl rfl rfl b13 ty37 ?_) | (refine wpList_store_mid rfl _ _ _ rfl V (x * 4) (ep (t : Nat) (c t : Nat)) rfl rfl HT3.out (by kernel_rfl) (ep_all _ _) ?_))
  refine (isClock_one (f x).rt (f x).rn _).mono ?_
  rintro e5 w5 ⟨rfl, hb5⟩
  have HV5 := Lib.hid ((Bel.of hb5).box HV4.out)
  have HG5 := Lib.hid (HG4.out.trans (chg_bel (Bel.of hb5) _))
  clear hb5 c4 b13
  go_wp2
  go_ret
  exact ⟨rfl, HV5.out, HG5.out⟩
end Go.Proofs.Ytnjaeampnakbbaa
namespace Go.Proofs.Ytnjaeampnakbbaa
open Go Go.RowKit

theorem fread_any (V x t : Nat) (f : Nat → Fs) (q : Nat → Nat) (c : Nat → Nat) (w : World) (hx : x < 8) (ht : t < 6) (hok : FsOk (f x)) (hq : q x ≤ 1000) (hb : Box w V (vs 32 (gF f q)) 73) :
    Calls Try.prog 74 #[.pointer (some ⟨V, x * 4, none⟩), .agg (ep t (c t)), .agg (clk (ck c))] w (FvPost V (upF f x (fsStep (f x) 1 t c)) (updN q x (q x + fsSl (f x) 1 t c)) (fsK (f x) 1 t c) w) := by
  unfold fsStep fsSl fsK
  simp only [if_true]
  by_cases hs : skR (f x) t c = true
  · rw [if_pos hs, if_pos hs, if_pos hs, upF_self, Nat.add_zero, upN_self]
    unfold skR at hs
    simp only [Bool.and_eq_true, Bool.not_eq_true', decide_eq_true_eq] at hs
    exact fread_skip V x t f q c w hx hs.1 hs.2.1 hs.2.2 hb
  · rw [if_neg hs, if_neg hs, if_neg hs]
    by_cases hm : (f x).many = true
    · rw [if_pos hm, Nat.add_zero, upN_self]
      exact fread_many V x t f q c w hx ht hok.wt hm rfl hb
    · have hm' : (f x).many = false := by simpa using hm
      have hns : ¬ ((f x).rt = t ∧ (f x).rn = c t) := fun h => hs (by unfold skR; rw [hm']; simp [h.1, h.2])
      rw [if_neg hm]
      by_cases hk : (f x).rn ≤ c (f x).rt
      · rw [if_pos hk, Nat.add_zero, upN_self]
        exact fread_one V x t f q c w hx ht hok.wt hok.rt hm' hns hk rfl hb
      · rw [if_neg hk]
        exact fread_more V x t f q c w hx ht hok.wt hok.rt hq hm' hns hk rfl hb
theorem fwrite_any (V x t : Nat) (f : Nat → Fs) (q : Nat → Nat) (c : Nat → Nat) (w : World) (hx : x < 8) (ht : t < 6) (hok : FsOk (f x)) (hb : Box w V (vs 32 (gF f q)) 73) :
    Calls Try.prog 75 #[.pointer (some ⟨V, x * 4, none⟩), .agg (ep t (c t)), .agg (clk (ck c))] w (FvPost V (upF f x (fsStep (f x) 2 t c)) (updN q x (q x + fsSl (f x) 2 t c)) (fsK (f x) 2 t c) w) := by
  have e1 : ¬ (2 : Int) = 1 := by decide
  unfold fsStep fsSl fsK
  simp only [if_neg e1, if_true]
  rw [Nat.add_zero, upN_self]
  by_cases hs : skW (f x) t c = true
  · rw [if_pos hs, if_pos hs, upF_self]
    unfold skW at hs
    simp only [Bool.and_eq_true, decide_eq_true_eq] at hs
    exact fwrite_skip V x t f q c w hx hs.1 hs.2 hb
  · rw [if_neg hs, if_neg hs]
    have hns : ¬ ((f x).wt = t ∧ (f x).wn = c t) := fun h => hs (by unfold skW; simp [h.1, h.2])
    by_cases hm : (f x).many = true
    · exact fwrite_many V x t f q c w hx ht hok hns hm hb
    · exact fwrite_one V x t f q c w hx ht hok hns (by simpa using hm) hb
theorem of_ck {t : Nat} (c : Nat → Nat) (ht : t < 6) : ofT (t : Nat) = (t : Nat) ∧ ofN (ck c) (t : Nat) = (c t : Nat) := by
  have h := isT_yes (t := (t : Nat)) (by omega) (by omega)
  unfold ofT ofN
  rw [if_pos h, if_pos h]
  exact ⟨rfl, by rw [Int.toNat_natCast]; rfl⟩
set_option maxHeartbeats 8000000 in
theorem facc_1 (V x t k : Nat) (o : Int) (f : Nat → Fs) (q : Nat → Nat) (c : Nat → Nat) (w : World) (hx : x < 8) (ht : t < 6) (hok : FsOk (f x)) (hq : q x ≤ 1000) (hb : Box w V (vs 32 (gF f q)) 73) :
    Calls Try.prog 56 #[.pointer (some ⟨V, x * 4, none⟩), .agg (acv ⟨1, t, o⟩ k c)] w (FvPost V (upF f x (fsStep (f x) 1 t c)) (updN q x (q x + fsSl (f x) 1 t c)) (fsK (f x) 1 t c) w) := by
  have b1 := Box.new w (acv ⟨1, t, o⟩ k c) 96
  have hB : Bel w (w.alloc (.cells (acv ⟨1, t, o⟩ k c) 96)) := (Bel.refl w).alloc _
  have b2 := ac_row b1
  have HB := Lib.hid hB
  have HB1 := Lib.hid b1
  have HV := Lib.hid (hB.box hb)
  have HX := Lib.hid hx
  have HT := Lib.hid ht
  have HOK := Lib.hid hok
  have HQ := Lib.hid hq
  have HO := Lib.hid (of_ck c ht)
  have c1 := b1.cell 1 (v := .int .i64 t) rfl
  have hTL := b1.lt
  have HTL := Lib.hid hTL
  clear hok hq hb hTL
  generalize hW : (w.alloc (.cells (acv ⟨1, t, o⟩ k c) 96)) = W at *
  go_enter Try.func56, Try.ntmps56
  go_wp2_with (first | (refine load_cm ty28 _ rfl rfl rfl b2 ?_))
  refine (of_any _ _ _).mono ?_
  rintro e1 w1 ⟨rfl, hb1⟩
  rw [HO.out.1, HO.out.2]
  have HB2 := Lib.hid ((HB.out.call hb1).alloc (.cells (ep t (c t)) 68))
  have hX1 := ((Bel.of hb1).alloc (.cells (ep t (c t)) 68))
  have HV2 := Lib.hid (hX1.box HV.out)
  have b12 := hX1.box HB1.out
  have c0 := b12.cell 0 (v := .int .i64 1) rfl
  have b22 := ac_row b12
  have b32 := Box.new w1 (ep t (c t)) 68
  clear b1 b2 c1 hb1 hX1 hW
  go_wp2_with (first | (refine storeNew (c' := ep t (c t)) _ _ _ rfl rfl rfl rfl rfl ty37 (ep_all _ _) ?_) | (refine load_cm ty28 _ rfl rfl rfl b22 ?_) | (refine loadB _ _ rfl rfl rfl b32 ty37 ?_))
  refine (fread_any V x t f q c _ HX.out HT.out HOK.out HQ.out HV2.out).mono ?_
  rintro e3 w3 ⟨rfl, hv3, hg3⟩
  have HE := Lib.hid (And.intro hv3 ((chg_bel HB2.out _).trans hg3))
  clear hv3 hg3 c0 b12 b22 b32
  go_wp2
  go_ret
  exact ⟨rfl, HE.out.1, HE.out.2⟩
set_option maxHeartbeats 8000000 in
theorem facc_2 (V x t k : Nat) (o : Int) (f : Nat → Fs) (q : Nat → Nat) (c : Nat → Nat) (w : World) (hx : x < 8) (ht : t < 6) (hok : FsOk (f x)) (hq : q x ≤ 1000) (hb : Box w V (vs 32 (gF f q)) 73) :
    Calls Try.prog 56 #[.pointer (some ⟨V, x * 4, none⟩), .agg (acv ⟨2, t, o⟩ k c)] w (FvPost V (upF f x (fsStep (f x) 2 t c)) (updN q x (q x + fsSl (f x) 2 t c)) (fsK (f x) 2 t c) w) := by
  have b1 := Box.new w (acv ⟨2, t, o⟩ k c) 96
  have hB : Bel w (w.alloc (.cells (acv ⟨2, t, o⟩ k c) 96)) := (Bel.refl w).alloc _
  have b2 := ac_row b1
  have HB := Lib.hid hB
  have HB1 := Lib.hid b1
  have HV := Lib.hid (hB.box hb)
  have HX := Lib.hid hx
  have HT := Lib.hid ht
  have HOK := Lib.hid hok
  have HQ := Lib.hid hq
  have HO := Lib.hid (of_ck c ht)
  have c1 := b1.cell 1 (v := .int .i64 t) rfl
  have hTL := b1.lt
  have HTL := Lib.hid hTL
  clear hok hq hb hTL
  generalize hW : (w.alloc (.cells (acv ⟨2, t, o⟩ k c) 96)) = W at *
  go_enter Try.func56, Try.ntmps56
  go_wp2_with (first | (refine load_cm ty28 _ rfl rfl rfl b2 ?_))
  refine (of_any _ _ _).mono ?_
  rintro e1 w1 ⟨rfl, hb1⟩
  rw [HO.out.1, HO.out.2]
  have HB2 := Lib.hid ((HB.out.call hb1).alloc (.cells (ep t (c t)) 68))
  have hX1 := ((Bel.of hb1).alloc (.cells (ep t (c t)) 68))
  have HV2 := Lib.hid (hX1.box HV.out)
  have b12 := hX1.box HB1.out
  have c0 := b12.cell 0 (v := .int .i64 2) rfl
  have b22 := ac_row b12
  have b32 := Box.new w1 (ep t (c t)) 68
  clear b1 b2 c1 hb1 hX1 hW
  go_wp2_with (first | (refine storeNew (c' := ep t (c t)) _ _ _ rfl rfl rfl rfl rfl ty37 (ep_all _ _) ?_) | (refine load_cm ty28 _ rfl rfl rfl b22 ?_) | (refine loadB _ _ rfl rfl rfl b32 ty37 ?_))
  refine (fwrite_any V x t f q c _ HX.out HT.out HOK.out HV2.out).mono ?_
  rintro e3 w3 ⟨rfl, hv3, hg3⟩
  have HE := Lib.hid (And.intro hv3 ((chg_bel HB2.out _).trans hg3))
  clear hv3 hg3 c0 b12 b22 b32
  go_wp2
  go_ret
  exact ⟨rfl, HE.out.1, HE.out.2⟩
end Go.Proofs.Ytnjaeampnakbbaa

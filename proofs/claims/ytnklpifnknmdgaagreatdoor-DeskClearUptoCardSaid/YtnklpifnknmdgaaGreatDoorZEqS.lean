import Derived.Test.YtnklpifnknmdgaaGreatDoorZDkR
set_option linter.all false
set_option maxRecDepth 100000
namespace Go.Proofs.YtnklpifnknmdgaaGreatDoor
open Go Go.RowKit

def long (s : Wd) : Bool := decide (200 < s.length)
def runE (xs : List Wd) : Int := if 60 < xs.length ∨ xs.any long = true then 2 else 0
noncomputable def runT (xs : List Wd) : List Wd := if runE xs = 0 then outW [] (xs.map wordsL) else []
theorem runE_ok {xs : List Wd} (h : runE xs = 0) : xs.length ≤ 60 ∧ ∀ x ∈ xs, x.length ≤ 200 := by
  unfold runE at h
  split at h
  · cases h
  · rename_i h1
    refine ⟨Nat.le_of_not_lt fun h2 => h1 (.inl h2), fun x hx => Nat.le_of_not_lt fun h2 => h1 (.inr (List.any_eq_true.2 ⟨x, hx, decide_eq_true h2⟩))⟩
theorem isTooLong_any (s : Wd) (hm : s.length ≤ maxLen) (w : World) : Calls Tryz.prog 11 #[.string (str s)] w fun e w' => e = .returned (.bool (long s)) ∧ w = w' := by
  have hz := str_sz s
  have hl : decide ((200 : Int) < ((str s).size : Nat)) = long s := by unfold long; rw [hz]; exact decide_eq_decide.2 (by omega)
  unfold maxLen at hm
  have HL := Lib.hid hl
  go_enter Tryz.func11, Tryz.ntmps11
  go_wp2
  go_ret
  exact ⟨by rw [← HL.out]; rfl, rfl⟩
set_option maxHeartbeats 4000000 in
theorem tooLong_any (A : Option Addr) (n c : Nat) (xs : List Wd) (w : World) (h : WS w A n xs) (hn : n ≤ 60) (hs : ∀ x ∈ xs, x.length ≤ maxLen) :
    Calls Tryz.prog 16 #[.slice A n c, .func (.func 11) #[] #[]] w fun e w' => ∃ k : Int, e = .returned (.int .i64 k) ∧ (0 ≤ k ↔ xs.any long = true) ∧ w = w' := by
  have HL := Lib.hid h
  have HS := Lib.hid hs
  have EF : ∀ args w, (callFunc 11 args).run Tryz.prog w = .ok (.enter 11 args) w := enters_of Tryz.func11 (by kernel_rfl) rfl
  clear h hs
  go_enter Tryz.func16, Tryz.ntmps16
  go_wp2
  go_loopw [8] (fun t wr => ∃ i : Nat, i ≤ n ∧ t = .int .i64 i ∧ (∀ x ∈ xs.take i, long x = false) ∧ w = wr) (fun t _ => n - (intOf t).toNat)
  case atStart => exact ⟨0, by omega, rfl, by simp, rfl⟩
  case round =>
    obtain ⟨i, hi, rfl, hq, rfl⟩ := hrel
    have HQ := Lib.hid hq
    clear hq
    by_cases hlt : i < n
    · have hlt' : (i : Int) < n := by omega
      obtain ⟨b, off, x, rfl, hbb, hx, hc⟩ := HL.out.at_ hlt
      have HX := Lib.hid hx
      have HM := Lib.hid (List.mem_of_getElem? hx)
      clear hbb hx
      cases hg : long x
      · have HG := Lib.hid hg
        go_wp2_with fail
        refine (isTooLong_any x (HS.out x HM.out) _).mono ?_
        rintro _ _ ⟨rfl, rfl⟩
        rw [HG.out]
        clear hg
        go_wp2
        go_roundw
        case rel =>
          refine ⟨i + 1, by omega, by go_num, fun y hy => ?_, by first | trivial | rfl⟩
          rw [List.take_succ, HX.out, Option.toList_some, List.mem_append, List.mem_singleton] at hy
          rcases hy with hy | rfl
          · exact HQ.out y hy
          · exact HG.out
        case measure => simp [intOf]; omega
      · have HG := Lib.hid hg
        go_wp2_with fail
        refine (isTooLong_any x (HS.out x HM.out) _).mono ?_
        rintro _ _ ⟨rfl, rfl⟩
        rw [HG.out]
        clear hg
        go_wp2
        go_ret
        exact ⟨(i : Nat), rfl, ⟨fun _ => List.any_eq_true.2 ⟨x, HM.out, HG.out⟩, fun _ => by omega⟩, rfl⟩
    · obtain rfl : i = n := by omega
      go_wp2
      go_ret
      refine ⟨-1, rfl, ⟨fun h => by omega, fun h => ?_⟩, rfl⟩
      obtain ⟨y, hy, hg⟩ := List.any_eq_true.1 h
      have := HQ.out y (by rw [List.take_of_length_le (by rw [HL.out.1]; exact Nat.le_refl _)]; exact hy)
      rw [this] at hg
      cases hg
theorem anyLong_any (A : Option Addr) (n c : Nat) (xs : List Wd) (w : World) (h : WS w A n xs) (hn : n ≤ 60) (hs : ∀ x ∈ xs, x.length ≤ maxLen) :
    Calls Tryz.prog 10 #[.slice A n c, .func (.func 11) #[] #[]] w fun e w' => e = .returned (.bool (xs.any long)) ∧ w = w' := by
  have HC := Lib.hid (tooLong_any A n c xs w h hn hs)
  go_enter Tryz.func10, Tryz.ntmps10
  go_wp2_with fail
  refine HC.out.mono ?_
  rintro e1 w1 ⟨k, rfl, hk, rfl⟩
  have hd : decide ((0 : Int) ≤ k) = xs.any long := by
    rw [Bool.eq_iff_iff, decide_eq_true_eq]; exact hk
  have HD := Lib.hid hd
  clear hk hd
  go_wp2
  go_ret
  exact ⟨by rw [← HD.out]; rfl, rfl⟩
theorem Dk.other2 {w : World} {N D : Nat} {v : Value} {l : List Ev} (h : Dk w N D v l) {R o : Nat} (x : Value) (hR : R ≠ D) (hv : v.ownBlock ≠ some R) : Dk (w.setCell ⟨R, o, none⟩ x) N D v l :=
  ⟨h.box.set_ne ⟨R, o, none⟩ x (Ne.symm hR), own_keep h.own fun g hg _ => heap_setCell_other w ⟨R, o, none⟩ g x (show g ≠ R from fun e => hv (e ▸ hg)), h.ne, h.ok⟩
structure DRel (W : World) (N : Nat) (xs : List Wd) (n i : Nat) (v : Value) (wr : World) : Prop where
  dk : Dk wr N N v (endT [] ((xs.map wordsL).take i))
  box : Box wr (N + 1) (wdsC (outW [] (xs.map wordsL)) n i) 9
  ap : v.ownBlock ≠ some (N + 1)
  below : Below N W wr
theorem DRel.round {W : World} {N : Nat} {xs : List Wd} {n i : Nat} {v v' : Value} {wr w4 : World} {x : Wd} (h : DRel W N xs n i v wr) (hx : xs[i]? = some x) (hl : xs.length = n) (hN : N = W.heap.size)
    (hd : Dk w4 N N v' ((ans (endT [] ((xs.map wordsL).take i)) (wordsL x)).next (endT [] ((xs.map wordsL).take i)))) (hg : DkG wr w4 N v) (hv : v'.ownBlock = v.ownBlock ∨ ∀ k, v'.ownBlock = some k → wr.heap.size ≤ k) :
    DRel W N xs n (i + 1) v' (w4.setCell ⟨N + 1, i, none⟩ (.string (str (ans (endT [] ((xs.map wordsL).take i)) (wordsL x)).out))) := by
  have hB := h.box.lt
  have hap : v'.ownBlock ≠ some (N + 1) := fun e => by
    rcases hv with hv | hv
    · rw [hv] at e; exact h.ap e
    · have := hv _ e; omega
  have hw := map_at (f := wordsL) hx
  have ho := outW_get [] (xs.map wordsL) i _ hw
  have hE : endT [] ((xs.map wordsL).take (i + 1)) = (ans (endT [] ((xs.map wordsL).take i)) (wordsL x)).next (endT [] ((xs.map wordsL).take i)) := by
    rw [List.take_succ, hw, Option.toList_some, endT_append]
    rfl
  have hol : (outW [] (xs.map wordsL)).length = n := by rw [outW_length, List.length_map]; exact hl
  refine ⟨by rw [hE]; exact hd.other2 _ (by omega) hap, ?_, hap, h.below.trans ?_⟩
  · have := (hg.box h.box (by omega) h.ap).set i (.string (str (ans (endT [] ((xs.map wordsL).take i)) (wordsL x)).out))
    rwa [wdsC_set hol ho] at this
  · have h1 := hg.below h.dk (Nat.le_refl _) (Nat.le_of_lt h.dk.box.lt)
    exact h1.setCell (show N ≤ N + 1 by omega) _
theorem DRel.done {W : World} {N : Nat} {xs : List Wd} {n : Nat} {v : Value} {wr : World} (h : DRel W N xs n n v wr) (hl : xs.length = n) (hn : n ≤ maxLen) :
    wr.ownsRow N 9 1 (.slice (some ⟨N + 1, 0, none⟩) n n) n ((outW [] (xs.map wordsL)).map fun x => .string (str x)) := by
  have hol : (outW [] (xs.map wordsL)).length = n := by rw [outW_length, List.length_map]; exact hl
  have hb := h.box
  rw [wdsC_all hol] at hb
  refine ⟨by rw [List.length_map, hol, Nat.mul_one], .inr ⟨N + 1, n, _, rfl, by omega, hb, Nat.le_refl _, hn, by simp [hol], ?_⟩⟩
  rw [List.take_of_length_le (by simp [hol])]
def DRunPost (w : World) (xs : List Wd) (e : Ending) (w' : World) : Prop :=
  ∃ v, e = .returned (.tuple #[v, .int .i64 (runE xs)]) ∧ w'.ownsRow w.heap.size 9 1 v (runT xs).length ((runT xs).map fun x => .string (str x)) ∧ Below w.heap.size w w'
set_option maxHeartbeats 8000000 in
theorem drun_any (A : Option Addr) (n c : Nat) (xs : List Wd) (w : World) (h : WS w A n xs) (hs : ∀ x ∈ xs, x.length ≤ maxLen) (hnm : n ≤ maxLen) (ht : Tabs w) : Calls Tryz.prog 7 #[.slice A n c] w (DRunPost w xs) := by
  have HL := Lib.hid h
  have HS := Lib.hid hs
  have HT := Lib.hid ht
  have HLN := Lib.hid h.1
  unfold maxLen at hnm
  clear h hs ht
  by_cases h60 : 60 < n
  · have hE := Lib.hid (show runE xs = 2 by unfold runE; rw [if_pos (.inl (by rw [HLN.out]; exact h60))])
    have h60' : (60 : Int) < n := by omega
    clear h60
    go_enter Tryz.func7, Tryz.ntmps7
    go_wp2
    go_ret2
    exact ⟨_, by rw [hE.out]; rfl, by unfold runT; rw [hE.out, if_neg (by decide)]; exact World.ownsRow_nil _ _ _ _, Below.refl _ _⟩
  · have h60' : ¬ (60 : Int) < n := by omega
    cases ha : xs.any long
    · have hE := Lib.hid (show runE xs = 0 by unfold runE; rw [if_neg (fun h => h.elim (fun h => by rw [HLN.out] at h; exact h60 h) (fun h => by rw [ha] at h; cases h))])
      have HV := Lib.hid (show runT xs = outW [] (xs.map wordsL) by unfold runT; rw [if_pos hE.out])
      have HSH := Lib.hid (runE_ok hE.out).2
      have HA := Lib.hid ha
      have HOL := Lib.hid (show (outW [] (xs.map wordsL)).length = n by rw [outW_length, List.length_map]; exact HLN.out)
      have hn60 : n ≤ 60 := by omega
      clear ha h60
      have hb1 := Box.new w #[.slice none 0 0] 32
      have hb2 := Box.new (w.alloc (.cells #[.slice none 0 0] 32)) (wdsC (outW [] (xs.map wordsL)) n 0) 9
      rw [wdsC_zero] at hb2
      rw [show (w.alloc (.cells #[.slice none 0 0] 32)).heap.size = w.heap.size + 1 by simp] at hb2
      have H0 := Lib.hid (show DRel w w.heap.size xs n 0 (.slice none 0 0) _ from ⟨⟨hb1.old _, World.ownsRow_nil _ _ _ _, fun g hg => (by cases hg), may_nil⟩, by rw [wdsC_zero]; exact hb2, fun e => (by cases e), ((Below.refl _ _).alloc (Nat.le_refl _) _).alloc (by simp) _⟩)
      clear hb1 hb2
      go_enter Tryz.func7, Tryz.ntmps7
      go_wp2_with (first | (refine makeStr _ _ rfl rfl n (by omega) rfl rfl ?_) | (go_at_call 10; (with_reducible refine (anyLong_any A n c xs _ HL.out hn60 HS.out).mono ?_); rintro _ _ ⟨rfl, rfl⟩; rw [HA.out]))
      generalize (w.alloc (.cells #[.slice none 0 0] 32)).alloc (.cells (Array.replicate n (.string ⟨#[]⟩)) 9) = w2 at *
      generalize hNN : w.heap.size = N at *
      have HNN := Lib.hid hNN.symm
      clear hNN
      go_loopw [20] (fun t wr => ∃ (i : Nat) (v : Value), i ≤ n ∧ t = .int .i64 i ∧ DRel w N xs n i v wr) (fun t _ => n - (intOf t).toNat)
      case atStart => exact ⟨0, _, by omega, rfl, H0.out⟩
      case round =>
        obtain ⟨i, v, hi, rfl, hr⟩ := hrel
        have HR := Lib.hid hr
        have HBL := Lib.hid (show Bel w wr from Bel.of (HNN.out ▸ hr.below))
        clear hr H0
        by_cases hlt : i < n
        · have hlt' : (i : Int) < n := by omega
          obtain ⟨b, off, x, rfl, hbb, hx, hc⟩ := HL.out.at_ hlt
          have hcr := cell_bel HBL.out hc
          have HX := Lib.hid hx
          have HM := Lib.hid (List.mem_of_getElem? hx)
          clear hbb hx hc
          go_wp2_with fail
          refine (answer_any N N v _ x _ HR.out.dk (Nat.le_of_lt HR.out.dk.box.lt) (by have := HSH.out x HM.out; omega) (HT.out.bel HBL.out)).mono ?_
          rintro e4 w4 ⟨rfl, v', hd', hg', hv'⟩
          have hbx := hg'.box HR.out.box (by omega) HR.out.ap
          have c1 := hbx.cell i (wdsC_get HOL.out hlt)
          have g1 := hbx.frozen i
          have HZ := Lib.hid (HR.out.round HX.out HLN.out HNN.out hd' hg' hv')
          clear hd' hg' hv' hbx hcr
          go_wp2
          go_roundw
          case rel => exact ⟨i + 1, v', by omega, by go_num, HZ.out⟩
          case measure => simp [intOf]; omega
        · obtain rfl : i = n := by omega
          have HO := Lib.hid (HR.out.done HLN.out (by unfold maxLen; omega))
          go_wp2
          go_ret2
          refine ⟨_, by rw [hE.out]; rfl, ?_, HNN.out ▸ HR.out.below⟩
          rw [HV.out, HOL.out, ← HNN.out]
          exact HO.out
    · have hE := Lib.hid (show runE xs = 2 by unfold runE; rw [if_pos (.inr ha)])
      have HA := Lib.hid ha
      have hn60 : n ≤ 60 := by omega
      clear ha h60
      go_enter Tryz.func7, Tryz.ntmps7
      go_wp2_with (go_at_call 10; (with_reducible refine (anyLong_any A n c xs _ HL.out hn60 HS.out).mono ?_); rintro _ _ ⟨rfl, rfl⟩; rw [HA.out])
      go_ret2
      exact ⟨_, by rw [hE.out]; rfl, by unfold runT; rw [hE.out, if_neg (by decide)]; exact World.ownsRow_nil _ _ _ _, Below.refl _ _⟩
end Go.Proofs.YtnklpifnknmdgaaGreatDoor
set_option linter.all false
set_option maxRecDepth 100000
namespace Go.Proofs.YtnklpifnknmdgaaGreatDoor
open Go Go.RowKit

set_option maxHeartbeats 4000000 in
theorem eqstr_any (A B : Option Addr) (n c m d : Nat) (xs ys : List Wd) (w : World) (hx : WS w A n xs) (hy : WS w B m ys) (hn : n ≤ maxLen) :
    Calls Tryz.prog 9 #[.slice A n c, .slice B m d] w fun e w' => e = .returned (.bool (decide (xs = ys))) ∧ w = w' := by
  have HX := Lib.hid hx
  have HY := Lib.hid hy
  unfold maxLen at hn
  by_cases hnm : n = m
  · subst hnm
    have hne : ((n : Int) != (n : Int)) = false := by simp
    clear hx hy
    go_enter Tryz.func9, Tryz.ntmps9
    go_wp2
    go_loopw [14] (fun t wr => ∃ i : Nat, i ≤ n ∧ t = .int .i64 i ∧ xs.take i = ys.take i ∧ w = wr) (fun t _ => n - (intOf t).toNat)
    case atStart => exact ⟨0, by omega, rfl, rfl, rfl⟩
    case round =>
      obtain ⟨i, hi, rfl, hq, rfl⟩ := hrel
      have HQ := Lib.hid hq
      clear hq
      by_cases hlt : i < n
      · have hlt' : (i : Int) < n := by omega
        obtain ⟨b, off, x, rfl, hbb, hx, hc⟩ := HX.out.at_ hlt
        obtain ⟨b', off', y, rfl, hbb', hy, hc'⟩ := HY.out.at_ hlt
        have HXI := Lib.hid hx
        have HYI := Lib.hid hy
        clear hbb hx hbb' hy
        have hbe := str_beq x y
        cases hg : decide (x = y)
        · rw [hg] at hbe
          have HV := Lib.hid (show decide (xs = ys) = false from decide_eq_false fun e => by
            have h1 := HXI.out
            rw [e, HYI.out] at h1
            cases h1
            exact of_decide_eq_false hg rfl)
          clear hg
          go_wp2
          go_ret
          exact ⟨by rw [HV.out]; rfl, rfl⟩
        · rw [hg] at hbe
          have HE := Lib.hid (of_decide_eq_true hg)
          clear hg
          go_wp2
          go_roundw
          case rel => exact ⟨i + 1, by omega, by go_num, by rw [List.take_succ, List.take_succ, HXI.out, HYI.out, HQ.out, HE.out], by first | trivial | rfl⟩
          case measure => simp [intOf]; omega
      · obtain rfl : i = n := by omega
        have HV := Lib.hid (show decide (xs = ys) = true from decide_eq_true (by
          have := HQ.out
          rwa [List.take_of_length_le (by rw [HX.out.1]; exact Nat.le_refl _), List.take_of_length_le (by rw [HY.out.1]; exact Nat.le_refl _)] at this))
        go_wp2
        go_ret
        exact ⟨by rw [HV.out]; rfl, rfl⟩
  · have hne : ((n : Int) != (m : Int)) = true := by
      rw [bne_iff_ne]; omega
    have HV := Lib.hid (show decide (xs = ys) = false from decide_eq_false fun e => hnm (by rw [← hx.1, ← hy.1, e]))
    clear hx hy hnm
    go_enter Tryz.func9, Tryz.ntmps9
    go_wp2
    go_ret
    exact ⟨by rw [HV.out]; rfl, rfl⟩
abbrev sts (xs : List Wd) : List Value := xs.map fun x => Value.string (str x)
theorem ws_own {w : World} {base : Nat} {v : Value} {xs : List Wd} (h : w.ownsRow base 9 1 v xs.length (sts xs)) : ∃ A c, v = .slice A xs.length c ∧ WS w A xs.length xs ∧ xs.length ≤ c ∧ c ≤ maxLen := by
  by_cases h0 : 0 < xs.length
  · obtain ⟨g, cap, rfl, _, h1, h2, h3, h4⟩ := row_cells2 h h0
    exact ⟨_, cap, rfl, ⟨rfl, fun _ => ⟨g, 0, rfl, h3, fun i x hx => by rw [Nat.zero_add]; exact h4 i _ (by rw [List.getElem?_map, hx]; rfl)⟩⟩, h1, h2⟩
  · rcases h.2 with ⟨rfl, h1⟩ | ⟨g, cap, cur, rfl, _, _, h4, h5, _⟩
    · exact ⟨none, 0, by rw [h1], ⟨rfl, fun h => absurd h h0⟩, by omega, Nat.zero_le _⟩
    · exact ⟨_, cap, rfl, ⟨rfl, fun h => absurd h h0⟩, h4, h5⟩
theorem ws_lit {w : World} {B : Nat} {xs : List Wd} (h : Box w B (sts xs).toArray 9) : WS w (some ⟨B, 0, none⟩) xs.length xs :=
  ⟨rfl, fun _ => ⟨B, 0, rfl, h.lt, fun i x hx => by
    rw [Nat.zero_add]
    exact h.cell i (by rw [List.getElem?_toArray, List.getElem?_map, hx]; rfl)⟩⟩
theorem sts_app (a b : List Wd) : sts (a ++ b) = sts a ++ sts b := List.map_append
theorem run_size : runT [[115, 105, 122, 101]] = [[48]] ∧ runE [[115, 105, 122, 101]] = 0 := by
  have h2 : runE [[115, 105, 122, 101]] = 0 := by decide
  refine ⟨?_, h2⟩
  have hw : wordsL [115, 105, 122, 101] = [[115, 105, 122, 101]] := by decide +kernel
  have hc : cmdOf (nameW [[115, 105, 122, 101]]) = some (1, 10) := by decide +kernel
  unfold runT
  rw [if_pos h2]
  show outW [] [wordsL [115, 105, 122, 101]] = _
  rw [hw]
  unfold outW ans
  rw [hc]
  decide +kernel
theorem runE_zero {xs : List Wd} (h1 : xs.length ≤ 60) (h2 : ∀ x ∈ xs, x.length ≤ 200) : runE xs = 0 := by
  unfold runE
  rw [if_neg]
  rintro (h | h)
  · omega
  · obtain ⟨x, hx, hg⟩ := List.any_eq_true.1 h
    have := h2 x hx
    have := of_decide_eq_true hg
    omega
def noErr (p : Wd × Wd) : Bool := !errT p.2
theorem good_zip (L : List Ev) (l : List Wd) : outW L (((((l.zip (outW L (l.map wordsL))).filter noErr).map (·.1))).map wordsL) = ((l.zip (outW L (l.map wordsL))).filter noErr).map (·.2) := by
  induction l generalizing L with
  | nil => rfl
  | cons s r ih =>
    have h1 := ans_errT L (wordsL s)
    have hn : noErr (s, (ans L (wordsL s)).out) = !(ans L (wordsL s)).isErr := by unfold noErr; rw [h1]
    clear h1
    simp only [List.map_cons, outW, List.zip_cons_cons]
    cases h : ans L (wordsL s) with
    | err n =>
      rw [h] at hn
      rw [List.filter_cons_of_neg (by rw [hn]; simp [Ans.isErr])]
      exact ih L
    | ok t m =>
      rw [h] at hn
      rw [List.filter_cons_of_pos (by rw [hn]; rfl), List.map_cons, List.map_cons, List.map_cons, outW, h]
      simp only [Ans.next]
      rw [ih m]
end Go.Proofs.YtnklpifnknmdgaaGreatDoor

/- 'deadheatkeep.ProgOne' returns true for every input and leaves its argument as it is. No condition. -/
import Derived.Test.YtbcohpkeljjhbaaOpen
import Derived.Test.YtbcohpkeljjhbaaKeepPg
import Derived.Test.YtbcohpkeljjhbaaKeepTw
import Derived.Test.YtbcohpkeljjhbaaMpF
import Derived.Test.YtbcohpkeljjhbaaRpR
import Derived.Test.YtbcohpkeljjhbaaCi
import Derived.Laws.MakeOwn
import Derived.Deep.DeepCutAuto
import Derived.Test.YtbcohpkeljjhbaaFo
set_option linter.all false
set_option maxRecDepth 100000
namespace Go.Proofs.Ytbcohpkeljjhbaa.LProgOne
open Go Go.ChangeShapes Go.WideShapes Go.ChangeAt Go.RowKit

theorem hld_upd {l : List Ev} {i : Nat} {e : Ev} (h : l[i]? = some e) (hk : e.k = 4 ∨ e.k = 5) : hldL (l.take (i + 1)) = updM (hldL (l.take i)) e.t (decide (e.k = 4)) := by
  rw [take_snoc h, hldL_snoc]
  funext x
  unfold hldE updM
  by_cases hx : x = e.t
  · rw [if_pos ⟨hk, hx⟩, if_pos hx]
  · rw [if_neg (fun g => hx g.2), if_neg hx]
theorem hld_same {l : List Ev} {i : Nat} {e : Ev} (h : l[i]? = some e) (hk : ¬ (e.k = 4 ∨ e.k = 5)) : hldL (l.take (i + 1)) = hldL (l.take i) := by
  rw [take_snoc h, hldL_snoc]
  funext x
  unfold hldE
  rw [if_neg (fun g => hk g.1)]
theorem wt_succ {l : List Ev} {i : Nat} {e : Ev} (h : l[i]? = some e) : wtL l (i + 1) = (wtL l i || (decide (e.k = 7) || (decide (e.k = 4) && hldL (l.take i) e.t))) := by
  show (wtL l i || (match l[i]? with | none => false | some o => wts (l.take i) o)) = _
  rw [h]
  rfl
theorem made_ints (n : Nat) : madeCells #[Value.int .i64 0] n = Array.replicate n (.int .i64 0) := by
  apply Array.ext
  · simp [madeCells]
  · intro i h1 h2
    simp [madeCells, Nat.mod_one]
theorem makeInts {ops : Array Oper} {rest : List Oper} {o : Oper} {a : Act} {w : World} {Q : Exit → Act → World → Prop} (l c : Operand) (ho : o.op = .makeSlice 23 l c) (hg : o.guard = none) (n : Nat) (hn : n ≤ 1000000) (hl : a.eval l = .int .i64 n) (hc : a.eval c = .int .i64 n)
    (h : wpList Try.prog ops Q rest (a.put o.dst (.slice (some ⟨w.heap.size, 0, none⟩) n n)) (w.alloc (.cells (Array.replicate n (.int .i64 0)) 3))) : wpList Try.prog ops Q (o :: rest) a w := by
  obtain ⟨i, hi, hz, hs, hb⟩ := info_parts qint_info
  have hr := run_make (P := Try.prog) w 23 3 i _ Try.underlying23 hi hz .i64 .i64 n n (by omega) (by omega) (by rw [hb]; omega) (by omega)
  rw [hs, Int.toNat_natCast, Nat.mul_one, show (Value.int .i64 0).cells = #[Value.int .i64 0] from rfl, made_ints] at hr
  refine wpList_plain hg fun _ hK => ?_
  unfold Oper.wp execOp
  simp only [ho, hl, hc, Sem.run_bind, hr, Result.andThen_ok, Sem.run_pure]
  exact hK _ _ h
structure OneW (W : World) (l : List Ev) (i X M : Nat) (y : Array Value) (wr : World) : Prop where
  bel : Below W.heap.size W wr
  box : Box wr X y 28
  map : MapF wr M (hldL (l.take i))
set_option maxHeartbeats 16000000 in
theorem walkH (HR : RunC) (W : World) (A : Option Addr) (n c : Nat) (l : List Ev) (s : Sl W A n l) (m : n ≤ c) (x : c ≤ maxLen) (_g : ∀ e ∈ l, EvOk e) :
    Calls Try.prog 9 #[.slice A n c] W fun e w' => e = .returned (.bool true) ∧ Below W.heap.size W w' := by
  have HL := Lib.hid s
  have HM := Lib.hid (And.intro m x)
  have HRN := Lib.hid (fun w => ran_any HR w)
  unfold RunC at HR
  have H1 := Lib.hid HR
  clear s HR
  unfold maxLen at x
  go_enter Try.func9, Try.ntmps9
  go_wp2_with fail
  refine (HRN.out W).mono ?_
  rintro e0 w0 ⟨rfl, hb0⟩
  have HW0 := Lib.hid (Bel.of hb0)
  clear hb0
  by_cases h12 : 12 < n
  · have h12' : (12 : Int) < n := by omega
    go_wp2
    go_ret
    exact ⟨rfl, HW0.out.out⟩
  · have h12' : ¬ (12 : Int) < n := by omega
    have hn12 : n ≤ 12 := by omega
    have HN12 := Lib.hid hn12
    clear h12
    go_wp2_with (refine makeInts _ _ rfl rfl n (by omega) rfl rfl ?_)
    have hA := Bel.alloc (Bel.refl w0) (.cells #[.slice A n c] 44)
    have hB := hA.alloc (.cells (Array.replicate n (.int .i64 0)) 3)
    have hbx : Box ((w0.alloc (.cells #[.slice A n c] 44)).alloc (.cells (Array.replicate n (.int .i64 0)) 3)) w0.heap.size #[.slice A n c] 44 := (Box.new w0 _ _).old _
    have hby : Box ((w0.alloc (.cells #[.slice A n c] 44)).alloc (.cells (Array.replicate n (.int .i64 0)) 3)) (w0.heap.size + 1) (Array.replicate n (.int .i64 0)) 3 := by
      have h := Box.new (w0.alloc (.cells #[.slice A n c] 44)) (Array.replicate n (.int .i64 0)) 3
      rwa [World.size_alloc] at h
    have hp := Prg.one hbx (ops := l) (HL.out.bel (HW0.out.trans hB)) HM.out.1 HM.out.2
    have hs : SI ((w0.alloc (.cells #[.slice A n c] 44)).alloc (.cells (Array.replicate n (.int .i64 0)) 3)) (some ⟨w0.heap.size + 1, 0, none⟩) n (List.replicate n 0) := ⟨by simp, fun _ => ⟨_, 0, rfl, fun i hi => by
      rw [Nat.zero_add]
      exact hby.cell i (by simp [hi])⟩⟩
    have hHB := Lib.hid hB
    clear hA hbx hby hB
    refine (H1.out (some ⟨w0.heap.size, 0, none⟩) 1 1 [l] (some ⟨w0.heap.size + 1, 0, none⟩) n n (List.replicate n 0) _ hp (Nat.le_refl _) (by unfold maxLen; omega) hs (Nat.le_refl _) (by unfold maxLen; omega)).mono ?_
    rintro e2 w2 ⟨v2, y2, l2, c2, rfl, hB2, ho2, hb2⟩
    have HV := Lib.hid (EnV.run hB2)
    obtain ⟨A2, d2, rfl, _, _, _⟩ := Sl.own ho2
    have HX := Lib.hid (enw_box w2 y2)
    have HE := Lib.hid (((HW0.out.trans hHB.out).call hb2).trans (enw_bel w2 y2))
    clear ho2 hb2 hp hs
    by_cases hc : c2 = 0
    · rcases runB_cases hB2 with ⟨h1, _⟩ | ⟨_, hok, _, rfl, _⟩
      · exact absurd hc h1
      subst hc
      obtain ⟨hd, hk⟩ := one_end hok
      have HLN := Lib.hid HL.out.1
      rw [HL.out.1] at hd hk
      have b18 : (endP [l] (runP [l] (List.replicate n 0)))[18]? = some (.bool (!wtL l n)) := by rw [← hd]; rfl
      have b19 : (endP [l] (runP [l] (List.replicate n 0)))[19]? = some (.bool (wtL l n)) := by rw [← hk]; rfl
      have HC := Lib.hid (And.intro b18 b19)
      clear hd hk b18 b19 hok hB2
      generalize endP [l] (runP [l] (List.replicate n 0)) = y2 at *
      have hmm := @run_makeMap Try.prog
      go_wp2_with (refine enw_store HV.out.ty _ _ rfl rfl HV.out.size HV.out.one rfl rfl rfl ?_)
      clear hmm
      have H0 := Lib.hid (show OneW W l 0 w2.heap.size (enw w2 y2).heap.size y2 ((enw w2 y2).alloc (.map #[] 0)) from
        ⟨(HE.out.alloc _).out, HX.out.old _, MapF.new _⟩)
      have HNM := Lib.hid HE.out.size
      have HXM := Lib.hid (Nat.ne_of_lt HX.out.lt)
      generalize w2.heap.size = X at *
      generalize (enw w2 y2).heap.size = M at *
      go_loopw [7, 30] (fun v t wr => ∃ i : Nat, i ≤ n ∧ t = .int .i64 i ∧ v = .bool (wtL l i) ∧ OneW W l i X M y2 wr) (fun _ t _ => n - (intOf t).toNat)
      case atStart => exact ⟨0, by omega, rfl, rfl, H0.out⟩
      case round =>
        obtain ⟨i, hi, rfl, rfl, hr⟩ := hrel
        have HR := Lib.hid hr
        clear hr
        by_cases hlt : i < n
        · have hlt' : (i : Int) < n := by omega
          have hic : (i : Int) ≤ c := by omega
          have HSL := Lib.hid (show Sl wr A n l from HL.out.bel (Bel.of HR.out.bel))
          obtain ⟨bb, off, e, rfl, hbb, he, hrg⟩ := HSL.out.at_ hlt
          have hR := Lib.hid hrg
          obtain ⟨c0, c1, c2⟩ := ewld_cells wr e 46
          have HMP := Lib.hid (HR.out.map.bel (ewld_below wr e 46))
          have HLK := mapF_look HMP.out e.t
          have HW := Lib.hid (wt_succ he)
          have HU := Lib.hid (hld_upd he)
          have HS := Lib.hid (hld_same he)
          have HBX := Lib.hid ((Bel.of (ewld_below wr e 46)).box HR.out.box)
          have HBL := Lib.hid ((Bel.of HR.out.bel).trans (ewld_below wr e 46))
          clear hrg he hbb
          generalize hvh : hldL (l.take i) e.t = vh at *
          have HVH := Lib.hid hvh
          clear hvh
          generalize hvt : wtL l i = vt at *
          clear hvt
          go_upto_region 13 with (first | (refine load_ev TOp _ rfl rfl rfl hR.out ?_) | (refine ewld_store TOp _ _ rfl rfl _ rfl rfl rfl ?_))
          by_cases h4 : e.k = 4
          · skip
            have f4 : (e.k == 4) = true := by simpa using h4
            have f7 : (e.k == 7) = false := by rw [h4]; rfl
            have HK := Lib.hid h4
            clear h4
            cases vt
            · cases vh
              · skip
                have HN := Lib.hid (show wtL l (i + 1) = false by rw [HW.out, decide_eq_false (p := e.k = 7) (by have := HK.out; omega), decide_eq_true (p := e.k = 4) (by have := HK.out; omega)]; rfl)
                have HF := Lib.hid (show hldL (l.take (i + 1)) = updM (hldL (l.take i)) e.t true by rw [HU.out (by have := HK.out; omega), decide_eq_true (p := e.k = 4) (by have := HK.out; omega)])
                go_wp2_with (first | ((with_reducible refine Go.wpList_skip ?_ ?_); exact rfl; simp only [Act.put, Act.eval, List.setIfInBounds_toArray, List.set_cons_zero, List.set_cons_succ, Array.getD_eq_getD_getElem?, List.getElem?_toArray, List.getElem?_cons_zero, List.getElem?_cons_succ, Option.getD_some]) | (refine updF_step _ _ _ rfl rfl rfl rfl rfl HMP.out ?_; intro es cc hmp))
                have HQ := Lib.hid (show OneW W l (i + 1) X M y2 (fset (ewld wr e 46) M es cc) from ⟨fset_below HBL.out.out (HNM.out) es cc, fset_box HBX.out HXM.out, by rw [HF.out]; exact hmp⟩)
                clear hmp
                go_roundw
                case rel => exact ⟨i + 1, by omega, by go_num, by rw [HN.out], HQ.out⟩
                case measure => simp [intOf]; omega
              · skip
                have HN := Lib.hid (show wtL l (i + 1) = true by rw [HW.out, decide_eq_false (p := e.k = 7) (by have := HK.out; omega), decide_eq_true (p := e.k = 4) (by have := HK.out; omega)]; rfl)
                have HF := Lib.hid (show hldL (l.take (i + 1)) = updM (hldL (l.take i)) e.t true by rw [HU.out (by have := HK.out; omega), decide_eq_true (p := e.k = 4) (by have := HK.out; omega)])
                go_wp2_with (first | ((with_reducible refine Go.wpList_skip ?_ ?_); exact rfl; simp only [Act.put, Act.eval, List.setIfInBounds_toArray, List.set_cons_zero, List.set_cons_succ, Array.getD_eq_getD_getElem?, List.getElem?_toArray, List.getElem?_cons_zero, List.getElem?_cons_succ, Option.getD_some]) | (refine updF_step _ _ _ rfl rfl rfl rfl rfl HMP.out ?_; intro es cc hmp))
                have HQ := Lib.hid (show OneW W l (i + 1) X M y2 (fset (ewld wr e 46) M es cc) from ⟨fset_below HBL.out.out (HNM.out) es cc, fset_box HBX.out HXM.out, by rw [HF.out]; exact hmp⟩)
                clear hmp
                go_roundw
                case rel => exact ⟨i + 1, by omega, by go_num, by rw [HN.out], HQ.out⟩
                case measure => simp [intOf]; omega
            · skip
              have HN := Lib.hid (show wtL l (i + 1) = true by rw [HW.out, decide_eq_false (p := e.k = 7) (by have := HK.out; omega), decide_eq_true (p := e.k = 4) (by have := HK.out; omega)]; rfl)
              have HF := Lib.hid (show hldL (l.take (i + 1)) = updM (hldL (l.take i)) e.t true by rw [HU.out (by have := HK.out; omega), decide_eq_true (p := e.k = 4) (by have := HK.out; omega)])
              go_wp2_with (first | ((with_reducible refine Go.wpList_skip ?_ ?_); exact rfl; simp only [Act.put, Act.eval, List.setIfInBounds_toArray, List.set_cons_zero, List.set_cons_succ, Array.getD_eq_getD_getElem?, List.getElem?_toArray, List.getElem?_cons_zero, List.getElem?_cons_succ, Option.getD_some]) | (refine updF_step _ _ _ rfl rfl rfl rfl rfl HMP.out ?_; intro es cc hmp))
              have HQ := Lib.hid (show OneW W l (i + 1) X M y2 (fset (ewld wr e 46) M es cc) from ⟨fset_below HBL.out.out (HNM.out) es cc, fset_box HBX.out HXM.out, by rw [HF.out]; exact hmp⟩)
              clear hmp
              go_roundw
              case rel => exact ⟨i + 1, by omega, by go_num, by rw [HN.out], HQ.out⟩
              case measure => simp [intOf]; omega
          · by_cases h7 : e.k = 7
            · skip
              have f4 : (e.k == 4) = false := by rw [h7]; rfl
              have f7 : (e.k == 7) = true := by simpa using h7
              have f5 : (e.k == 5) = false := by rw [h7]; rfl
              have HK := Lib.hid h7
              clear h4 h7
              cases vt
              · skip
                have HN := Lib.hid (show wtL l (i + 1) = true by rw [HW.out, decide_eq_true (p := e.k = 7) (by have := HK.out; omega), decide_eq_false (p := e.k = 4) (by have := HK.out; omega)]; rfl)
                have HF := Lib.hid (show hldL (l.take (i + 1)) = hldL (l.take i) from HS.out (by have := HK.out; omega))
                go_wp2_with ((with_reducible refine Go.wpList_skip ?_ ?_); exact rfl; simp only [Act.put, Act.eval, List.setIfInBounds_toArray, List.set_cons_zero, List.set_cons_succ, Array.getD_eq_getD_getElem?, List.getElem?_toArray, List.getElem?_cons_zero, List.getElem?_cons_succ, Option.getD_some])
                have HQ := Lib.hid (show OneW W l (i + 1) X M y2 (ewld wr e 46) from ⟨HBL.out.out, HBX.out, by rw [HF.out]; exact HMP.out⟩)
                go_roundw
                case rel => exact ⟨i + 1, by omega, by go_num, by rw [HN.out], HQ.out⟩
                case measure => simp [intOf]; omega
              · skip
                have HN := Lib.hid (show wtL l (i + 1) = true by rw [HW.out, decide_eq_true (p := e.k = 7) (by have := HK.out; omega), decide_eq_false (p := e.k = 4) (by have := HK.out; omega)]; rfl)
                have HF := Lib.hid (show hldL (l.take (i + 1)) = hldL (l.take i) from HS.out (by have := HK.out; omega))
                go_wp2_with ((with_reducible refine Go.wpList_skip ?_ ?_); exact rfl; simp only [Act.put, Act.eval, List.setIfInBounds_toArray, List.set_cons_zero, List.set_cons_succ, Array.getD_eq_getD_getElem?, List.getElem?_toArray, List.getElem?_cons_zero, List.getElem?_cons_succ, Option.getD_some])
                have HQ := Lib.hid (show OneW W l (i + 1) X M y2 (ewld wr e 46) from ⟨HBL.out.out, HBX.out, by rw [HF.out]; exact HMP.out⟩)
                go_roundw
                case rel => exact ⟨i + 1, by omega, by go_num, by rw [HN.out], HQ.out⟩
                case measure => simp [intOf]; omega
            · by_cases h5 : e.k = 5
              · skip
                have f4 : (e.k == 4) = false := by rw [h5]; rfl
                have f7 : (e.k == 7) = false := by rw [h5]; rfl
                have f5 : (e.k == 5) = true := by simpa using h5
                have HK := Lib.hid h5
                clear h4 h7 h5
                cases vt
                · skip
                  have HN := Lib.hid (show wtL l (i + 1) = false by rw [HW.out, decide_eq_false (p := e.k = 7) (by have := HK.out; omega), decide_eq_false (p := e.k = 4) (by have := HK.out; omega)]; rfl)
                  have HF := Lib.hid (show hldL (l.take (i + 1)) = updM (hldL (l.take i)) e.t false by rw [HU.out (by have := HK.out; omega), decide_eq_false (p := e.k = 4) (by have := HK.out; omega)])
                  go_wp2_with (first | ((with_reducible refine Go.wpList_skip ?_ ?_); exact rfl; simp only [Act.put, Act.eval, List.setIfInBounds_toArray, List.set_cons_zero, List.set_cons_succ, Array.getD_eq_getD_getElem?, List.getElem?_toArray, List.getElem?_cons_zero, List.getElem?_cons_succ, Option.getD_some]) | (refine updF_step _ _ _ rfl rfl rfl rfl rfl HMP.out ?_; intro es cc hmp))
                  have HQ := Lib.hid (show OneW W l (i + 1) X M y2 (fset (ewld wr e 46) M es cc) from ⟨fset_below HBL.out.out (HNM.out) es cc, fset_box HBX.out HXM.out, by rw [HF.out]; exact hmp⟩)
                  clear hmp
                  go_roundw
                  case rel => exact ⟨i + 1, by omega, by go_num, by rw [HN.out], HQ.out⟩
                  case measure => simp [intOf]; omega
                · skip
                  have HN := Lib.hid (show wtL l (i + 1) = true by rw [HW.out, decide_eq_false (p := e.k = 7) (by have := HK.out; omega), decide_eq_false (p := e.k = 4) (by have := HK.out; omega)]; rfl)
                  have HF := Lib.hid (show hldL (l.take (i + 1)) = updM (hldL (l.take i)) e.t false by rw [HU.out (by have := HK.out; omega), decide_eq_false (p := e.k = 4) (by have := HK.out; omega)])
                  go_wp2_with (first | ((with_reducible refine Go.wpList_skip ?_ ?_); exact rfl; simp only [Act.put, Act.eval, List.setIfInBounds_toArray, List.set_cons_zero, List.set_cons_succ, Array.getD_eq_getD_getElem?, List.getElem?_toArray, List.getElem?_cons_zero, List.getElem?_cons_succ, Option.getD_some]) | (refine updF_step _ _ _ rfl rfl rfl rfl rfl HMP.out ?_; intro es cc hmp))
                  have HQ := Lib.hid (show OneW W l (i + 1) X M y2 (fset (ewld wr e 46) M es cc) from ⟨fset_below HBL.out.out (HNM.out) es cc, fset_box HBX.out HXM.out, by rw [HF.out]; exact hmp⟩)
                  clear hmp
                  go_roundw
                  case rel => exact ⟨i + 1, by omega, by go_num, by rw [HN.out], HQ.out⟩
                  case measure => simp [intOf]; omega
              · skip
                have f4 : (e.k == 4) = false := by simpa using h4
                have f7 : (e.k == 7) = false := by simpa using h7
                have f5 : (e.k == 5) = false := by simpa using h5
                have HK := Lib.hid (And.intro h4 (And.intro h7 h5))
                clear h4 h7 h5
                cases vt
                · skip
                  have HN := Lib.hid (show wtL l (i + 1) = false by rw [HW.out, decide_eq_false (p := e.k = 7) (by have := HK.out; omega), decide_eq_false (p := e.k = 4) (by have := HK.out; omega)]; rfl)
                  have HF := Lib.hid (show hldL (l.take (i + 1)) = hldL (l.take i) from HS.out (by have := HK.out; omega))
                  go_wp2_with ((with_reducible refine Go.wpList_skip ?_ ?_); exact rfl; simp only [Act.put, Act.eval, List.setIfInBounds_toArray, List.set_cons_zero, List.set_cons_succ, Array.getD_eq_getD_getElem?, List.getElem?_toArray, List.getElem?_cons_zero, List.getElem?_cons_succ, Option.getD_some])
                  have HQ := Lib.hid (show OneW W l (i + 1) X M y2 (ewld wr e 46) from ⟨HBL.out.out, HBX.out, by rw [HF.out]; exact HMP.out⟩)
                  go_roundw
                  case rel => exact ⟨i + 1, by omega, by go_num, by rw [HN.out], HQ.out⟩
                  case measure => simp [intOf]; omega
                · skip
                  have HN := Lib.hid (show wtL l (i + 1) = true by rw [HW.out, decide_eq_false (p := e.k = 7) (by have := HK.out; omega), decide_eq_false (p := e.k = 4) (by have := HK.out; omega)]; rfl)
                  have HF := Lib.hid (show hldL (l.take (i + 1)) = hldL (l.take i) from HS.out (by have := HK.out; omega))
                  go_wp2_with ((with_reducible refine Go.wpList_skip ?_ ?_); exact rfl; simp only [Act.put, Act.eval, List.setIfInBounds_toArray, List.set_cons_zero, List.set_cons_succ, Array.getD_eq_getD_getElem?, List.getElem?_toArray, List.getElem?_cons_zero, List.getElem?_cons_succ, Option.getD_some])
                  have HQ := Lib.hid (show OneW W l (i + 1) X M y2 (ewld wr e 46) from ⟨HBL.out.out, HBX.out, by rw [HF.out]; exact HMP.out⟩)
                  go_roundw
                  case rel => exact ⟨i + 1, by omega, by go_num, by rw [HN.out], HQ.out⟩
                  case measure => simp [intOf]; omega
        · obtain rfl : n = i := by omega
          have HBX := Lib.hid HR.out.box
          have g18 := HBX.out.cell 18 HC.out.1
          have g19 := HBX.out.cell 19 HC.out.2
          have HZ := Lib.hid HR.out.bel
          generalize wtL l n = vt at *
          cases vt
          · go_wp2
            go_ret
            exact ⟨rfl, HZ.out⟩
          · go_wp2
            go_ret
            exact ⟨rfl, HZ.out⟩
    · have h9 : (c2 != 0) = true := by simpa using hc
      clear hB2 hc
      go_wp2_with (refine enw_store HV.out.ty _ _ rfl rfl HV.out.size HV.out.one rfl rfl rfl ?_)
      go_ret
      exact ⟨rfl, HE.out.out⟩
set_option maxRecDepth 100000 in
theorem lifted (os : Os) (started : os.Started) (H : Type) (enc : TypeId × Value → H) :
    ReturnsInHanded {} Try.checked os 9 .any (Rows.progOneSpec.pre6 enc Try.prog Try.f9 Rows.progOneRow.domain false) (Rows.progOneSpec.post enc Try.prog Try.f9 false true false false) := by
  refine returnsInHanded_of_change_sized (C := Try.checked) own started (by kernel_rfl) Try.func9
    (ChangeSpec.witness6 (enc := enc) (C := Try.checked) false ⟨#[], #[.slice none 0 0], []⟩ 8 (by kernel_rfl) (by kernel_rfl) (by kernel_rfl) (by kernel_rfl)) ?_
  intro W base args ds gs before hval0 hW hcnd hsz0 _
  have hsz : (DataW.weightsEach Try.prog (Try.f9.params.toList ++ Rows.progOneSpec.plain.varTypes Try.prog) (ds ++ gs)).all (· ≤ reachBytes) = true := hsz0
  clear hsz0
  have hval : ∀ (j : Nat) t v, Try.f9.params[j]? = some t → args[j]? = some v → Value.okWide Try.prog W .any base t v := hval0
  have hW' := hW
  obtain ⟨p, q, hA0, hV, rfl, hfz, hnd⟩ := hW
  have hA : DataW.TrodAll enc Try.prog W 0 (fun _ => true) true Try.f9.params.toList args.toList ds p := hA0
  rw [Try.params9] at hA hval hsz
  obtain ⟨v0, vs0, d0, ds0, p0, q0, hargs, rfl, rfl, h0, r0⟩ := trodAll_cons hA
  obtain ⟨rfl, rfl, rfl⟩ := trodAll_nil r0
  obtain rfl : args = #[v0] := by cases args; simp_all
  obtain ⟨rfl, rfl⟩ := trodVars_none hV
  have t0 := h0
  have lt0 : ∀ x ∈ p0, x.block < W.heap.size := by obtain ⟨m, hm⟩ := t0; exact DataW.trod_lt m _ _ _ hm
  obtain ⟨A0, n0, c0, l0, rfl, s0, m0, x0, g0, z0⟩ := open_evs Try.underlying44 Try.underlying46 ⟨rfl, rfl, rfl⟩ (by kernel_rfl) (by kernel_rfl) Try.underlying3 (hval 0 44 v0 rfl rfl) h0
  have y0 := reach_sl hsz (j := 0) rfl rfl Try.underlying44 (b := 24) (by kernel_rfl) z0
  clear hA0 hval0
  refine (walkH pgrun_c W A0 n0 c0 l0 s0 m0 x0 g0).mono fun e W' ⟨he, bel⟩ => ?_
  subst he
  exact ⟨_, rfl, _, _, _, [], _, [], hW', trodAll_mk1 (shut_bool Try.underlying4 _), (trodAll_cons_mk (Below.trod laidOut (by kernel_rfl) (of_decide_eq_true (by kernel_rfl)) t0 bel lt0) trodAll_mk0), rfl, bel.frame _, fun h => by cases h⟩

theorem over : Rows.progOneRow.holds Try.pinned (OpenSpec.ofChange Rows.progOneSpec) :=
  OpenClaim.holds_of_wide 9 Try.f9 rfl rfl rfl rfl rfl rfl rfl ⟨rfl, rfl, rfl, rfl, rfl⟩ rfl rfl rfl rfl rfl (by kernel_rfl) Try.func9 (by kernel_rfl)
    (of_decide_eq_true (by kernel_rfl)) (by unfold Func.isWrapper; first | (rw [if_pos (by decide +kernel)]; kernel_rfl) | (rw [if_neg (by decide +kernel)]; exact ⟨rfl, rfl⟩))
    (fun os started H enc _ => lifted os started H enc)

theorem proved : Rows.ProgOneSaid := over
#print axioms proved
end Go.Proofs.Ytbcohpkeljjhbaa.LProgOne

/- Contract of the reference's ProgAlone. -/
import Derived.Test.YtjindfkomnjceaaRpR
import Derived.Test.YtjindfkomnjceaaRefPs
import Derived.Shelf.Abstract
set_option linter.all false
set_option maxRecDepth 100000
namespace Go.Proofs.Ytjindfkomnjceaa
open Go Go.RowKit

/-- At op i lock b is taken by one who has a, but not b. -/
def alA (ops : List Ev) (a b : Nat) (i : Nat) : Bool := match ops[i]? with | none => false | some o => decide (o.k = 4) && (decide (o.t = (b : Int)) && (hldL (ops.take i) a && !hldL (ops.take i) b))
theorem alB_any (ops : List Ev) (a b : Nat) : alB ops a b = (List.range ops.length).any (alA ops a b) := rfl
theorem alA_at {ops : List Ev} {i : Nat} {o : Ev} (h : ops[i]? = some o) (a b : Nat) : alA ops a b i = (decide (o.k = 4) && (decide (o.t = (b : Int)) && (hldL (ops.take i) a && !hldL (ops.take i) b))) := by unfold alA; rw [h]
theorem hld_next {l : List Ev} {j : Nat} {f : Ev} (h : l[j]? = some f) (x : Int) : hldL (l.take (j + 1)) x = if (f.k = 4 ∨ f.k = 5) ∧ f.t = x then decide (f.k = 4) else hldL (l.take j) x := by
  rw [take_snoc h, hldL_snoc]
  show (if (f.k = 4 ∨ f.k = 5) ∧ x = f.t then _ else _) = _
  simp only [eq_comm (a := x)]
theorem hld_none (l : List Ev) (x : Int) : hldL (l.take 0) x = false := by simp [hldL]
set_option maxHeartbeats 16000000 in
theorem al_any (Bl n c : Nat) (A : Option Addr) (l : List Ev) (w : World) (a b : Nat) (hl : Sl w A n l) (hnc : n ≤ c) (hc : c ≤ 9223372036854775807) (hb : Box w Bl #[.slice A n c] 45) :
    Calls Try.prog 27 #[.int .i64 a, .int .i64 b, .pointer (some ⟨Bl, 0, none⟩)] w fun e w' => e = .returned (.bool (alB l a b)) ∧ Below w.heap.size w w' := by
  have HL := Lib.hid hl
  have FB := fun (w' : World) (h : Bel w w') => (h.box hb).cell 0 (v := .slice A n c) rfl
  have f0 := FB w (Bel.refl w)
  have HFB := Lib.hid FB
  clear hl hb FB
  go_enter Try.func27, Try.ntmps27
  go_wp2
  go_loopw [14] (fun t wr => ∃ i : Nat, i ≤ n ∧ t = .int .i64 i ∧ (∀ j, j < i → alA l a b j = false) ∧ Bel w wr) (fun t _ => n - (intOf t).toNat)
  case atStart => exact ⟨0, by omega, rfl, fun j h => by omega, Bel.refl _⟩
  case round =>
    obtain ⟨i, hi, rfl, hd, hbr⟩ := hrel
    have HD := Lib.hid hd
    have HB := Lib.hid hbr
    clear hd hbr f0
    by_cases hlt : i < n
    · obtain ⟨bb, off, e, rfl, hbb, he, hrg⟩ := (HL.out.bel HB.out).at_ hlt
      have hlt' : (i : Int) < n := by omega
      have hic : (i : Int) ≤ c := by omega
      have hR := Lib.hid hrg
      have HEA := Lib.hid (alA_at he a b)
      have HB1 := Lib.hid (HB.out.trans (ewld_below wr e 64))
      obtain ⟨c0, c1, c2⟩ := ewld_cells wr e 64
      have c3 := HFB.out (ewld wr e 64) HB1.out
      have HST := Lib.hid (show alA l a b i = false → ∀ j, j < i + 1 → alA l a b j = false from fun h j hj => by
        rcases Nat.lt_succ_iff_lt_or_eq.1 hj with hj | rfl
        · exact HD.out j hj
        · exact h)
      have HS := Lib.hid (show Sl (ewld wr e 64) (some ⟨bb, off, none⟩) i (l.take i) from (HL.out.bel HB1.out).take (by omega))
      have HT := Lib.hid (fun (j : Nat) (h : j ≤ i) => (by rw [List.take_take, Nat.min_eq_left h] : (l.take i).take j = l.take j))
      clear hrg he hbb
      cases h1 : (e.k != 4)
      · cases h2 : (e.t != (b : Int))
        · have HNX := Lib.hid (show alA l a b i = (hldL (l.take i) a && !hldL (l.take i) b) by
            rw [HEA.out, decide_eq_true (by simpa using h1), decide_eq_true (by simpa using h2), Bool.true_and, Bool.true_and])
          go_wp2_with (first | (refine load_ev TOp _ rfl rfl rfl hR.out ?_) | (refine ewld_store TOp _ _ rfl rfl _ rfl rfl rfl ?_))
          clear h1 h2 c0 c1 c2 c3
          go_loopw [8, 9, 32] (fun t8 t9 t wi => ∃ j : Nat, j ≤ i ∧ t = .int .i64 j ∧ t8 = .bool (hldL (l.take j) a) ∧ t9 = .bool (hldL (l.take j) b) ∧ Bel (ewld wr e 64) wi) (fun _ _ t _ => i - (intOf t).toNat)
          case atStart => exact ⟨0, by omega, rfl, by rw [hld_none], by rw [hld_none], Bel.refl _⟩
          case round =>
            obtain ⟨j, hj, rfl, rfl, rfl, hbi⟩ := hrel
            have HBI := Lib.hid hbi
            clear hbi
            by_cases hji : j < i
            · obtain ⟨b2, off2, f, heq, hbb, hf, hrg⟩ := (HS.out.bel HBI.out).at_ hji
              cases heq
              have hji' : (j : Int) < i := by omega
              have hjc : (j : Int) ≤ c := by omega
              have hS := Lib.hid hrg
              have hlf : l[j]? = some f := by rwa [List.getElem?_take_of_lt hji] at hf
              have HA := Lib.hid (hld_next hlf a)
              have HC := Lib.hid (hld_next hlf b)
              have HBX := Lib.hid (HBI.out.trans (ewld_below _ f 64))
              generalize hva : hldL (l.take j) a = va at *
              generalize hvb : hldL (l.take j) b = vb at *
              clear hrg hf hbb hlf hva hvb
              have HR := Lib.hid (fun (x y : Bool) (hx : x = hldL (l.take (j + 1)) a) (hy : y = hldL (l.take (j + 1)) b) => (⟨by rw [hx], by rw [hy]⟩ : Value.bool x = .bool (hldL (l.take (j + 1)) a) ∧ Value.bool y = .bool (hldL (l.take (j + 1)) b)))
              obtain ⟨d0, d1, d2⟩ := ewld_cells wr f 64
              cases k4 : (f.k == 4)
              · cases k5 : (f.k == 5)
                · have g4 : ¬ f.k = 4 := by simpa using k4
                  have g5 : ¬ f.k = 5 := by simpa using k5
                  have HV := Lib.hid (HR.out va vb (by rw [HA.out, if_neg (by simp [g4, g5])]) (by rw [HC.out, if_neg (by simp [g4, g5])]))
                  clear g4 g5
                  go_wp2_with (first | (refine load_ev TOp _ rfl rfl rfl hS.out ?_) | (refine ewld_store TOp _ _ rfl rfl _ rfl rfl rfl ?_))
                  go_roundw
                  case rel => exact ⟨j + 1, by omega, by go_num, HV.out.1, HV.out.2, HBX.out⟩
                  case measure => simp [intOf]; omega
                · have g4 : ¬ f.k = 4 := by simpa using k4
                  have g5 : f.k = 5 := by simpa using k5
                  have HG := Lib.hid (And.intro g4 g5)
                  clear g4 g5
                  cases ta : (f.t == (a : Int))
                  · cases tb : (f.t == (b : Int))
                    · have HV := Lib.hid (HR.out va vb (by rw [HA.out, if_neg (show ¬ ((f.k = 4 ∨ f.k = 5) ∧ f.t = (a : Int)) from fun g => by rw [beq_iff_eq.2 g.2] at ta; cases ta)]) (by rw [HC.out, if_neg (show ¬ ((f.k = 4 ∨ f.k = 5) ∧ f.t = (b : Int)) from fun g => by rw [beq_iff_eq.2 g.2] at tb; cases tb)]))
                      go_wp2_with (first | (refine load_ev TOp _ rfl rfl rfl hS.out ?_) | (refine ewld_store TOp _ _ rfl rfl _ rfl rfl rfl ?_))
                      go_roundw
                      case rel => exact ⟨j + 1, by omega, by go_num, HV.out.1, HV.out.2, HBX.out⟩
                      case measure => simp [intOf]; omega
                    · have HV := Lib.hid (HR.out va false (by rw [HA.out, if_neg (show ¬ ((f.k = 4 ∨ f.k = 5) ∧ f.t = (a : Int)) from fun g => by rw [beq_iff_eq.2 g.2] at ta; cases ta)]) (by rw [HC.out, if_pos ⟨.inr HG.out.2, beq_iff_eq.1 tb⟩, decide_eq_false HG.out.1]))
                      go_wp2_with (first | (refine load_ev TOp _ rfl rfl rfl hS.out ?_) | (refine ewld_store TOp _ _ rfl rfl _ rfl rfl rfl ?_))
                      go_roundw
                      case rel => exact ⟨j + 1, by omega, by go_num, HV.out.1, HV.out.2, HBX.out⟩
                      case measure => simp [intOf]; omega
                  · cases tb : (f.t == (b : Int))
                    · have HV := Lib.hid (HR.out false vb (by rw [HA.out, if_pos ⟨.inr HG.out.2, beq_iff_eq.1 ta⟩, decide_eq_false HG.out.1]) (by rw [HC.out, if_neg (show ¬ ((f.k = 4 ∨ f.k = 5) ∧ f.t = (b : Int)) from fun g => by rw [beq_iff_eq.2 g.2] at tb; cases tb)]))
                      go_wp2_with (first | (refine load_ev TOp _ rfl rfl rfl hS.out ?_) | (refine ewld_store TOp _ _ rfl rfl _ rfl rfl rfl ?_))
                      go_roundw
                      case rel => exact ⟨j + 1, by omega, by go_num, HV.out.1, HV.out.2, HBX.out⟩
                      case measure => simp [intOf]; omega
                    · have HV := Lib.hid (HR.out false false (by rw [HA.out, if_pos ⟨.inr HG.out.2, beq_iff_eq.1 ta⟩, decide_eq_false HG.out.1]) (by rw [HC.out, if_pos ⟨.inr HG.out.2, beq_iff_eq.1 tb⟩, decide_eq_false HG.out.1]))
                      go_wp2_with (first | (refine load_ev TOp _ rfl rfl rfl hS.out ?_) | (refine ewld_store TOp _ _ rfl rfl _ rfl rfl rfl ?_))
                      go_roundw
                      case rel => exact ⟨j + 1, by omega, by go_num, HV.out.1, HV.out.2, HBX.out⟩
                      case measure => simp [intOf]; omega
              · have g4 : f.k = 4 := by simpa using k4
                have k5 : (f.k == 5) = false := by rw [g4]; rfl
                have HG := Lib.hid g4
                clear g4
                cases ta : (f.t == (a : Int))
                · cases tb : (f.t == (b : Int))
                  · have HV := Lib.hid (HR.out va vb (by rw [HA.out, if_neg (show ¬ ((f.k = 4 ∨ f.k = 5) ∧ f.t = (a : Int)) from fun g => by rw [beq_iff_eq.2 g.2] at ta; cases ta)]) (by rw [HC.out, if_neg (show ¬ ((f.k = 4 ∨ f.k = 5) ∧ f.t = (b : Int)) from fun g => by rw [beq_iff_eq.2 g.2] at tb; cases tb)]))
                    go_wp2_with (first | (refine load_ev TOp _ rfl rfl rfl hS.out ?_) | (refine ewld_store TOp _ _ rfl rfl _ rfl rfl rfl ?_))
                    go_roundw
                    case rel => exact ⟨j + 1, by omega, by go_num, HV.out.1, HV.out.2, HBX.out⟩
                    case measure => simp [intOf]; omega
                  · have HV := Lib.hid (HR.out va true (by rw [HA.out, if_neg (show ¬ ((f.k = 4 ∨ f.k = 5) ∧ f.t = (a : Int)) from fun g => by rw [beq_iff_eq.2 g.2] at ta; cases ta)]) (by rw [HC.out, if_pos ⟨.inl HG.out, beq_iff_eq.1 tb⟩, decide_eq_true HG.out]))
                    go_wp2_with (first | (refine load_ev TOp _ rfl rfl rfl hS.out ?_) | (refine ewld_store TOp _ _ rfl rfl _ rfl rfl rfl ?_))
                    go_roundw
                    case rel => exact ⟨j + 1, by omega, by go_num, HV.out.1, HV.out.2, HBX.out⟩
                    case measure => simp [intOf]; omega
                · cases tb : (f.t == (b : Int))
                  · have HV := Lib.hid (HR.out true vb (by rw [HA.out, if_pos ⟨.inl HG.out, beq_iff_eq.1 ta⟩, decide_eq_true HG.out]) (by rw [HC.out, if_neg (show ¬ ((f.k = 4 ∨ f.k = 5) ∧ f.t = (b : Int)) from fun g => by rw [beq_iff_eq.2 g.2] at tb; cases tb)]))
                    go_wp2_with (first | (refine load_ev TOp _ rfl rfl rfl hS.out ?_) | (refine ewld_store TOp _ _ rfl rfl _ rfl rfl rfl ?_))
                    go_roundw
                    case rel => exact ⟨j + 1, by omega, by go_num, HV.out.1, HV.out.2, HBX.out⟩
                    case measure => simp [intOf]; omega
                  · have HV := Lib.hid (HR.out true true (by rw [HA.out, if_pos ⟨.inl HG.out, beq_iff_eq.1 ta⟩, decide_eq_true HG.out]) (by rw [HC.out, if_pos ⟨.inl HG.out, beq_iff_eq.1 tb⟩, decide_eq_true HG.out]))
                    go_wp2_with (first | (refine load_ev TOp _ rfl rfl rfl hS.out ?_) | (refine ewld_store TOp _ _ rfl rfl _ rfl rfl rfl ?_))
                    go_roundw
                    case rel => exact ⟨j + 1, by omega, by go_num, HV.out.1, HV.out.2, HBX.out⟩
                    case measure => simp [intOf]; omega
            · obtain rfl : i = j := by omega
              have hxx : ¬ (i : Int) < i := by omega
              rw [HNX.out] at HST
              cases hva : hldL (l.take i) a
              · have HN := Lib.hid (HST.out (by rw [hva]; rfl))
                go_wp2
                go_roundw
                case rel => exact ⟨i + 1, by omega, by go_num, HN.out, HB1.out.trans HBI.out⟩
                case measure => simp [intOf]; omega
              · cases hvb : hldL (l.take i) b
                · have HY := Lib.hid (show alB l a b = true by
                    rw [alB_any, List.any_eq_true]
                    exact ⟨i, List.mem_range.2 (by have := HL.out.1; omega), by rw [HNX.out, hva, hvb]; rfl⟩)
                  go_wp2
                  go_ret
                  exact ⟨by rw [HY.out]; rfl, (HB1.out.trans HBI.out).out⟩
                · have HN := Lib.hid (HST.out (by rw [hva, hvb]; rfl))
                  go_wp2
                  go_roundw
                  case rel => exact ⟨i + 1, by omega, by go_num, HN.out, HB1.out.trans HBI.out⟩
                  case measure => simp [intOf]; omega
        · have HN := Lib.hid (HST.out (by rw [HEA.out, decide_eq_false (p := e.t = (b : Int)) (by simpa using h2)]; simp))
          go_wp2_with (first | (refine load_ev TOp _ rfl rfl rfl hR.out ?_) | (refine ewld_store TOp _ _ rfl rfl _ rfl rfl rfl ?_))
          go_roundw
          case rel => exact ⟨i + 1, by omega, by go_num, HN.out, HB1.out⟩
          case measure => simp [intOf]; omega
      · have HN := Lib.hid (HST.out (by rw [HEA.out, decide_eq_false (p := e.k = 4) (by simpa using h1)]; rfl))
        go_wp2_with (first | (refine load_ev TOp _ rfl rfl rfl hR.out ?_) | (refine ewld_store TOp _ _ rfl rfl _ rfl rfl rfl ?_))
        go_roundw
        case rel => exact ⟨i + 1, by omega, by go_num, HN.out, HB1.out⟩
        case measure => simp [intOf]; omega
    · obtain rfl : i = n := by omega
      have HF := Lib.hid (show alB l a b = false by
        rw [alB_any, List.any_eq_false]
        intro j hj
        have := HD.out j (by have := List.mem_range.1 hj; rw [HL.out.1] at this; exact this)
        simp [this])
      go_wp2
      go_ret
      exact ⟨by rw [HF.out]; rfl, HB.out⟩
theorem palone_any (A : Option Addr) (n c : Nat) (l : List Ev) (w : World) (hl : Sl w A n l) (hnc : n ≤ c) (hc : c ≤ 9223372036854775807) : Calls Try.prog 13 #[.slice A n c] w (PrsPost w (alB l) 5) := by
  have HB0 := Lib.hid ((Bel.refl w).alloc (.cells #[.slice A n c] 45))
  have HBX := Lib.hid (Box.new w #[.slice A n c] 45)
  have HL := Lib.hid (hl.bel HB0.out)
  have HT := Lib.hid (show Tells (w.alloc (.cells #[.slice A n c] 45)) 27 (.pointer (some ⟨w.heap.size, 0, none⟩)) 5 (fun _ _ => True) (alB l) from
    fun a b w1 _ _ _ hb => al_any w.heap.size n c A l w1 a b (HL.out.bel hb.out) hnc hc (hb.box HBX.out))
  clear hl
  go_enter Try.func13, Try.ntmps13
  go_wp2_with fail
  refine (pairsOf_any 27 w.heap.size 5 (alB l) _ (by omega) (enters_of Try.func27 (by kernel_rfl) rfl) HT.out).mono ?_
  rintro e w1 ⟨v, rfl, hown, hb⟩
  have HO := Lib.hid hown
  have HW := Lib.hid (HB0.out.call hb)
  clear hown hb
  go_wp2
  go_ret
  exact ⟨_, rfl, own_drop_alloc HO.out HB0.out.size, HW.out⟩
end Go.Proofs.Ytjindfkomnjceaa

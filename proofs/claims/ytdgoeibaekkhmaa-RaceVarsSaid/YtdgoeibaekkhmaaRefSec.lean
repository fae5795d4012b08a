/- The reference's Seconds. -/
import Derived.Test.YtdgoeibaekkhmaaRefRc
import Derived.Test.YtdgoeibaekkhmaaFst
set_option linter.all false
set_option maxRecDepth 100000
namespace Go.Proofs.Ytdgoeibaekkhmaa
open Go Go.RowKit

def hitB (rs : List Rc) (j : Nat) : Bool := rs.any fun r => r.b == j
def secTo (rs : List Rc) (j : Nat) : List Int := ((List.range j).filter (hitB rs)).map fun (x : Nat) => (x : Int)
def secIn (rs : List Rc) (i j : Nat) : List Int := secTo rs j ++ if hitB (rs.take i) j = true then [(j : Int)] else []
theorem secIn_zero (rs : List Rc) (j : Nat) : secIn rs 0 j = secTo rs j := by simp [secIn, hitB]
theorem secTo_succ (rs : List Rc) (j : Nat) : secTo rs (j + 1) = secTo rs j ++ if hitB rs j = true then [(j : Int)] else [] := by
  unfold secTo
  rw [List.range_succ, List.filter_append, List.map_append]
  congr 1
  by_cases h : hitB rs j = true <;> simp [h]
theorem hitB_snoc {rs : List Rc} {i j : Nat} {r : Rc} (h : rs[i]? = some r) : hitB (rs.take (i + 1)) j = (hitB (rs.take i) j || r.b == j) := by
  unfold hitB; rw [rc_ptake h, List.any_append]; simp
theorem secTo_low {rs : List Rc} {j : Nat} : (j : Int) ∉ secTo rs j := by
  unfold secTo
  simp only [List.mem_map, List.mem_filter, List.mem_range]
  rintro ⟨x, ⟨h1, _⟩, h2⟩; omega
theorem secIn_has (rs : List Rc) (i j : Nat) : decide ((j : Int) ∈ secIn rs i j) = hitB (rs.take i) j := by
  unfold secIn
  by_cases h : hitB (rs.take i) j = true
  · rw [if_pos h, h, decide_eq_true_iff]; simp
  · rw [if_neg h, List.append_nil, decide_eq_false secTo_low]; simpa using h
theorem secTo_len (rs : List Rc) (j : Nat) : (secTo rs j).length ≤ j := by
  unfold secTo; rw [List.length_map]; exact Nat.le_trans (List.length_filter_le _ _) (by simp)
theorem secIn_len (rs : List Rc) (i j : Nat) : (secIn rs i j).length ≤ j + 1 := by
  have := secTo_len rs j
  unfold secIn; rw [List.length_append]
  split <;> simp <;> omega
theorem secs_ref {l : List Ev} {n : Nat} (hn : l.length = n) : secTo (rcs l) n = secs l := by
  refine up_eq (range_up _ _) (dd_up _) fun x => ?_
  unfold secs
  rw [dd_mem]
  unfold secTo hitB
  simp only [List.mem_map, List.mem_filter, List.mem_range, List.any_eq_true, beq_iff_eq]
  constructor
  · rintro ⟨j, ⟨h1, r, hr, rfl⟩, rfl⟩; exact ⟨r, hr, rfl⟩
  · rintro ⟨r, hr, rfl⟩
    obtain ⟨_, _, _, h3⟩ := secs_mem (l := l) (y := (r.b : Int)) (dd_mem.2 (List.mem_map.2 ⟨r, hr, rfl⟩))
    refine ⟨r.b, ⟨?_, r, hr, rfl⟩, rfl⟩
    rw [← hn]
    unfold rcs at hr
    split at hr
    · obtain ⟨a, b, _, h2, _⟩ := mem_rcsA hr
      exact (List.getElem?_eq_some_iff.1 h2).1
    · cases hr
def RSecPost (w : World) (l : List Ev) (e : Ending) (w' : World) : Prop := ∃ v, e = .returned v ∧ SlI w' v (secs l) ∧ Below w.heap.size w w'
theorem ProjR.to {w : World} {zs zs' : List Int} {v : Value} {wr : World} (h : ProjR w zs v wr) (e : zs' = zs) : ProjR w zs' v wr := by subst e; exact h
theorem ProjR.bel {w : World} {zs : List Int} {v : Value} {wr w' : World} (h : ProjR w zs v wr) (hb : Bel wr w') : ProjR w zs v w' := ⟨own_bel h.own hb, h.below.trans hb⟩
set_option maxHeartbeats 16000000 in
theorem rseconds_any (A : Option Addr) (n c : Nat) (l : List Ev) (w : World) (hl : Sl w A n l) (hm : may l = 0) : Calls Try.prog 18 #[.slice A n c] w (RSecPost w l) := by
  have hw0 := Bel.refl w
  have HL := Lib.hid hl
  have HM := Lib.hid hm
  have HN := Lib.hid hl.1
  have hn80 : n ≤ 80 := by rw [← hl.1]; exact ((may_iff l).1 hm).1
  have HREF := Lib.hid (secs_ref hl.1)
  have hln := rcs_len l
  obtain ⟨i0, hi0, hz0, hz1, hz2⟩ := info_parts int_info
  have J := Lib.hid (And.intro hi0 (And.intro hz0 (And.intro hz1 hz2)))
  clear hi0 hz0 hz1 hz2 hl hm
  go_enter Try.func18, Try.ntmps18
  go_wp2_with fail
  refine (races_any A n c l _ HL.out HM.out).mono ?_
  rintro e1 w1 ⟨v1, rfl, hown1, hb1⟩
  have hw1 := hw0.call hb1
  clear hb1
  obtain ⟨A1, c1, rfl, hs1, _⟩ := SlR.own hown1
  have HS1 := Lib.hid hs1
  have HW1 := Lib.hid hw1
  clear hown1 hs1 hw1 hw0
  generalize rcs l = rs at *
  generalize hnr : rs.length = nr at *
  have H0 := Lib.hid (ProjR.mk (World.ownsRow_nil _ _ _ _) (Bel.refl w1) : ProjR w1 (secTo rs 0) (.slice none 0 0) w1)
  go_wp2
  go_loopw [3, 12] (fun v t12 wr => ∃ j : Nat, j ≤ n ∧ t12 = .int .i64 j ∧ ProjR w1 (secTo rs j) v wr) (fun _ t12 _ => n - (intOf t12).toNat)
  case atStart => exact ⟨0, by omega, rfl, H0.out⟩
  case round =>
    obtain ⟨j, hj, rfl, hr⟩ := hrel
    have HR := Lib.hid hr
    clear hr H0
    by_cases hlt : j < n
    · have hlt' : (j : Int) < n := by omega
      have H1 := Lib.hid (HR.out.to (secIn_zero rs j))
      go_wp2
      go_loopw [3, 17] (fun v t17 wr => ∃ i : Nat, i ≤ nr ∧ t17 = .int .i64 i ∧ ProjR w1 (secIn rs i j) v wr) (fun _ t17 _ => nr - (intOf t17).toNat)
      case atStart => exact ⟨0, by omega, rfl, H1.out⟩
      case round =>
        obtain ⟨i, hi, rfl, hr⟩ := hrel
        have HR2 := Lib.hid hr
        clear hr H1 HR
        by_cases hli : i < nr
        · have hli' : (i : Int) < nr := by omega
          obtain ⟨bb, off, r, rfl, hbb, he, hrg⟩ := HS1.out.at_ hli
          have hR := Lib.hid (rangeAt_below HR2.out.below.out hbb hrg)
          have HX := Lib.hid (rwld_box wr r 31)
          have HR3 := Lib.hid (HR2.out.bel (rwld_below wr r 31))
          have cb := HX.out.cell 1 (v := .int .i64 r.b) rfl
          have HSN := Lib.hid (hitB_snoc (j := j) he)
          clear he hrg
          cases hq : ((r.b : Int) == (j : Int))
          · have hq' : (r.b == j) = false := by simp at hq ⊢; omega
            have HE := Lib.hid (show secIn rs (i + 1) j = secIn rs i j by unfold secIn; rw [HSN.out, hq', Bool.or_false])
            clear hq'
            go_wp2_with (first | (refine load_rc TRc _ rfl rfl rfl hR.out ?_) | (refine rwld_store TRc _ _ rfl rfl _ rfl rfl rfl ?_))
            go_roundw
            case rel => exact ⟨i + 1, by omega, by go_num, HR3.out.to HE.out⟩
            case measure => simp [intOf]; omega
          · have hq' : (r.b == j) = true := by simp at hq ⊢; omega
            have HLE := Lib.hid (secIn_len rs i j)
            obtain ⟨A3, n3, c3, rfl, hs3, hm3⟩ := SlI.form (SlI.own HR3.out.own (by have := secIn_len rs i j; unfold maxLen; omega))
            have HH := Lib.hid (hasint_any A3 n3 c3 _ (j : Int) _ hs3 (by unfold maxLen at hm3; exact hm3))
            rw [secIn_has] at HH
            clear hs3 hm3
            cases hh : hitB (rs.take i) j
            · rw [hh] at HH
              have HE := Lib.hid (show secIn rs (i + 1) j = secIn rs i j ++ [(j : Int)] by unfold secIn; rw [HSN.out, hh, hq']; simp)
              have HA := Lib.hid (own_alloc HR3.out.own (.cells #[.int .i64 j] 3))
              have HSZ := Lib.hid (HR3.out.below.alloc (.cells #[.int .i64 j] 3)).size
              clear hq' hh
              go_wp2_with (first | (refine load_rc TRc _ rfl rfl rfl hR.out ?_) | (refine rwld_store TRc _ _ rfl rfl _ rfl rfl rfl ?_) | (go_at_call 21; (with_reducible refine HH.out.mono ?_); rintro e w' ⟨rfl, rfl⟩) | (at_builtin; refine wpList_append_own_at _ rfl (.tmp 31) (.tmp 33) _ rfl w1.heap.size 3 i0 _ 1 8 Try.underlying34 J.out.1 J.out.2.1 J.out.2.2.1 J.out.2.2.2 rfl (by omega) _ (secIn rs i j).length _ rfl HA.out _ 1 1 [.int .i64 j] rfl rfl (cell_one_new _ _ _) (by simp [Value.oneCell']) (by have := HLE.out; unfold maxLen; omega) (by have := HLE.out; omega) HSZ.out ?_; intro v7 w7 hown7 hg7 hn7 hat7))
              refine ⟨⟨i + 1, by omega, by go_num, ⟨?_, (HR3.out.below.alloc _).out.grown hg7 HSZ.out (own_block_ge HA.out)⟩⟩, by simp [intOf]; omega⟩
              rw [HE.out, List.length_append, intv_app]
              exact hown7
            · rw [hh] at HH
              have HE := Lib.hid (show secIn rs (i + 1) j = secIn rs i j by unfold secIn; rw [HSN.out, hh]; simp)
              clear hq' hh
              go_wp2_with (first | (refine load_rc TRc _ rfl rfl rfl hR.out ?_) | (refine rwld_store TRc _ _ rfl rfl _ rfl rfl rfl ?_) | (go_at_call 21; (with_reducible refine HH.out.mono ?_); rintro e w' ⟨rfl, rfl⟩))
              go_roundw
              case rel => exact ⟨i + 1, by omega, by go_num, HR3.out.to HE.out⟩
              case measure => simp [intOf]; omega
        · obtain rfl : i = nr := by omega
          have HE := Lib.hid (HR2.out.to (show secTo rs (j + 1) = secIn rs i j by rw [secTo_succ, secIn, ← hnr, List.take_length]))
          go_wp2
          go_roundw
          case rel => exact ⟨j + 1, by omega, by go_num, HE.out⟩
          case measure => simp [intOf]; omega
    · obtain rfl : j = n := by omega
      have HSI := Lib.hid (SlI.own HR.out.own (by have := secTo_len rs j; unfold maxLen; omega))
      rw [HREF.out] at HSI
      go_wp2
      go_ret
      exact ⟨_, rfl, HSI.out, HW1.out.trans HR.out.below⟩
end Go.Proofs.Ytdgoeibaekkhmaa

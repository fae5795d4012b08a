/- Contracts of the package race: project; the library's Sort and Compact over a row of the call's own. | Contracts of the package race: Seconds, Vars. -/
import Derived.Test.YteihildhlcggoaaFl
import Derived.Test.YteihildhlcggoaaEqInt
import Derived.Test.YteihildhlcggoaaAll
import Derived.Test.YteihildhlcggoaaTrace4
import Derived.Test.YteihildhlcggoaaTrace
import Derived.Shelf.Abstract
set_option linter.all false
set_option maxRecDepth 100000
namespace Go.Proofs.Yteihildhlcggoaa
open Go Go.RowKit Go.Sort

theorem intv_app (l m : List Int) : intv (l ++ m) = intv l ++ intv m := by simp [intv]
/-- A row of numbers that may be written: nil, or cells of a block from base on. -/
def HoldV (base : Nat) (w : World) (v : Value) (xs : List Int) : Prop :=
  (v = .slice none 0 0 ∧ xs = []) ∨ ∃ g cap, v = .slice (some ⟨g, 0, none⟩) xs.length cap ∧ base ≤ g ∧ g < w.heap.size ∧ Holds (Value.int .i64) w g 0 xs.toArray ∧ xs.length ≤ cap
theorem own_holdV {w : World} {base : Nat} {v : Value} {zs : List Int} (h : w.ownsRow base 3 1 v zs.length (intv zs)) : HoldV base w v zs := by
  rcases h.2 with ⟨rfl, h0⟩ | ⟨g, cap, cur, rfl, hg, hh, hnc, hc, hs, ht⟩
  · exact .inl ⟨rfl, List.eq_nil_of_length_eq_zero h0⟩
  · have hb : Box w g cur 3 := hh
    refine .inr ⟨g, cap, rfl, hg, hb.lt, fun j hj => ?_, hnc⟩
    have hj' : j < zs.length := by simpa using hj
    rw [Nat.zero_add, getElem!_pos _ j (by simpa using hj')]
    refine ⟨hb.cell j ?_, hb.frozen j⟩
    have h1 : (intv zs)[j]? = some (.int .i64 zs[j]) := by simp [intv, hj']
    rw [← ht, List.getElem?_take] at h1
    split at h1
    · simpa using h1
    · cases h1
theorem below_sort {N : Nat} {w0 w : World} (h : Below N w0 w) {blk : Nat} (hN : N ≤ blk) (hs : N ≤ w.heap.size) (n : Nat) (d : Array Int) (os : Array Obj) : Below N w0 (grow (putRow (Value.int .i64) (Sort.ahead w n) blk 0 d) os) :=
  h.trans ⟨rfl, rfl, rfl, by simp, fun k hk => by
    rw [heap_grow_old _ _ (by simp; omega)]
    show ((Sort.ahead w n).heap.modify blk _)[k]? = _
    rw [Array.getElem?_modify, if_neg (by omega)]
    rfl⟩
theorem below_put {N : Nat} {w0 w : World} (h : Below N w0 w) {blk : Nat} (hN : N ≤ blk) (n : Nat) (d : Array Int) : Below N w0 (putRow (Value.int .i64) (Sort.ahead w n) blk 0 d) :=
  h.trans ⟨rfl, rfl, rfl, by simp, fun k hk => by
    show ((Sort.ahead w n).heap.modify blk _)[k]? = _
    rw [Array.getElem?_modify, if_neg (by omega)]
    rfl⟩
theorem sort_row (base : Nat) (v : Value) (zs : List Int) (w : World) (h : HoldV base w v zs) (hb : base ≤ w.heap.size) (hn : zs.length ≤ 1000000) :
    Calls Try.prog 75 #[v] w fun e w' => e = .returned (.tuple #[]) ∧ HoldV base w' v (srt zs) ∧ Below base w w' := by
  rcases h with ⟨rfl, rfl⟩ | ⟨g, cap, rfl, hg, hlt, hH, hc⟩
  · refine (Try.slices_Sort_int_none none 0 w).mono ?_
    rintro e w' ⟨rfl, rfl⟩
    exact ⟨rfl, .inl ⟨rfl, by simp [srt]⟩, Below.refl _ _⟩
  · refine (Try.slices_Sort_int g 0 cap zs w hH hlt (by omega)).mono ?_
    rintro e w' ⟨rfl, n, os, rfl⟩
    have hsz : (srt zs).toArray.size = zs.toArray.size := by simp [srt_len]
    refine ⟨rfl, .inr ⟨g, cap, by rw [srt_len], hg, by simp; omega, ?_, by rw [srt_len]; exact hc⟩, below_sort (Below.refl _ _) hg hb n _ os⟩
    exact holds_grow _ _ _ _ _ _ (by simp; exact hlt) (holds_putRow _ (Sort.ahead w n) g 0 zs.toArray _ hH hsz)
theorem compact_row (base : Nat) (v : Value) (xs : List Int) (w : World) (h : HoldV base w v xs) (hn : xs.length ≤ 1000000) :
    Calls Try.prog 76 #[v] w fun e w' => ∃ v, e = .returned v ∧ SlI w' v (Lib.compact xs) ∧ Below base w w' := by
  rcases h with ⟨rfl, rfl⟩ | ⟨g, cap, rfl, hg, hlt, hH, hc⟩
  · refine (Try.slices_Compact_int_empty none 0 w).mono ?_
    rintro e w' ⟨rfl, rfl⟩
    exact ⟨_, rfl, .inl ⟨rfl, by simp [Lib.compact, Lib.compactUpTo]⟩, Below.refl _ _⟩
  · refine (Try.slices_Compact_int g 0 cap xs w hH (by omega) hc).mono ?_
    rintro e w' ⟨rfl, q, rfl⟩
    have hlc : (Lib.compact xs).length ≤ xs.length := by
      unfold Lib.compact Lib.compactUpTo
      rw [List.length_map]
      exact Nat.le_trans (List.length_filter_le _ _) (by simp)
    have hsz : (Lib.compact xs ++ List.replicate (xs.length - (Lib.compact xs).length) 0).toArray.size = xs.toArray.size := by simp; omega
    have hH2 := holds_putRow (Value.int .i64) (Sort.ahead w q) g 0 xs.toArray _ hH hsz
    refine ⟨_, rfl, .inr ⟨g, 0, _, cap, rfl, rfl, by unfold maxLen; omega, fun i hi => ?_⟩, below_put (Below.refl _ _) hg q _⟩
    have h1 := (hH2 i (by simp; omega)).1
    rw [h1, getElem!_pos _ i (by simp; omega)]
    simp [List.getElem_append_left hi, List.getElem?_eq_getElem hi]
theorem SlI.own {w : World} {base : Nat} {v : Value} {zs : List Int} (h : w.ownsRow base 3 1 v zs.length (intv zs)) (hm : zs.length ≤ maxLen) : SlI w v zs := by
  rcases own_holdV h with ⟨rfl, rfl⟩ | ⟨g, cap, rfl, hg, hlt, hH, hc⟩
  · exact .inl ⟨rfl, rfl⟩
  · refine .inr ⟨g, 0, _, cap, rfl, rfl, hm, fun i hi => ?_⟩
    have h1 := (hH i (by simpa using hi)).1
    rw [h1, getElem!_pos _ i (by simpa using hi)]
    simp [List.getElem?_eq_getElem hi]
/-- A function value that tells a number of a race. -/
def TellsR (k : FuncId) (f : Rc → Int) : Prop := ∀ (r : Rc) (w1 : World), Calls Try.prog k #[.agg (rcv r)] w1 fun e w2 => e = .returned (.int .i64 (f r)) ∧ Below w1.heap.size w1 w2
def ProjPost (w : World) (zs : List Int) (e : Ending) (w' : World) : Prop :=
  ∃ v, e = .returned v ∧ SlI w' v (dd zs) ∧ Below w.heap.size w w'
structure ProjR (w : World) (zs : List Int) (v : Value) (wr : World) : Prop where
  own : wr.ownsRow w.heap.size 3 1 v zs.length (intv zs)
  below : Bel w wr
set_option maxHeartbeats 8000000 in
theorem project_any (k : FuncId) (f : Rc → Int) (A : Option Addr) (n c : Nat) (rs : List Rc) (w : World) (hs : SlR w A n rs) (hn : n ≤ 6480) (hE : ∀ args w, (callFunc k args).run Try.prog w = .ok (.enter k args) w) (hT : TellsR k f) :
    Calls Try.prog 62 #[.slice A n c, .func (.func k) #[] #[]] w (ProjPost w (rs.map f)) := by
  have HS := Lib.hid hs
  have HT := Lib.hid hT
  have HNN := Lib.hid hs.1
  obtain ⟨i0, hi0, hz0, hz1, hz2⟩ := info_parts int_info
  have J := Lib.hid (And.intro hi0 (And.intro hz0 (And.intro hz1 hz2)))
  clear hi0 hz0 hz1 hz2 hs hT
  have H0 := Lib.hid (ProjR.mk (World.ownsRow_nil _ _ _ _) (Bel.refl w) : ProjR w ((rs.take 0).map f) (.slice none 0 0) w)
  go_enter Try.func62, Try.ntmps62
  go_wp2
  go_loopw [5, 10] (fun v t10 wr => ∃ i : Nat, i ≤ n ∧ t10 = .int .i64 i ∧ ProjR w ((rs.take i).map f) v wr) (fun _ t10 _ => n - (intOf t10).toNat)
  case atStart => exact ⟨0, by omega, rfl, H0.out⟩
  case round =>
    obtain ⟨i, hi, rfl, hr⟩ := hrel
    have HR := Lib.hid hr
    clear hr H0
    by_cases hlt : i < n
    · have hlt' : (i : Int) < n := by omega
      obtain ⟨bb, off, r, rfl, hbb, he, hrg⟩ := HS.out.at_ hlt
      have hR := Lib.hid (rangeAt_below HR.out.below.out hbb hrg)
      have HX := Lib.hid (rwld_box wr r 42)
      have HO := Lib.hid (own_bel HR.out.own (rwld_below wr r 42))
      have HB := Lib.hid (HR.out.below.trans (rwld_below wr r 42))
      have HSN := Lib.hid (show (rs.take (i + 1)).map f = (rs.take i).map f ++ [f r] by rw [rc_ptake he, List.map_append]; rfl)
      have HLE := Lib.hid (show ((rs.take i).map f).length ≤ 6480 by rw [List.length_map, List.length_take]; omega)
      clear he hrg
      go_wp2_with (first | (refine load_rc TRc _ rfl rfl rfl hR.out ?_) | (refine rwld_store TRc _ _ rfl rfl _ rfl rfl rfl ?_) | (refine loadB _ _ rfl rfl rfl HX.out TRc ?_))
      refine (HT.out r _).mono ?_
      rintro e1 w2 ⟨rfl, hb2⟩
      have HO2 := Lib.hid (own_bel HO.out hb2)
      have HB2 := Lib.hid (HB.out.trans (Bel.of hb2))
      have HA := Lib.hid (own_alloc HO2.out (.cells #[.int .i64 (f r)] 3))
      have HSZ := Lib.hid (HB2.out.alloc (.cells #[.int .i64 (f r)] 3)).size
      generalize f r = y at *
      clear hb2
      go_wp2_with (at_builtin; refine wpList_append_own_at _ rfl (.tmp 14) (.tmp 18) _ rfl w.heap.size 3 i0 _ 1 8 Try.underlying48 J.out.1 J.out.2.1 J.out.2.2.1 J.out.2.2.2 rfl (by omega) _ ((rs.take i).map f).length _ rfl HA.out ⟨w2.heap.size, 0, none⟩ 1 1 [.int .i64 y] rfl rfl (cell_one_new _ _ _) (by simp [Value.oneCell']) (by have := HLE.out; unfold maxLen; omega) (by have := HLE.out; omega) HSZ.out ?_; intro v7 w7 hown7 hg7 hn7 hat7)
      refine ⟨⟨i + 1, by omega, by go_num, ⟨?_, (HB2.out.alloc _).out.grown hg7 HSZ.out (own_block_ge HA.out)⟩⟩, by simp [intOf]; omega⟩
      rw [HSN.out, List.length_append, intv_app]
      exact hown7
    · obtain rfl : i = n := by omega
      have HT2 := Lib.hid (show rs.take i = rs by rw [← HNN.out, List.take_length])
      have hr := HR.out
      rw [HT2.out] at hr
      have HV := Lib.hid (own_holdV hr.own)
      have HB := Lib.hid hr.below
      have HLE := Lib.hid (show (rs.map f).length ≤ 1000000 by rw [List.length_map, HNN.out]; omega)
      have HL2 := Lib.hid (show (srt (rs.map f)).length ≤ 1000000 by rw [srt_len]; exact HLE.out)
      clear hr HR
      go_wp2_with fail
      refine (sort_row w.heap.size _ _ _ HV.out HB.out.size HLE.out).mono ?_
      rintro e1 w2 ⟨rfl, hv2, hb2⟩
      have HV2 := Lib.hid hv2
      have HB2 := Lib.hid (HB.out.out.trans hb2)
      clear hv2 hb2
      go_wp2_with fail
      refine (compact_row w.heap.size _ _ _ HV2.out HL2.out).mono ?_
      rintro e2 w3 ⟨v3, rfl, hs3, hb3⟩
      have HS3 := Lib.hid hs3
      have HB3 := Lib.hid (HB2.out.trans hb3)
      clear hs3 hb3
      go_wp2
      go_ret
      exact ⟨_, rfl, HS3.out, HB3.out⟩
end Go.Proofs.Yteihildhlcggoaa
namespace Go.Proofs.Yteihildhlcggoaa
open Go Go.RowKit

theorem rcs_len (l : List Ev) : (rcs l).length ≤ 6480 := by
  unfold rcs
  split
  · rename_i hm
    unfold rcsA; rw [List.length_map]; exact prs_small ((may_iff l).1 hm).1 (Nat.le_refl _) (Nat.zero_le _)
  · exact Nat.zero_le _
theorem all_any (A : Option Addr) (n c : Nat) (l : List Ev) (w : World) (hl : Sl w A n l) : Calls Try.prog 20 #[.slice A n c] w (AllPost w l) := by
  by_cases hm : may l = 0
  · exact all_ok A n c l w hl hm
  · refine (all_bad A n c l w hl hm).mono ?_
    rintro e w' ⟨rfl, hb⟩
    exact ⟨_, rfl, by rw [rcs_no hm]; exact World.ownsRow_nil _ _ _ _, hb⟩
def fB (r : Rc) : Int := r.b
def fV (r : Rc) : Int := r.v
theorem tellsB : TellsR 63 fB := fun r w => by
  obtain ⟨b1, hB, hs⟩ := boxes1 w (rcv r) 42
  generalize hW : w.alloc (.cells (rcv r) 42) = W at *
  have HB := Lib.hid hB
  have c1 := b1.cell 1 (v := .int .i64 r.b) rfl
  clear hB hs b1
  go_enter Try.func63, Try.ntmps63
  go_wp2
  go_ret
  exact ⟨rfl, HB.out⟩
def SecPost (w : World) (l : List Ev) (f : Rc → Int) (e : Ending) (w' : World) : Prop :=
  ∃ v, e = .returned (.tuple #[v, .int .i64 (may l)]) ∧ SlI w' v (dd ((rcs l).map f)) ∧ Below w.heap.size w w'
set_option maxHeartbeats 4000000 in
theorem seconds_any (A : Option Addr) (n c : Nat) (l : List Ev) (w : World) (hl : Sl w A n l) : Calls Try.prog 44 #[.slice A n c] w (SecPost w l fB) := by
  have hw0 := Bel.refl w
  have HL := Lib.hid hl
  have HLN := Lib.hid (rcs_len l)
  have HE := Lib.hid (enters_of Try.func63 (by kernel_rfl) rfl)
  clear hl
  go_enter Try.func44, Try.ntmps44
  go_wp2_with fail
  refine (all_any A n c l _ HL.out).mono ?_
  rintro e1 w1 ⟨v1, rfl, hown1, hb1⟩
  have hw1 := hw0.call hb1
  clear hb1
  obtain ⟨A1, c1, rfl, hs1, _⟩ := SlR.own hown1
  have HS1 := Lib.hid hs1
  clear hown1 hs1
  go_wp2_with fail
  refine (project_any _ fB A1 _ c1 (rcs l) _ HS1.out HLN.out HE.out tellsB).mono ?_
  rintro e2 w2 ⟨v2, rfl, hs2, hb2⟩
  have hw2 := hw1.call hb2
  clear hb2
  have HS2 := Lib.hid hs2
  clear hs2
  go_wp2
  go_ret2
  exact ⟨_, rfl, HS2.out, hw2⟩
end Go.Proofs.Yteihildhlcggoaa

/- Contracts of the package pack: Pack. -/
import Derived.Test.YtbkmkeaabcgifaaGreatDoorPack
import Derived.Test.YtbkmkeaabcgifaaGreatDoorBytes
import Derived.Test.YtbkmkeaabcgifaaGreatDoorRefTr
set_option linter.all false
set_option maxRecDepth 100000
namespace Go.Proofs.YtbkmkeaabcgifaaGreatDoor
open Go Go.RowKit

structure BRel (w : World) (l : List Ev) (n i : Nat) (v : Value) (wr : World) : Prop where
  own : wr.ownsRow w.heap.size 5 1 v (2 + 2 * i) (u8s (68 :: b8 n :: evbs (l.take i)))
  below : Bel w wr
theorem b8_small (n : Int) (h : 0 ≤ n ∧ n < 256) : ((b8 n).toNat : Int) = n := by
  obtain ⟨m, rfl⟩ := Int.eq_ofNat_of_zero_le h.1
  rw [b8_nat]; omega
set_option maxHeartbeats 4000000 in
theorem ppack_any (A : Option Addr) (n c : Nat) (l : List Ev) (w : World) (hl : Sl w A n l) (hnc : n ≤ c) (hcm : c ≤ 9223372036854775807) :
    Calls Tryz.prog 6 #[.slice A n c] w fun e w' => e = .returned (.tuple #[.string (str (packOf l)), .int .i64 (may l)]) ∧ Below w.heap.size w w' := by
  have HL := Lib.hid hl
  have hw0 : Bel w w := Bel.refl w
  cases h1 : (may l != 0)
  · have HM := Lib.hid (show may l = 0 by simpa using h1)
    have HV := Lib.hid (show packOf l = packL l by unfold packOf; rw [if_pos HM.out])
    have hn80 : n ≤ 80 := by rw [← hl.1]; exact ((may_iff l).1 HM.out).1
    have HN := Lib.hid hl.1
    clear hl
    have h1' : ((check l).2 != 0) = false := h1
    go_enter Tryz.func6, Tryz.ntmps6
    go_wp2_with fail
    refine (check_any A n c l _ HL.out).mono ?_
    rintro e1 w1 ⟨rfl, hb1⟩
    have hw1 := hw0.call hb1
    clear hb1
    have HU := Lib.hid (b8_small (n : Int) (by omega))
    have H0 := Lib.hid (BRel.mk (by
        have hx := own_lit (Box.new w1 #[.int .u8 68, .int .u8 n] 5) hw1.size 2 1 (by unfold maxLen; omega) rfl
        rw [show (68 :: b8 n :: evbs (l.take 0)) = [68, b8 n] from rfl]
        show World.ownsRow _ _ _ _ _ 2 [Value.int .u8 68, Value.int .u8 ((b8 n).toNat : Int)]
        rw [HU.out]
        exact hx) (hw1.alloc _) : BRel w l n 0 (.slice (some ⟨w1.heap.size, 0, none⟩) 2 2) (w1.alloc (.cells #[.int .u8 68, .int .u8 n] 5)))
    obtain ⟨i0, hi0, hz0, hz1, hz2⟩ := info_parts u8_info
    have J := Lib.hid (And.intro hi0 (And.intro hz0 (And.intro hz1 hz2)))
    clear hi0 hz0 hz1 hz2 hw0
    go_wp2
    go_loopw [6, 24] (fun v t wr => ∃ i : Nat, i ≤ n ∧ t = .int .i64 i ∧ BRel w l n i v wr) (fun _ t _ => n - (intOf t).toNat)
    case atStart => exact ⟨0, by omega, rfl, H0.out⟩
    case round =>
      obtain ⟨i, hi, rfl, hr⟩ := hrel
      have HR := Lib.hid hr
      clear hr H0
      by_cases hlt : i < n
      · have hs2 := HL.out
        obtain ⟨bb, off, e, rfl, hbb, he, hrg⟩ := hs2.at_ hlt
        have hlt' : (i : Int) < n := by omega
        have hR := Lib.hid (rangeAt_below HR.out.below.out hbb hrg)
        have HE := Lib.hid he
        have hev := may_isEv HM.out e (List.mem_of_getElem? he)
        have t1 := isEv_t hev; have o1 := isEv_o hev; have k1 := isEv_k hev; have n1 := nobj_le e.k
        have HEB := Lib.hid (show Bel wr _ from ewld_below wr e 33)
        have HEX := Lib.hid (ewld_box wr e 33)
        have c0 : (ewld wr e 33).cell? ⟨wr.heap.size, 0, none⟩ = some (.int .i64 e.k) := HEX.out.cell 0 rfl
        have c1 : (ewld wr e 33).cell? ⟨wr.heap.size, 1, none⟩ = some (.int .i64 e.t) := HEX.out.cell 1 rfl
        have c2 : (ewld wr e 33).cell? ⟨wr.heap.size, 2, none⟩ = some (.int .i64 e.o) := HEX.out.cell 2 rfl
        have HU1 := Lib.hid (b8_small (8 * e.t + e.k - 1) (by omega))
        have HU2 := Lib.hid (b8_small e.o (by omega))
        have HWE := Lib.hid (HR.out.below.trans HEB.out)
        have HOA := Lib.hid (own_alloc (own_bel HR.out.own HEB.out) (.cells #[.int .u8 (8 * e.t + e.k - 1), .int .u8 e.o] 5))
        have HNW := Lib.hid (Box.news (l := [.int .u8 (8 * e.t + e.k - 1), .int .u8 e.o]) (Box.new (ewld wr e 33) #[.int .u8 (8 * e.t + e.k - 1), .int .u8 e.o] 5))
        have HSZ := Lib.hid (show w.heap.size ≤ ((ewld wr e 33).alloc (.cells #[.int .u8 (8 * e.t + e.k - 1), .int .u8 e.o] 5)).heap.size from (HWE.out.alloc _).size)
        clear he hrg hs2 hbb hev
        go_wp2_with (first | (refine load_ev T36 _ rfl rfl rfl hR.out ?_) | (refine ewld_store T36 _ _ rfl rfl _ rfl rfl rfl ?_) | (refine loadB _ _ rfl rfl rfl HEX.out T36 ?_) | (at_builtin; refine wpList_append_own_at _ rfl (.tmp 28) (.tmp 40) _ rfl w.heap.size 5 i0 _ 1 1 Tryz.underlying52 J.out.1 J.out.2.1 J.out.2.2.1 J.out.2.2.2 rfl (by omega) _ (2 + 2 * i) _ rfl HOA.out ⟨(ewld wr e 33).heap.size, 0, none⟩ 2 2 [.int .u8 (8 * e.t + e.k - 1), .int .u8 e.o] rfl rfl HNW.out (by simp [Value.oneCell']) (by simp [maxLen]; omega) (by omega) HSZ.out ?_; intro v2 w2 hown2 hg2 hn2 hat2))
        refine ⟨⟨i + 1, by omega, by go_num, ⟨?_, (HWE.out.alloc _).out.grown hg2 HSZ.out (own_block_ge HOA.out)⟩⟩, by simp [intOf]; omega⟩
        have hc : u8s (68 :: b8 n :: evbs (l.take (i + 1))) = u8s (68 :: b8 n :: evbs (l.take i)) ++ [.int .u8 (8 * e.t + e.k - 1), .int .u8 e.o] := by
          rw [take_snoc HE.out, evbs_append, ← List.cons_append, ← List.cons_append, u8s_append]
          simp only [u8s, evbs, List.map_cons, List.map_nil, HU1.out, HU2.out]
        rw [hc]
        exact hown2
      · obtain rfl : i = n := by omega
        have hown := HR.out.own
        rw [take_all HL.out] at hown
        have hbody : (68 :: b8 i :: evbs l) = bodyL l := by unfold bodyL; rw [HN.out]
        rw [hbody] at hown
        have HO := Lib.hid hown
        have HB := Lib.hid HR.out.below
        have hcv := own_string hown (by omega)
        have hbl := bodyL_length l
        have HLn := Lib.hid (show (bodyL l).length ≤ 162 by rw [hbl, HN.out]; omega)
        clear hown hbody hbl HR
        have HLm := Lib.hid (show (bodyL l).length ≤ maxLen by have := HLn.out; unfold maxLen; omega)
        go_wp2_with fail
        refine (checksum_any (bodyL l) HLm.out _).mono ?_
        rintro _ _ ⟨rfl, rfl⟩
        have hsl := sumN_le (bodyL l)
        have hs5 : sumN (bodyL l) ≤ 41310 := by have := HLn.out; omega
        clear hsl
        generalize hS : sumN (bodyL l) = S at *
        have hm : (S : Int) % 65536 = S := by omega
        have HXS := Lib.hid (show u8s (bodyL l) ++ [.int .u8 ((S : Int) / 256), .int .u8 ((S : Int) % 256)] = u8s (packL l) by
          have e1 : ((b8 ((S / 256 % 256 : Nat) : Int)).toNat : Int) = (S : Int) / 256 := by rw [b8_nat]; omega
          have e2 : ((b8 ((S % 256 : Nat) : Int)).toNat : Int) = (S : Int) % 256 := by rw [b8_nat]; omega
          unfold packL
          rw [hS, u8s_append]
          simp only [u8s, sumL, List.map_cons, List.map_nil, e1, e2])
        have HOA := Lib.hid (own_alloc HO.out (.cells #[.int .u8 ((S : Int) / 256), .int .u8 ((S : Int) % 256)] 5))
        have HNW := Lib.hid (Box.news (l := [.int .u8 ((S : Int) / 256), .int .u8 ((S : Int) % 256)]) (Box.new wr #[.int .u8 ((S : Int) / 256), .int .u8 ((S : Int) % 256)] 5))
        have HSZ := Lib.hid (show w.heap.size ≤ (wr.alloc (.cells #[.int .u8 ((S : Int) / 256), .int .u8 ((S : Int) % 256)] 5)).heap.size from (HB.out.alloc _).size)
        rw [hm]
        clear hcv hS
        go_wp2_with (first | (at_builtin; refine wpList_append_own_at _ rfl (.tmp 46) (.tmp 52) _ rfl w.heap.size 5 i0 _ 1 1 Tryz.underlying52 J.out.1 J.out.2.1 J.out.2.2.1 J.out.2.2.2 rfl (by omega) _ (2 + 2 * i) _ rfl HOA.out ⟨wr.heap.size, 0, none⟩ 2 2 [.int .u8 ((S : Int) / 256), .int .u8 ((S : Int) % 256)] rfl rfl HNW.out (by simp [Value.oneCell']) (by simp [maxLen]; omega) (by omega) HSZ.out ?_; intro v2 w2 hown2 hg2 hn2 hat2) | (refine convOwn _ rfl rfl (packL l) rfl hown2 HXS.out (by omega) ?_))
        go_ret2
        exact ⟨by rw [HV.out, HM.out]; rfl, (HB.out.alloc _).out.grown hg2 HSZ.out (own_block_ge HOA.out)⟩
  · have HV := Lib.hid (show packOf l = [] by unfold packOf; rw [if_neg (by simpa using h1)])
    clear hl
    have h1' : ((check l).2 != 0) = true := h1
    go_enter Tryz.func6, Tryz.ntmps6
    go_wp2_with fail
    refine (check_any A n c l _ HL.out).mono ?_
    rintro e1 w1 ⟨rfl, hb1⟩
    have hw1 := hw0.call hb1
    clear hb1
    go_wp2
    go_ret2
    exact ⟨by rw [HV.out]; rfl, hw1⟩
end Go.Proofs.YtbkmkeaabcgifaaGreatDoor

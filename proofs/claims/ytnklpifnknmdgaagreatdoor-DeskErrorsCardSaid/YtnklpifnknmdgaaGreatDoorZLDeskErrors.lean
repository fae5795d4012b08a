import Derived.Test.YtnklpifnknmdgaaGreatDoorZOr
import Derived.Test.YtnklpifnknmdgaaGreatDoorZCy
import Derived.Test.YtnklpifnknmdgaaGreatDoorZEqS
set_option linter.all false
set_option maxRecDepth 100000
namespace Go.Proofs.YtnklpifnknmdgaaGreatDoor.LDeskErrors
open Go Go.ChangeShapes Go.WideShapes Go.ChangeAt Go.RowKit

theorem runE_zero {xs : List Wd} (h1 : xs.length ≤ 60) (h2 : ∀ x ∈ xs, x.length ≤ 200) : runE xs = 0 := by
  unfold runE
  rw [if_neg]
  rintro (h | h)
  · omega
  · obtain ⟨x, hx, hg⟩ := List.any_eq_true.1 h
    have := h2 x hx
    have := of_decide_eq_true hg
    omega
structure EI (W : World) (G Z : List Wd) (v u : Value) (wr : World) : Prop where
  own1 : wr.ownsRow W.heap.size 9 1 v G.length (sts G)
  own2 : wr.ownsRow W.heap.size 9 1 u Z.length (sts Z)
  apart : ∀ g, v.ownBlock = some g → u.ownBlock ≠ some g
  below : Below W.heap.size W wr
theorem EI.bel {W wr w' : World} {G Z : List Wd} {v u : Value} (h : EI W G Z v u wr) (hb : Bel wr w') : EI W G Z v u w' := ⟨own_bel h.own1 hb, own_bel h.own2 hb, h.apart, (Bel.of (w := W) h.below).trans hb |>.out⟩
theorem take_zip {l o : List Wd} {i : Nat} {x y : Wd} (hx : l[i]? = some x) (hy : o[i]? = some y) : (l.zip o).take (i + 1) = (l.zip o).take i ++ [(x, y)] := by
  have h : (l.zip o)[i]? = some (x, y) := by rw [List.getElem?_zip_eq_some]; exact ⟨hx, hy⟩
  rw [List.take_succ, h]; rfl
def gT (l o : List Wd) (i : Nat) : List Wd := (((l.zip o).take i).filter noErr).map (·.1)
def zT (l o : List Wd) (i : Nat) : List Wd := (((l.zip o).take i).filter noErr).map (·.2)
theorem gz_yes {l o : List Wd} {i : Nat} {x y : Wd} (hx : l[i]? = some x) (hy : o[i]? = some y) (h : noErr (x, y) = true) : gT l o (i + 1) = gT l o i ++ [x] ∧ zT l o (i + 1) = zT l o i ++ [y] := by
  unfold gT zT
  rw [take_zip hx hy, List.filter_append, List.filter_cons_of_pos h]
  simp
theorem gz_no {l o : List Wd} {i : Nat} {x y : Wd} (hx : l[i]? = some x) (hy : o[i]? = some y) (h : noErr (x, y) = false) : gT l o (i + 1) = gT l o i ∧ zT l o (i + 1) = zT l o i := by
  unfold gT zT
  rw [take_zip hx hy, List.filter_append, List.filter_cons_of_neg (by rw [h]; simp)]
  simp
theorem gz_len (l o : List Wd) (i : Nat) : (gT l o i).length ≤ i ∧ (zT l o i).length ≤ i := by
  have h : (((l.zip o).take i).filter noErr).length ≤ i := Nat.le_trans (List.length_filter_le _ _) (by rw [List.length_take]; omega)
  unfold gT zT
  rw [List.length_map, List.length_map]
  exact ⟨h, h⟩
set_option maxHeartbeats 16000000 in
theorem walk (W : World) (A : Option Addr) (n c : Nat) (l : List Wd) (s : WS W A n l) (m : n ≤ c) (x : c ≤ maxLen) (g : ∀ x ∈ l, x.length ≤ maxLen) (ht : Tabs W) :
    Calls Tryz.prog 5 #[.slice A n c] W fun e w' => e = .returned (.bool true) ∧ Below W.heap.size W w' := by
  have HL := Lib.hid s
  have HG := Lib.hid g
  have HT := Lib.hid ht
  have hnm : n ≤ maxLen := Nat.le_trans m x
  have HNM := Lib.hid hnm
  obtain ⟨hs1, hs2⟩ := run_size
  have HS1 := Lib.hid hs1
  have H0 := Lib.hid ((Bel.refl W).alloc (.cells #[.string ⟨#[115, 105, 122, 101]⟩] 9))
  have HW0 := Lib.hid (ws_lit (xs := [[115, 105, 122, 101]]) (Box.new W #[.string ⟨#[115, 105, 122, 101]⟩] 9))
  clear s m x g ht hs1 hnm
  go_enter Tryz.func5, Tryz.ntmps5
  go_wp2_with fail
  refine (drun_any _ 1 1 [[115, 105, 122, 101]] _ HW0.out (by simp [maxLen]) (by simp [maxLen]) (HT.out.bel H0.out)).mono ?_
  rintro e1 w1 ⟨v1, rfl, ho1, hb1⟩
  rw [hs2]
  rw [HS1.out] at ho1
  obtain ⟨A1, c1, rfl, hw1, _, _⟩ := ws_own ho1
  have H1 := Lib.hid (H0.out.call hb1)
  have H1b := Lib.hid ((Bel.refl w1).alloc (.cells #[.string ⟨#[48]⟩] 9))
  have HW1 := Lib.hid (hw1.bel H1b.out)
  have HWB := Lib.hid (ws_lit (xs := [[48]]) (Box.new w1 #[.string ⟨#[48]⟩] 9))
  clear ho1 hb1 hw1 hs2
  go_wp2_with fail
  refine (eqstr_any _ _ 1 c1 1 1 [[48]] [[48]] _ HW1.out HWB.out (by simp [maxLen])).mono ?_
  rintro _ _ ⟨rfl, rfl⟩
  rw [decide_eq_true rfl]
  have H2 := Lib.hid (H1.out.trans H1b.out)
  generalize w1.alloc (.cells #[.string ⟨#[48]⟩] 9) = w2 at *
  clear H0 HW0 HW1 HWB H1b
  go_wp2_with fail
  refine (drun_any A n c l _ (HL.out.bel H2.out) HG.out HNM.out (HT.out.bel H2.out)).mono ?_
  rintro e3 w3 ⟨v3, rfl, ho3, hb3⟩
  obtain ⟨A3, c3, rfl, hw3, _, _⟩ := ws_own ho3
  have H3 := Lib.hid (H2.out.call hb3)
  have HW3 := Lib.hid hw3
  clear ho3 hb3 hw3
  by_cases hE : runE l = 0
  · have hR : runT l = outW [] (l.map wordsL) := by unfold runT; rw [if_pos hE]
    obtain ⟨hk60, hk200⟩ := runE_ok hE
    have HK := Lib.hid (And.intro hk60 hk200)
    have HLN := Lib.hid (show l.length = n from HL.out.1)
    have hol : (runT l).length = n := by rw [hR, outW_length, List.length_map]; exact HLN.out
    have hn60 : n ≤ 60 := by rw [← HLN.out]; exact hk60
    have HR0 := Lib.hid hR
    rw [hE]
    rw [hol] at HW3 ⊢
    have HO := Lib.hid hol
    have HE := Lib.hid hE
    generalize hO : runT l = o at *
    have HOO := Lib.hid hO
    clear hE hR hk60 hk200 hol hO
    have HI0 := Lib.hid (show EI w3 (gT l o 0) (zT l o 0) (.slice none 0 0) (.slice none 0 0) w3 from ⟨World.ownsRow_nil _ _ _ _, World.ownsRow_nil _ _ _ _, fun g hg => (by cases hg), Below.refl _ _⟩)
    go_wp2
    go_loopw [7, 8, 38] (fun v u t wr => ∃ i : Nat, i ≤ n ∧ t = .int .i64 i ∧ EI w3 (gT l o i) (zT l o i) v u wr) (fun _ _ t _ => n - (intOf t).toNat)
    case atStart => exact ⟨0, by omega, rfl, HI0.out⟩
    case round =>
      obtain ⟨i, hi, rfl, hr⟩ := hrel
      have HR := Lib.hid hr
      have HBL := Lib.hid (show Bel w3 wr from Bel.of hr.below)
      clear hr HI0
      by_cases hlt : i < n
      · have hlt' : (i : Int) < n := by omega
        obtain ⟨b, off, x, rfl, hbb, hx, hc⟩ := HL.out.at_ hlt
        obtain ⟨b', off', y, rfl, hbb', hy, hc'⟩ := HW3.out.at_ hlt
        have cx := cell_bel ((H3.out.trans HBL.out)) hc
        have cy := cell_bel HBL.out hc'
        have HXI := Lib.hid hx
        have HYI := Lib.hid hy
        have HYM := Lib.hid (List.mem_of_getElem? hy)
        have hz := str_sz y
        clear hbb hx hbb' hy hc hc'
        by_cases h6 : y.length < 6
        · have h6' : (((str y).size : Nat) : Int) < 6 := by rw [hz]; omega
          have HNE := Lib.hid (show noErr (x, y) = true by unfold noErr errT; simp [h6])
          clear hz h6
          obtain ⟨i0, hi0, hz0, hz1, hz2⟩ := info_parts str_info
          have J := Lib.hid (And.intro hi0 (And.intro hz0 (And.intro hz1 hz2)))
          have HGL := Lib.hid (gz_len l o i)
          obtain ⟨ha1, ha2⟩ := gz_yes HXI.out HYI.out HNE.out
          have HA1 := Lib.hid (And.intro ha1 ha2)
          have HB1 := Lib.hid ((Bel.refl wr).alloc (.cells #[.string (str x)] 9))
          have HI1 := Lib.hid (HR.out.bel HB1.out)
          have HX1 := Lib.hid (Box.new wr #[.string (str x)] 9)
          have HSZ := Lib.hid (show w3.heap.size ≤ (wr.alloc (.cells #[.string (str x)] 9)).heap.size from Nat.le_trans HR.out.below.size HB1.out.size)
          clear hi0 hz0 hz1 hz2 ha1 ha2
          go_wp2_with (first
            | (at_builtin; refine wpList_append_own_at _ rfl (.tmp 51) (.tmp 56) _ rfl w3.heap.size 9 i0 _ 1 16 Tryz.underlying22 J.out.1 J.out.2.1 J.out.2.2.1 J.out.2.2.2 rfl (by omega) _ (gT l o i).length (sts (gT l o i)) rfl HI1.out.own1 ⟨wr.heap.size, 0, none⟩ 1 1 [.string (str x)] rfl rfl (cell_one_new _ _ _) (by simp [Value.oneCell']) (by have := HGL.out.1; unfold maxLen; omega) (by have := HGL.out.1; omega) HSZ.out ?_; intro v5 w5 hown5 hg5 hn5 hat5
               have HT5 := Lib.hid (own_two HI1.out.own1 HI1.out.own2 HI1.out.apart hg5 hat5)
               have HB5 := Lib.hid ((Bel.refl w5).alloc (.cells #[.string (str y)] 9))
               have HO5 := Lib.hid (own_bel hown5 HB5.out)
               have HW5 := Lib.hid (own_bel HT5.out.1 HB5.out)
               have HL5 := Lib.hid (HI1.out.below.trans (grown_below hg5 HI1.out.own1 (Nat.le_refl _) HSZ.out))
               have HZ5 := Lib.hid (Nat.le_trans HL5.out.size HB5.out.size)
               clear hown5 hg5 hn5 hat5)
            | (at_builtin; refine wpList_append_own_at _ rfl (.tmp 58) (.tmp 60) _ rfl w3.heap.size 9 i0 _ 1 16 Tryz.underlying22 J.out.1 J.out.2.1 J.out.2.2.1 J.out.2.2.2 rfl (by omega) _ (zT l o i).length (sts (zT l o i)) rfl HW5.out ⟨w5.heap.size, 0, none⟩ 1 1 [.string (str y)] rfl rfl (cell_one_new _ _ _) (by simp [Value.oneCell']) (by have := HGL.out.2; unfold maxLen; omega) (by have := HGL.out.2; omega) HZ5.out ?_; intro v6 w6 hown6 hg6 hn6 hat6
               have HT6 := Lib.hid (own_two HW5.out HO5.out (fun g h1 h2 => HT5.out.2 g h2 h1) hg6 hat6)
               have HO6 := Lib.hid hown6
               have HB6 := Lib.hid ((Bel.of (w := w3) HL5.out).trans HB5.out)
               have HL6 := Lib.hid (HB6.out.out.trans (grown_below hg6 HW5.out (Nat.le_refl _) HZ5.out))
               clear hown6 hg6 hn6 hat6))
          go_roundw
          case rel =>
            refine ⟨i + 1, by omega, by go_num, ⟨?_, ?_, fun g h1 h2 => HT6.out.2 g h2 h1, HL6.out⟩⟩
            · rw [HA1.out.1, sts_app, List.length_append]; exact HT6.out.1
            · rw [HA1.out.2, sts_app, List.length_append]; exact HO6.out
          case measure => simp [intOf]; omega
        · have h6' : ¬ (((str y).size : Nat) : Int) < 6 := by rw [hz]; omega
          have he6 : (str y).extract 0 6 = str (y.take 6) := by rw [str_extract]; rfl
          have hq : ((str (y.take 6)).toList == [101, 114, 114, 111, 114, 32]) = decide (y.take 6 = [101, 114, 114, 111, 114, 32]) := by rw [← str_beq, ByteArray.toList_eq, ByteArray.toList_eq]; rfl
          by_cases hp : y.take 6 = [101, 114, 114, 111, 114, 32]
          · have HNE := Lib.hid (show noErr (x, y) = false by unfold noErr errT; simp [h6, hp])
            rw [decide_eq_true hp] at hq
            have HA1 := Lib.hid (gz_no HXI.out HYI.out HNE.out)
            clear h6 hp
            have hz6 : (6 : Int) ≤ (((str y).size : Nat) : Int) := by omega
            clear hz
            go_wp2
            go_roundw
            case rel => exact ⟨i + 1, by omega, by go_num, by rw [HA1.out.1, HA1.out.2]; exact HR.out⟩
            case measure => simp [intOf]; omega
          · have HNE := Lib.hid (show noErr (x, y) = true by unfold noErr errT; simp [hp])
            rw [decide_eq_false hp] at hq
            clear h6 hp
            have hz6 : (6 : Int) ≤ (((str y).size : Nat) : Int) := by omega
            clear hz
            obtain ⟨i0, hi0, hz0, hz1, hz2⟩ := info_parts str_info
            have J := Lib.hid (And.intro hi0 (And.intro hz0 (And.intro hz1 hz2)))
            have HGL := Lib.hid (gz_len l o i)
            obtain ⟨ha1, ha2⟩ := gz_yes HXI.out HYI.out HNE.out
            have HA1 := Lib.hid (And.intro ha1 ha2)
            have HB1 := Lib.hid ((Bel.refl wr).alloc (.cells #[.string (str x)] 9))
            have HI1 := Lib.hid (HR.out.bel HB1.out)
            have HX1 := Lib.hid (Box.new wr #[.string (str x)] 9)
            have HSZ := Lib.hid (show w3.heap.size ≤ (wr.alloc (.cells #[.string (str x)] 9)).heap.size from Nat.le_trans HR.out.below.size HB1.out.size)
            clear hi0 hz0 hz1 hz2 ha1 ha2
            go_wp2_with (first
              | (at_builtin; refine wpList_append_own_at _ rfl (.tmp 51) (.tmp 56) _ rfl w3.heap.size 9 i0 _ 1 16 Tryz.underlying22 J.out.1 J.out.2.1 J.out.2.2.1 J.out.2.2.2 rfl (by omega) _ (gT l o i).length (sts (gT l o i)) rfl HI1.out.own1 ⟨wr.heap.size, 0, none⟩ 1 1 [.string (str x)] rfl rfl (cell_one_new _ _ _) (by simp [Value.oneCell']) (by have := HGL.out.1; unfold maxLen; omega) (by have := HGL.out.1; omega) HSZ.out ?_; intro v5 w5 hown5 hg5 hn5 hat5
                 have HT5 := Lib.hid (own_two HI1.out.own1 HI1.out.own2 HI1.out.apart hg5 hat5)
                 have HB5 := Lib.hid ((Bel.refl w5).alloc (.cells #[.string (str y)] 9))
                 have HO5 := Lib.hid (own_bel hown5 HB5.out)
                 have HW5 := Lib.hid (own_bel HT5.out.1 HB5.out)
                 have HL5 := Lib.hid (HI1.out.below.trans (grown_below hg5 HI1.out.own1 (Nat.le_refl _) HSZ.out))
                 have HZ5 := Lib.hid (Nat.le_trans HL5.out.size HB5.out.size)
                 clear hown5 hg5 hn5 hat5)
              | (at_builtin; refine wpList_append_own_at _ rfl (.tmp 58) (.tmp 60) _ rfl w3.heap.size 9 i0 _ 1 16 Tryz.underlying22 J.out.1 J.out.2.1 J.out.2.2.1 J.out.2.2.2 rfl (by omega) _ (zT l o i).length (sts (zT l o i)) rfl HW5.out ⟨w5.heap.size, 0, none⟩ 1 1 [.string (str y)] rfl rfl (cell_one_new _ _ _) (by simp [Value.oneCell']) (by have := HGL.out.2; unfold maxLen; omega) (by have := HGL.out.2; omega) HZ5.out ?_; intro v6 w6 hown6 hg6 hn6 hat6
                 have HT6 := Lib.hid (own_two HW5.out HO5.out (fun g h1 h2 => HT5.out.2 g h2 h1) hg6 hat6)
                 have HO6 := Lib.hid hown6
                 have HB6 := Lib.hid ((Bel.of (w := w3) HL5.out).trans HB5.out)
                 have HL6 := Lib.hid (HB6.out.out.trans (grown_below hg6 HW5.out (Nat.le_refl _) HZ5.out))
                 clear hown6 hg6 hn6 hat6))
            go_roundw
            case rel =>
              refine ⟨i + 1, by omega, by go_num, ⟨?_, ?_, fun g h1 h2 => HT6.out.2 g h2 h1, HL6.out⟩⟩
              · rw [HA1.out.1, sts_app, List.length_append]; exact HT6.out.1
              · rw [HA1.out.2, sts_app, List.length_append]; exact HO6.out
            case measure => simp [intOf]; omega
      · obtain rfl : i = n := by omega
        obtain ⟨A7, c7, rfl, hw7, _, _⟩ := ws_own HR.out.own1
        have HGL := Lib.hid (gz_len l o i)
        have HTA := Lib.hid (show (l.zip o).take i = l.zip o from List.take_of_length_le (by rw [List.length_zip, HLN.out]; omega))
        have HIN := Lib.hid (show ∀ x ∈ gT l o i, x ∈ l from fun x hx => by
          unfold gT at hx
          obtain ⟨q, hq, rfl⟩ := List.mem_map.1 hx
          exact (List.of_mem_zip (List.mem_of_mem_take (List.mem_filter.1 hq).1)).1)
        have HE7 := Lib.hid (show runE (gT l o i) = 0 from runE_zero (by have := HGL.out.1; omega) fun x hx => HK.out.2 x (HIN.out x hx))
        have HR7 := Lib.hid (show runT (gT l o i) = zT l o i by
          unfold runT
          rw [if_pos HE7.out]
          unfold gT zT
          rw [HTA.out, HR0.out]
          exact good_zip [] l)
        have HW7 := Lib.hid hw7
        clear hw7
        go_wp2_with fail
        refine (drun_any A7 _ c7 (gT l o i) _ HW7.out (fun x hx => HG.out x (HIN.out x hx)) (by have := HGL.out.1; unfold maxLen; omega) (HT.out.bel (H3.out.trans HBL.out))).mono ?_
        rintro e8 w8 ⟨v8, rfl, ho8, hb8⟩
        rw [HE7.out]
        rw [HR7.out] at ho8
        obtain ⟨A8, c8, rfl, hw8, _, _⟩ := ws_own ho8
        obtain ⟨A9, c9, rfl, hw9, _, _⟩ := ws_own (own_bel HR.out.own2 (Bel.of hb8))
        have HW8 := Lib.hid (And.intro hw8 hw9)
        have H8 := Lib.hid ((H3.out.trans HBL.out).call hb8)
        clear ho8 hb8 hw8 hw9
        go_wp2_with fail
        refine (eqstr_any _ _ _ c8 _ c9 (zT l o i) (zT l o i) _ HW8.out.1 HW8.out.2 (by have := HGL.out.2; unfold maxLen; omega)).mono ?_
        rintro _ _ ⟨rfl, rfl⟩
        rw [decide_eq_true rfl]
        go_wp2
        go_ret
        exact ⟨rfl, H8.out⟩
  · have hE2 : runE l = 2 := by
      unfold runE at hE ⊢
      split
      · rfl
      · rename_i h
        rw [if_neg h] at hE
        exact absurd rfl hE
    have hR : runT l = [] := by unfold runT; rw [if_neg hE]
    rw [hE2, hR]
    have H3' := H3.out
    clear hE hE2
    go_wp2
    go_ret
    exact ⟨rfl, H3'⟩
set_option maxRecDepth 100000 in
theorem contract (H : Type) (enc : TypeId × Value → H) (W : World) (base : Nat) (args : Array Value) (ds gs : List (DataW H)) (before : List MemPlace)
    (hval0 : ∀ (j : Nat) t v, Tryz.f5.params[j]? = some t → args[j]? = some v → Value.okWide Tryz.prog W .any base t v)
    (hW : DataW.Whole enc Tryz.prog Tryz.f5.params.toList Rows.deskErrorsSpec.vars false W args.toList ds gs before)
    (hsz0 : (DataW.weightsEach Tryz.prog (Tryz.f5.params.toList ++ Rows.deskErrorsSpec.plain.varTypes Tryz.prog) (ds ++ gs)).all (· ≤ reachBytes) = true) (hsh : W.ShapedOpen Tryz.prog)
    (hlaid : laidMetH Tryz.prog Rows.deskErrorsRow.laid W) :
    Calls Tryz.prog 5 args W fun e W' => ∃ v, e = .returned v ∧ Rows.deskErrorsSpec.post enc Tryz.prog Tryz.f5 false true false false W args v W' := by
  have hsz := hsz0
  clear hsz0
  have hval := hval0
  have hW' := hW
  obtain ⟨p, q, hA0, hV, rfl, hfz, hnd⟩ := hW
  have hA : DataW.TrodAll enc Tryz.prog W 0 (fun _ => true) true Tryz.f5.params.toList args.toList ds p := hA0
  rw [Tryz.params5] at hA hval hsz
  obtain ⟨v0, vs0, d0, ds0, p0, q0, hargs, rfl, rfl, h0, r0⟩ := trodAll_cons hA
  obtain ⟨rfl, rfl, rfl⟩ := trodAll_nil r0
  obtain rfl : args = #[v0] := by cases args; simp_all
  obtain ⟨rfl, rfl⟩ := trodVars_none hV
  have t0 := h0
  have lt0 : ∀ x ∈ p0, x.block < W.heap.size := by obtain ⟨m, hm⟩ := t0; exact DataW.trod_lt m _ _ _ hm
  obtain ⟨A0, n0, c0, l0, rfl, s0, m0, x0, g0, z0⟩ := open_strs_arg Tryz.underlying22 Tryz.underlying9 (by kernel_rfl) (hval 0 22 v0 rfl rfl) h0
  clear hA0 hval0
  refine (walk W A0 n0 c0 l0 s0 m0 x0 g0 (tabs5 hlaid)).mono fun e W' ⟨he, bel⟩ => ?_
  subst he
  exact ⟨_, rfl, _, _, _, [], _, [], hW', trodAll_mk1 (shut_bool Tryz.underlying4 _), (trodAll_cons_mk (Below.trod laidOut (by kernel_rfl) (of_decide_eq_true (by kernel_rfl)) t0 bel lt0) trodAll_mk0), rfl, bel.frame _, fun h => by cases h⟩

theorem laid_met (os : Os) : laidMet Tryz.prog Rows.deskErrorsRow.laid ((doorW os).forCall (fun _ _ => 0) ⟨#[], #[.slice none 0 0], []⟩).memory :=
  laidMet_of_run' 8 (by kernel_rfl) (by kernel_rfl)
theorem reads (os : Os) {H : Type} (enc : TypeId × Value → H) : ∃ places, DataW.whole enc Tryz.prog ((doorW os).forCall (fun _ _ => 0) ⟨#[], #[.slice none 0 0], []⟩).memory Tryz.f5.params.toList Rows.deskErrorsSpec.vars false (#[.slice none 0 0] : Array Value).toList 8 = some ([.nil], [], places) :=
  ⟨[], by kernel_rfl⟩
set_option maxRecDepth 100000 in
theorem lifted (os : Os) (started : os.Started) (H : Type) (enc : TypeId × Value → H) (F : Stop.Interp) :
    ReturnsInHanded {} Tryz.checked os 5 .any ((OpenSpec.ofChange Rows.deskErrorsSpec).preRow enc Tryz.prog Tryz.f5 Rows.deskErrorsRow.domain false Rows.deskErrorsRow.laid) (((OpenSpec.ofChange Rows.deskErrorsSpec).at F).post enc Tryz.prog Tryz.f5 false true false false) := by
  obtain ⟨places, hx⟩ := reads os enc
  refine returnsInHanded_of_row (C := Tryz.checked) (s := OpenSpec.ofChange Rows.deskErrorsSpec) own started (by kernel_rfl) Tryz.func5
    (witness_row_at (enc := enc) (C := Tryz.checked) false (doorW os) #[.slice none 0 0] rfl (by kernel_rfl) (by kernel_rfl) (by kernel_rfl)
      (OpenSpec.preRow_of_cond 8 hx (by kernel_rfl) (fun k hk => by cases hk) (by kernel_rfl) (laid_met os))) ?_
  intro W base args ds gs before hval hW _ hcond hsz hlaid hsh _
  exact contract H enc W base args ds gs before hval hW hsz hsh hlaid

theorem said : Rows.DeskErrorsSaid :=
  OpenClaim.holds_of_cond 5 Tryz.f5 rfl rfl rfl rfl rfl rfl rfl ⟨rfl, rfl, rfl, rfl, rfl⟩ rfl rfl rfl rfl rfl (by kernel_rfl) Tryz.func5 (by kernel_rfl)
    (of_decide_eq_true (by kernel_rfl)) (by unfold Func.isWrapper; first | (rw [if_pos (by decide +kernel)]; kernel_rfl) | (rw [if_neg (by decide +kernel)]; exact ⟨rfl, rfl⟩))
    (fun os started H enc _ F => by rw [OpenClaim.pre_eq_preRow]; exact lifted os started H enc F)
theorem plain (f : FuncId) (fn : Func) (hf : Tryz.pinned.checked.prog.funcNamed "deadheat/deadheatkeep.DeskErrors" = some f) (hfn : Tryz.pinned.checked.prog.funcs[f]? = some fn) :
    true = Tryz.pinned.checked.prog.looks [] ∧ ∀ (j : Nat) t, fn.params[j]? = some t → Tryz.pinned.checked.prog.wantsStandIn t = false := by
  obtain rfl : f = 5 := Option.some.inj ((show Tryz.prog.funcNamed "deadheat/deadheatkeep.DeskErrors" = some 5 by kernel_rfl).symm.trans hf) |>.symm
  obtain rfl : fn = Tryz.f5 := (Option.some.inj (Tryz.func5.symm.trans hfn)).symm
  refine ⟨by kernel_rfl, fun j t ht => ?_⟩
  rw [Tryz.params5] at ht
  have hm := Array.mem_of_getElem? ht
  have hall : (Tryz.f5.params.toList.all fun u => !Tryz.prog.wantsStandIn u) = true := by kernel_rfl
  rw [Tryz.params5] at hall
  exact (show Tryz.prog.wantsStandIn t = false by simpa using List.all_eq_true.1 hall t (by simpa using hm))
theorem proved : Rows.DeskErrorsCardSaid :=
  Claim7.holds_tied_plain_at .later [] _ _ _ _ said (fun _ h => by cases h) (by kernel_rfl) (fun _ h => by cases h) deskErrors_row_tie rfl ⟨rfl, rfl⟩ (by kernel_rfl) rfl plain (by kernel_rfl)
#print axioms proved
end Go.Proofs.YtnklpifnknmdgaaGreatDoor.LDeskErrors

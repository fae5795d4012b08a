import Derived.Test.YtnklpifnknmdgaaGreatDoorZDkB
import Derived.Test.YtnklpifnknmdgaaGreatDoorZBs
import Derived.Test.YtnklpifnknmdgaaGreatDoorZShM
import Derived.Test.YtnklpifnknmdgaaGreatDoorZRgY
set_option linter.all false
set_option maxRecDepth 100000
namespace Go.Proofs.YtnklpifnknmdgaaGreatDoor
open Go Go.RowKit

theorem SI.own {w : World} {base n : Nat} {A : Option Addr} {c : Nat} {l : List Int} (h : w.ownsRow base 3 1 (.slice A n c) n (intq l)) : SI w A n l :=
  ⟨by have := h.1; simpa [intq] using this, fun hn => by
    obtain ⟨g, cap, h1, _, _, _, h2, h3⟩ := row_cells2 h hn
    cases h1
    have hl : l.length = n := by have := h.1; simpa [intq] using this
    exact ⟨g, 0, rfl, fun i hi => by
      rw [Nat.zero_add]
      refine h3 i _ ?_
      rw [intq, List.getElem?_map, List.getElem?_eq_getElem (show i < l.length by omega)]
      rfl⟩⟩
theorem chn_from {P : Nat → Nat → Bool} : ∀ {r : List Nat} {z : Nat}, Chn P (r ++ [z]) → ∀ a ∈ r, ∃ b, P a b = true
  | [], _, _, _, ha => by cases ha
  | [x], z, h, a, ha => by
    simp only [List.mem_singleton] at ha
    subst ha
    exact ⟨z, h.1⟩
  | x :: y :: r, z, h, a, ha => by
    rcases List.mem_cons.1 ha with rfl | ha
    · exact ⟨y, h.1⟩
    · exact chn_from (r := y :: r) h.2 a ha
theorem cyc_from {P : Nat → Nat → Bool} {r : List Nat} (h : Cyc P r) : ∀ a ∈ r, ∃ b, P a b = true := by
  cases r with
  | nil => exact h.elim
  | cons x s =>
    intro a ha
    exact chn_from (r := x :: s) h a ha
theorem ring_small {l : List Ev} {r : List Nat} {c : Int} (h : RingB (edL l) r c) : c = 0 ∧ ∀ a ∈ r, a < 5 := by
  rcases h with ⟨h1, _⟩ | ⟨_, h2, h3⟩
  · rw [edL_in] at h1; cases h1
  · refine ⟨h2, fun a ha => ?_⟩
    rcases h3 with ⟨rfl, _⟩ | ⟨h3, _⟩
    · cases ha
    · obtain ⟨b, hb⟩ := cyc_from h3 a ha
      obtain ⟨a', b', hx, h4, _⟩ := edL_mem.1 (of_decide_eq_true hb)
      have := congrArg Prod.fst hx
      simp only at this
      omega
theorem fl_short {l : List Ev} (h : may l = 0) : (flags l).length ≤ 1000 := by
  rw [flags_ok h]
  have h1 := flT_len l l.length
  have h2 := ((may_iff l).1 h).1
  omega
theorem ff_short {l : List Ev} (h : may l = 0) : (fflags l).length ≤ 1000 := by
  rw [fflags_ok h]
  have h1 := gl_len (fkK l) l l.length
  have h2 := ((may_iff l).1 h).1
  omega
theorem wn_short {l : List Ev} (h : may l = 0) : (warns l).length ≤ 1000 := by
  unfold warns
  rw [if_pos h]
  have h1 := wl_len l l.length
  have h2 := ((may_iff l).1 h).1
  omega
set_option maxHeartbeats 4000000 in
theorem races_met (N D : Nat) (v u : Value) (l : List Ev) (ws : List Wd) (w : World) (h : Dk w N D v l) : Calls Tryz.prog 64 #[.pointer (some ⟨D, 0, none⟩), u] w (MetP N D v l (cmdR 1 l ws) w) := by
  have HD := Lib.hid h
  have hw0 := Bel.refl w
  have HM := Lib.hid h.ok
  have HLL := Lib.hid ((may_iff l).1 h.ok).1
  obtain ⟨A, c, rfl, hs, hnc, hcm⟩ := h.sl
  have HS := Lib.hid hs
  have HNC := Lib.hid (And.intro hnc hcm)
  have c0 := h.box.cell 0 (v := .slice A l.length c) rfl
  clear h hs hnc hcm
  go_enter Tryz.func64, Tryz.ntmps64
  go_wp2_with fail
  refine (alle_any A l.length c l _ HS.out).mono ?_
  rintro e1 w1 ⟨v1, rfl, ho1, hb1⟩
  rw [HM.out]
  obtain ⟨A1, c1, rfl, hs1, hn1, hm1⟩ := SlR.own ho1
  have HS1 := Lib.hid hs1
  have hw1 := Lib.hid (hw0.call hb1)
  clear hs1 hn1 hm1 ho1 hb1 c0
  go_wp2_with fail
  refine (must_race_ok _ _).mono ?_
  rintro _ _ ⟨rfl, rfl⟩
  go_wp2_with fail
  refine (printed_race A1 _ c1 (rcs l) _ HS1.out rcs_small (fun x hx => (fun hm hx => (⟨Nat.lt_of_lt_of_le (rcs_pl hm hx).1 (by decide), Nat.lt_of_lt_of_le (rcs_pl hm hx).2 (by decide)⟩ : _ ∧ _)) HM.out hx)).mono ?_
  rintro e2 w2 ⟨rfl, hb2⟩
  go_wp2
  go_ret
  exact met_look HD.out (hw1.out.call hb2) rfl rfl
set_option maxHeartbeats 4000000 in
theorem full_met (N D : Nat) (v u : Value) (l : List Ev) (ws : List Wd) (w : World) (h : Dk w N D v l) : Calls Tryz.prog 65 #[.pointer (some ⟨D, 0, none⟩), u] w (MetP N D v l (cmdR 2 l ws) w) := by
  have HD := Lib.hid h
  have hw0 := Bel.refl w
  have HM := Lib.hid h.ok
  have HLL := Lib.hid ((may_iff l).1 h.ok).1
  obtain ⟨A, c, rfl, hs, hnc, hcm⟩ := h.sl
  have HS := Lib.hid hs
  have HNC := Lib.hid (And.intro hnc hcm)
  have c0 := h.box.cell 0 (v := .slice A l.length c) rfl
  clear h hs hnc hcm
  go_enter Tryz.func65, Tryz.ntmps65
  go_wp2_with fail
  refine (run_any A l.length c l _ HS.out).mono ?_
  rintro e1 w1 ⟨v1, rfl, ho1, hb1⟩
  rw [HM.out]
  obtain ⟨A1, c1, rfl, hs1, hn1, hm1⟩ := Sl.own ho1
  have HS1 := Lib.hid hs1
  have hw1 := Lib.hid (hw0.call hb1)
  clear hs1 hn1 hm1 ho1 hb1 c0
  go_wp2_with fail
  refine (must_flag_ok _ _).mono ?_
  rintro _ _ ⟨rfl, rfl⟩
  go_wp2_with fail
  refine (printed_kind A1 _ c1 (flags l) _ HS1.out (fl_short HM.out) (fun x hx => flags_small HM.out hx)).mono ?_
  rintro e2 w2 ⟨rfl, hb2⟩
  go_wp2
  go_ret
  exact met_look HD.out (hw1.out.call hb2) rfl rfl
set_option maxHeartbeats 4000000 in
theorem fast_met (N D : Nat) (v u : Value) (l : List Ev) (ws : List Wd) (w : World) (h : Dk w N D v l) : Calls Tryz.prog 66 #[.pointer (some ⟨D, 0, none⟩), u] w (MetP N D v l (cmdR 3 l ws) w) := by
  have HD := Lib.hid h
  have hw0 := Bel.refl w
  have HM := Lib.hid h.ok
  have HLL := Lib.hid ((may_iff l).1 h.ok).1
  obtain ⟨A, c, rfl, hs, hnc, hcm⟩ := h.sl
  have HS := Lib.hid hs
  have HNC := Lib.hid (And.intro hnc hcm)
  have c0 := h.box.cell 0 (v := .slice A l.length c) rfl
  clear h hs hnc hcm
  go_enter Tryz.func66, Tryz.ntmps66
  go_wp2_with fail
  refine (frun_any A l.length c l _ HS.out).mono ?_
  rintro e1 w1 ⟨v1, rfl, ho1, hb1⟩
  rw [HM.out]
  obtain ⟨A1, c1, rfl, hs1, hn1, hm1⟩ := Sl.own ho1
  have HS1 := Lib.hid hs1
  have hw1 := Lib.hid (hw0.call hb1)
  clear hs1 hn1 hm1 ho1 hb1 c0
  go_wp2_with fail
  refine (must_flag_ok _ _).mono ?_
  rintro _ _ ⟨rfl, rfl⟩
  go_wp2_with fail
  refine (printed_kind A1 _ c1 (fflags l) _ HS1.out (ff_short HM.out) (fun x hx => fflags_small HM.out hx)).mono ?_
  rintro e2 w2 ⟨rfl, hb2⟩
  go_wp2
  go_ret
  exact met_look HD.out (hw1.out.call hb2) rfl rfl
set_option maxHeartbeats 4000000 in
theorem warns_met (N D : Nat) (v u : Value) (l : List Ev) (ws : List Wd) (w : World) (h : Dk w N D v l) : Calls Tryz.prog 67 #[.pointer (some ⟨D, 0, none⟩), u] w (MetP N D v l (cmdR 4 l ws) w) := by
  have HD := Lib.hid h
  have hw0 := Bel.refl w
  have HM := Lib.hid h.ok
  have HLL := Lib.hid ((may_iff l).1 h.ok).1
  obtain ⟨A, c, rfl, hs, hnc, hcm⟩ := h.sl
  have HS := Lib.hid hs
  have HNC := Lib.hid (And.intro hnc hcm)
  have c0 := h.box.cell 0 (v := .slice A l.length c) rfl
  clear h hs hnc hcm
  go_enter Tryz.func67, Tryz.ntmps67
  go_wp2_with fail
  refine (warns_any A l.length c l _ HS.out HNC.out.1).mono ?_
  rintro e1 w1 ⟨v1, rfl, ho1, hb1⟩
  rw [HM.out]
  obtain ⟨A1, c1, rfl, hs1, hn1, hm1⟩ := Sl.own ho1
  have HS1 := Lib.hid hs1
  have hw1 := Lib.hid (hw0.call hb1)
  clear hs1 hn1 hm1 ho1 hb1 c0
  go_wp2_with fail
  refine (must_flag_ok _ _).mono ?_
  rintro _ _ ⟨rfl, rfl⟩
  go_wp2_with fail
  refine (printed_place A1 _ c1 (warns l) _ HS1.out (wn_short HM.out) (fun x hx => warns_small HM.out hx)).mono ?_
  rintro e2 w2 ⟨rfl, hb2⟩
  go_wp2
  go_ret
  exact met_look HD.out (hw1.out.call hb2) rfl rfl
theorem toI_small {r : List Nat} (h : ∀ a ∈ r, a < 5) {x : Int} (hx : x ∈ toI r) : 0 ≤ x ∧ x < 100 := by
  unfold toI at hx
  obtain ⟨a, ha, rfl⟩ := List.mem_map.1 hx
  have := h a ha
  omega
theorem ring_short {l : List Ev} {r : List Nat} {c : Int} (h : RingB (edL l) r c) : r.length ≤ 1000 := by
  have h5 := (ring_small h).2
  rcases h with ⟨_, rfl, _⟩ | ⟨_, _, h3⟩
  · simp
  · rcases h3 with ⟨rfl, _⟩ | ⟨h1, h2, _⟩
    · simp
    · exact Nat.le_trans (nodup_five (least_nodup h1 h2) h5) (by decide)
set_option maxHeartbeats 4000000 in
theorem ring_met (N D : Nat) (v u : Value) (l : List Ev) (ws : List Wd) (w : World) (h : Dk w N D v l) : Calls Tryz.prog 70 #[.pointer (some ⟨D, 0, none⟩), u] w (MetP N D v l (cmdR 7 l ws) w) := by
  have HD := Lib.hid h
  have hw0 := Bel.refl w
  have HM := Lib.hid h.ok
  have HLL := Lib.hid ((may_iff l).1 h.ok).1
  obtain ⟨A, c, rfl, hs, hnc, hcm⟩ := h.sl
  have HS := Lib.hid hs
  have HNC := Lib.hid (And.intro hnc hcm)
  have c0 := h.box.cell 0 (v := .slice A l.length c) rfl
  clear h hs hnc hcm
  go_enter Tryz.func70, Tryz.ntmps70
  go_wp2_with fail
  refine (graph_q A l.length c l _ HS.out HNC.out.1 HNC.out.2 HM.out).mono ?_
  rintro e1 w1 ⟨A1, c1, rfl, hs1, hn1, hm1, hb1⟩
  have HS1 := Lib.hid hs1
  have HN1 := Lib.hid (And.intro hn1 hm1)
  have hw1 := Lib.hid (hw0.call hb1)
  clear hs1 hn1 hm1 hb1 c0
  go_wp2_with fail
  refine (must_pair_ok _ _).mono ?_
  rintro _ _ ⟨rfl, rfl⟩
  go_wp2_with fail
  refine (ring_own A1 _ c1 (edL l) _ HS1.out HN1.out.1 HN1.out.2).mono ?_
  rintro e2 w2 ⟨r, A2, c2, cc, rfl, hr, ho2, hb2⟩
  obtain ⟨rfl, hr5⟩ := ring_small hr
  have HR := Lib.hid (ringL_eq hr)
  have HR5 := Lib.hid hr5
  have HS2 := Lib.hid (SI.own ho2)
  have hw2 := Lib.hid (hw1.out.call hb2)
  have HLN := Lib.hid (show r.length ≤ 1000 from ring_short hr)
  clear hr hr5 ho2 hb2
  go_wp2_with fail
  refine (must_ints_ok _ _).mono ?_
  rintro _ _ ⟨rfl, rfl⟩
  go_wp2_with fail
  refine (printed_int A2 _ c2 (toI r) _ HS2.out HLN.out (fun x hx => toI_small HR5.out hx)).mono ?_
  rintro e3 w3 ⟨rfl, hb3⟩
  go_wp2
  go_ret
  refine met_look HD.out (hw2.out.call hb3) ?_ rfl
  show _ = Ans.fin (ringR l)
  unfold ringR
  rw [HR.out]
  unfold toI
  rw [List.map_map]
  rfl
set_option maxHeartbeats 4000000 in
theorem min_met (N D : Nat) (v u : Value) (l : List Ev) (ws : List Wd) (w : World) (h : Dk w N D v l) : Calls Tryz.prog 72 #[.pointer (some ⟨D, 0, none⟩), u] w (MetP N D v l (cmdR 9 l ws) w) := by
  have HD := Lib.hid h
  have hw0 := Bel.refl w
  have HM := Lib.hid h.ok
  have HLL := Lib.hid ((may_iff l).1 h.ok).1
  obtain ⟨A, c, rfl, hs, hnc, hcm⟩ := h.sl
  have HS := Lib.hid hs
  have HNC := Lib.hid (And.intro hnc hcm)
  have c0 := h.box.cell 0 (v := .slice A l.length c) rfl
  clear h hs hnc hcm
  go_enter Tryz.func72, Tryz.ntmps72
  go_wp2_with fail
  refine (min_any A l.length c l _ HS.out HNC.out.1 HNC.out.2).mono ?_
  rintro e1 w1 ⟨r, cc, hB, v1, rfl, ho1, hb1⟩
  obtain ⟨A1, c1, rfl, hs1, hn1, hm1⟩ := Sl.own ho1
  have hw1 := Lib.hid (hw0.call hb1)
  clear hs1 hn1 hm1 hb1 c0 ho1
  rcases hB with ⟨h1, _⟩ | ⟨h1, h2, rfl, rfl⟩ | ⟨h1, h2, rfl⟩
  · exact absurd HM.out h1
  · have HV := Lib.hid (show minR l = .err 7 by unfold minR; rw [if_pos h2])
    clear h1 h2
    go_wp2_with fail
    refine (must_evs_no _ 7 (by decide) _).mono ?_
    rintro _ _ ⟨rfl, rfl⟩
    unfold dkPan
    go_wp2
    exact ⟨rfl, met_look HD.out hw1.out (by show _ = Ans.fin (minR l); rw [HV.out]; try rfl) (by show Ans.next l (minR l) = l; rw [HV.out]; try rfl)⟩
  · have HV := Lib.hid (show minR l = .ok (Lib.itoa (r.length : Nat)) l by unfold minR; rw [if_neg h1.2, minL_eq (.inr (.inr ⟨h1, h2, rfl⟩))])
    have HRL := Lib.hid (show r.length ≤ 80 from Nat.le_trans h2.sub.length_le HLL.out)
    clear h1 h2
    go_wp2_with fail
    refine (must_evs_ok _ _).mono ?_
    rintro _ _ ⟨rfl, rfl⟩
    go_wp2_with fail
    refine (itoa_s (r.length : Nat) (by have := HRL.out; omega) _).mono ?_
    rintro e2 w2 ⟨rfl, hb2⟩
    go_wp2
    go_ret
    exact met_look HD.out (hw1.out.call hb2) (by show _ = Ans.fin (minR l); rw [HV.out]; try rfl) (by show Ans.next l (minR l) = l; rw [HV.out]; try rfl)
set_option maxHeartbeats 4000000 in
theorem size_met (N D : Nat) (v u : Value) (l : List Ev) (ws : List Wd) (w : World) (h : Dk w N D v l) : Calls Tryz.prog 73 #[.pointer (some ⟨D, 0, none⟩), u] w (MetP N D v l (cmdR 10 l ws) w) := by
  have HD := Lib.hid h
  have hw0 := Bel.refl w
  have HM := Lib.hid h.ok
  have HLL := Lib.hid ((may_iff l).1 h.ok).1
  obtain ⟨A, c, rfl, hs, hnc, hcm⟩ := h.sl
  have HS := Lib.hid hs
  have HNC := Lib.hid (And.intro hnc hcm)
  have c0 := h.box.cell 0 (v := .slice A l.length c) rfl
  clear h hs hnc hcm
  go_enter Tryz.func73, Tryz.ntmps73
  go_wp2_with fail
  refine (itoa_s (l.length : Nat) (by have := HLL.out; omega) _).mono ?_
  rintro e2 w2 ⟨rfl, hb2⟩
  go_wp2
  go_ret
  exact met_look HD.out (hw0.call hb2) rfl rfl
end Go.Proofs.YtnklpifnknmdgaaGreatDoor
set_option linter.all false
set_option maxRecDepth 100000
namespace Go.Proofs.YtnklpifnknmdgaaGreatDoor
open Go Go.RowKit

theorem grow_bel (w : World) (k : Nat) (os : Array Obj) : Bel w (Sort.grow (w.drewN k) os) := Bel.of
  ⟨rfl, rfl, rfl, by show w.heap.size ≤ (w.heap ++ os).size; rw [Array.size_append]; omega, fun j hj => Sort.heap_grow_old (w.drewN k) os hj⟩
theorem bytes_bel (w : World) (e : TypeId) (s : ByteArray) : Bel w (Lib.bytesWorld w e s) := Bel.of
  ⟨rfl, rfl, rfl, by rw [Lib.bytesWorld_size]; omega, fun k hk => Lib.bytesWorld_at_old w e s k hk⟩
theorem dkItoa_any (n : Nat) (h : n < 1000000000000) (w : World) (ht : Tabs w) : Calls Tryz.prog 18 #[.int .i64 n] w fun e w' => e = .returned (.string (str (Lib.itoa n))) ∧ Below w.heap.size w w' :=
  (Tryz.strconv_Itoa n (by omega) (by omega) w ht.pow).mono fun e w' ⟨he, k, os, hw⟩ => ⟨by rw [he]; rfl, hw ▸ (grow_bel w k os).out⟩
theorem atoi_big {s : Wd} {v : Int} (h : Lib.atoiAll s = .ok v) : -9223372036854775808 ≤ v ∧ v ≤ 9223372036854775807 := by
  have := Lib.atoiAll_bounds h
  omega
theorem atoi_no (s : Wd) (hs : s.length ≤ 1000) (h : Lib.atoiAll s = Lib.atoiAll []) (tp : TypeId) (p : Value) (w : World) (hvar : w.var? Tryz.prog "strconv.ErrSyntax" = some #[.iface tp p]) :
    Calls Tryz.prog 144 #[.string (str s)] w fun e w' => ∃ B, e = .returned (.tuple #[.int .i64 0, .iface 276 (.pointer (some ⟨B, 0, none⟩))]) ∧ Below w.heap.size w w' :=
  (Any.strconv_Atoi_syntax_var Tryz.laysC172 (str s) (by rw [str_sz]; omega) (by rw [str_all]; exact h) tp p w hvar).mono fun e w' ⟨B, h1, _, _, h4⟩ => ⟨B, h1, h4⟩
set_option maxHeartbeats 8000000 in
theorem number_any (s : Wd) (hs : s.length ≤ 1000) (w : World) (ht : Tabs w) : Calls Tryz.prog 107 #[.string (str s)] w fun e w' => e = (match numOf s with | some k => .returned (.int .i64 (k : Nat)) | none => dkPan 3) ∧ Below w.heap.size w w' := by
  have HT := Lib.hid ht
  have hz := str_sz s
  have HZ := Lib.hid hz
  have hw0 := Bel.refl w
  rcases hv : Lib.atoiAll s with v | _ | _
  · obtain ⟨v0, v1⟩ := atoi_big hv
    have hA := Tryz.strconv_Atoi_ok (str s) (by rw [hz]; omega) v (by rw [str_all]; exact hv) w
    have HVV := Lib.hid hv
    by_cases h0 : v < 0
    · have HV := Lib.hid (show numOf s = none by unfold numOf; rw [hv]; simp only; rw [if_neg (fun h => by omega)])
      rw [HV.out]
      clear hv ht hs v0 v1
      go_enter Tryz.func107, Tryz.ntmps107
      go_wp2_with fail
      refine hA.mono ?_
      rintro e1 w1 ⟨rfl, hw⟩
      have HB := Lib.hid (show Below w.heap.size w w1 by
        rcases hw with rfl | ⟨t, rfl⟩
        · exact Below.refl _ _
        · exact (bytes_bel _ _ _).out)
      clear hA hw
      go_wp2
      exact ⟨rfl, rfl, HB.out⟩
    · obtain ⟨k, rfl⟩ := Int.eq_ofNat_of_zero_le (show 0 ≤ v by omega)
      by_cases h9 : s.length ≤ 9
      · have hk : k < 1000000000000 := by
          have := atoi_nine HVV.out h9
          omega
        by_cases he : s = Lib.itoa (k : Nat)
        · have HV := Lib.hid (show numOf s = some k by unfold numOf; rw [hv]; simp only; rw [if_pos ⟨by omega, h9, he⟩]; rfl)
          have HQ := Lib.hid (show decide (s = Lib.itoa (k : Nat)) = true from decide_eq_true he)
          rw [HV.out]
          have h9' : ¬ (9 : Int) < ((str s).size : Nat) := by rw [hz]; omega
          clear hv ht hs v0 v1 hz h0 h9 he
          go_enter Tryz.func107, Tryz.ntmps107
          go_wp2_with fail
          refine hA.mono ?_
          rintro e1 w1 ⟨rfl, hw⟩
          have HB := Lib.hid (show Bel w w1 by
            rcases hw with rfl | ⟨t, rfl⟩
            · exact Bel.refl _
            · exact bytes_bel _ _ _)
          clear hA hw
          have hk0 : ¬ (k : Int) < 0 := by omega
          go_wp2_with fail
          refine (dkItoa_any k hk _ (HT.out.bel HB.out)).mono ?_
          rintro e2 w2 ⟨rfl, hb2⟩
          have HB2 := Lib.hid (HB.out.call hb2)
          have hbn := str_beq s (Lib.itoa (k : Nat))
          rw [HQ.out] at hbn
          clear hb2
          go_wp2
          go_ret
          exact ⟨rfl, HB2.out⟩
        · have HV := Lib.hid (show numOf s = none by unfold numOf; rw [hv]; simp only; rw [if_neg (fun h => he h.2.2)])
          have HQ := Lib.hid (show decide (s = Lib.itoa (k : Nat)) = false from decide_eq_false he)
          rw [HV.out]
          have h9' : ¬ (9 : Int) < ((str s).size : Nat) := by rw [hz]; omega
          clear hv ht hs v0 v1 hz h0 h9 he
          go_enter Tryz.func107, Tryz.ntmps107
          go_wp2_with fail
          refine hA.mono ?_
          rintro e1 w1 ⟨rfl, hw⟩
          have HB := Lib.hid (show Bel w w1 by
            rcases hw with rfl | ⟨t, rfl⟩
            · exact Bel.refl _
            · exact bytes_bel _ _ _)
          clear hA hw
          have hk0 : ¬ (k : Int) < 0 := by omega
          go_wp2_with fail
          refine (dkItoa_any k hk _ (HT.out.bel HB.out)).mono ?_
          rintro e2 w2 ⟨rfl, hb2⟩
          have HB2 := Lib.hid (HB.out.call hb2)
          have hbn := str_beq s (Lib.itoa (k : Nat))
          rw [HQ.out] at hbn
          clear hb2
          go_wp2
          exact ⟨rfl, rfl, HB2.out⟩
      · have HV := Lib.hid (show numOf s = none by unfold numOf; rw [hv]; simp only; rw [if_neg (fun h => h9 h.2.1)])
        rw [HV.out]
        have h9' : (9 : Int) < ((str s).size : Nat) := by rw [hz]; omega
        clear hv ht hs v0 v1 hz h0 h9
        go_enter Tryz.func107, Tryz.ntmps107
        go_wp2_with fail
        refine hA.mono ?_
        rintro e1 w1 ⟨rfl, hw⟩
        have HB := Lib.hid (show Bel w w1 by
          rcases hw with rfl | ⟨t, rfl⟩
          · exact Bel.refl _
          · exact bytes_bel _ _ _)
        clear hA hw
        have hk0 : ¬ (k : Int) < 0 := by omega
        go_wp2
        exact ⟨rfl, rfl, HB.out.out⟩
  · have HV := Lib.hid (show numOf s = none by unfold numOf; rw [hv])
    obtain ⟨tp, p, hvar⟩ := ht.sy
    have hA := atoi_no s (by omega) hv tp p w hvar
    rw [HV.out]
    clear hv ht hs hvar
    go_enter Tryz.func107, Tryz.ntmps107
    go_wp2_with fail
    refine hA.mono ?_
    rintro e1 w1 ⟨B, rfl, hb1⟩
    have HB := Lib.hid hb1
    clear hA hb1
    go_wp2
    exact ⟨rfl, rfl, HB.out⟩
  · have HV := Lib.hid (show numOf s = none by unfold numOf; rw [hv])
    obtain ⟨tp, p, hvar⟩ := ht.rg
    have hA := Tryz.strconv_Atoi_range_var (str s) (by rw [hz]; omega) (by rw [str_all]; exact hv) tp p w hvar
    rw [HV.out]
    clear hv ht hs hvar
    go_enter Tryz.func107, Tryz.ntmps107
    go_wp2_with fail
    refine hA.mono ?_
    rintro e1 w1 ⟨B, rfl, _, _, hb1⟩
    have HB := Lib.hid hb1
    clear hA hb1
    go_wp2
    exact ⟨rfl, rfl, HB.out⟩
end Go.Proofs.YtnklpifnknmdgaaGreatDoor

/- 'deadheatkeep.RaceOne' returns true for every input and leaves its arguments as they are. No condition. -/
import Derived.Test.YtdgoeibaekkhmaaOpenTr
import Derived.Test.YtdgoeibaekkhmaaTwoRow
import Derived.Deep.DeepCutAuto
set_option linter.all false
set_option maxRecDepth 100000
namespace Go.Proofs.Ytdgoeibaekkhmaa.LRaceOne
open Go Go.ChangeShapes Go.WideShapes Go.ChangeAt Go.RowKit

def mineB (e : Ev) : Bool := e.t == 0 && decide (e.k ≤ 2)
def readB (e : Ev) : Bool := e.k != 2
theorem mine_nil (l : List Ev) : rcsA (l.filter mineB) = [] := rcsA_nil fun i j a b ha hb hij _ => by
  have h1 := (List.mem_filter.1 (List.mem_of_getElem? ha)).2
  have h2 := (List.mem_filter.1 (List.mem_of_getElem? hb)).2
  simp only [mineB, Bool.and_eq_true, beq_iff_eq, decide_eq_true_eq] at h1 h2
  exact dir_bef (thread_dir ha hb hij (by rw [h1.1, h2.1]))
theorem read_nil (l : List Ev) : rcsA (l.filter readB) = [] := rcsA_nil fun i j a b ha hb hij hc => by
  have h1 := (List.mem_filter.1 (List.mem_of_getElem? ha)).2
  have h2 := (List.mem_filter.1 (List.mem_of_getElem? hb)).2
  simp only [readB, bne_iff_ne] at h1 h2
  have := conf_bin (l := l) hc
  omega
set_option maxHeartbeats 8000000 in
theorem walk (W : World) (A : Option Addr) (n c : Nat) (l : List Ev) (s : Sl W A n l) (m : n ≤ c) (x : c ≤ maxLen) (g : ∀ e ∈ l, EvOk e) (y : n * 24 ≤ 140737488351232) :
    Calls Try.prog 8 #[.slice A n c] W fun e w' => e = .returned (.bool true) ∧ Below W.heap.size W w' := by
  unfold maxLen at x
  have hw0 : Bel W W := Bel.refl _
  have HL := Lib.hid s
  obtain ⟨i0, hi0, hz0, hz1, hz2⟩ := info_parts ev_info
  have J := Lib.hid (And.intro hi0 (And.intro hz0 (And.intro hz1 hz2)))
  clear hi0 hz0 hz1 hz2 s g
  go_enter Try.func8, Try.ntmps8
  go_wp2_with fail
  refine (raced_any _).mono ?_
  rintro e1 w1 ⟨rfl, hb1⟩
  have hw1 := hw0.call hb1
  clear hb1
  have HW1 := Lib.hid hw1
  have H0 := Lib.hid (TwoR.mk (World.ownsRow_nil _ _ _ _) (World.ownsRow_nil _ _ _ _) (fun _ h => by cases h) (Bel.refl w1) : TwoR w1 ((l.take 0).filter mineB) ((l.take 0).filter readB) (.slice none 0 0) (.slice none 0 0) w1)
  clear hw0 hw1
  go_wp2
  go_loopw [3, 4, 15] (fun v3 v4 t15 wr => ∃ i : Nat, i ≤ n ∧ t15 = .int .i64 i ∧ TwoR w1 ((l.take i).filter mineB) ((l.take i).filter readB) v3 v4 wr) (fun _ _ t15 _ => n - (intOf t15).toNat)
  case atStart => exact ⟨0, by omega, rfl, H0.out⟩
  case round =>
    obtain ⟨i, hi, rfl, hr⟩ := hrel
    have HR := Lib.hid hr
    clear hr H0
    by_cases hlt : i < n
    · have hlt' : (i : Int) < n := by omega
      obtain ⟨bb, off, e, rfl, hbb, he, hrg⟩ := HL.out.at_ hlt
      have hR := Lib.hid (rangeAt_below (HW1.out.trans HR.out.below) hbb hrg)
      have HX := Lib.hid (ewld_box wr e 43)
      have HR2 := Lib.hid (HR.out.bel (ewld_below wr e 43))
      have HE := Lib.hid he
      have HNX1 := Lib.hid (show u3.ownBlock ≠ some wr.heap.size from fun h => by have := (own_lt HR.out.own1 h).2; omega)
      have HNX2 := Lib.hid (show u4.ownBlock ≠ some wr.heap.size from fun h => by have := (own_lt HR.out.own2 h).2; omega)
      clear he hrg HR
      have HLM := Lib.hid (filter_len mineB l i)
      have HLR := Lib.hid (filter_len readB l i)
      obtain ⟨c0, c1, c2⟩ := ewld_cells wr e 43
      have HTM := Lib.hid (fun (h : mineB e = true) => take_filter_yes HE.out h)
      have HTR := Lib.hid (fun (h : readB e = true) => take_filter_yes HE.out h)
      have HFM := Lib.hid (fun (h : mineB e = false) => take_filter_no HE.out h)
      have HFR := Lib.hid (fun (h : readB e = false) => take_filter_no HE.out h)
      have HNW := Lib.hid (Box.news (l := evl e) (Box.new (ewld wr e 43) (evv e) 43))
      have HR3 := Lib.hid (HR2.out.bel ((Bel.refl _).alloc (.cells (evv e) 43)))
      have HSZ := Lib.hid HR3.out.below.size
      have HX3 := Lib.hid (HX.out.old (.cells (evv e) 43))
      cases h2 : (e.k != 2)
      · have hr2 : readB e = false := h2
        have k2 : e.k = 2 := by simpa using h2
        have hle : e.k ≤ 2 := by omega
        cases h0 : (e.t == 0)
        · have hm2 : mineB e = false := by simp [mineB, h0]
          have HS := Lib.hid (HR2.out.to (HFM.out hm2) (HFR.out hr2))
          clear hr2 hm2
          go_wp2_with (first | (refine load_ev T36 _ rfl rfl rfl hR.out ?_) | (refine ewld_store T36 _ _ rfl rfl _ rfl rfl rfl ?_))
          go_roundw
          case rel => exact ⟨i + 1, by omega, by go_num, HS.out⟩
          case measure => simp [intOf]; omega
        · have hm2 : mineB e = true := by simp [mineB, h0, hle]
          have HS := Lib.hid (And.intro (HTM.out hm2) (HFR.out hr2))
          clear hr2 hm2
          go_wp2_with (first | (refine load_ev T36 _ rfl rfl rfl hR.out ?_) | (refine ewld_store T36 _ _ rfl rfl _ rfl rfl rfl ?_) | (refine loadB _ _ rfl rfl rfl HX.out T36 ?_) | (refine build1 22 _ rfl rfl 43 i0 Try.underlying22 J.out.1 J.out.2.1 J.out.2.2.1 e rfl ?_) | (at_builtin; refine wpList_append_own_at _ rfl (.tmp 27) (.tmp 29) _ rfl w1.heap.size 43 i0 _ 3 24 Try.underlying22 J.out.1 J.out.2.1 J.out.2.2.1 J.out.2.2.2 rfl (by omega) _ ((l.take i).filter mineB).length _ rfl HR3.out.own1 _ 1 1 (evl e) rfl rfl HNW.out (by simp [evl, Value.oneCell']) (by have := HLM.out; unfold maxLen; omega) (by have := HLM.out; omega) HSZ.out ?_; intro v7 w7 hown7 hg7 hn7 hat7; have HR7 := Lib.hid (HR3.out.add1 hg7 hat7 hown7); have HX7 := Lib.hid (HX3.out.grown hg7 (fun h => HNX1.out h.symm)); have c7 := HX7.out.cell 0 (v := .int .i64 e.k) rfl))
          refine ⟨⟨i + 1, by omega, by go_num, HR7.out.to HS.out.1 HS.out.2⟩, by simp [intOf]; omega⟩
      · have hr2 : readB e = true := h2
        by_cases hle : e.k ≤ 2
        · cases h0 : (e.t == 0)
          · have hm2 : mineB e = false := by simp [mineB, h0]
            have HS := Lib.hid (And.intro (HFM.out hm2) (HTR.out hr2))
            clear hr2 hm2
            go_wp2_with (first | (refine load_ev T36 _ rfl rfl rfl hR.out ?_) | (refine ewld_store T36 _ _ rfl rfl _ rfl rfl rfl ?_) | (refine loadB _ _ rfl rfl rfl HX.out T36 ?_) | (refine build1 22 _ rfl rfl 43 i0 Try.underlying22 J.out.1 J.out.2.1 J.out.2.2.1 e rfl ?_) | (at_builtin; refine wpList_append_own_at _ rfl (.tmp 34) (.tmp 36) _ rfl w1.heap.size 43 i0 _ 3 24 Try.underlying22 J.out.1 J.out.2.1 J.out.2.2.1 J.out.2.2.2 rfl (by omega) _ ((l.take i).filter readB).length _ rfl HR3.out.own2 _ 1 1 (evl e) rfl rfl HNW.out (by simp [evl, Value.oneCell']) (by have := HLR.out; unfold maxLen; omega) (by have := HLR.out; omega) HSZ.out ?_; intro v8 w8 hown8 hg8 hn8 hat8))
            refine ⟨⟨i + 1, by omega, by go_num, (HR3.out.add2 hg8 hat8 hown8).to HS.out.1 HS.out.2⟩, by simp [intOf]; omega⟩
          · have hm2 : mineB e = true := by simp [mineB, h0, hle]
            have HS := Lib.hid (And.intro (HTM.out hm2) (HTR.out hr2))
            clear hr2 hm2
            go_wp2_with (first | (refine load_ev T36 _ rfl rfl rfl hR.out ?_) | (refine ewld_store T36 _ _ rfl rfl _ rfl rfl rfl ?_) | (refine loadB _ _ rfl rfl rfl HX.out T36 ?_) | (refine loadB _ _ rfl rfl rfl HX7.out T36 ?_) | (refine build1 22 _ rfl rfl 43 i0 Try.underlying22 J.out.1 J.out.2.1 J.out.2.2.1 e rfl ?_) | (at_builtin; refine wpList_append_own_at _ rfl (.tmp 27) (.tmp 29) _ rfl w1.heap.size 43 i0 _ 3 24 Try.underlying22 J.out.1 J.out.2.1 J.out.2.2.1 J.out.2.2.2 rfl (by omega) _ ((l.take i).filter mineB).length _ rfl HR3.out.own1 _ 1 1 (evl e) rfl rfl HNW.out (by simp [evl, Value.oneCell']) (by have := HLM.out; unfold maxLen; omega) (by have := HLM.out; omega) HSZ.out ?_; intro v7 w7 hown7 hg7 hn7 hat7; have HR7 := Lib.hid (HR3.out.add1 hg7 hat7 hown7); have HX7 := Lib.hid (HX3.out.grown hg7 (fun h => HNX1.out h.symm)); have c7 := HX7.out.cell 0 (v := .int .i64 e.k) rfl) | (at_builtin; refine wpList_append_own_at _ rfl (.tmp 34) (.tmp 36) _ rfl w1.heap.size 43 i0 _ 3 24 Try.underlying22 J.out.1 J.out.2.1 J.out.2.2.1 J.out.2.2.2 rfl (by omega) _ ((l.take i).filter readB).length _ rfl (HR7.out.bel ((Bel.refl _).alloc (.cells (evv e) 43))).own2 _ 1 1 (evl e) rfl rfl (Box.news (l := evl e) (Box.new w7 (evv e) 43)) (by simp [evl, Value.oneCell']) (by have := HLR.out; unfold maxLen; omega) (by have := HLR.out; omega) (HR7.out.bel ((Bel.refl _).alloc (.cells (evv e) 43))).below.size ?_; intro v8 w8 hown8 hg8 hn8 hat8))
            refine ⟨⟨i + 1, by omega, by go_num, ((HR7.out.bel ((Bel.refl _).alloc (.cells (evv e) 43))).add2 hg8 hat8 hown8).to HS.out.1 HS.out.2⟩, by simp [intOf]; omega⟩
        · have hm2 : mineB e = false := by simp [mineB, hle]
          have HS := Lib.hid (And.intro (HFM.out hm2) (HTR.out hr2))
          have hle' : 2 < e.k := by omega
          clear hr2 hm2
          cases h0 : (e.t == 0)
          · go_wp2_with (first | (refine load_ev T36 _ rfl rfl rfl hR.out ?_) | (refine ewld_store T36 _ _ rfl rfl _ rfl rfl rfl ?_) | (refine loadB _ _ rfl rfl rfl HX.out T36 ?_) | (refine build1 22 _ rfl rfl 43 i0 Try.underlying22 J.out.1 J.out.2.1 J.out.2.2.1 e rfl ?_) | (at_builtin; refine wpList_append_own_at _ rfl (.tmp 34) (.tmp 36) _ rfl w1.heap.size 43 i0 _ 3 24 Try.underlying22 J.out.1 J.out.2.1 J.out.2.2.1 J.out.2.2.2 rfl (by omega) _ ((l.take i).filter readB).length _ rfl HR3.out.own2 _ 1 1 (evl e) rfl rfl HNW.out (by simp [evl, Value.oneCell']) (by have := HLR.out; unfold maxLen; omega) (by have := HLR.out; omega) HSZ.out ?_; intro v8 w8 hown8 hg8 hn8 hat8))
            refine ⟨⟨i + 1, by omega, by go_num, (HR3.out.add2 hg8 hat8 hown8).to HS.out.1 HS.out.2⟩, by simp [intOf]; omega⟩
          · go_wp2_with (first | (refine load_ev T36 _ rfl rfl rfl hR.out ?_) | (refine ewld_store T36 _ _ rfl rfl _ rfl rfl rfl ?_) | (refine loadB _ _ rfl rfl rfl HX.out T36 ?_) | (refine build1 22 _ rfl rfl 43 i0 Try.underlying22 J.out.1 J.out.2.1 J.out.2.2.1 e rfl ?_) | (at_builtin; refine wpList_append_own_at _ rfl (.tmp 34) (.tmp 36) _ rfl w1.heap.size 43 i0 _ 3 24 Try.underlying22 J.out.1 J.out.2.1 J.out.2.2.1 J.out.2.2.2 rfl (by omega) _ ((l.take i).filter readB).length _ rfl HR3.out.own2 _ 1 1 (evl e) rfl rfl HNW.out (by simp [evl, Value.oneCell']) (by have := HLR.out; unfold maxLen; omega) (by have := HLR.out; omega) HSZ.out ?_; intro v8 w8 hown8 hg8 hn8 hat8))
            refine ⟨⟨i + 1, by omega, by go_num, (HR3.out.add2 hg8 hat8 hown8).to HS.out.1 HS.out.2⟩, by simp [intOf]; omega⟩
    · obtain rfl : i = n := by omega
      have HT := Lib.hid (show l.take i = l by rw [← HL.out.1, List.take_length])
      have hr := HR.out
      rw [HT.out] at hr
      obtain ⟨A3, c3, rfl, hs3, _⟩ := Sl.own hr.own1
      obtain ⟨A4, c4, rfl, hs4, _⟩ := Sl.own hr.own2
      have hw1 := HW1.out.trans hr.below
      have HS3 := Lib.hid hs3
      have HS4 := Lib.hid hs4
      have HM := Lib.hid (mine_nil l)
      have HRD := Lib.hid (read_nil l)
      clear hr hs3 hs4 HR
      generalize l.filter mineB = LM at *
      generalize l.filter readB = LR at *
      go_wp2_with fail
      refine (all_zero A3 _ c3 LM _ HS3.out (fun _ => HM.out)).mono ?_
      rintro e2 w2 ⟨B2, d2, rfl, hb2⟩
      have hw2 := hw1.call hb2
      replace HS4 := Lib.hid (HS4.out.bel (Bel.of hb2))
      clear hb2
      go_wp2_with fail
      refine (all_zero A4 _ c4 LR _ HS4.out (fun _ => HRD.out)).mono ?_
      rintro e3 w3 ⟨B3, d3, rfl, hb3⟩
      have hw3 := hw2.call hb3
      clear hb3
      generalize may LM = x1 at *
      generalize may LR = x2 at *
      cases h1 : (x1 != 0) <;> cases h2 : (x2 != 0) <;> (go_wp2; go_ret; exact ⟨rfl, hw3⟩)

set_option maxRecDepth 100000 in
theorem lifted (os : Os) (started : os.Started) (H : Type) (enc : TypeId × Value → H) :
    ReturnsInHanded {} Try.checked os 8 .any (Rows.raceOneSpec.pre6 enc Try.prog Try.f8 Rows.raceOneRow.domain false) (Rows.raceOneSpec.post enc Try.prog Try.f8 false true false false) := by
  refine returnsInHanded_of_change_sized (C := Try.checked) own started (by kernel_rfl) Try.func8
    (ChangeSpec.witness6 (enc := enc) (C := Try.checked) false ⟨#[], #[.slice none 0 0], []⟩ 8 (by kernel_rfl) (by kernel_rfl) (by kernel_rfl) (by kernel_rfl)) ?_
  intro W base args ds gs before hval0 hW hcnd hsz0 _
  have hsz : (DataW.weightsEach Try.prog (Try.f8.params.toList ++ Rows.raceOneSpec.plain.varTypes Try.prog) (ds ++ gs)).all (· ≤ reachBytes) = true := hsz0
  clear hsz0
  have hval : ∀ (j : Nat) t v, Try.f8.params[j]? = some t → args[j]? = some v → Value.okWide Try.prog W .any base t v := hval0
  have hW' := hW
  obtain ⟨p, q, hA0, hV, rfl, hfz, hnd⟩ := hW
  have hA : DataW.TrodAll enc Try.prog W 0 (fun _ => true) true Try.f8.params.toList args.toList ds p := hA0
  rw [Try.params8] at hA hval hsz
  obtain ⟨v0, vs0, d0, ds0, p0, q0, hargs, rfl, rfl, h0, r0⟩ := trodAll_cons hA
  obtain ⟨rfl, rfl, rfl⟩ := trodAll_nil r0
  obtain rfl : args = #[v0] := by cases args; simp_all
  obtain ⟨rfl, rfl⟩ := trodVars_none hV
  have t0 := h0
  have lt0 : ∀ x ∈ p0, x.block < W.heap.size := by obtain ⟨m, hm⟩ := t0; exact DataW.trod_lt m _ _ _ hm
  obtain ⟨A0, n0, c0, l0, rfl, s0, m0, x0, g0, z0⟩ := open_evs Try.underlying22 Try.underlying43 ⟨rfl, rfl, rfl⟩ (by kernel_rfl) (by kernel_rfl) Try.underlying3 (hval 0 22 v0 rfl rfl) h0
  have y0 := reach_sl hsz (j := 0) rfl rfl Try.underlying22 (b := 24) (by kernel_rfl) z0
  clear hA0 hval0
  refine (walk W A0 n0 c0 l0 s0 m0 x0 g0 y0).mono fun e W' ⟨he, bel⟩ => ?_
  subst he
  exact ⟨_, rfl, _, _, _, [], _, [], hW', trodAll_mk1 (shut_bool Try.underlying4 _), (trodAll_cons_mk (Below.trod laidOut (by kernel_rfl) (of_decide_eq_true (by kernel_rfl)) t0 bel lt0) trodAll_mk0), rfl, bel.frame _, fun h => by cases h⟩

theorem over : Rows.raceOneRow.holds Try.pinned (OpenSpec.ofChange Rows.raceOneSpec) :=
  OpenClaim.holds_of_wide 8 Try.f8 rfl rfl rfl rfl rfl rfl rfl ⟨rfl, rfl, rfl, rfl, rfl⟩ rfl rfl rfl rfl rfl (by kernel_rfl) Try.func8 (by kernel_rfl)
    (of_decide_eq_true (by kernel_rfl)) (by unfold Func.isWrapper; first | (rw [if_pos (by decide +kernel)]; kernel_rfl) | (rw [if_neg (by decide +kernel)]; exact ⟨rfl, rfl⟩))
    (fun os started H enc _ => lifted os started H enc)

theorem proved : Rows.RaceOneSaid := over
#print axioms proved
end Go.Proofs.Ytdgoeibaekkhmaa.LRaceOne

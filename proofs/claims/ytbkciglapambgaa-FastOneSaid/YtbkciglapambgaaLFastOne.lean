/- 'deadheatkeep.FastOne' returns true for every input and leaves its arguments as they are. No condition. -/
import Derived.Test.YtbkciglapambgaaOpen
import Derived.Test.YtbkciglapambgaaKeepFa
import Derived.Deep.DeepCutAuto
set_option linter.all false
set_option maxRecDepth 100000
namespace Go.Proofs.Ytbkciglapambgaa.LFastOne
open Go Go.ChangeShapes Go.WideShapes Go.ChangeAt Go.RowKit

def oneB (e : Ev) : Bool := !(e.k == 1) || (e.t == e.o.tmod 6)
theorem ofilter_yes {l : List Ev} {i : Nat} {e : Ev} (h : l[i]? = some e) (hp : oneB e = true) : (l.take (i + 1)).filter oneB = (l.take i).filter oneB ++ [e] := by
  rw [take_snoc' h, List.filter_append]; simp [hp]
theorem ofilter_no {l : List Ev} {i : Nat} {e : Ev} (h : l[i]? = some e) (hp : oneB e = false) : (l.take (i + 1)).filter oneB = (l.take i).filter oneB := by
  rw [take_snoc' h, List.filter_append]; simp [hp]
theorem slow_one (l : List Ev) : fslow (l.filter oneB) = 0 := by
  unfold fslow
  split
  · rename_i hm
    refine slT_one hm (fun i hi hk => ?_) _ (Nat.le_refl _)
    have he := eZ_get hi
    have hmem := List.mem_filter.1 (List.mem_of_getElem? he)
    have h1 := isEv_t (eZ_ok hm hi)
    have h2 := isEv_o (eZ_ok hm hi)
    have hb := hmem.2
    unfold kZ at hk
    unfold tZ oZ
    generalize eZ (l.filter oneB) i = e at *
    unfold oneB at hb
    rw [hk] at hb
    simp at hb
    rw [Int.tmod_eq_emod_of_nonneg h2.1] at hb
    omega
  · rfl
theorem ofilter_len (l : List Ev) (i : Nat) : ((l.take i).filter oneB).length ≤ i := Nat.le_trans (List.length_filter_le _ _) (by rw [List.length_take]; omega)
structure OneR (w : World) (L : List Ev) (v : Value) (wr : World) : Prop where
  own : wr.ownsRow w.heap.size 50 3 v L.length (evc L)
  below : Bel w wr
set_option maxHeartbeats 8000000 in
theorem walk (W : World) (A : Option Addr) (n c : Nat) (l : List Ev) (s : Sl W A n l) (m : n ≤ c) (x : c ≤ maxLen) (g : ∀ e ∈ l, EvOk e) (y : n * 24 ≤ 140737488351232) :
    Calls Try.prog 10 #[.slice A n c] W fun e w' => e = .returned (.bool true) ∧ Below W.heap.size W w' := by
  unfold maxLen at x
  have hw0 : Bel W W := Bel.refl _
  have HL := Lib.hid s
  have HN := Lib.hid s.1
  obtain ⟨i0, hi0, hz0, hz1, hz2⟩ := info_parts ev_info
  have J := Lib.hid (And.intro hi0 (And.intro hz0 (And.intro hz1 hz2)))
  have HG := Lib.hid g
  clear s g hi0 hz0 hz1 hz2
  go_enter Try.func10, Try.ntmps10
  go_wp2_with fail
  refine (fasted_any _).mono ?_
  rintro e1 w1 ⟨rfl, hb1⟩
  have hw1 := hw0.call hb1
  clear hb1
  have HW1 := Lib.hid hw1
  have H0 := Lib.hid (OneR.mk (World.ownsRow_nil _ _ _ _) (Bel.refl w1) : OneR w1 ((l.take 0).filter oneB) (.slice none 0 0) w1)
  clear hw1 hw0
  go_wp2
  go_loopw [3, 14] (fun v t14 wr => ∃ i : Nat, i ≤ n ∧ t14 = .int .i64 i ∧ OneR w1 ((l.take i).filter oneB) v wr) (fun _ t14 _ => n - (intOf t14).toNat)
  case atStart => exact ⟨0, by omega, rfl, H0.out⟩
  case round =>
    obtain ⟨i, hi, rfl, hr⟩ := hrel
    have HR := Lib.hid hr
    clear hr H0
    by_cases hlt : i < n
    · have hlt' : (i : Int) < n := by omega
      obtain ⟨bb, off, ⟨ek, et, eo⟩, rfl, hbb, he, hrg⟩ := HL.out.at_ hlt
      have hR := Lib.hid (rangeAt_below (HW1.out.trans HR.out.below).out hbb hrg)
      have HX := Lib.hid (ewld_box wr ⟨ek, et, eo⟩ 50)
      have hb5 := ewld_below wr ⟨ek, et, eo⟩ 50
      have HO := Lib.hid (own_bel HR.out.own hb5)
      have HB5 := Lib.hid (HR.out.below.trans hb5)
      have HE := Lib.hid he
      have HLE := Lib.hid (ofilter_len l i)
      obtain ⟨c0, c1, c2⟩ := ewld_cells wr ⟨ek, et, eo⟩ 50
      clear he hrg hb5
      cases hp : oneB ⟨ek, et, eo⟩
      · have HS := Lib.hid (ofilter_no HE.out hp)
        unfold oneB at hp
        simp only [Bool.or_eq_false_iff, Bool.not_eq_false'] at hp
        obtain rfl := eq_of_beq hp.1
        have hq := hp.2
        go_wp2_with (first | (refine load_ev T36 _ rfl rfl rfl hR.out ?_) | (refine ewld_store T36 _ _ rfl rfl _ rfl rfl rfl ?_))
        go_roundw
        case rel => exact ⟨i + 1, by omega, by go_num, ⟨by rw [HS.out]; exact HO.out, HB5.out⟩⟩
        case measure => simp [intOf]; omega
      · have HS := Lib.hid (ofilter_yes HE.out hp)
        have HA := Lib.hid (own_alloc HO.out (.cells (evv ⟨ek, et, eo⟩) 50))
        have HNW := Lib.hid (Box.news (l := evl ⟨ek, et, eo⟩) (Box.new (ewld wr ⟨ek, et, eo⟩ 50) (evv ⟨ek, et, eo⟩) 50))
        have HSZ := Lib.hid (HB5.out.alloc (.cells (evv ⟨ek, et, eo⟩) 50)).size
        unfold oneB at hp
        by_cases hk : ek = 1
        · subst hk
          have hq : (et == eo.tmod 6) = true := by simpa using hp
          go_wp2_with (first | (refine load_ev T36 _ rfl rfl rfl hR.out ?_) | (refine ewld_store T36 _ _ rfl rfl _ rfl rfl rfl ?_) | (refine loadB _ _ rfl rfl rfl HX.out T36 ?_) | (refine build1 22 _ rfl rfl 50 i0 Try.underlying22 J.out.1 J.out.2.1 J.out.2.2.1 ⟨1, et, eo⟩ rfl ?_) | (at_builtin; refine wpList_append_own_at _ rfl (.tmp 29) (.tmp 31) _ rfl w1.heap.size 50 i0 _ 3 24 Try.underlying22 J.out.1 J.out.2.1 J.out.2.2.1 J.out.2.2.2 rfl (by omega) _ ((l.take i).filter oneB).length _ rfl HA.out _ 1 1 (evl ⟨1, et, eo⟩) rfl rfl HNW.out (by simp [evl, Value.oneCell']) (by have := HLE.out; unfold maxLen; omega) (by have := HLE.out; omega) HSZ.out ?_; intro v7 w7 hown7 hg7 hn7 hat7))
          refine ⟨⟨i + 1, by omega, by go_num, ⟨?_, (HB5.out.alloc _).out.grown hg7 HSZ.out (own_block_ge HA.out)⟩⟩, by simp [intOf]; omega⟩
          rw [HS.out, List.length_append, evc_append]
          exact hown7
        · have hq : (ek != 1) = true := by simpa using hk
          clear hp hk
          go_wp2_with (first | (refine load_ev T36 _ rfl rfl rfl hR.out ?_) | (refine ewld_store T36 _ _ rfl rfl _ rfl rfl rfl ?_) | (refine loadB _ _ rfl rfl rfl HX.out T36 ?_) | (refine build1 22 _ rfl rfl 50 i0 Try.underlying22 J.out.1 J.out.2.1 J.out.2.2.1 ⟨ek, et, eo⟩ rfl ?_) | (at_builtin; refine wpList_append_own_at _ rfl (.tmp 29) (.tmp 31) _ rfl w1.heap.size 50 i0 _ 3 24 Try.underlying22 J.out.1 J.out.2.1 J.out.2.2.1 J.out.2.2.2 rfl (by omega) _ ((l.take i).filter oneB).length _ rfl HA.out _ 1 1 (evl ⟨ek, et, eo⟩) rfl rfl HNW.out (by simp [evl, Value.oneCell']) (by have := HLE.out; unfold maxLen; omega) (by have := HLE.out; omega) HSZ.out ?_; intro v7 w7 hown7 hg7 hn7 hat7))
          refine ⟨⟨i + 1, by omega, by go_num, ⟨?_, (HB5.out.alloc _).out.grown hg7 HSZ.out (own_block_ge HA.out)⟩⟩, by simp [intOf]; omega⟩
          rw [HS.out, List.length_append, evc_append]
          exact hown7
    · obtain rfl : i = n := by omega
      have HT := Lib.hid (show l.take i = l by rw [← HN.out, List.take_length])
      have hr := HR.out
      rw [HT.out] at hr
      obtain ⟨A9, c9, rfl, hs9, hn9, hm9⟩ := Sl.own hr.own
      have HS9 := Lib.hid hs9
      have HW9 := Lib.hid (HW1.out.trans hr.below)
      have HZ := Lib.hid (slow_one l)
      have h2 : (may (l.filter oneB) == may (l.filter oneB)) = true := by simp
      clear hr hs9 hn9 hm9 HR
      go_wp2_with fail
      refine (fslow_any A9 _ c9 _ _ HS9.out).mono ?_
      rintro e10 w10 ⟨rfl, hb10⟩
      rw [HZ.out]
      have HW10 := Lib.hid (HW9.out.call hb10)
      have HS10 := Lib.hid (HS9.out.bel (Bel.of hb10))
      clear hb10
      go_wp2_with fail
      refine (check_any A9 _ c9 _ _ HS10.out).mono ?_
      rintro e11 w11 ⟨rfl, hb11⟩
      have hw11 := HW10.out.call hb11
      clear hb11
      change (may (l.filter oneB) == may (l.filter oneB)) = true at h2
      go_wp2
      go_ret
      exact ⟨rfl, hw11⟩

set_option maxRecDepth 100000 in
theorem lifted (os : Os) (started : os.Started) (H : Type) (enc : TypeId × Value → H) :
    ReturnsInHanded {} Try.checked os 10 .any (Rows.fastOneSpec.pre6 enc Try.prog Try.f10 Rows.fastOneRow.domain false) (Rows.fastOneSpec.post enc Try.prog Try.f10 false true false false) := by
  refine returnsInHanded_of_change_sized (C := Try.checked) own started (by kernel_rfl) Try.func10
    (ChangeSpec.witness6 (enc := enc) (C := Try.checked) false ⟨#[], #[.slice none 0 0], []⟩ 8 (by kernel_rfl) (by kernel_rfl) (by kernel_rfl) (by kernel_rfl)) ?_
  intro W base args ds gs before hval0 hW hcnd hsz0 _
  have hsz : (DataW.weightsEach Try.prog (Try.f10.params.toList ++ Rows.fastOneSpec.plain.varTypes Try.prog) (ds ++ gs)).all (· ≤ reachBytes) = true := hsz0
  clear hsz0
  have hval : ∀ (j : Nat) t v, Try.f10.params[j]? = some t → args[j]? = some v → Value.okWide Try.prog W .any base t v := hval0
  have hW' := hW
  obtain ⟨p, q, hA0, hV, rfl, hfz, hnd⟩ := hW
  have hA : DataW.TrodAll enc Try.prog W 0 (fun _ => true) true Try.f10.params.toList args.toList ds p := hA0
  rw [Try.params10] at hA hval hsz
  obtain ⟨v0, vs0, d0, ds0, p0, q0, hargs, rfl, rfl, h0, r0⟩ := trodAll_cons hA
  obtain ⟨rfl, rfl, rfl⟩ := trodAll_nil r0
  obtain rfl : args = #[v0] := by cases args; simp_all
  obtain ⟨rfl, rfl⟩ := trodVars_none hV
  have t0 := h0
  have lt0 : ∀ x ∈ p0, x.block < W.heap.size := by obtain ⟨m, hm⟩ := t0; exact DataW.trod_lt m _ _ _ hm
  obtain ⟨A0, n0, c0, l0, rfl, s0, m0, x0, g0, z0⟩ := open_evs Try.underlying22 Try.underlying50 ⟨rfl, rfl, rfl⟩ (by kernel_rfl) (by kernel_rfl) Try.underlying3 (hval 0 22 v0 rfl rfl) h0
  have y0 := reach_sl hsz (j := 0) rfl rfl Try.underlying22 (b := 24) (by kernel_rfl) z0
  clear hA0 hval0
  refine (walk W A0 n0 c0 l0 s0 m0 x0 g0 y0).mono fun e W' ⟨he, bel⟩ => ?_
  subst he
  exact ⟨_, rfl, _, _, _, [], _, [], hW', trodAll_mk1 (shut_bool Try.underlying4 _), (trodAll_cons_mk (Below.trod laidOut (by kernel_rfl) (of_decide_eq_true (by kernel_rfl)) t0 bel lt0) trodAll_mk0), rfl, bel.frame _, fun h => by cases h⟩

theorem over : Rows.fastOneRow.holds Try.pinned (OpenSpec.ofChange Rows.fastOneSpec) :=
  OpenClaim.holds_of_wide 10 Try.f10 rfl rfl rfl rfl rfl rfl rfl ⟨rfl, rfl, rfl, rfl, rfl⟩ rfl rfl rfl rfl rfl (by kernel_rfl) Try.func10 (by kernel_rfl)
    (of_decide_eq_true (by kernel_rfl)) (by unfold Func.isWrapper; first | (rw [if_pos (by decide +kernel)]; kernel_rfl) | (rw [if_neg (by decide +kernel)]; exact ⟨rfl, rfl⟩))
    (fun os started H enc _ => lifted os started H enc)

theorem proved : Rows.FastOneSaid := over
#print axioms proved
end Go.Proofs.Ytbkciglapambgaa.LFastOne

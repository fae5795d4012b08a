/- 'deadheatkeep.RingTrue' returns true for every input and leaves its arguments as they are. No condition. -/
import Derived.Test.YtoaehoildnanpaaKeepRg
import Derived.Test.YtoaehoildnanpaaRgK
set_option linter.all false
set_option maxRecDepth 100000
namespace Go.Proofs.Ytoaehoildnanpaa.LRingTrue
open Go Go.ChangeShapes Go.WideShapes Go.ChangeAt Go.RowKit

def sw (p : Int × Int) : Int × Int := (p.2, p.1)
theorem pq_sw (q : List (Int × Int)) : Pq (q.map sw) = fun a b => Pq q b a := by
  funext a b
  unfold Pq
  refine decide_eq_decide.2 ⟨fun h => ?_, fun h => List.mem_map.2 ⟨_, h, rfl⟩⟩
  obtain ⟨⟨x, y⟩, hx, he⟩ := List.mem_map.1 h
  cases he
  exact hx
theorem sw_in {q : List (Int × Int)} (h : q.any qbad = false) : (q.map sw).any qbad = false := by
  rw [List.any_eq_false] at h ⊢
  intro x hx
  obtain ⟨⟨a, b⟩, hm, rfl⟩ := List.mem_map.1 hx
  have := h _ hm
  simp only [qbad, sw, Bool.or_eq_true, not_or] at this ⊢
  exact ⟨this.2, this.1⟩
/-- What a ring's places tell. -/
theorem ring_at {q : List (Int × Int)} {r : List Nat} (h : RingOk (Pq q) r) {i : Nat} (hi : i < r.length) :
    (((at0 r i : Nat) : Int), ((at0 r ((i + 1) % r.length) : Nat) : Int)) ∈ q ∧ ((at0 r i : Nat) : Int) ∉ toI (r.take i) ∧ at0 r 0 ≤ at0 r i := by
  have hne : r ≠ [] := fun e => by subst e; simp at hi
  have hc := ringOk_cyc h hne
  refine ⟨?_, ?_, ?_⟩
  · have h1 := (cyc_iff (by omega)).1 hc
    unfold isR at h1
    rw [List.all_eq_true] at h1
    exact of_decide_eq_true (h1 i (List.mem_range.2 hi))
  · have hn : r.Nodup := by
      rcases h with ⟨h, _⟩ | ⟨_, h2, _⟩
      · exact absurd h hne
      · exact least_nodup hc h2
    rw [toI_mem]
    intro hm
    obtain ⟨j, hj, he⟩ := List.mem_take_iff_getElem.1 hm
    have hji : j < i := by omega
    have e1 : at0 r i = r[i] := by unfold at0; rw [List.getElem?_eq_getElem hi]; rfl
    rw [e1] at he
    exact absurd ((List.getElem_inj hn).1 he) (by omega)
  · cases r with
    | nil => exact absurd rfl hne
    | cons a t =>
      refine ring_first h _ ?_
      have e1 : at0 (a :: t) i = (a :: t)[i] := by unfold at0; rw [List.getElem?_eq_getElem hi]; rfl
      rw [e1]
      exact List.getElem_mem hi
set_option maxHeartbeats 8000000 in
theorem walk (W : World) (A : Option Addr) (n c : Nat) (l : List (Int × Int)) (s : SlQ W A n l) (m : n ≤ c) (x : c ≤ maxLen) (g : ∀ e ∈ l, QrOk e) (y : n * 16 ≤ 140737488351232) (a : Int) (k : In64 a) :
    Calls Try.prog 6 #[.slice A n c, .int .i64 a] W fun e w' => e = .returned (.bool true) ∧ Below W.heap.size W w' := by
  have HL := Lib.hid s
  have HG := Lib.hid g
  clear m x s g k
  have hn : (n : Int) ≤ 8796093022207 := by omega
  obtain ⟨i0, hi0, hz0, hz1, hz2⟩ := info_parts pr_info
  have J := Lib.hid (And.intro hi0 (And.intro hz0 (And.intro hz1 hz2)))
  clear hi0 hz0 hz1 hz2
  go_enter Try.func6, Try.ntmps6
  go_wp2_with fail
  refine (ringed_any ring_any W).mono ?_
  rintro e w1 ⟨rfl, hb1⟩
  have HW1 := Lib.hid (Bel.of hb1)
  clear hb1
  go_wp2_with fail
  refine (locks_any A n c l w1 (HL.out.bel HW1.out) y HG.out).mono ?_
  rintro e w2 ⟨v2, rfl, ho2, hb2⟩
  rw [HL.out.1] at ho2
  obtain ⟨A2, c2, rfl, hs2, hm2, hx2⟩ := SlQ.own ho2
  have HS2 := Lib.hid hs2
  have HX2 := Lib.hid (And.intro hm2 hx2)
  have HW2 := Lib.hid (HW1.out.call hb2)
  have HIN := Lib.hid (lk_in l)
  clear ho2 hs2 hb2
  generalize l.map lk = q at *
  go_wp2_with fail
  refine (ring_own A2 n c2 q w2 HS2.out HX2.out.1 HX2.out.2).mono ?_
  rintro e w4 ⟨r, A4, d4, c4, rfl, hB4, ho4, hb4⟩
  obtain ⟨rfl, hR4⟩ := ringB_in HIN.out hB4
  have HR4 := Lib.hid hR4
  have HO4 := Lib.hid ho4
  have HB4 := Lib.hid (Bel.of hb4)
  have HS4 := Lib.hid (HS2.out.bel HB4.out)
  have HAT := Lib.hid (fun (i : Nat) (hi : i < r.length) => ring_at hR4 hi)
  have hr5 : r.length ≤ 5 := by
    rcases hR4 with ⟨rfl, _⟩ | ⟨h1, h2, _⟩
    · simp
    · exact nodup_five (least_nodup h1 h2) (cyc_five (pq_five HIN.out) h1)
  generalize hnr : r.length = nr at *
  have HNR := Lib.hid hnr
  have HW4 := Lib.hid (HW2.out.trans HB4.out)
  clear hB4 hb4 hR4 ho4 hnr
  unfold maxLen at hx2
  go_wp2
  go_loopw [25] (fun t wr => ∃ j : Nat, j ≤ nr ∧ t = .int .i64 j ∧ Bel w4 wr) (fun t _ => nr - (intOf t).toNat)
  case atStart => exact ⟨0, by omega, rfl, Bel.refl _⟩
  case round =>
    obtain ⟨j, hj, rfl, hbr⟩ := hrel
    have HB := Lib.hid hbr
    clear hbr
    by_cases hlt : j < nr
    · have hrn : r ≠ [] := fun e => by subst e; have := HNR.out; simp at this; omega
      obtain ⟨g, cc, hve, _, hncc, hcmm, hcell⟩ := own_at (own_bel HO4.out HB.out) hrn
      cases hve
      rw [HNR.out] at hcell
      obtain ⟨h1, h2, h3⟩ := HAT.out j hlt
      obtain ⟨k', hk'⟩ : ∃ k', (j + 1) % nr = k' := ⟨_, rfl⟩
      have hk5 : k' < nr := by rw [← hk']; exact Nat.mod_lt _ (by omega)
      have hki : ((j : Int) + 1) % (nr : Int) = (k' : Nat) := by rw [← hk']; exact (Int.natCast_emod (j + 1) nr).symm
      rw [hk'] at h1
      have cj := hcell j hlt
      have ck := hcell k' hk5
      have c0 := hcell 0 (by omega)
      have HSI := Lib.hid (show ∀ w', Bel wr w' → SI w' (some ⟨g, 0, none⟩) j (toI (r.take j)) from fun w' hw' => ⟨by rw [toI, List.length_map, List.length_take, HNR.out]; omega, fun _ => ⟨g, 0, rfl, fun i hi => by
        rw [Nat.zero_add, toI_at, hw'.cell (hcell i (by omega))]
        unfold at0
        rw [List.getElem?_take_of_lt hi]⟩⟩)
      generalize at0 r j = x at *
      generalize at0 r k' = z at *
      generalize at0 r 0 = u at *
      have HIN1 := Lib.hid (decide_eq_true h1)
      have HNI := Lib.hid (decide_eq_false h2)
      have hlt' : (j : Int) < nr := by omega
      have hk6 : (k' : Int) < nr := by omega
      have hjd : (j : Int) ≤ d4 := by omega
      have hux : ¬ (x : Int) < u := by omega
      have hw1 : IntKind.i64.wrap ((j : Int) + 1) = (j : Int) + 1 := IntWalk.i64_in _ (by omega)
      have hnz : ¬ (nr : Int) = 0 := by omega
      clear hcell h1 h2 h3 hk' hncc hcmm
      go_wp2_with (first | (go_at_call 24; (with_reducible refine (hasp_two A2 n c2 q _ _ _ (HS4.out.bel HB.out) (by omega)).mono ?_); rintro e9 w9 ⟨rfl, hb9⟩; rw [HIN1.out]; have HB9 := Lib.hid (Bel.of hb9); have c09 := (Bel.of hb9).cell c0; clear hb9) | (go_at_call 25; (with_reducible refine (hasint_any (some ⟨g, 0, none⟩) j d4 (toI (r.take j)) _ _ (HSI.out _ HB9.out) (by omega)).mono ?_); rintro e w' ⟨rfl, rfl⟩; rw [HNI.out]))
      go_roundw
      case rel => exact ⟨j + 1, by omega, by go_num, HB.out.trans HB9.out⟩
      case measure => simp [intOf]; omega
    · obtain rfl : j = nr := by omega
      have H0 := Lib.hid (World.ownsRow_nil wr w4.heap.size 31 2)
      have HB5 := Lib.hid HB.out
      clear HAT HO4
      go_wp2
      go_loopw [9, 60] (fun v t wq => ∃ i : Nat, i ≤ n ∧ t = .int .i64 i ∧ wq.ownsRow w4.heap.size 31 2 v i (qrc ((q.take i).map sw)) ∧ Bel w4 wq) (fun _ t _ => n - (intOf t).toNat)
      case atStart => exact ⟨0, by omega, rfl, H0.out, HB5.out⟩
      case round =>
        obtain ⟨i, hi, rfl, ho, hbq⟩ := hrel
        have HO := Lib.hid ho
        have HBQ := Lib.hid hbq
        clear ho hbq H0 HB5
        by_cases hlt : i < n
        · obtain ⟨bb, off, e, rfl, hbb, he, hrg⟩ := (HS4.out.bel HBQ.out).at_ hlt
          have hlt' : (i : Int) < n := by omega
          have hR := Lib.hid hrg
          have HT := Lib.hid (qtake_snoc he)
          have HX := Lib.hid (qwld_box wr e 31)
          have HBW := Lib.hid (HBQ.out.trans (qwld_below wr e 31))
          have HO3 := Lib.hid (own_bel HO.out (qwld_below wr e 31))
          have e0 := HX.out.cell 0 (v := .int .i64 e.1) rfl
          have e1 := HX.out.cell 1 (v := .int .i64 e.2) rfl
          have HA := Lib.hid (own_alloc HO3.out (.cells (qrv (sw e)) 31))
          have HNW := Lib.hid (Box.news (l := qrl (sw e)) (Box.new (qwld wr e 31) (qrv (sw e)) 31))
          have HSZ := Lib.hid (HBW.out.alloc (.cells (qrv (sw e)) 31)).size
          clear hrg he hbb
          go_wp2_with (first | (refine load_qr TPr _ rfl rfl rfl hR.out ?_) | (refine qwld_store TPr _ _ rfl rfl _ rfl rfl rfl ?_) | (refine buildq 23 _ rfl rfl 31 i0 Try.underlying23 J.out.1 J.out.2.1 J.out.2.2.1 (sw e) rfl ?_) | (at_builtin; refine wpList_append_own_at _ rfl (.tmp 64) (.tmp 70) _ rfl w4.heap.size 31 i0 _ 2 16 Try.underlying23 J.out.1 J.out.2.1 J.out.2.2.1 J.out.2.2.2 rfl (by omega) _ i _ rfl HA.out ⟨(qwld wr e 31).heap.size, 0, none⟩ 1 1 (qrl (sw e)) rfl rfl HNW.out (by simp [qrl, Value.oneCell']) (by unfold maxLen; omega) (by omega) HSZ.out ?_; intro v5 w5 hown5 hg5 hn5 hat5))
          refine ⟨⟨i + 1, by omega, by go_num, ?_, Bel.of ((HBW.out.alloc _).out.grown hg5 HSZ.out (own_block_ge HA.out))⟩, by simp [intOf]; omega⟩
          rw [HT.out, List.map_append, qrc_append]
          exact hown5
        · obtain rfl : i = n := by omega
          have ho := HO.out
          rw [qtake_all HS4.out] at ho
          obtain ⟨A5, c5, rfl, hs5, hm5, hx5⟩ := SlQ.own ho
          have HS5 := Lib.hid hs5
          have HX5 := Lib.hid (And.intro hm5 hx5)
          clear ho hs5 hm5 hx5
          go_wp2_with fail
          refine (ring_own A5 i c5 (q.map sw) _ HS5.out HX5.out.1 HX5.out.2).mono ?_
          rintro e w6 ⟨r6, A6, d6, c6, rfl, hB6, ho6, hb6⟩
          obtain ⟨rfl, hR6⟩ := ringB_in (sw_in HIN.out) hB6
          rw [pq_sw] at hR6
          have hlen : r6.length = j := by rw [ring_rev HR4.out hR6, HNR.out]
          have HW6 := Lib.hid ((HW4.out.trans HBQ.out).call hb6)
          rw [hlen]
          clear hB6 hb6 ho6 hR6 hlen
          go_wp2
          go_ret
          exact ⟨rfl, HW6.out⟩
set_option maxRecDepth 100000 in
theorem lifted (os : Os) (started : os.Started) (H : Type) (enc : TypeId × Value → H) :
    ReturnsInHanded {} Try.checked os 6 .any (Rows.ringTrueSpec.pre6 enc Try.prog Try.f6 Rows.ringTrueRow.domain false) (Rows.ringTrueSpec.post enc Try.prog Try.f6 false true false false) := by
  refine returnsInHanded_of_change_sized (C := Try.checked) own started (by kernel_rfl) Try.func6
    (ChangeSpec.witness6 (enc := enc) (C := Try.checked) false ⟨#[], #[.slice none 0 0, .int .i64 0], []⟩ 8 (by kernel_rfl) (by kernel_rfl) (by kernel_rfl) (by kernel_rfl)) ?_
  intro W base args ds gs before hval0 hW hcnd hsz0 _
  have hsz : (DataW.weightsEach Try.prog (Try.f6.params.toList ++ Rows.ringTrueSpec.plain.varTypes Try.prog) (ds ++ gs)).all (· ≤ reachBytes) = true := hsz0
  clear hsz0
  have hval : ∀ (j : Nat) t v, Try.f6.params[j]? = some t → args[j]? = some v → Value.okWide Try.prog W .any base t v := hval0
  have hW' := hW
  obtain ⟨p, q, hA0, hV, rfl, hfz, hnd⟩ := hW
  have hA : DataW.TrodAll enc Try.prog W 0 (fun _ => true) true Try.f6.params.toList args.toList ds p := hA0
  rw [Try.params6] at hA hval hsz
  obtain ⟨v0, vs0, d0, ds0, p0, q0, hargs, rfl, rfl, h0, r0⟩ := trodAll_cons hA
  obtain ⟨v1, vs1, d1, ds1, p1, q1, rfl, rfl, rfl, h1, r1⟩ := trodAll_cons r0
  obtain ⟨rfl, rfl, rfl⟩ := trodAll_nil r1
  obtain rfl : args = #[v0, v1] := by cases args; simp_all
  obtain ⟨rfl, rfl⟩ := trodVars_none hV
  have t0 := h0
  have lt0 : ∀ x ∈ p0, x.block < W.heap.size := by obtain ⟨m, hm⟩ := t0; exact DataW.trod_lt m _ _ _ hm
  have t1 := h1
  have lt1 : ∀ x ∈ p1, x.block < W.heap.size := by obtain ⟨m, hm⟩ := t1; exact DataW.trod_lt m _ _ _ hm
  obtain ⟨A0, n0, c0, l0, rfl, s0, m0, x0, g0, z0⟩ := open_prs Try.underlying23 Try.underlying31 ⟨rfl, rfl⟩ (by kernel_rfl) (by kernel_rfl) Try.underlying3 (hval 0 23 v0 rfl rfl) h0
  have y0 := reach_sl hsz (j := 0) rfl rfl Try.underlying23 (b := 16) (by kernel_rfl) z0
  obtain ⟨a1, rfl, _, _, x1⟩ := open_int Try.underlying3 (hval 1 3 v1 rfl rfl) h1
  have k1 := in64_of x1
  clear hA0 hval0
  refine (walk W A0 n0 c0 l0 s0 m0 x0 g0 y0 a1 k1).mono fun e W' ⟨he, bel⟩ => ?_
  subst he
  exact ⟨_, rfl, _, _, _, [], _, [], hW', trodAll_mk1 (shut_bool Try.underlying4 _), (trodAll_cons_mk (Below.trod laidOut (by kernel_rfl) (of_decide_eq_true (by kernel_rfl)) t0 bel lt0) (trodAll_cons_mk (Below.trod laidOut (by kernel_rfl) (of_decide_eq_true (by kernel_rfl)) t1 bel lt1) trodAll_mk0)), rfl, bel.frame _, fun h => by cases h⟩

theorem over : Rows.ringTrueRow.holds Try.pinned (OpenSpec.ofChange Rows.ringTrueSpec) :=
  OpenClaim.holds_of_wide 6 Try.f6 rfl rfl rfl rfl rfl rfl rfl ⟨rfl, rfl, rfl, rfl, rfl⟩ rfl rfl rfl rfl rfl (by kernel_rfl) Try.func6 (by kernel_rfl)
    (of_decide_eq_true (by kernel_rfl)) (by unfold Func.isWrapper; first | (rw [if_pos (by decide +kernel)]; kernel_rfl) | (rw [if_neg (by decide +kernel)]; exact ⟨rfl, rfl⟩))
    (fun os started H enc _ => lifted os started H enc)

theorem proved : Rows.RingTrueSaid := over
#print axioms proved
end Go.Proofs.Ytoaehoildnanpaa.LRingTrue

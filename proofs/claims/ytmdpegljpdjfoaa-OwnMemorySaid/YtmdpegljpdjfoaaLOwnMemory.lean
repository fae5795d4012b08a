/- 'deadheatkeep.OwnMemory' returns true for every input and leaves its arguments as they are. No condition. -/
import Derived.Test.YtmdpegljpdjfoaaShM
import Derived.Test.YtmdpegljpdjfoaaSwO
import Derived.Test.YtmdpegljpdjfoaaOpen
import Derived.Test.YtmdpegljpdjfoaaShC
import Derived.Test.YtmdpegljpdjfoaaKeepSw
import Derived.Test.YtmdpegljpdjfoaaSwR
import Derived.Test.YtmdpegljpdjfoaaSwP
import Derived.Test.YtmdpegljpdjfoaaEqEv
import Derived.Test.YtmdpegljpdjfoaaCp
set_option linter.all false
set_option maxRecDepth 100000
namespace Go.Proofs.Ytmdpegljpdjfoaa.LOwnMemory
open Go Go.ChangeShapes Go.WideShapes Go.ChangeAt Go.RowKit

theorem store_to {P : Program} {ops : Array Oper} {rest : List Oper} {op : Oper} {a : Act} {w wz : World} {Q : Exit → Act → World → Prop} (hgd : op.guard = none) (ty : TypeId) (x y : Operand) (ho : op.op = .store ty x y)
    (b o : Nat) (cells : Array Value) (hx : a.eval x = .pointer (some ⟨b, o, none⟩)) (hy : a.eval y = .agg cells) (ht : w.there b o cells.size) (hi : (P.info? ty).map (·.size) = some cells.size) (h1 : cells.all (·.oneCell') = true)
    (hw : wz = w.setCells b o cells.toList) (h : wpList P ops Q rest (a.put op.dst undef) wz) : wpList P ops Q (op :: rest) a w := by
  subst hw
  exact wpList_store_mid hgd ty x y ho b o cells hx hy ht hi h1 h
/-- A slice of events in memory of its own, that is no older than N and not the block R. -/
def Wrt (N R : Nat) (w : World) (v : Value) : Prop := ∃ A n c, v = .slice A n c ∧ n ≤ c ∧ c ≤ maxLen ∧ (0 < n → ∃ g cur, A = some ⟨g, 0, none⟩ ∧ N ≤ g ∧ g ≠ R ∧ Box w g cur 29 ∧ n * 3 ≤ cur.size)
theorem Wrt.own {N R base n : Nat} {w : World} {v : Value} {xs : List Value} (h : w.ownsRow base 29 3 v n xs) (hN : N ≤ base) (hR : w.heap.size ≤ R) : Wrt N R w v := by
  rcases h.2 with ⟨rfl, h0⟩ | ⟨g, cap, cur, rfl, h2, h3, h4, h5, h6, _⟩
  · exact ⟨none, 0, 0, rfl, Nat.le_refl _, Nat.zero_le _, fun h => absurd h (Nat.lt_irrefl 0)⟩
  · have hb : Box w g cur 29 := h3
    exact ⟨_, n, cap, rfl, h4, h5, fun _ => ⟨g, cur, rfl, Nat.le_trans hN h2, by have := hb.lt; omega, hb, by omega⟩⟩
theorem Wrt.bel {N R : Nat} {w w' : World} {v : Value} (h : Wrt N R w v) (hb : Bel w w') : Wrt N R w' v := by
  obtain ⟨A, n, c, h1, h2, h3, h4⟩ := h
  exact ⟨A, n, c, h1, h2, h3, fun h0 => by obtain ⟨g, cur, a1, a2, a3, a4, a5⟩ := h4 h0; exact ⟨g, cur, a1, a2, a3, hb.box a4, a5⟩⟩
theorem box_setCells_ne {w : World} {B g : Nat} {c : Array Value} {t : TypeId} (h : Box w B c t) (hne : B ≠ g) (o : Nat) (vs : List Value) : Box (w.setCells g o vs) B c t :=
  h.grown (grown_setCells g vs o w) (fun e => hne (Option.some.inj e))
theorem Wrt.set {N R : Nat} {w : World} {v : Value} (h : Wrt N R w v) (g o : Nat) (e : Ev) : Wrt N R (w.setCells g o (evv e).toList) v := by
  obtain ⟨A, n, c, h1, h2, h3, h4⟩ := h
  refine ⟨A, n, c, h1, h2, h3, fun h0 => ?_⟩
  obtain ⟨g', cur, a1, a2, a3, a4, a5⟩ := h4 h0
  by_cases hg : g' = g
  · subst hg
    exact ⟨g', _, a1, a2, a3, a4.set3 o e, by rw [set3_size]; exact a5⟩
  · exact ⟨g', cur, a1, a2, a3, box_setCells_ne a4 hg _ _, a5⟩
/-- The four slices, in block R. -/
structure InvO (N R : Nat) (f : Nat → Value) (wc wr : World) : Prop where
  rows : Box wr R #[f 0, f 1, f 2, f 3] 22
  wrt : ∀ j, j < 4 → Wrt N R wr (f j)
  below : Below N wc wr
theorem InvO.cell {N R : Nat} {f : Nat → Value} {wc wr : World} (h : InvO N R f wc wr) {j : Nat} (hj : j < 4) : wr.cell? ⟨R, j, none⟩ = some (f j) := by
  refine h.rows.cell j ?_
  match j, hj with
  | 0, _ => rfl
  | 1, _ => rfl
  | 2, _ => rfl
  | 3, _ => rfl
theorem InvO.set {N R g : Nat} {f : Nat → Value} {wc wr : World} (h : InvO N R f wc wr) (hg : N ≤ g) (hR : g ≠ R) (o : Nat) (e : Ev) : InvO N R f wc (wr.setCells g o (evv e).toList) :=
  ⟨box_setCells_ne h.rows (Ne.symm hR) _ _, fun j hj => (h.wrt j hj).set g o e, h.below.trans (below_set3 hg _ _ _)⟩
theorem there_own {w : World} {g k n : Nat} {cur : Array Value} {t : TypeId} (hb : Box w g cur t) (hk : k < n) (hn : n * 3 ≤ cur.size) : w.there g (k * 3) 3 := fun j hj => by
  refine ⟨?_, hb.frozen _⟩
  have h1 : k * 3 + j < cur.size := by omega
  rw [hb.cell _ (Array.getElem?_eq_getElem h1)]
  rfl
def SwapO : Prop := ∀ (A : Option Addr) (n c : Nat) (l : List Ev) (i : Int) (w : World), Sl w A n l → n ≤ c → c ≤ maxLen → In64 i → Calls Try.prog 22 #[.slice A n c, .int .i64 i] w fun e w' => ∃ r c, EvsOwn w r c e w'
def LeastO : Prop := ∀ (A : Option Addr) (n c : Nat) (l : List Ev) (w : World), Sl w A n l → n ≤ c → c ≤ maxLen → Calls Try.prog 23 #[.slice A n c] w fun e w' => ∃ r c, EvsOwn w r c e w'
set_option maxHeartbeats 2000000 in
theorem copyev_big (A : Option Addr) (n c : Nat) (l : List Ev) (w : World) (h : Sl w A n l) (hn : n * 24 ≤ 140737488351232) : Calls Try.prog 13 #[.slice A n c] w (CpPost w n l) := by
  obtain ⟨i0, hi0, hz0, hz1, hz2⟩ := info_parts ev_info
  have HO := Lib.hid (World.ownsRow_nil w w.heap.size 29 3)
  have HS := Lib.hid h.src
  have HLN := Lib.hid (show (evc l).length = n * 3 by rw [evc_length, h.1])
  have HN := Lib.hid hn
  clear h hn
  go_enter Try.func13, Try.ntmps13
  go_wp2_with (at_builtin; refine wpList_append_srcE rfl (.const (.slice none 0 0)) (.tmp 3) _ rfl w.heap.size 29 i0 _ 3 24 Try.underlying22 hi0 hz0 hz1 hz2 rfl (by omega) (.slice none 0 0) 0 [] rfl HO.out A n c (evc l) rfl HLN.out HS.out (evc_one l) (by have := HN.out; unfold maxLen; omega) (by have := HN.out; omega) (Nat.le_refl _) ?_; intro v2 w2 hown2 hg2 hat2)
  go_ret
  refine ⟨_, rfl, ?_, (Below.refl _ w).grown hg2 (Nat.le_refl _) (fun k hk => by cases hk)⟩
  simpa using hown2
set_option maxHeartbeats 16000000 in
theorem walkH (HS : SwapC) (HA : ApartC) (HSo : SwapO) (HLo : LeastO) (HWo : WithoutC) (HMi : MinC) (W : World) (A : Option Addr) (n c : Nat) (l : List Ev) (s : Sl W A n l) (m : n ≤ c) (x : c ≤ maxLen) (_g : ∀ e ∈ l, EvOk e) (y : n * 24 ≤ 140737488351232) (i : Int) (ki : In64 i) :
    Calls Try.prog 9 #[.slice A n c, .int .i64 i] W fun e w' => e = .returned (.bool true) ∧ Below W.heap.size W w' := by
  have hw0 : Bel W W := Bel.refl _
  have HL := Lib.hid s
  have HMX := Lib.hid (And.intro m x)
  have HSW := Lib.hid (fun w => swapped_any HS HA w)
  unfold SwapO at HSo
  unfold LeastO at HLo
  unfold WithoutC at HWo
  unfold MinC at HMi
  have HSC := Lib.hid HSo
  have HLC := Lib.hid HLo
  have HWC := Lib.hid HWo
  have HMC := Lib.hid HMi
  have HK := Lib.hid ki
  have HY := Lib.hid y
  clear s m x HS HA HSo HLo HWo HMi ki y
  go_enter Try.func9, Try.ntmps9
  go_wp2_with fail
  refine (HSW.out _).mono ?_
  rintro e1 w1 ⟨rfl, hb1⟩
  have hw1 := hw0.call hb1
  clear hb1
  go_wp2_with fail
  refine (copyev_big A n c l w1 (HL.out.bel hw1.out) HY.out).mono ?_
  rintro e2 w2 ⟨v2, rfl, ho2, hb2⟩
  obtain ⟨A2, d2, rfl, hs2, hn2, hm2⟩ := Sl.own ho2
  have HW2 := Lib.hid (hw1.call hb2)
  have HS2 := Lib.hid (And.intro hs2 (And.intro hn2 hm2))
  clear hw0 hw1 ho2 hb2 hs2 hn2 hm2
  go_wp2_with fail
  refine (HSC.out A n c l i w2 (HL.out.bel HW2.out.out) HMX.out.1 HMX.out.2 HK.out).mono ?_
  rintro e3 w3 ⟨r3, c3, v3, rfl, ho3, hb3⟩
  have HW3 := Lib.hid (Bel.of hb3)
  have HO3 := Lib.hid ho3
  obtain ⟨A3, d3, rfl, _, _, _⟩ := Sl.own ho3
  clear ho3 hb3
  go_wp2_with fail
  refine (HLC.out A n c l w3 (HL.out.bel (HW2.out.trans HW3.out).out) HMX.out.1 HMX.out.2).mono ?_
  rintro e4 w4 ⟨r4, c4, v4, rfl, ho4, hb4⟩
  have HW4 := Lib.hid (HW3.out.trans (Bel.of hb4))
  have HO34 := Lib.hid (own_bel HO3.out (Bel.of hb4))
  have HO4 := Lib.hid ho4
  obtain ⟨A4, d4, rfl, _, _, _⟩ := Sl.own ho4
  clear ho4 hb4
  go_wp2_with fail
  refine (HWC.out A n c l i w4 (HL.out.bel (HW2.out.trans HW4.out).out) HMX.out.1 HMX.out.2 HK.out).mono ?_
  rintro e5 w5 ⟨r5, c5, _, v5, rfl, ho5, hb5⟩
  have HW5 := Lib.hid (HW4.out.trans (Bel.of hb5))
  have HO35 := Lib.hid (own_bel HO34.out (Bel.of hb5))
  have HO45 := Lib.hid (own_bel HO4.out (Bel.of hb5))
  have HO5 := Lib.hid ho5
  obtain ⟨A5, d5, rfl, _, _, _⟩ := Sl.own ho5
  clear ho5 hb5
  go_wp2_with fail
  refine (HMC.out A n c l w5 (HL.out.bel (HW2.out.trans HW5.out).out) HMX.out.1 HMX.out.2).mono ?_
  rintro e6 w6 ⟨r6, c6, _, v6, rfl, ho6, hb6⟩
  have HW6 := Lib.hid (HW5.out.trans (Bel.of hb6))
  have HO36 := Lib.hid (own_bel HO35.out (Bel.of hb6))
  have HO46 := Lib.hid (own_bel HO45.out (Bel.of hb6))
  have HO56 := Lib.hid (own_bel HO5.out (Bel.of hb6))
  have HO6 := Lib.hid ho6
  obtain ⟨A6, d6, rfl, _, _, _⟩ := Sl.own ho6
  clear ho6 hb6
  obtain ⟨f, hf0, hf1, hf2, hf3⟩ : ∃ f : Nat → Value, f 0 = .slice A3 r3.length d3 ∧ f 1 = .slice A4 r4.length d4 ∧ f 2 = .slice A5 r5.length d5 ∧ f 3 = .slice A6 r6.length d6 :=
    ⟨fun j => if j = 0 then .slice A3 r3.length d3 else if j = 1 then .slice A4 r4.length d4 else if j = 2 then .slice A5 r5.length d5 else .slice A6 r6.length d6, rfl, rfl, rfl, rfl⟩
  have hal : Bel w6 (w6.alloc (.cells #[.slice A3 r3.length d3, .slice A4 r4.length d4, .slice A5 r5.length d5, .slice A6 r6.length d6] 22)) := (Bel.refl w6).alloc _
  have H0 := Lib.hid (show InvO w2.heap.size w6.heap.size f w2 (w6.alloc (.cells #[.slice A3 r3.length d3, .slice A4 r4.length d4, .slice A5 r5.length d5, .slice A6 r6.length d6] 22)) from
    ⟨by rw [hf0, hf1, hf2, hf3]; exact Box.new w6 _ _, fun j hj => by
      match j, hj with
      | 0, _ => rw [hf0]; exact (Wrt.own HO36.out (Nat.le_refl _) (Nat.le_refl _)).bel hal
      | 1, _ => rw [hf1]; exact (Wrt.own HO46.out HW3.out.size (Nat.le_refl _)).bel hal
      | 2, _ => rw [hf2]; exact (Wrt.own HO56.out HW4.out.size (Nat.le_refl _)).bel hal
      | 3, _ => rw [hf3]; exact (Wrt.own HO6.out HW5.out.size (Nat.le_refl _)).bel hal, (HW6.out.trans hal).out⟩)
  go_wp2
  generalize w6.alloc (.cells #[.slice A3 r3.length d3, .slice A4 r4.length d4, .slice A5 r5.length d5, .slice A6 r6.length d6] 22) = w7 at *
  generalize w6.heap.size = R at *
  clear hal hf0 hf1 hf2 hf3 HO36 HO46 HO56 HO6 HO35 HO45 HO34 HO3 HO4 HO5 HW3 HW4 HW5 HW6
  go_loopw [49] (fun t wr => ∃ j : Nat, j ≤ 4 ∧ t = .int .i64 j ∧ InvO w2.heap.size R f w2 wr) (fun t _ => 4 - (intOf t).toNat)
  case atStart => exact ⟨0, by omega, rfl, H0.out⟩
  case round =>
    obtain ⟨j, hj, rfl, hinv⟩ := hrel
    have HI := Lib.hid hinv
    clear hinv H0
    by_cases hlt : j < 4
    · have hlt' : (j : Int) < 4 := by omega
      have cj := HI.out.cell hlt
      obtain ⟨B, q, cq, hf, hq1, hq2, _⟩ := HI.out.wrt j hlt
      rw [hf] at cj
      have HF := Lib.hid hf
      unfold maxLen at hq2
      clear hf
      go_wp2
      clear cj
      go_loopw [55] (fun t wr => ∃ k : Nat, k ≤ q ∧ t = .int .i64 k ∧ InvO w2.heap.size R f w2 wr) (fun t _ => q - (intOf t).toNat)
      case atStart => exact ⟨0, by omega, rfl, HI.out⟩
      case round =>
        obtain ⟨k, hk, rfl, hinv⟩ := hrel
        have HI2 := Lib.hid hinv
        clear hinv
        by_cases hkq : k < q
        · have hkq' : (k : Int) < q := by omega
          obtain ⟨B', q', c', hf', _, _, hpos⟩ := HI2.out.wrt j hlt
          rw [HF.out] at hf'
          cases hf'
          obtain ⟨g, cur, rfl, hNg, hgR, hbx, hsz⟩ := hpos (by omega)
          have HTH := Lib.hid (there_own hbx hkq hsz)
          obtain ⟨wz, hwz⟩ : ∃ wz, wz = wr.setCells g (k * 3) (evv ⟨77, 0, 0⟩).toList := ⟨_, rfl⟩
          have HWZ := Lib.hid hwz
          have HIZ := Lib.hid (show InvO w2.heap.size R f w2 wz by rw [hwz]; exact HI2.out.set hNg hgR _ _)
          clear hwz hbx hsz hNg hgR
          go_wp2_with (refine store_to rfl 29 _ _ rfl g (k * 3) (evv ⟨77, 0, 0⟩) rfl rfl HTH.out (by kernel_rfl) (evv_all _) HWZ.out ?_)
          go_roundw
          case rel => exact ⟨k + 1, by omega, by go_num, HIZ.out⟩
          case measure => simp [intOf]; omega
        · obtain rfl : k = q := by omega
          go_wp2
          go_roundw
          case rel => exact ⟨j + 1, by omega, by go_num, HI2.out⟩
          case measure => simp [intOf]; omega
    · obtain rfl : j = 4 := by omega
      go_wp2_with fail
      refine (eqev_any A A2 n c n d2 l l wr ((HL.out.bel HW2.out.out).below HI.out.below (Nat.le_refl _)) (HS2.out.1.below HI.out.below (Nat.le_refl _)) HMX.out.1 HS2.out.2.1 HMX.out.2 HS2.out.2.2).mono ?_
      rintro e9 w9 ⟨rfl, hb9⟩
      rw [decide_eq_true rfl]
      have HW9 := Lib.hid (show Below W.heap.size W w9 from HW2.out.out.trans ((HI.out.below.mono HW2.out.size).trans (hb9.mono (Nat.le_trans HW2.out.size HI.out.below.size))))
      clear hb9
      go_wp2
      go_ret
      exact ⟨rfl, HW9.out⟩
theorem walk (W : World) (A : Option Addr) (n c : Nat) (l : List Ev) (s : Sl W A n l) (m : n ≤ c) (x : c ≤ maxLen) (_g : ∀ e ∈ l, EvOk e) (y : n * 24 ≤ 140737488351232) (i : Int) (ki : In64 i) :
    Calls Try.prog 9 #[.slice A n c, .int .i64 i] W fun e w' => e = .returned (.bool true) ∧ Below W.heap.size W w' := walkH swap_any apart_any (fun A n c l i w a b d e => (swap_own A n c l i w a b d e).mono fun e w h => by obtain ⟨r, c, _, h⟩ := h; exact ⟨r, c, h⟩) (fun A n c l w a b d => (least_own A n c l w a b d).mono fun e w h => by obtain ⟨r, c, _, h⟩ := h; exact ⟨r, c, h⟩) without_any min_any W A n c l s m x _g y i ki
set_option maxRecDepth 100000 in
theorem lifted (os : Os) (started : os.Started) (H : Type) (enc : TypeId × Value → H) :
    ReturnsInHanded {} Try.checked os 9 .any (Rows.ownMemorySpec.pre6 enc Try.prog Try.f9 Rows.ownMemoryRow.domain false) (Rows.ownMemorySpec.post enc Try.prog Try.f9 false true false false) := by
  refine returnsInHanded_of_change_sized (C := Try.checked) own started (by kernel_rfl) Try.func9
    (ChangeSpec.witness6 (enc := enc) (C := Try.checked) false ⟨#[], #[.slice none 0 0, .int .i64 0], []⟩ 8 (by kernel_rfl) (by kernel_rfl) (by kernel_rfl) (by kernel_rfl)) ?_
  intro W base args ds gs before hval0 hW hcnd hsz0 _
  have hsz : (DataW.weightsEach Try.prog (Try.f9.params.toList ++ Rows.ownMemorySpec.plain.varTypes Try.prog) (ds ++ gs)).all (· ≤ reachBytes) = true := hsz0
  clear hsz0
  have hval : ∀ (j : Nat) t v, Try.f9.params[j]? = some t → args[j]? = some v → Value.okWide Try.prog W .any base t v := hval0
  have hW' := hW
  obtain ⟨p, q, hA0, hV, rfl, hfz, hnd⟩ := hW
  have hA : DataW.TrodAll enc Try.prog W 0 (fun _ => true) true Try.f9.params.toList args.toList ds p := hA0
  rw [Try.params9] at hA hval hsz
  obtain ⟨v0, vs0, d0, ds0, p0, q0, hargs, rfl, rfl, h0, r0⟩ := trodAll_cons hA
  obtain ⟨v1, vs1, d1, ds1, p1, q1, rfl, rfl, rfl, h1, r1⟩ := trodAll_cons r0
  obtain ⟨rfl, rfl, rfl⟩ := trodAll_nil r1
  obtain rfl : args = #[v0, v1] := by cases args; simp_all
  obtain ⟨rfl, rfl⟩ := trodVars_none hV
  have t0 := h0
  have lt0 : ∀ x ∈ p0, x.block < W.heap.size := by obtain ⟨m, hm⟩ := t0; exact DataW.trod_lt m _ _ _ hm
  have t1 := h1
  have lt1 : ∀ x ∈ p1, x.block < W.heap.size := by obtain ⟨m, hm⟩ := t1; exact DataW.trod_lt m _ _ _ hm
  obtain ⟨A0, n0, c0, l0, rfl, s0, m0, x0, g0, z0⟩ := open_evs Try.underlying22 Try.underlying29 ⟨rfl, rfl, rfl⟩ (by kernel_rfl) (by kernel_rfl) Try.underlying3 (hval 0 22 v0 rfl rfl) h0
  have y0 := reach_sl hsz (j := 0) rfl rfl Try.underlying22 (b := 24) (by kernel_rfl) z0
  obtain ⟨a1, rfl, _, _, x1⟩ := open_int Try.underlying3 (hval 1 3 v1 rfl rfl) h1
  have k1 := in64_of x1
  clear hA0 hval0
  refine (walk W A0 n0 c0 l0 s0 m0 x0 g0 y0 a1 k1).mono fun e W' ⟨he, bel⟩ => ?_
  subst he
  exact ⟨_, rfl, _, _, _, [], _, [], hW', trodAll_mk1 (shut_bool Try.underlying4 _), (trodAll_cons_mk (Below.trod laidOut (by kernel_rfl) (of_decide_eq_true (by kernel_rfl)) t0 bel lt0) (trodAll_cons_mk (Below.trod laidOut (by kernel_rfl) (of_decide_eq_true (by kernel_rfl)) t1 bel lt1) trodAll_mk0)), rfl, bel.frame _, fun h => by cases h⟩

theorem over : Rows.ownMemoryRow.holds Try.pinned (OpenSpec.ofChange Rows.ownMemorySpec) :=
  OpenClaim.holds_of_wide 9 Try.f9 rfl rfl rfl rfl rfl rfl rfl ⟨rfl, rfl, rfl, rfl, rfl⟩ rfl rfl rfl rfl rfl (by kernel_rfl) Try.func9 (by kernel_rfl)
    (of_decide_eq_true (by kernel_rfl)) (by unfold Func.isWrapper; first | (rw [if_pos (by decide +kernel)]; kernel_rfl) | (rw [if_neg (by decide +kernel)]; exact ⟨rfl, rfl⟩))
    (fun os started H enc _ => lifted os started H enc)

theorem proved : Rows.OwnMemorySaid := over
#print axioms proved
end Go.Proofs.Ytmdpegljpdjfoaa.LOwnMemory

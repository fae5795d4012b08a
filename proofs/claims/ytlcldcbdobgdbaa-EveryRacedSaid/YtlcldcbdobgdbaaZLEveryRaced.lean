import Derived.Test.YtlcldcbdobgdbaaZKeepPg
import Derived.Test.YtlcldcbdobgdbaaZOpenInts
import Derived.Test.YtlcldcbdobgdbaaZVr
import Derived.Test.YtlcldcbdobgdbaaZAll
set_option linter.all false
set_option maxRecDepth 100000
namespace Go.Proofs.Ytlcldcbdobgdbaa.LEveryRaced
open Go Go.ChangeShapes Go.WideShapes Go.ChangeAt Go.RowKit

def OfPost (w : World) (P : List (List Ev)) (ts : List Int) (e : Ending) (w' : World) : Prop := ∃ x l c, RunB P ts x l c ∧ e = .returned (.int .i64 (rcs l).length) ∧ Below w.heap.size w w'
set_option maxHeartbeats 4000000 in
theorem of_any {X : Nat} {A : Option Addr} {n c : Nat} {P : List (List Ev)} {B : Option Addr} {k d : Nat} {ts : List Int} {w : World} (hX : Box w X #[.slice A n c] 22) (hP : Prg w A n P) (h1 : n ≤ c) (h2 : c ≤ maxLen) (hs : SI w B k ts) (h3 : k ≤ d) (h4 : d ≤ maxLen) :
    Calls Try.prog 27 #[.slice B k d, .pointer (some ⟨X, 0, none⟩)] w (OfPost w P ts) := by
  have hc := hX.cell 0 (v := .slice A n c) rfl
  have HP := Lib.hid hP
  have HS := Lib.hid hs
  have HM := Lib.hid (And.intro (And.intro h1 h2) (And.intro h3 h4))
  clear hX hP h1 h2 hs h3 h4
  go_enter Try.func27, Try.ntmps27
  go_wp2_with fail
  refine (pgrun_c A n c P B k d ts w HP.out HM.out.1.1 HM.out.1.2 HS.out HM.out.2.1 HM.out.2.2).mono ?_
  rintro e1 w1 ⟨v1, x1, l1, c1, rfl, hB1, ho1, hb1⟩
  have HV := Lib.hid (EnV.run hB1)
  have HB1 := Lib.hid hB1
  obtain ⟨A1, d1, rfl, hs1, hn1, hm1⟩ := Sl.own ho1
  have HE1 := Lib.hid ((Bel.of hb1).trans (enw_bel w1 x1))
  have HS1 := Lib.hid (hs1.bel (enw_bel w1 x1).out)
  clear hc hB1 ho1 hb1 hs1
  go_wp2_with (refine enw_store HV.out.ty _ _ rfl rfl HV.out.size HV.out.one rfl rfl rfl ?_)
  refine (alle_any A1 _ d1 _ _ HS1.out).mono ?_
  rintro e2 w2 ⟨v2, rfl, ho2, hb2⟩
  obtain ⟨A2, c2, rfl, _, _⟩ := row_slice ho2
  have HE2 := Lib.hid (HE1.out.trans (Bel.of hb2))
  clear ho2 hb2
  go_wp2
  go_ret
  exact ⟨x1, l1, c1, HB1.out, rfl, HE2.out.out⟩
theorem pks_take (ws : List Nat) (k : Nat) : (pks ws).take k = pks (ws.take k) := by unfold pks; rw [List.map_take]
theorem pks_len (ws : List Nat) : (pks ws).length = ws.length := by unfold pks; rw [List.length_map]
theorem best_says {P : List (List Ev)} {ws : List Nat} (h0 : evC P = 0) (h : IsBest P ws) : (∀ x l c, RunB P (pks ws) x l c → 0 < (rcs l).length) ∧ (∀ x l c, RunB P ((pks ws).take (ws.length - 1)) x l c → (rcs l).length = 0) := by
  constructor
  · intro x l c hr
    obtain ⟨_, rfl, _⟩ := runB_way h0 h.vl hr
    exact Nat.pos_of_ne_zero fun e => h.race (List.eq_nil_of_length_eq_zero e)
  · intro x l c hr
    rw [pks_take] at hr
    obtain ⟨_, rfl, _⟩ := runB_way h0 (vl_take h.vl _) hr
    rw [← run_pks (vl_take h.vl _), h.before (ts := pks (ws.take (ws.length - 1)))]
    · rfl
    · have : 0 < ws.length := Nat.pos_of_ne_zero fun e => h.ne (List.eq_nil_of_length_eq_zero e)
      rw [pks_len, List.length_take]; omega
theorem none_says {P : List (List Ev)} (h : ∀ ts, rcs (runP P ts).L = []) {q : List Int} {x : Array Value} {l : List Ev} {c : Int} (hr : RunB P q x l c) : (rcs l).length = 0 := by
  have h0 : rcs ([] : List Ev) = [] := by decide +kernel
  rcases hr with ⟨_, _, h3, _⟩ | ⟨_, _, _, h3, _⟩ | ⟨_, _, _, h3, _⟩
  · rw [h3, h0]; rfl
  · rw [h3, h0]; rfl
  · rw [h3, h]; rfl

set_option maxHeartbeats 16000000 in
theorem walk (W : World) (A : Option Addr) (n c : Nat) (l : List (List Ev)) (s : Prg W A n l) (m : n ≤ c) (x : c ≤ maxLen) (_g : ∀ ops ∈ l, ∀ e ∈ ops, EvOk e)
    (B : Option Addr) (k d : Nat) (q : List Int) (s1 : SI W B k q) (m1 : k ≤ d) (x1 : d ≤ maxLen) (_g1 : ∀ x ∈ q, In64 x) :
    Calls Try.prog 8 #[.slice A n c, .slice B k d] W fun e w' => e = .returned (.bool true) ∧ Below W.heap.size W w' := by
  have HL := Lib.hid s
  have HS := Lib.hid s1
  have HM := Lib.hid (And.intro (And.intro m x) (And.intro m1 x1))
  clear s m x s1 m1 x1
  have HX := Lib.hid (Box.new W #[.slice A n c] 22)
  have HWA := Lib.hid ((Bel.refl W).alloc (.cells #[.slice A n c] 22))
  go_enter Try.func8, Try.ntmps8
  go_wp2_with fail
  generalize W.alloc (.cells #[.slice A n c] 22) = WA at *
  refine (everied_any WA).mono ?_
  rintro e0 w0 ⟨rfl, hb0⟩
  have HW0 := Lib.hid (HWA.out.trans (Bel.of hb0))
  have HX0 := Lib.hid ((Bel.of hb0).box HX.out)
  have hc0 := HX0.out.cell 0 (v := .slice A n c) rfl
  clear hb0 HX HWA
  go_wp2_with fail
  refine (eraces_any A n c l w0 (HL.out.bel HW0.out) HM.out.1.1 HM.out.1.2).mono ?_
  rintro e1 w1 ⟨b1, v1, ws, rfl, hB1, ho1, hb1⟩
  obtain ⟨A1, d1, rfl, hs1, hn1, hm1⟩ := row_si ho1
  have HW1 := Lib.hid (HW0.out.trans (Bel.of hb1))
  have HX1 := Lib.hid ((Bel.of hb1).box HX0.out)
  have HB1 := Lib.hid hB1
  have HS1 := Lib.hid (And.intro hs1 (And.intro hn1 hm1))
  have hn1I : (ws.length : Int) ≤ d1 := by omega
  have hw63 : (ws.length : Int) ≤ 9223372036854775807 := by unfold maxLen at hm1; omega
  clear ho1 hb1 hB1 hs1 hn1 hm1 hc0 HX0
  by_cases h0 : evC l = 0
  · have HE0 := Lib.hid h0
    rw [h0]
    cases b1
    · obtain ⟨rfl, hno⟩ : ws = [] ∧ ∀ ts, rcs (runP l ts).L = [] := by
        rcases HB1.out with ⟨h, _⟩ | ⟨_, _, h2, h3⟩ | ⟨_, h, _⟩
        · exact absurd h0 h
        · exact ⟨h2, h3⟩
        · cases h
      have HNO := Lib.hid hno
      clear hno HB1 h0
      rw [show ([] : List Nat).length = 0 from rfl] at *
      go_wp2_with fail
      refine (of_any HX1.out (HL.out.bel HW1.out) HM.out.1.1 HM.out.1.2 (HS.out.keep HW1.out) HM.out.2.1 HM.out.2.2).mono ?_
      rintro e2 w2 ⟨x2, l2, c2, hB2, rfl, hb2⟩
      rw [none_says HNO.out hB2]
      have HW2 := Lib.hid (HW1.out.trans (Bel.of hb2))
      clear hB2 hb2
      go_wp2
      go_ret
      exact ⟨rfl, HW2.out.out⟩
    · have hbest : IsBest l ws := by
        rcases HB1.out with ⟨h, _⟩ | ⟨_, h, _⟩ | ⟨_, _, h⟩
        · exact absurd h0 h
        · cases h
        · exact h
      have HBS := Lib.hid (best_says h0 hbest)
      have hpos : 0 < ws.length := Nat.pos_of_ne_zero fun e => hbest.ne (List.eq_nil_of_length_eq_zero e)
      clear hbest HB1 h0
      have hposI : (0 : Int) < ws.length := by omega
      obtain ⟨k1, hk1⟩ : ∃ k1, k1 + 1 = ws.length := ⟨ws.length - 1, by omega⟩
      have HK1 := Lib.hid hk1
      generalize hwl : ws.length = wn at *
      have hwj : IntKind.i64.wrap ((wn : Int) - 1) = k1 := by rw [show (wn : Int) - 1 = k1 by omega]; exact IntWalk.i64_in _ (by omega)
      have hk1d : (k1 : Int) ≤ d1 := by omega
      have HSK := Lib.hid (si_take HS1.out.1 (j := k1) (by omega))
      have hk1e : wn - 1 = k1 := by omega
      rw [hk1e] at HBS
      clear hk1e hk1
      go_wp2_with fail
      refine (of_any HX1.out (HL.out.bel HW1.out) HM.out.1.1 HM.out.1.2 HS1.out.1 HS1.out.2.1 HS1.out.2.2).mono ?_
      rintro e2 w2 ⟨x2, l2, c2, hB2, rfl, hb2⟩
      have hp2 := HBS.out.1 _ _ _ hB2
      have hp2I : (0 : Int) < (rcs l2).length := by omega
      have HW2 := Lib.hid (Bel.of hb2)
      have HX2 := Lib.hid ((Bel.of hb2).box HX1.out)
      clear hB2 hb2
      go_wp2_with fail
      refine (of_any HX2.out (HL.out.bel (HW1.out.trans HW2.out)) HM.out.1.1 HM.out.1.2 (HSK.out.keep HW2.out) (by have := HS1.out.2.1; have := HK1.out; omega) HS1.out.2.2).mono ?_
      rintro e3 w3 ⟨x3, l3, c3, hB3, rfl, hb3⟩
      rw [HBS.out.2 _ _ _ hB3]
      have HW3 := Lib.hid ((HW1.out.trans HW2.out).trans (Bel.of hb3))
      clear hB3 hb3
      go_wp2
      go_ret
      exact ⟨rfl, HW3.out.out⟩
  · have hne : (evC l != 0) = true := by simpa using h0
    obtain ⟨rfl, rfl⟩ : b1 = false ∧ ws = [] := by
      rcases HB1.out with ⟨_, h2, h3⟩ | ⟨h, _⟩ | ⟨h, _⟩
      · exact ⟨h2, h3⟩
      · exact absurd h h0
      · exact absurd h h0
    rw [show ([] : List Nat).length = 0 from rfl] at *
    clear HB1 h0
    go_wp2
    go_ret
    exact ⟨rfl, HW1.out.out⟩
set_option maxRecDepth 100000 in
theorem lifted (os : Os) (started : os.Started) (H : Type) (enc : TypeId × Value → H) :
    ReturnsInHanded {} Try.checked os 8 .any (Rows.everyRacedSpec.pre6 enc Try.prog Try.f8 Rows.everyRacedRow.domain false) (Rows.everyRacedSpec.post enc Try.prog Try.f8 false true false false) := by
  refine returnsInHanded_of_change_sized (C := Try.checked) own started (by kernel_rfl) Try.func8
    (ChangeSpec.witness6 (enc := enc) (C := Try.checked) false ⟨#[], #[.slice none 0 0, .slice none 0 0], []⟩ 8 (by kernel_rfl) (by kernel_rfl) (by kernel_rfl) (by kernel_rfl)) ?_
  intro W base args ds gs before hval0 hW hcnd hsz0 _
  have hsz : (DataW.weightsEach Try.prog (Try.f8.params.toList ++ Rows.everyRacedSpec.plain.varTypes Try.prog) (ds ++ gs)).all (· ≤ reachBytes) = true := hsz0
  clear hsz0
  have hval : ∀ (j : Nat) t v, Try.f8.params[j]? = some t → args[j]? = some v → Value.okWide Try.prog W .any base t v := hval0
  have hW' := hW
  obtain ⟨p, q, hA0, hV, rfl, hfz, hnd⟩ := hW
  have hA : DataW.TrodAll enc Try.prog W 0 (fun _ => true) true Try.f8.params.toList args.toList ds p := hA0
  rw [Try.params8] at hA hval hsz
  obtain ⟨v0, vs0, d0, ds0, p0, q0, hargs, rfl, rfl, h0, r0⟩ := trodAll_cons hA
  obtain ⟨v1, vs1, d1, ds1, p1, q1, rfl, rfl, rfl, h1, r1⟩ := trodAll_cons r0
  obtain ⟨rfl, rfl, rfl⟩ := trodAll_nil r1
  obtain rfl : args = #[v0, v1] := by cases args; simp_all
  obtain ⟨rfl, rfl⟩ := trodVars_none hV
  have t0 := h0
  have lt0 : ∀ x ∈ p0, x.block < W.heap.size := by obtain ⟨m, hm⟩ := t0; exact DataW.trod_lt m _ _ _ hm
  have t1 := h1
  have lt1 : ∀ x ∈ p1, x.block < W.heap.size := by obtain ⟨m, hm⟩ := t1; exact DataW.trod_lt m _ _ _ hm
  obtain ⟨A0, n0, c0, l0, rfl, s0, m0, x0, g0⟩ := open_ops Try.underlying22 (by kernel_rfl) Try.underlying57 Try.underlying59 ⟨rfl, rfl, rfl⟩ (by kernel_rfl) (by kernel_rfl) Try.underlying3 (hval 0 22 v0 rfl rfl) h0
  obtain ⟨A1, n1, c1, l1, rfl, s1, m1, x1, g1⟩ := open_ints_arg Try.underlying36 Try.underlying3 (by kernel_rfl) (hval 1 36 v1 rfl rfl) h1
  clear hA0 hval0
  refine (walk W A0 n0 c0 l0 s0 m0 x0 g0 A1 n1 c1 l1 s1 m1 x1 g1).mono fun e W' ⟨he, bel⟩ => ?_
  subst he
  exact ⟨_, rfl, _, _, _, [], _, [], hW', trodAll_mk1 (shut_bool Try.underlying4 _), (trodAll_cons_mk (Below.trod laidOut (by kernel_rfl) (of_decide_eq_true (by kernel_rfl)) t0 bel lt0) (trodAll_cons_mk (Below.trod laidOut (by kernel_rfl) (of_decide_eq_true (by kernel_rfl)) t1 bel lt1) trodAll_mk0)), rfl, bel.frame _, fun h => by cases h⟩

theorem over : Rows.everyRacedRow.holds Try.pinned (OpenSpec.ofChange Rows.everyRacedSpec) :=
  OpenClaim.holds_of_wide 8 Try.f8 rfl rfl rfl rfl rfl rfl rfl ⟨rfl, rfl, rfl, rfl, rfl⟩ rfl rfl rfl rfl rfl (by kernel_rfl) Try.func8 (by kernel_rfl)
    (of_decide_eq_true (by kernel_rfl)) (by unfold Func.isWrapper; first | (rw [if_pos (by decide +kernel)]; kernel_rfl) | (rw [if_neg (by decide +kernel)]; exact ⟨rfl, rfl⟩))
    (fun os started H enc _ => lifted os started H enc)

theorem proved : Rows.EveryRacedSaid := over
#print axioms proved
end Go.Proofs.Ytlcldcbdobgdbaa.LEveryRaced

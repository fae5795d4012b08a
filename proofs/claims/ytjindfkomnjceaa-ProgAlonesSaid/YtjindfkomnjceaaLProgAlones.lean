/- 'deadheatkeep.ProgAlones' returns true for every input and leaves its arguments as they are. No condition. -/
import Derived.Test.YtjindfkomnjceaaKeepPg
import Derived.Test.YtjindfkomnjceaaOpenInts
import Derived.Test.YtjindfkomnjceaaKeepTw
import Derived.Test.YtjindfkomnjceaaRpA
import Derived.Test.YtjindfkomnjceaaRgF
import Derived.Test.YtjindfkomnjceaaPg
import Derived.Test.YtjindfkomnjceaaPi
import Derived.Test.YtjindfkomnjceaaCi
import Derived.Test.YtjindfkomnjceaaCp
import Derived.Test.YtjindfkomnjceaaFo
import Derived.Test.YtjindfkomnjceaaAln
set_option linter.all false
set_option maxRecDepth 100000
namespace Go.Proofs.Ytjindfkomnjceaa.LProgAlones
open Go Go.ChangeShapes Go.WideShapes Go.ChangeAt Go.RowKit

/-- The pairs of the first i threads, each alone. -/
def allP (P : List (List Ev)) (i : Nat) : List (Nat × Nat) := (List.range i).flatMap fun t => prsA (alB (opsP P t)) 5
theorem allP_succ (P : List (List Ev)) (i : Nat) : allP P (i + 1) = allP P i ++ prsA (alB (opsP P i)) 5 := by
  unfold allP
  rw [List.range_succ, List.flatMap_append]
  simp
theorem allP_len (P : List (List Ev)) : ∀ i, (allP P i).length ≤ 6480 * i
  | 0 => by simp [allP]
  | i + 1 => by
    rw [allP_succ, List.length_append]
    have := allP_len P i
    have : (prsA (alB (opsP P i)) 5).length ≤ 6480 := prs_small (by omega) (Nat.le_refl _) (Nat.zero_le _)
    omega
theorem mem_allP {P : List (List Ev)} {i : Nat} {p : Nat × Nat} : p ∈ allP P i ↔ ∃ t, t < i ∧ p ∈ prsA (alB (opsP P t)) 5 := by
  unfold allP
  simp [List.mem_flatMap]
theorem edge_gr {l : List Ev} {a b : Int} (h : edge l a b = true) : grE l a b := by
  unfold edge at h
  rw [List.any_eq_true] at h
  obtain ⟨i, hi, h⟩ := h
  have hi := List.mem_range.1 hi
  unfold edgeAt at h
  rw [evA_at (List.getElem?_eq_getElem hi)] at h
  simp only [Bool.and_eq_true, beq_iff_eq] at h
  exact ⟨i, _, List.getElem?_eq_getElem hi, h.1.1, h.1.2, h.2⟩
theorem alP_alB {ops : List Ev} {a b : Nat} (h : alP ops a b) : alB ops a b = true := by
  obtain ⟨i, o, h1, h2, h3, h4, h5⟩ := h
  unfold alB
  rw [List.any_eq_true]
  refine ⟨i, List.mem_range.2 (List.getElem?_eq_some_iff.1 h1).1, ?_⟩
  simp [h1, h2, h3, h4, h5]
theorem alones (P : List (List Ev)) (ts : List Int) {p : Nat × Nat} (h : p ∈ prsA (fun a b => edge (runP P ts).L a b) 5) : p ∈ allP P P.length := by
  obtain ⟨h1, h2, h3⟩ := mem_prsA.1 h
  obtain ⟨t, ht, hal⟩ := (gr_run P ts).gr _ _ (edge_gr h3)
  exact mem_allP.2 ⟨t, ht, mem_prsA.2 ⟨h1, h2, alP_alB hal⟩⟩
/-- All pairs so far, as the law has them. -/
structure AllR (W : World) (P : List (List Ev)) (i : Nat) (v : Value) (wr : World) : Prop where
  own : wr.ownsRow W.heap.size 43 2 v (allP P i).length (prc (allP P i))
  bel : Bel W wr
theorem prc_one (l : List (Nat × Nat)) : ∀ u ∈ prc l, u.oneCell' = true := by
  induction l with
  | nil => intro u hu; simp [prc] at hu
  | cons p l ih =>
    intro u hu
    simp only [prc, List.mem_cons] at hu
    rcases hu with rfl | rfl | hu
    · rfl
    · rfl
    · exact ih u hu
theorem slp_src {w : World} {A : Option Addr} {n : Nat} {l : List (Nat × Nat)} (h : SlP w A n l) : Src w A n (prc l) := by
  rcases Nat.eq_zero_or_pos n with h0 | h0
  · have hl : l = [] := List.eq_nil_of_length_eq_zero (by rw [h.1, h0])
    subst hl
    cases A with
    | none => exact .inl ⟨rfl, h0, rfl⟩
    | some ad => exact .inr ⟨ad, rfl, fun j u hu => by simp [prc] at hu⟩
  · obtain ⟨b, off, rfl, hlt, hr⟩ := h.2 h0
    refine .inr ⟨_, rfl, fun j u hu => ?_⟩
    have : (⟨b, off, none⟩ : Addr).add j = ⟨b, off + j, none⟩ := by unfold Addr.add; split <;> simp_all
    rw [this]
    exact hr j u hu
theorem AllR.next {W wr w2 w3 : World} {P : List (List Ev)} {i : Nat} {v v' : Value} (h : AllR W P i v wr) (hb : Bel wr w2)
    (ho : w3.ownsRow W.heap.size 43 2 v' ((allP P i).length + (prsA (alB (opsP P i)) 5).length) (prc (allP P i) ++ prc (prsA (alB (opsP P i)) 5))) (hg : w2.grownBy w3 v.ownBlock) : AllR W P (i + 1) v' w3 :=
  ⟨by rw [allP_succ, List.length_append, prc_append]; exact ho, by
    have h2 := h.bel.trans hb
    exact Bel.of (h2.out.trans (grown_below hg (own_bel h.own hb) (Nat.le_refl _) h2.size))⟩
set_option maxHeartbeats 16000000 in
theorem walkH (HR : RunC) (HA : AloneC) (W : World) (A : Option Addr) (n c : Nat) (l : List (List Ev)) (s : Prg W A n l) (m : n ≤ c) (x : c ≤ maxLen) (_g : ∀ ops ∈ l, ∀ e ∈ ops, EvOk e)
    (B1 : Option Addr) (k1 d1 : Nat) (q1 : List Int) (s1 : SI W B1 k1 q1) (m1 : k1 ≤ d1) (x1 : d1 ≤ maxLen) (_g1 : ∀ x ∈ q1, In64 x) :
    Calls Try.prog 5 #[.slice A n c, .slice B1 k1 d1] W fun e w' => e = .returned (.bool true) ∧ Below W.heap.size W w' := by
  have HL := Lib.hid s
  have HM := Lib.hid (And.intro m x)
  have HS1 := Lib.hid (And.intro s1 (And.intro m1 x1))
  have HRN := Lib.hid (fun w => ran_any HR w)
  have HAL := Lib.hid HA
  clear HA
  unfold AloneC at HAL
  unfold RunC at HR
  have H1 := Lib.hid HR
  clear s m x HR s1 m1 x1
  go_enter Try.func5, Try.ntmps5
  go_wp2_with fail
  refine (HRN.out W).mono ?_
  rintro e0 w0 ⟨rfl, hb0⟩
  have HW0 := Lib.hid (Bel.of hb0)
  clear hb0
  go_wp2_with fail
  refine (H1.out A n c l B1 k1 d1 q1 _ (HL.out.bel HW0.out) HM.out.1 HM.out.2 (HS1.out.1.keep HW0.out) HS1.out.2.1 HS1.out.2.2).mono ?_
  rintro e1 w1 ⟨v1, y1, l1, c1, rfl, hB1, ho1, hb1⟩
  have HV1 := Lib.hid (EnV.run hB1)
  have HB1 := Lib.hid hB1
  obtain ⟨A1, e1', rfl, hs1, hn1, hm1⟩ := Sl.own ho1
  have HX1 := Lib.hid (enw_box w1 y1)
  have HE1 := Lib.hid ((HW0.out.call hb1).trans (enw_bel w1 y1))
  have HU1 := Lib.hid ((Bel.of hb1).trans (enw_bel w1 y1))
  have HT1 := Lib.hid (And.intro (hs1.bel (enw_bel w1 y1).out) (And.intro hn1 hm1))
  clear hb1 ho1 hs1 hn1 hm1 hB1
  have HLN := Lib.hid HL.out.1
  rcases runB_cases HB1.out with ⟨hc1, rfl, rfl⟩ | ⟨rfl, hok, h100, rfl, rfl⟩
  · have h9 : (c1 != 0) = true := by simpa using hc1
    clear hc1
    go_wp2_with (refine enw_store HV1.out.ty _ _ rfl rfl HV1.out.size HV1.out.one rfl rfl rfl ?_)
    refine (graph_ok A1 _ e1' [] _ HT1.out.1 HT1.out.2.1 (by have := HT1.out.2.2; unfold maxLen at this; omega) (by decide +kernel)).mono ?_
    rintro e2 w2 ⟨v2, rfl, ho2, hb2⟩
    have HE2 := Lib.hid (HE1.out.call hb2)
    clear hb2
    obtain ⟨A2, d2, rfl, _, _, _⟩ := SlP.own ho2
    clear ho2
    go_wp2
    go_ret
    exact ⟨rfl, HE2.out.out⟩
  have HOK := Lib.hid hok
  have HM1 := Lib.hid ((runP_ok hok q1).may hok)
  have HAS := Lib.hid (fun (p : Nat × Nat) (h : p ∈ prsA (fun a b => edge (runP l q1).L a b) 5) => alones l q1 h)
  have HCK := Lib.hid (chk_ok.2 hok)
  have hn6 : n ≤ 6 := by have := hok.six; rw [HLN.out] at this; exact this
  clear hok h100
  go_wp2_with (refine enw_store HV1.out.ty _ _ rfl rfl HV1.out.size HV1.out.one rfl rfl rfl ?_)
  refine (graph_ok A1 _ e1' _ _ HT1.out.1 HT1.out.2.1 (by have := HT1.out.2.2; unfold maxLen at this; omega) HM1.out).mono ?_
  rintro e2 w2 ⟨v2, rfl, ho2, hb2⟩
  obtain ⟨A2, d2, rfl, hs2, hn2, hm2⟩ := SlP.own ho2
  have HE2 := Lib.hid (HE1.out.call hb2)
  have HS2 := Lib.hid (And.intro (SlP.q hs2) (And.intro hn2 hm2))
  clear hb2 ho2 hs2 hn2 hm2
  have HG2 := Lib.hid (show (prsA (fun a b => edge (runP l q1).L a b) 5).length ≤ 6480 from prs_small (by omega) (Nat.le_refl _) (Nat.zero_le _))
  generalize hgp : prsA (fun a b => edge (runP l q1).L a b) 5 = gp at *
  generalize hng : gp.length = ng at *
  have HNG := Lib.hid hng
  obtain ⟨i0, hi0, hz0, hz1, hz2⟩ := info_parts pr_info
  have J := Lib.hid (And.intro hi0 (And.intro hz0 (And.intro hz1 hz2)))
  have H0 := Lib.hid (AllR.mk (World.ownsRow_nil _ _ _ _) (Bel.refl w2) : AllR w2 l 0 (.slice none 0 0) w2)
  clear hgp hng hi0 hz0 hz1 hz2
  go_wp2
  go_loopw [10, 40] (fun v t wr => ∃ i : Nat, i ≤ n ∧ t = .int .i64 i ∧ AllR w2 l i v wr) (fun _ t _ => n - (intOf t).toNat)
  case atStart => exact ⟨0, by omega, rfl, H0.out⟩
  case round =>
    obtain ⟨i, hi, rfl, hr⟩ := hrel
    have HP := Lib.hid hr
    clear hr
    by_cases hlt : i < n
    · have hlt' : (i : Int) < n := by omega
      have HLT := Lib.hid hlt
      have HIS := Lib.hid (show In64 (i : Int) by unfold In64; omega)
      have HAN := Lib.hid (allP_len l i)
      have HBN := Lib.hid (prs_small (R := alB (opsP l i)) (n := 5) (by omega) (Nat.le_refl 5) (Nat.zero_le _))
      have hi6 : i ≤ 6 := by omega
      go_wp2_with fail
      refine (HAL.out A n c l i _ (HL.out.bel (HE2.out.trans HP.out.bel)) HM.out.1 HM.out.2 HIS.out).mono ?_
      rintro e3 w3 ⟨v3, q3, c3, rfl, hB3, ho3, hb3⟩
      obtain ⟨rfl, rfl⟩ : q3 = prsA (alB (opsP l i)) 5 ∧ c3 = 0 := by
        rcases hB3 with ⟨h1, _⟩ | ⟨_, h1, _⟩ | ⟨_, ⟨k, h1, _, h2⟩, h3⟩
        · exact absurd HCK.out h1
        · exfalso; rw [HLN.out] at h1; have := HLT.out; omega
        · obtain rfl : i = k := by omega
          exact ⟨h2, h3⟩
      obtain ⟨A3, d3, rfl, hs3, hn3, hm3⟩ := SlP.own ho3
      have HS3 := Lib.hid (show Src w3 A3 _ (prc (prsA (alB (opsP l i)) 5)) from slp_src hs3)
      have HU3 := Lib.hid (Bel.of hb3)
      have HO3 := Lib.hid (own_bel HP.out.own HU3.out)
      have HN3 := Lib.hid (prc_length (prsA (alB (opsP l i)) 5))
      clear hB3 ho3 hs3 hn3 hm3 hb3
      go_wp2_with (at_builtin; refine wpList_append_srcE rfl (.tmp 51) (.tmp 52) _ rfl w2.heap.size 43 i0 _ 2 16 Try.underlying38 J.out.1 J.out.2.1 J.out.2.2.1 J.out.2.2.2 rfl (by omega) _ _ _ rfl HO3.out A3 _ d3 _ rfl HN3.out HS3.out (prc_one _) (by have := HAN.out; have := HBN.out; unfold maxLen; unfold prsA; omega) (by have := HAN.out; have := HBN.out; unfold prsA; omega) (HP.out.bel.trans HU3.out).size ?_; intro v4 w4 hown4 hg4 hat4)
      have HX := Lib.hid (AllR.next HP.out HU3.out hown4 hg4)
      clear hown4 hg4 hat4
      go_roundw
      case rel => exact ⟨i + 1, by omega, by go_num, HX.out⟩
      case measure => simp [intOf]; omega
    · obtain rfl : n = i := by omega
      obtain ⟨A5, d5, rfl, hs5, hn5, hm5⟩ := SlP.own HP.out.own
      have HS5 := Lib.hid (And.intro (SlP.q hs5) (And.intro hn5 hm5))
      have HB5 := Lib.hid (HE2.out.trans HP.out.bel)
      have HS2' := Lib.hid (HS2.out.1.bel HP.out.bel)
      have hnd : ng ≤ d2 := HS2.out.2.1
      have hng9 : ng ≤ 6480 := HG2.out
      have HD5 := Lib.hid (show (allP l n).length ≤ 9223372036854775807 by have := allP_len l n; omega)
      have HAS' := Lib.hid (fun (p : Nat × Nat) (h : p ∈ gp) => (by rw [← HLN.out]; exact HAS.out p h : p ∈ allP l n))
      clear hs5 hn5 hm5
      skip
      go_wp2
      go_loopw [57] (fun t wi => ∃ j : Nat, j ≤ ng ∧ t = .int .i64 j ∧ Bel wr wi) (fun t _ => ng - (intOf t).toNat)
      case atStart => exact ⟨0, by omega, rfl, Bel.refl _⟩
      case round =>
        obtain ⟨j, hj, rfl, hbr⟩ := hrel
        have HB := Lib.hid hbr
        clear hbr
        by_cases hlt : j < ng
        · obtain ⟨bb, off, e, rfl, hbb, he, hrg⟩ := (HS2'.out.bel HB.out).at_ hlt
          have hlt' : (j : Int) < ng := by omega
          have hic : (j : Int) ≤ d2 := by omega
          have HRG := Lib.hid hrg
          have HX := Lib.hid (qwld_box wr e 43)
          have HB1 := Lib.hid (HB.out.trans (qwld_below wr e 43))
          have HIN := Lib.hid (decide_eq_true (show e ∈ (allP l n).map intp from by
            obtain ⟨p, hp, rfl⟩ := List.mem_map.1 (List.mem_of_getElem? he)
            exact List.mem_map.2 ⟨p, HAS'.out p hp, rfl⟩))
          clear hrg he hbb
          go_wp2_with (first | (refine load_qr TPr _ rfl rfl rfl HRG.out ?_) | (refine qwld_store TPr _ _ rfl rfl _ rfl rfl rfl ?_) | (refine loadB _ _ rfl rfl rfl HX.out TPr ?_) | (go_at_call 16; (with_reducible refine (hasp_any A5 _ d5 ((allP l n).map intp) e _ (HS5.out.1.bel HB1.out) HD5.out).mono ?_); rintro e9 w9 ⟨rfl, hb9⟩; rw [HIN.out]; have HB9 := Lib.hid (HB1.out.trans (Bel.of hb9)); clear hb9))
          go_roundw
          case rel => exact ⟨j + 1, by omega, by go_num, HB9.out⟩
          case measure => simp [intOf]; omega
        · obtain rfl : j = ng := by omega
          go_wp2
          go_ret
          exact ⟨rfl, (HB5.out.trans HB.out).out⟩
set_option maxRecDepth 100000 in
theorem lifted (os : Os) (started : os.Started) (H : Type) (enc : TypeId × Value → H) :
    ReturnsInHanded {} Try.checked os 5 .any (Rows.progAlonesSpec.pre6 enc Try.prog Try.f5 Rows.progAlonesRow.domain false) (Rows.progAlonesSpec.post enc Try.prog Try.f5 false true false false) := by
  refine returnsInHanded_of_change_sized (C := Try.checked) own started (by kernel_rfl) Try.func5
    (ChangeSpec.witness6 (enc := enc) (C := Try.checked) false ⟨#[], #[.slice none 0 0, .slice none 0 0], []⟩ 8 (by kernel_rfl) (by kernel_rfl) (by kernel_rfl) (by kernel_rfl)) ?_
  intro W base args ds gs before hval0 hW hcnd hsz0 _
  have hsz : (DataW.weightsEach Try.prog (Try.f5.params.toList ++ Rows.progAlonesSpec.plain.varTypes Try.prog) (ds ++ gs)).all (· ≤ reachBytes) = true := hsz0
  clear hsz0
  have hval : ∀ (j : Nat) t v, Try.f5.params[j]? = some t → args[j]? = some v → Value.okWide Try.prog W .any base t v := hval0
  have hW' := hW
  obtain ⟨p, q, hA0, hV, rfl, hfz, hnd⟩ := hW
  have hA : DataW.TrodAll enc Try.prog W 0 (fun _ => true) true Try.f5.params.toList args.toList ds p := hA0
  rw [Try.params5] at hA hval hsz
  obtain ⟨v0, vs0, d0, ds0, p0, q0, hargs, rfl, rfl, h0, r0⟩ := trodAll_cons hA
  obtain ⟨v1, vs1, d1, ds1, p1, q1, rfl, rfl, rfl, h1, r1⟩ := trodAll_cons r0
  obtain ⟨rfl, rfl, rfl⟩ := trodAll_nil r1
  obtain rfl : args = #[v0, v1] := by cases args; simp_all
  obtain ⟨rfl, rfl⟩ := trodVars_none hV
  have t0 := h0
  have lt0 : ∀ x ∈ p0, x.block < W.heap.size := by obtain ⟨m, hm⟩ := t0; exact DataW.trod_lt m _ _ _ hm
  have t1 := h1
  have lt1 : ∀ x ∈ p1, x.block < W.heap.size := by obtain ⟨m, hm⟩ := t1; exact DataW.trod_lt m _ _ _ hm
  obtain ⟨A0, n0, c0, l0, rfl, s0, m0, x0, g0⟩ := open_ops Try.underlying22 (by kernel_rfl) Try.underlying45 Try.underlying64 ⟨rfl, rfl, rfl⟩ (by kernel_rfl) (by kernel_rfl) Try.underlying3 (hval 0 22 v0 rfl rfl) h0
  obtain ⟨A1, n1, c1, l1, rfl, s1, m1, x1, g1⟩ := open_ints_arg Try.underlying23 Try.underlying3 (by kernel_rfl) (hval 1 23 v1 rfl rfl) h1
  clear hA0 hval0
  refine (walkH pgrun_c pgalone_any W A0 n0 c0 l0 s0 m0 x0 g0 A1 n1 c1 l1 s1 m1 x1 g1).mono fun e W' ⟨he, bel⟩ => ?_
  subst he
  exact ⟨_, rfl, _, _, _, [], _, [], hW', trodAll_mk1 (shut_bool Try.underlying4 _), (trodAll_cons_mk (Below.trod laidOut (by kernel_rfl) (of_decide_eq_true (by kernel_rfl)) t0 bel lt0) (trodAll_cons_mk (Below.trod laidOut (by kernel_rfl) (of_decide_eq_true (by kernel_rfl)) t1 bel lt1) trodAll_mk0)), rfl, bel.frame _, fun h => by cases h⟩

theorem over : Rows.progAlonesRow.holds Try.pinned (OpenSpec.ofChange Rows.progAlonesSpec) :=
  OpenClaim.holds_of_wide 5 Try.f5 rfl rfl rfl rfl rfl rfl rfl ⟨rfl, rfl, rfl, rfl, rfl⟩ rfl rfl rfl rfl rfl (by kernel_rfl) Try.func5 (by kernel_rfl)
    (of_decide_eq_true (by kernel_rfl)) (by unfold Func.isWrapper; first | (rw [if_pos (by decide +kernel)]; kernel_rfl) | (rw [if_neg (by decide +kernel)]; exact ⟨rfl, rfl⟩))
    (fun os started H enc _ => lifted os started H enc)

theorem proved : Rows.ProgAlonesSaid := over
#print axioms proved
end Go.Proofs.Ytjindfkomnjceaa.LProgAlones

import Derived.Deep.DeepCutAuto
import Derived.Test.YtlcldcbdobgdbaaZKeepPg
import Derived.Test.YtlcldcbdobgdbaaZEv
import Derived.Test.YtlcldcbdobgdbaaZVr
import Derived.Test.YtlcldcbdobgdbaaZGg
import Derived.Test.YtlcldcbdobgdbaaZAd
import Derived.Test.YtlcldcbdobgdbaaZRest
import Derived.Test.YtlcldcbdobgdbaaZEc
set_option linter.all false
set_option maxRecDepth 100000
namespace Go.Proofs.Ytlcldcbdobgdbaa.LEveryLost
open Go Go.ChangeShapes Go.WideShapes Go.ChangeAt Go.RowKit

def gotL (ms : List Int) : List Int := ms.foldl (fun g x => if x ∈ g then g else g ++ [x]) []
theorem got_snoc (ms : List Int) (x : Int) : gotL (ms ++ [x]) = if x ∈ gotL ms then gotL ms else gotL ms ++ [x] := by unfold gotL; rw [List.foldl_append]; rfl
theorem got_all (ms : List Int) : (gotL ms).Nodup ∧ ∀ x, x ∈ gotL ms ↔ x ∈ ms := by
  have h : ∀ (n : Nat) (ms : List Int), ms.length = n → (gotL ms).Nodup ∧ ∀ x, x ∈ gotL ms ↔ x ∈ ms := by
    intro n
    induction n with
    | zero => intro ms h; rw [List.eq_nil_of_length_eq_zero h]; exact ⟨List.Pairwise.nil, fun x => Iff.rfl⟩
    | succ n ih =>
      intro ms h
      have hne : ms ≠ [] := fun e => by rw [e] at h; simp at h
      obtain ⟨i1, i2⟩ := ih ms.dropLast (by simp [h])
      have e : ms = ms.dropLast ++ [ms.getLast hne] := (List.dropLast_concat_getLast hne).symm
      generalize ms.dropLast = ns at *
      generalize ms.getLast hne = y at *
      subst e
      rw [got_snoc]
      by_cases hy : y ∈ gotL ns
      · rw [if_pos hy]
        refine ⟨i1, fun x => ?_⟩
        rw [List.mem_append, List.mem_singleton, i2]
        exact ⟨.inl, fun g => g.elim id fun q => q ▸ (i2 y).1 hy⟩
      · rw [if_neg hy]
        refine ⟨List.nodup_append.2 ⟨i1, by simp, fun a ha b hb => ?_⟩, fun x => by rw [List.mem_append, List.mem_append, i2]⟩
        rw [List.mem_singleton] at hb
        rintro rfl
        exact hy (hb ▸ ha)
  exact h _ ms rfl
theorem lo_q (a b : Int) : adQ false (adN [a, b]) = loP (a % 100 + 1) (b % 100 + 1) := rfl
theorem lo_ev {x y : Int} (hx : 1 ≤ x ∧ x ≤ 100) (hy : 1 ≤ y ∧ y ≤ 100) : evC (loP x y) = 0 := by
  unfold evC
  rw [if_neg (by rw [chk_ok.2 (lo_ok hx hy)]; simp), if_neg (by simp [loP, loO])]
structure LoE (x y : Int) (ds : List En) : Prop where
  dk : ∀ e ∈ ds, e.d = true ∧ e.k = false
  sub : ∀ k, gotL ((ds.take k).map (·.m 0)) ⊆ [x, y, x + y]
  len : (gotL (ds.map (·.m 0))).length = if x = y then 2 else 3
  s : x + y ∈ gotL (ds.map (·.m 0))
  x : x ∈ gotL (ds.map (·.m 0))
  y : y ∈ gotL (ds.map (·.m 0))
theorem lo_says {x y : Int} (hx : 1 ≤ x ∧ x ≤ 100) (hy : 1 ≤ y ∧ y ≤ 100) {ds : List En} (h : EndsOk (loP x y) (ds.map enA)) : LoE x y ds := by
  have hP := lo_ok hx hy
  have hin : ∀ e ∈ ds, e.d = true ∧ e.k = false ∧ (e.m 0 = x ∨ e.m 0 = y ∨ e.m 0 = x + y) := fun e he => by
    obtain ⟨ts, hg, hq⟩ := (h.all _).1 (List.mem_map_of_mem he)
    have hs := lo_free hx hy ts
    have hd : doneP (loP x y) (runP (loP x y) ts) = true := by
      rcases goes_end.1 hg with g | g
      · exact g
      · rw [hs] at g; cases g
    have h1 : (enA e)[18]? = some (.bool e.d) := rfl
    have h2 : (enA e)[19]? = some (.bool e.k) := rfl
    have h3 : (enA e)[0]? = some (.int .i64 (e.m 0)) := rfl
    rw [hq] at h1 h2 h3
    have e1 : (endP (loP x y) (runP (loP x y) ts))[18]? = some (.bool (doneP (loP x y) (runP (loP x y) ts))) := rfl
    have e2 : (endP (loP x y) (runP (loP x y) ts))[19]? = some (.bool (stuckP (loP x y) (runP (loP x y) ts))) := rfl
    have e3 : (endP (loP x y) (runP (loP x y) ts))[0]? = some (.int .i64 ((runP (loP x y) ts).mem 0)) := rfl
    rw [e1] at h1; rw [e2] at h2; rw [e3] at h3
    have h1 : doneP (loP x y) (runP (loP x y) ts) = e.d := by simpa using h1
    have h2 : stuckP (loP x y) (runP (loP x y) ts) = e.k := by simpa using h2
    have h3 : (runP (loP x y) ts).mem 0 = e.m 0 := by simpa using h3
    rw [hd] at h1; rw [hs] at h2
    refine ⟨h1.symm, h2.symm, ?_⟩
    rw [← h3]; exact lo_end hd
  have hall : ∀ (ts : List Int) (z : Int), doneP (loP x y) (runP (loP x y) ts) = true ∧ (runP (loP x y) ts).mem 0 = z → z ∈ gotL (ds.map (·.m 0)) := fun ts z ⟨hd, hm⟩ => by
    have hE : IsEnd (loP x y) (endP (loP x y) (runP (loP x y) ts)) := ⟨ts, goes_end.2 (.inl hd), rfl⟩
    obtain ⟨e, he, hq⟩ := List.mem_map.1 ((h.all _).2 hE)
    refine ((got_all _).2 z).2 (List.mem_map.2 ⟨e, he, ?_⟩)
    have h3 : (enA e)[0]? = some (.int .i64 (e.m 0)) := rfl
    rw [hq] at h3
    have e3 : (endP (loP x y) (runP (loP x y) ts))[0]? = some (.int .i64 ((runP (loP x y) ts).mem 0)) := rfl
    rw [e3] at h3
    have h3 : (runP (loP x y) ts).mem 0 = e.m 0 := by simpa using h3
    rw [← h3, hm]
  have sx := hall _ x (lo_x x y)
  have sy := hall _ y (lo_y x y)
  have ss := hall _ (x + y) (lo_sum x y)
  have sub : ∀ k, gotL ((ds.take k).map (·.m 0)) ⊆ [x, y, x + y] := fun k z hz => by
    obtain ⟨e, he, rfl⟩ := List.mem_map.1 (((got_all _).2 z).1 hz)
    have := (hin e (List.mem_of_mem_take he)).2.2
    simpa using this
  refine ⟨fun e he => ⟨(hin e he).1, (hin e he).2.1⟩, sub, ?_, ss, sx, sy⟩
  have hsub : ∀ z, z ∈ gotL (ds.map (·.m 0)) → z = x ∨ z = y ∨ z = x + y := fun z hz => by
    have := sub ds.length; rw [List.take_length] at this
    simpa using this hz
  by_cases hxy : x = y
  · rw [if_pos hxy]
    have hp : (gotL (ds.map (·.m 0))).Perm [x, x + y] := (List.perm_ext_iff_of_nodup (got_all _).1 (by simp; omega)).2 fun z => by
      constructor
      · intro hz
        rcases hsub z hz with g | g | g
        · simp [g]
        · simp [g, hxy]
        · simp [g]
      · intro hz
        have hz : z = x ∨ z = x + y := by simpa using hz
        rcases hz with rfl | rfl
        · exact sx
        · exact ss
    exact hp.length_eq
  · rw [if_neg hxy]
    have hp : (gotL (ds.map (·.m 0))).Perm [x, y, x + y] := (List.perm_ext_iff_of_nodup (got_all _).1 (by simp; omega)).2 fun z => by
      constructor
      · intro hz; simpa using hsub z hz
      · intro hz
        have hz : z = x ∨ z = y ∨ z = x + y := by simpa using hz
        rcases hz with rfl | rfl | rfl
        · exact sx
        · exact sy
        · exact ss
    exact hp.length_eq
theorem lo_is {x y : Int} (hx : 1 ≤ x ∧ x ≤ 100) (hy : 1 ≤ y ∧ y ≤ 100) {b : Bool} {ws : List Nat} (h : RacesB (loP x y) b ws) : b = true := by
  rcases h with ⟨h1, _⟩ | ⟨_, _, _, h4⟩ | ⟨_, h2, _⟩
  · exact absurd (lo_ev hx hy) h1
  · exact absurd (h4 _) (lo_race x y)
  · exact h2
theorem two_si {w : World} {a b : Int} : SI (w.alloc (.cells #[.int .i64 a, .int .i64 b] 3)) (some ⟨w.heap.size, 0, none⟩) 2 [a, b] := ⟨rfl, fun _ => ⟨_, 0, rfl, fun i hi => by
  have hb := Box.new w #[.int .i64 a, .int .i64 b] 3
  rw [Nat.zero_add]
  match i, hi with
  | 0, _ => exact hb.cell 0 rfl
  | 1, _ => exact hb.cell 1 rfl⟩⟩
set_option maxHeartbeats 16000000 in
theorem walk (a : Int) (ka : In64 a) (b : Int) (kb : In64 b) (W : World) :
    Calls Try.prog 12 #[.int .i64 a, .int .i64 b] W fun e w' => e = .returned (.bool true) ∧ Below W.heap.size W w' := by
  have HI := Lib.hid (show ∀ x ∈ [a, b], In64 x from fun x hx => by
    have hx : x = a ∨ x = b := by simpa using hx
    rcases hx with rfl | rfl
    · exact ka
    · exact kb)
  clear ka kb
  go_enter Try.func12, Try.ntmps12
  go_wp2_with fail
  refine (everied_any W).mono ?_
  rintro e0 w0 ⟨rfl, hb0⟩
  have HW0 := Lib.hid (Bel.of hb0)
  clear hb0
  go_wp2_with fail
  have HAB := Lib.hid ((Bel.refl w0).alloc (.cells #[.int .i64 a, .int .i64 b] 3))
  refine (adders_any false (some ⟨w0.heap.size, 0, none⟩) 2 2 [a, b] _ two_si (Nat.le_refl _) (by unfold maxLen; omega) HI.out (by omega)).mono ?_
  rintro e1 w1 ⟨A, c, rfl, hp, hn, hc, hb1⟩
  rw [lo_q] at hp
  have hx : 1 ≤ a % 100 + 1 ∧ a % 100 + 1 ≤ 100 := by omega
  have hy : 1 ≤ b % 100 + 1 ∧ b % 100 + 1 ≤ 100 := by omega
  rw [show (adN [a, b]).sum = (a % 100 + 1) + ((b % 100 + 1) + 0) from rfl, Int.add_zero]
  generalize a % 100 + 1 = x at *
  generalize b % 100 + 1 = y at *
  have HW1 := Lib.hid ((HW0.out.trans HAB.out).call hb1)
  have HP := Lib.hid (show Prg w1 A 3 (loP x y) from hp)
  have HX := Lib.hid (And.intro hx hy)
  have HC := Lib.hid (And.intro (show 3 ≤ c from hn) hc)
  rw [show ([a, b] : List Int).length + 1 = 3 from rfl]
  clear hp hn hc hb1 HAB hx hy HI
  go_wp2_with fail
  refine (eends_any A 3 c (loP x y) w1 HP.out HC.out.1 HC.out.2).mono ?_
  rintro e2 w2 ⟨v2, xs, rfl, _, hok, hown, hb2⟩
  rw [lo_ev HX.out.1 HX.out.2]
  have hok := hok (lo_ev HX.out.1 HX.out.2)
  obtain ⟨ds, rfl⟩ := en_list (s := xs) fun x hx => ((hok.all x).1 hx).form
  rw [List.length_map, ens_row] at hown
  have HSY := Lib.hid (lo_says HX.out.1 HX.out.2 hok)
  have hpos : 0 < ds.length := by have := hok.pos (lo_ok HX.out.1 HX.out.2); simpa using this
  obtain ⟨g, cap, rfl, _, hnc, hcm, _⟩ := row_cells hown hpos
  have HW2 := Lib.hid (HW1.out.call hb2)
  have HP2 := Lib.hid (HP.out.bel (Bel.of hb2))
  have HO2 := Lib.hid hown
  obtain ⟨k9, hk9⟩ : ∃ k9, ds.length = k9 := ⟨_, rfl⟩
  have HK := Lib.hid hk9
  rw [hk9] at hnc ⊢
  have hncI : (k9 : Int) ≤ cap := by omega
  have hnI : (k9 : Int) ≤ 9223372036854775807 := by unfold maxLen at hcm; omega
  clear hok hown hb2 hpos hk9
  go_wp2_with fail
  refine (eraces_any A 3 c (loP x y) w2 HP2.out HC.out.1 HC.out.2).mono ?_
  rintro e3 w3 ⟨b3, v3, ws, rfl, hB3, ho3, hb3⟩
  rw [lo_ev HX.out.1 HX.out.2]
  obtain rfl := lo_is HX.out.1 HX.out.2 hB3
  have HW3 := Lib.hid (HW2.out.call hb3)
  have HP3 := Lib.hid (HP2.out.bel (Bel.of hb3))
  have HO3 := Lib.hid (own_bel HO2.out (Bel.of hb3))
  clear hB3 ho3 hb3 HP HP2 HO2
  obtain ⟨i0, hi0, hz0, hz1, hz2⟩ := info_parts qint_info
  have J := Lib.hid (And.intro hi0 (And.intro hz0 (And.intro hz1 hz2)))
  clear hi0 hz0 hz1 hz2
  go_wp2
  go_loopw [12, 40] (fun v t wr => ∃ k : Nat, k ≤ k9 ∧ t = .int .i64 k ∧ wr.ownsRow w3.heap.size 3 1 v (gotL ((ds.take k).map (·.m 0))).length (intq (gotL ((ds.take k).map (·.m 0)))) ∧ Bel w3 wr) (fun _ t _ => k9 - (intOf t).toNat)
  case atStart => exact ⟨0, by omega, rfl, World.ownsRow_nil _ _ _ _, Bel.refl _⟩
  case round =>
    obtain ⟨k, hk, rfl, hgo, hr⟩ := hrel
    have HR := Lib.hid hr
    have HG := Lib.hid hgo
    clear hr hgo
    by_cases hlt : k < k9
    · have hlt' : (k : Int) < k9 := by omega
      have hl1 : k < ds.length := by rw [HK.out]; exact hlt
      have HRG := Lib.hid (own_range (own_bel HO3.out HR.out) hl1)
      obtain ⟨hd, hk8⟩ := HSY.out.dk ds[k] (List.getElem_mem hl1)
      have HSN := Lib.hid (show gotL ((ds.take (k + 1)).map (·.m 0)) = if ds[k].m 0 ∈ gotL ((ds.take k).map (·.m 0)) then gotL ((ds.take k).map (·.m 0)) else gotL ((ds.take k).map (·.m 0)) ++ [ds[k].m 0] by
        rw [List.take_succ_eq_append_getElem hl1, List.map_append]; exact got_snoc _ _)
      have HLE := Lib.hid (show (gotL ((ds.take k).map (·.m 0))).length ≤ 3 from List.Nodup.length_le_of_subset (got_all _).1 (HSY.out.sub k))
      generalize ds[k] = z at *
      have HY0 := Lib.hid (Box.new wr z20 33)
      have HY1 := Lib.hid (HY0.out.setRow (enA z))
      have hbw : Bel wr ((wr.alloc (.cells z20 33)).setRow wr.heap.size (enA z)) := ((Bel.refl wr).alloc _).setRow wr.heap.size (Nat.le_refl _) _
      have HBW := Lib.hid hbw
      clear hbw
      have c18 : ∀ w9, Bel ((wr.alloc (.cells z20 33)).setRow wr.heap.size (enA z)) w9 → w9.cell? ⟨wr.heap.size, 18, none⟩ = some (.bool true) := fun w9 h9 => h9.cell (HY1.out.cell 18 (by rw [← hd]; rfl))
      have c19 : ∀ w9, Bel ((wr.alloc (.cells z20 33)).setRow wr.heap.size (enA z)) w9 → w9.cell? ⟨wr.heap.size, 19, none⟩ = some (.bool false) := fun w9 h9 => h9.cell (HY1.out.cell 19 (by rw [← hk8]; rfl))
      have c0 : ∀ w9, Bel ((wr.alloc (.cells z20 33)).setRow wr.heap.size (enA z)) w9 → w9.cell? ⟨wr.heap.size, 0, none⟩ = some (.int .i64 (z.m 0)) := fun w9 h9 => h9.cell (HY1.out.cell 0 rfl)
      have HCC := Lib.hid (And.intro c18 (And.intro c19 c0))
      have HGW := Lib.hid (own_bel HG.out HBW.out)
      have HSZ := Lib.hid (show wr.heap.size < ((wr.alloc (.cells z20 33)).setRow wr.heap.size (enA z)).heap.size from HY1.out.lt)
      clear c18 c19 c0 hd hk8 HY1
      go_upto_region 10 with (first | (refine load_row (l := enE z) (TEndx z) _ rfl rfl rfl HRG.out ?_) | (refine storeB 33 _ _ rfl rfl rfl rfl HY0.out rfl (by exact TEnd) (enA_one z) ?_))
      change Code.wp _ _ _ _ ((wr.alloc (.cells z20 33)).setRow wr.heap.size (enA z))
      have HRW := Lib.hid (HR.out.trans HBW.out)
      clear HY0 HBW HRG HG HR
      generalize (wr.alloc (.cells z20 33)).setRow wr.heap.size (enA z) = W5 at *
      generalize wr.heap.size = B at *
      obtain ⟨c18, c19, c0⟩ := HCC.out
      have c18 := c18 W5 (Bel.refl _)
      have c19 := c19 W5 (Bel.refl _)
      have c0 := c0 W5 (Bel.refl _)
      obtain ⟨A5, d5, rfl, hs5, hn5, hm5⟩ := row_si HGW.out
      have HH := Lib.hid (hasint_any A5 _ d5 _ (z.m 0) W5 hs5 (by have := HLE.out; omega))
      have hn5I : ((gotL ((ds.take k).map (·.m 0))).length : Int) ≤ d5 := by omega
      clear hs5 hn5 hm5 HCC
      generalize gotL ((ds.take k).map (·.m 0)) = G0 at *
      generalize z.m 0 = z0 at *
      by_cases hz : z0 ∈ G0
      · have hq := HSN.out
        rw [if_pos hz] at hq
        have HQ := Lib.hid hq
        clear hq
        rw [decide_eq_true hz] at HH
        clear hz HSN
        go_wp2_with (first | ((with_reducible refine Go.wpList_skip ?_ ?_); exact rfl; simp only [Act.put, Act.eval, List.setIfInBounds_toArray, List.set_cons_zero, List.set_cons_succ, Array.getD_eq_getD_getElem?, List.getElem?_toArray, List.getElem?_cons_zero, List.getElem?_cons_succ, Option.getD_some]) | (go_at_call 32; (with_reducible refine HH.out.mono ?_); rintro e w' ⟨rfl, rfl⟩))
        go_roundw
        case rel => exact ⟨k + 1, by omega, by go_num, by rw [HQ.out]; exact HGW.out, HRW.out⟩
        case measure => simp [intOf]; omega
      · have hq := HSN.out
        rw [if_neg hz] at hq
        have HQ := Lib.hid hq
        clear hq
        rw [decide_eq_false hz] at HH
        clear hz HSN
        have HA := Lib.hid (own_alloc HGW.out (.cells #[.int .i64 z0] 3))
        have HSZ2 := Lib.hid (HRW.out.alloc (.cells #[.int .i64 z0] 3)).size
        go_wp2_with (first | ((with_reducible refine Go.wpList_skip ?_ ?_); exact rfl; simp only [Act.put, Act.eval, List.setIfInBounds_toArray, List.set_cons_zero, List.set_cons_succ, Array.getD_eq_getD_getElem?, List.getElem?_toArray, List.getElem?_cons_zero, List.getElem?_cons_succ, Option.getD_some]) | (go_at_call 32; (with_reducible refine HH.out.mono ?_); rintro e w' ⟨rfl, rfl⟩) | (at_builtin; refine wpList_append_own_at _ rfl (.tmp 57) (.tmp 61) _ rfl w3.heap.size 3 i0 _ 1 8 Try.underlying36 J.out.1 J.out.2.1 J.out.2.2.1 J.out.2.2.2 rfl (by omega) _ G0.length _ rfl HA.out _ 1 1 [.int .i64 z0] rfl rfl (cell_one_new _ _ _) (by simp [Value.oneCell']) (by have := HLE.out; unfold maxLen; omega) (by have := HLE.out; omega) HSZ2.out ?_; intro v7 w7 hown7 hg7 hn7 hat7))
        refine ⟨⟨k + 1, by omega, by go_num, ?_, Bel.of ((HRW.out.alloc _).out.grown hg7 HSZ2.out (own_block_ge HA.out))⟩, by simp [intOf]; omega⟩
        rw [HQ.out, List.length_append, intq_app]
        exact hown7
    · obtain rfl : k = k9 := by omega
      have hG := HG.out
      rw [← HK.out, List.take_length] at hG
      obtain ⟨A5, d5, rfl, hs5, hn5, hm5⟩ := row_si hG
      obtain ⟨bb, off, rfl, hbb, hpr⟩ := (HP3.out.bel HR.out).2 (by omega)
      obtain ⟨B1, m1, e1, hc1, hs1, hm1, hx1⟩ := hpr 1 (loO x) rfl
      obtain ⟨B2, m2, e2, hc2, hs2, hm2, hx2⟩ := hpr 2 (loO y) rfl
      have hl1 : m1 = 3 := by have := hs1.1; simp [loO] at this; omega
      have hl2 : m2 = 3 := by have := hs2.1; simp [loO] at this; omega
      subst hl1
      subst hl2
      obtain ⟨b1, o1, ee1, rfl, _, he1, hr1⟩ := hs1.at_ (i := 1) (by omega)
      obtain ⟨b2, o2, ee2, rfl, _, he2, hr2⟩ := hs2.at_ (i := 1) (by omega)
      have he1 : (⟨3, 0, x⟩ : Ev) = ee1 := by simpa [loO] using he1
      have he2 : (⟨3, 0, y⟩ : Ev) = ee2 := by simpa [loO] using he2
      subst he1
      subst he2
      have HF1 := Lib.hid (fun w9 (h9 : Bel wr w9) => h9.cell hc1)
      have HF2 := Lib.hid (fun w9 (h9 : Bel wr w9) => h9.cell hc2)
      have HF3 := Lib.hid (fun w9 (h9 : Bel wr w9) => h9.cell (show wr.cell? ⟨b1, o1 + 1 * 3 + 2, none⟩ = some (.int .i64 x) from hr1 2 _ rfl))
      have HF4 := Lib.hid (fun w9 (h9 : Bel wr w9) => h9.cell (show wr.cell? ⟨b2, o2 + 1 * 3 + 2, none⟩ = some (.int .i64 y) from hr2 2 _ rfl))
      have hc3 : (3 : Int) ≤ c := by have := HC.out.1; omega
      have hm1I : (3 : Int) ≤ e1 := by omega
      have hm2I : (3 : Int) ≤ e2 := by omega
      have HLE := Lib.hid (show (gotL (ds.map (·.m 0))).length ≤ 3 by have := HSY.out.len; split at this <;> omega)
      have HH := Lib.hid (fun (z : Int) (w9 : World) (h9 : Bel wr w9) => hasint_any A5 _ d5 _ z w9 (hs5.keep h9) (by have := HLE.out; omega))
      clear hc1 hc2 hr1 hr2 hs1 hs2 hm1 hm2 hx1 hx2 hpr hbb hG HG hs5 HO3
      go_wp2_with fail
      (refine region_bel (by kernel_rfl) (by kernel_rfl) ?_; (repeat (first | ((with_reducible refine BigFrame.wpQuiet_skip ?_ ?_); exact rfl; simp only [Act.put, Act.eval, List.setIfInBounds_toArray, List.set_cons_zero, List.set_cons_succ, Array.getD_eq_getD_getElem?, List.getElem?_toArray, List.getElem?_cons_zero, List.getElem?_cons_succ, Option.getD_some]) | (refine q_move _ rfl rfl ?_; simp only [Act.put, Act.eval, List.setIfInBounds_toArray, List.set_cons_zero, List.set_cons_succ, Array.getD_eq_getD_getElem?, List.getElem?_toArray, List.getElem?_cons_zero, List.getElem?_cons_succ, Option.getD_some]) | (refine q_assign _ rfl rfl ?_; simp only [Act.put, Act.eval, List.setIfInBounds_toArray, List.set_cons_zero, List.set_cons_succ, Array.getD_eq_getD_getElem?, List.getElem?_toArray, List.getElem?_cons_zero, List.getElem?_cons_succ, Option.getD_some]) | (refine q_any rfl ?_; apply Exists.intro; refine ⟨fun w hw => ?_, ?_⟩; (have fct0 := HF1.out w hw; have fct1 := HF2.out w hw; have fct2 := HF3.out w hw; have fct3 := HF4.out w hw; go_simp; first | exact ⟨rfl, rfl⟩ | rfl); simp only [Act.put, Act.eval, List.setIfInBounds_toArray, List.set_cons_zero, List.set_cons_succ, Array.getD_eq_getD_getElem?, List.getElem?_toArray, List.getElem?_cons_zero, List.getElem?_cons_succ, Option.getD_some]))); refine wpQuiet_nil ?_; intro w2 hw2)
      have HW9 := Lib.hid (HR.out.trans hw2)
      have HH2 := Lib.hid (fun (z : Int) => HH.out z w2 hw2)
      clear hw2 HH HF1 HF2 HF3 HF4
      have HS3 := Lib.hid (And.intro (HH2.out (x + y)) (And.intro (HH2.out x) (HH2.out y)))
      rw [decide_eq_true HSY.out.s, decide_eq_true HSY.out.x, decide_eq_true HSY.out.y] at HS3
      have hlen := HSY.out.len
      clear HH2 HSY HLE
      generalize (gotL (ds.map (·.m 0))).length = N at *
      by_cases hxy : x = y
      · have hq : (x == y) = true := by simpa using hxy
        rw [if_pos hxy] at hlen
        subst hlen
        clear hxy
        go_wp2_with fail
        refine HS3.out.1.mono ?_
        rintro e7 w7 ⟨rfl, rfl⟩
        go_wp2_with fail
        refine HS3.out.2.1.mono ?_
        rintro e7 w7 ⟨rfl, rfl⟩
        go_wp2_with fail
        refine HS3.out.2.2.mono ?_
        rintro e7 w7 ⟨rfl, rfl⟩
        go_wp2_with fail
        go_ret
        exact ⟨rfl, (HW3.out.trans HW9.out).out⟩
      · have hq : (x == y) = false := by simpa using hxy
        rw [if_neg hxy] at hlen
        subst hlen
        clear hxy
        go_wp2_with fail
        refine HS3.out.1.mono ?_
        rintro e7 w7 ⟨rfl, rfl⟩
        go_wp2_with fail
        refine HS3.out.2.1.mono ?_
        rintro e7 w7 ⟨rfl, rfl⟩
        go_wp2_with fail
        refine HS3.out.2.2.mono ?_
        rintro e7 w7 ⟨rfl, rfl⟩
        go_wp2_with fail
        go_ret
        exact ⟨rfl, (HW3.out.trans HW9.out).out⟩
set_option maxRecDepth 100000 in
theorem lifted (os : Os) (started : os.Started) (H : Type) (enc : TypeId × Value → H) :
    ReturnsInHanded {} Try.checked os 12 .any (Rows.everyLostSpec.pre6 enc Try.prog Try.f12 Rows.everyLostRow.domain false) (Rows.everyLostSpec.post enc Try.prog Try.f12 false true false false) := by
  refine returnsInHanded_of_change_sized (C := Try.checked) own started (by kernel_rfl) Try.func12
    (ChangeSpec.witness6 (enc := enc) (C := Try.checked) false ⟨#[], #[.int .i64 0, .int .i64 0], []⟩ 8 (by kernel_rfl) (by kernel_rfl) (by kernel_rfl) (by kernel_rfl)) ?_
  intro W base args ds gs before hval0 hW hcnd hsz0 _
  have hsz : (DataW.weightsEach Try.prog (Try.f12.params.toList ++ Rows.everyLostSpec.plain.varTypes Try.prog) (ds ++ gs)).all (· ≤ reachBytes) = true := hsz0
  clear hsz0
  have hval : ∀ (j : Nat) t v, Try.f12.params[j]? = some t → args[j]? = some v → Value.okWide Try.prog W .any base t v := hval0
  have hW' := hW
  obtain ⟨p, q, hA0, hV, rfl, hfz, hnd⟩ := hW
  have hA : DataW.TrodAll enc Try.prog W 0 (fun _ => true) true Try.f12.params.toList args.toList ds p := hA0
  rw [Try.params12] at hA hval hsz
  obtain ⟨v0, vs0, d0, ds0, p0, q0, hargs, rfl, rfl, h0, r0⟩ := trodAll_cons hA
  obtain ⟨v1, vs1, d1, ds1, p1, q1, rfl, rfl, rfl, h1, r1⟩ := trodAll_cons r0
  obtain ⟨rfl, rfl, rfl⟩ := trodAll_nil r1
  obtain rfl : args = #[v0, v1] := by cases args; simp_all
  obtain ⟨rfl, rfl⟩ := trodVars_none hV
  have t0 := h0
  have lt0 : ∀ x ∈ p0, x.block < W.heap.size := by obtain ⟨m, hm⟩ := t0; exact DataW.trod_lt m _ _ _ hm
  have t1 := h1
  have lt1 : ∀ x ∈ p1, x.block < W.heap.size := by obtain ⟨m, hm⟩ := t1; exact DataW.trod_lt m _ _ _ hm
  obtain ⟨a0, rfl, _, _, x0⟩ := open_int Try.underlying3 (hval 0 3 v0 rfl rfl) h0
  have k0 := in64_of x0
  obtain ⟨a1, rfl, _, _, x1⟩ := open_int Try.underlying3 (hval 1 3 v1 rfl rfl) h1
  have k1 := in64_of x1
  clear hA0 hval0
  refine (walk a0 k0 a1 k1 W).mono fun e W' ⟨he, bel⟩ => ?_
  subst he
  exact ⟨_, rfl, _, _, _, [], _, [], hW', trodAll_mk1 (shut_bool Try.underlying4 _), (trodAll_cons_mk (Below.trod laidOut (by kernel_rfl) (of_decide_eq_true (by kernel_rfl)) t0 bel lt0) (trodAll_cons_mk (Below.trod laidOut (by kernel_rfl) (of_decide_eq_true (by kernel_rfl)) t1 bel lt1) trodAll_mk0)), rfl, bel.frame _, fun h => by cases h⟩

theorem over : Rows.everyLostRow.holds Try.pinned (OpenSpec.ofChange Rows.everyLostSpec) :=
  OpenClaim.holds_of_wide 12 Try.f12 rfl rfl rfl rfl rfl rfl rfl ⟨rfl, rfl, rfl, rfl, rfl⟩ rfl rfl rfl rfl rfl (by kernel_rfl) Try.func12 (by kernel_rfl)
    (of_decide_eq_true (by kernel_rfl)) (by unfold Func.isWrapper; first | (rw [if_pos (by decide +kernel)]; kernel_rfl) | (rw [if_neg (by decide +kernel)]; exact ⟨rfl, rfl⟩))
    (fun os started H enc _ => lifted os started H enc)

theorem proved : Rows.EveryLostSaid := over
#print axioms proved
end Go.Proofs.Ytlcldcbdobgdbaa.LEveryLost

import Derived.Test.YtlcldcbdobgdbaaZPrW
set_option linter.all false
set_option maxRecDepth 100000
namespace Go.Proofs.Ytlcldcbdobgdbaa
open Go Go.RowKit

def adB (b : Bool) (n : Int) : List Ev := if b = true then adO n else [⟨1, 0, 0⟩, ⟨3, 0, n⟩, ⟨2, 0, 0⟩]
def adN (q : List Int) : List Int := q.map fun n => n % 100 + 1
def adLs (b : Bool) (ns : List Int) (i : Nat) : Nat → List Ev := fun j => if j = 0 then adF i else adB b (ns.getD (j - 1) 0)
def adQ (b : Bool) (ns : List Int) : List (List Ev) := adF ns.length :: ns.map (adB b)
theorem adLs_all (b : Bool) (ns : List Int) : (List.range (ns.length + 1)).map (adLs b ns ns.length) = adQ b ns := by
  apply List.ext_getElem?
  intro j
  by_cases hj : j < ns.length + 1
  · rw [List.getElem?_map, List.getElem?_range hj]
    cases j with
    | zero => rfl
    | succ i =>
      unfold adQ adLs
      rw [List.getElem?_cons_succ, List.getElem?_map]
      simp [List.getElem?_eq_getElem (show i < ns.length by omega), List.getD_eq_getElem?_getD]
  · rw [List.getElem?_eq_none (by simp; omega), List.getElem?_eq_none (by simp [adQ]; omega)]
theorem adF_snoc (i : Nat) : adF (i + 1) = adF i ++ [⟨6, (i : Int) + 1, 0⟩] := by unfold adF; rw [List.range_succ, List.map_append]; rfl
theorem adF_len (i : Nat) : (adF i).length = i := by simp [adF]
theorem adN_b {q : List Int} : ∀ n ∈ adN q, 1 ≤ n ∧ n ≤ 100 := fun n h => by
  unfold adN at h
  obtain ⟨m, _, rfl⟩ := List.mem_map.1 h
  have h1 := Int.emod_nonneg m (show (100 : Int) ≠ 0 by decide)
  have h2 := Int.emod_lt_of_pos m (show (0 : Int) < 100 by decide)
  omega
theorem adN_at {q : List Int} {i : Nat} {n : Int} (h : q[i]? = some n) : (adN q)[i]? = some (n % 100 + 1) := by unfold adN; rw [List.getElem?_map, h]; rfl
theorem ad_sums {l : List Int} (h : ∀ n ∈ l, 1 ≤ n ∧ n ≤ 100) : 0 ≤ l.sum ∧ l.sum ≤ 100 * (l.length : Int) := by
  induction l with
  | nil => simp
  | cons x l ih =>
    have h1 := h x (List.mem_cons_self ..)
    have h2 := ih fun n hn => h n (List.mem_cons_of_mem _ hn)
    rw [List.sum_cons, List.length_cons]
    omega
theorem take_sum1 {l : List Int} {i : Nat} {x : Int} (h : l[i]? = some x) : (l.take (i + 1)).sum = (l.take i).sum + x := by
  rw [List.take_succ, h, List.sum_append]; simp
structure AdW (W : World) (b : Bool) (ns : List Int) (i : Nat) (v : Value) (wr : World) : Prop where
  ex : ∃ r, PrW W.heap.size (i + 1) (adLs b ns i) r v wr
  bel : Bel W wr
theorem AdW.step {W wr y u y2 u2 : World} {b : Bool} {ns : List Int} {i g cap : Nat} {z : Int} {r : Nat → Value} {v1 v2 x : Value} (h : PrW W.heap.size (i + 1) (adLs b ns i) r (.slice (some ⟨g, 0, none⟩) (i + 1) cap) wr) (hz : ns[i]? = some z)
    (hN : W.heap.size ≤ wr.heap.size) (hx : y.ownsRow wr.heap.size 59 3 x (adB b z).length (evc (adB b z))) (hy : Bel wr y)
    (ho : u.ownsRow W.heap.size 59 3 v1 (i + 1) (evc (adF i) ++ evl ⟨6, (i : Int) + 1, 0⟩)) (hg : y.grownBy u (r 0).ownBlock) (hat : v1.ownBlock = (r 0).ownBlock ∨ v1.ownBlock = some y.heap.size)
    (hy2 : y2 = (u.setCell ⟨g, 0, none⟩ v1).alloc (.cells #[x] 57))
    (ho2 : u2.ownsRow W.heap.size 57 1 v2 (i + 2) ((List.range (i + 1)).map (updC r 0 v1) ++ [x])) (hg2 : y2.grownBy u2 (some g)) (hat2 : v2.ownBlock = some g ∨ v2.ownBlock = some y2.heap.size) (hW : Bel W u2) : AdW W b ns (i + 1) v2 u2 := by
  subst hy2
  have h1 := h.bel hy
  have h2 := PrW.put (v := v1) (m := [⟨6, (i : Int) + 1, 0⟩]) h1 (s := 0) (by omega) (Nat.le_trans hN hy.size) (by
    have e : adLs b ns i 0 = adF i := rfl
    rw [e, evc_append, List.length_append, adF_len]
    exact ho) hg hat
  have h3 := h2.bel ((Bel.refl _).alloc (.cells #[x] 57))
  have hlt : ∀ j, j < i + 1 → ∀ k, (r j).ownBlock = some k → k < wr.heap.size := fun j hj k hk => (own_lt (h.rows j hj) hk).2
  have hgw : g < wr.heap.size := (own_lt h.own rfl).2
  have hxk : ∀ k, x.ownBlock = some k → wr.heap.size ≤ k ∧ k < y.heap.size := fun k hk => own_lt hx hk
  have hxu : ((u.setCell ⟨g, 0, none⟩ v1).alloc (.cells #[x] 57)).ownsRow W.heap.size 59 3 x (adB b z).length (evc (adB b z)) := by
    have a1 := own_keep (w' := u) hx (fun k hk hl => hg.block k hl (fun q => by have := hxk k hk; have := hlt 0 (by omega) k q.symm; omega))
    have a2 := own_keep (w' := u.setCell ⟨g, 0, none⟩ v1) a1 (fun k hk _ => heap_setCell_other u ⟨g, 0, none⟩ k v1 (by have := hxk k hk; dsimp only; omega))
    exact own_drop_alloc (a2.alloc _) hN
  have h4 := PrW.push (m := adB b z) h3 hxu (fun k hk => ⟨fun q => by have h9 := hxk k hk; have e9 : g = k := Option.some.inj q; omega, fun j hj q => by
    have h5 := hxk k hk
    unfold updC at q
    by_cases e : j = 0
    · rw [if_pos e] at q
      rcases hat with e1 | e1
      · have := hlt 0 (by omega) k (e1 ▸ q); omega
      · rw [e1] at q; have := Option.some.inj q; omega
    · rw [if_neg e] at q
      have := hlt j hj k q; omega⟩) ho2 hg2 hat2
  refine ⟨⟨_, h4.congr fun j hj => ?_⟩, hW⟩
  unfold updL adLs
  by_cases e0 : j = 0
  · subst e0
    rw [if_neg (by omega), if_pos rfl, if_pos rfl, adF_snoc]; rfl
  · rw [if_neg e0]
    by_cases e1 : j = i + 1
    · subst e1
      rw [if_pos rfl, Nat.add_sub_cancel, List.getD_eq_getElem?_getD, hz]; rfl
    · rw [if_neg e1, if_neg e0, if_neg e0]
def AddPost (w : World) (b : Bool) (q : List Int) (e : Ending) (w' : World) : Prop :=
  ∃ A c, e = .returned (.tuple #[.slice A (q.length + 1) c, .int .i64 (adN q).sum]) ∧ Prg w' A (q.length + 1) (adQ b (adN q)) ∧ q.length + 1 ≤ c ∧ c ≤ maxLen ∧ Below w.heap.size w w'
set_option maxHeartbeats 16000000 in
theorem adders_any (b : Bool) (A : Option Addr) (n c : Nat) (q : List Int) (w : World) (hs : SI w A n q) (hnc : n ≤ c) (hc : c ≤ maxLen) (h64 : ∀ x ∈ q, In64 x) (h5 : n ≤ 5) :
    Calls Try.prog 31 #[.slice A n c, .bool b] w (AddPost w b q) := by
  obtain ⟨i0, hi0, hz0, hz1, hz2⟩ := info_parts opx_info
  obtain ⟨j0, hj0, gz0, gz1, gz2⟩ := info_parts opr_info
  have HS := Lib.hid hs
  have HQL := Lib.hid (show n = q.length from hs.1.symm)
  have HG := Lib.hid h64
  have HN5 := Lib.hid h5
  have hc63 : (c : Int) ≤ 9223372036854775807 := by unfold maxLen at hc; omega
  clear hs h64
  have H0 := Lib.hid (show AdW w b (adN q) 0 (.slice (some ⟨w.heap.size, 0, none⟩) 1 1) (w.alloc (.cells #[.slice none 0 0] 57)) from
    ⟨⟨fun _ => .slice none 0 0, (PrW.lit (Box.new w _ _) (Nat.le_refl _)).congr fun j hj => by rw [show j = 0 by omega]; rfl⟩, (Bel.refl w).alloc _⟩)
  go_enter Try.func31, Try.ntmps31
  go_wp2_with fail
  go_loopw [6, 7, 14] (fun v sm t wr => ∃ i : Nat, i ≤ n ∧ t = .int .i64 i ∧ sm = .int .i64 ((adN q).take i).sum ∧ AdW w b (adN q) i v wr) (fun _ _ t _ => n - (intOf t).toNat)
  case atStart => exact ⟨0, by omega, rfl, rfl, H0.out⟩
  case round =>
    obtain ⟨i, hi, rfl, rfl, hr⟩ := hrel
    have hn5 := HN5.out
    by_cases hlt : i < n
    · have hlt' : (i : Int) < n := by omega
      have hic : (i : Int) ≤ c := by omega
      obtain ⟨bb, oo, rfl, hcc⟩ := HS.out.2 (by omega)
      obtain ⟨nq, hnq⟩ : ∃ nq, q[i]? = some nq := ⟨_, List.getElem?_eq_getElem (by rw [← HQL.out]; exact hlt)⟩
      have hci := hr.bel.cell (hcc i hlt)
      rw [hnq] at hci
      have hci' : wr.cell? ⟨bb, oo + i, none⟩ = some (.int .i64 nq) := hci
      have HN64 := Lib.hid (HG.out nq (List.mem_of_getElem? hnq))
      have hz := adN_at hnq
      have hzb := adN_b _ (List.mem_of_getElem? hz)
      have hts := take_sum1 hz
      have hsb := ad_sums (l := (adN q).take (i + 1)) fun n hn => adN_b n (List.mem_of_mem_take hn)
      have hl1 : ((adN q).take (i + 1)).length ≤ i + 1 := by rw [List.length_take]; omega
      generalize hzz : nq % 100 + 1 = z at *
      have HWZ := Lib.hid (show IntKind.i64.wrap (nq % 100 + 1) = z by rw [hzz]; exact IntWalk.i64_in _ (by omega))
      have HWS := Lib.hid (show IntKind.i64.wrap (((adN q).take i).sum + z) = ((adN q).take (i + 1)).sum by rw [← hts]; exact IntWalk.i64_in _ (by omega))
      have HZ := Lib.hid hz
      have HR := Lib.hid hr
      have HI := Lib.hid (And.intro hi hlt)
      clear hci hz hzb hts hsb hl1 hzz hr hnq hcc H0
      generalize ((adN q).take i).sum = S at *
      go_wp2_with fail
      refine (rest_any nq 100 HN64.out (by omega) (by omega) wr).mono ?_
      rintro e9 w9 ⟨rfl, rfl⟩
      have hwz := HWZ.out
      have hws := HWS.out
      go_upto_region 8 with fail
      clear hwz hws hci'
      have HM := Lib.hid (show w.heap.size ≤ wr.heap.size from HR.out.bel.size)
      have hx1 := Box.new wr (evc [⟨1, 0, 0⟩, ⟨3, 0, z⟩, ⟨2, 0, 0⟩]).toArray 59
      have HX1 := Lib.hid hx1
      have HB1 := Lib.hid ((Bel.refl wr).alloc (.cells (evc [⟨1, 0, 0⟩, ⟨3, 0, z⟩, ⟨2, 0, 0⟩]).toArray 59))
      clear hx1
      go_upto_if 30 with (refine bld3 57 _ _ _ rfl rfl 59 i0 Try.underlying57 hi0 hz0 hz1 ⟨1, 0, 0⟩ ⟨3, 0, z⟩ ⟨2, 0, 0⟩ rfl rfl rfl ?_)
      generalize wr.alloc (.cells (evc [⟨1, 0, 0⟩, ⟨3, 0, z⟩, ⟨2, 0, 0⟩]).toArray 59) = w1 at *
      go_cut [10] (fun x y => y.ownsRow wr.heap.size 59 3 x (adB b z).length (evc (adB b z)) ∧ Bel wr y)
      case first =>
        have HSZ := Lib.hid (show wr.heap.size ≤ w1.heap.size from HB1.out.size)
        have HSZ2 := Lib.hid (show ∀ o, wr.heap.size ≤ (w1.alloc o).heap.size from fun o => by have := HSZ.out; rw [World.size_alloc]; omega)
        cases b
        · go_wp2
          go_meet
          case rel => exact ⟨own_lit HX1.out (Nat.le_refl _) 3 3 (by unfold maxLen; omega) rfl, HB1.out⟩
        · go_wp2_with (first
            | (refine build1 57 _ rfl rfl 59 i0 Try.underlying57 hi0 hz0 hz1 ⟨4, 2, 0⟩ rfl ?_)
            | (refine build1 57 _ rfl rfl 59 i0 Try.underlying57 hi0 hz0 hz1 ⟨5, 2, 0⟩ rfl ?_)
            | (at_builtin; refine wpList_append_src rfl (.tmp 32) (.tmp 33) _ rfl wr.heap.size 59 i0 _ 3 24 Try.underlying57 hi0 hz0 hz1 hz2 rfl (by omega) (.slice (some ⟨w1.heap.size, 0, none⟩) 1 1) 1 (evl ⟨4, 2, 0⟩) rfl (own_lit (Box.new w1 _ _) HSZ.out 1 3 (by unfold maxLen; omega) rfl) (some ⟨wr.heap.size, 0, none⟩) 3 3 (evc [⟨1, 0, 0⟩, ⟨3, 0, z⟩, ⟨2, 0, 0⟩]) rfl rfl (Src.box (HX1.out.old _) 3) (evc_one _) (by unfold maxLen; omega) (by omega) (HSZ2.out _) ?_; intro v3 u3 ho3 hg3 hat3)
            | (at_builtin; refine wpList_append_src rfl (.tmp 34) (.tmp 36) _ rfl wr.heap.size 59 i0 _ 3 24 Try.underlying57 hi0 hz0 hz1 hz2 rfl (by omega) v3 (1 + 3) (evl ⟨4, 2, 0⟩ ++ evc [⟨1, 0, 0⟩, ⟨3, 0, z⟩, ⟨2, 0, 0⟩]) rfl (ho3.alloc _) (some ⟨u3.heap.size, 0, none⟩) 1 1 (evl ⟨5, 2, 0⟩) rfl rfl (Src.box (Box.new u3 (evv ⟨5, 2, 0⟩) _) 1) (by simp [evl, Value.oneCell']) (by unfold maxLen; omega) (by omega) (Nat.le_trans (HSZ2.out _) (Nat.le_trans hg3.size (by rw [World.size_alloc]; omega))) ?_; intro v4 u4 ho4 hg4 hat4))
          go_meet
          case rel =>
            have hb3 := (HB1.out.alloc (.cells (evv ⟨4, 2, 0⟩) 59)).out.trans (grown_below hg3 (own_lit (Box.new w1 _ _) HSZ.out 1 3 (by unfold maxLen; omega) rfl) (Nat.le_refl _) (HSZ2.out _))
            exact ⟨ho4, Bel.of (((Bel.of hb3).alloc (.cells (evv ⟨5, 2, 0⟩) 59)).out.trans (grown_below hg4 (ho3.alloc _) (Nat.le_refl _) (Nat.le_trans (HSZ2.out _) (Nat.le_trans hg3.size (by rw [World.size_alloc]; omega)))))⟩
      case rest =>
        obtain ⟨hx, hy⟩ := hcut
        obtain ⟨Ax, cx, rfl, _⟩ := Sl.own hx
        obtain ⟨⟨r, hp⟩, hbw⟩ := HR.out
        obtain ⟨g, cap, rfl, hNg, hgl, hkc, hcm⟩ := hp.form (by omega)
        have HP := Lib.hid hp
        have HY := Lib.hid hy
        have HX := Lib.hid hx
        have HB := Lib.hid hbw
        have h0k : (0 : Int) < ((i + 1 : Nat) : Int) := by omega
        have hwi : IntKind.i64.wrap ((i : Int) + 1) = ((i + 1 : Nat) : Int) := by rw [IntWalk.i64_in _ (by omega)]; omega
        obtain ⟨A0, e0, hr0, _⟩ := Sl.own (l := adF i) (by have h := hp.rows 0 (by omega); rw [show (adLs b (adN q) i 0).length = i from adF_len i] at h; exact h)
        have HR0 := Lib.hid hr0
        have c0 : wc.cell? ⟨g, 0, none⟩ = some (.slice A0 i e0) := by rw [(HP.out.bel hy).own.cellAt 0 (by omega), ← hr0]; simp
        have HR1 := Lib.hid (show (wc.alloc (.cells (evv ⟨6, (i : Int) + 1, 0⟩) 59)).ownsRow w.heap.size 59 3 (.slice A0 i e0) i (evc (adF i)) by
          have h := ((hp.bel hy).rows 0 (by omega)).alloc (.cells (evv ⟨6, (i : Int) + 1, 0⟩) 59)
          rw [show (adLs b (adN q) i 0).length = i from adF_len i, hr0] at h
          exact h)
        clear hr0
        have hi5 : i ≤ 4 := by omega
        have HK1 := Lib.hid (show 0 < i + 1 by omega)
        have HNM := Lib.hid (Nat.le_trans HM.out hy.size)
        have HI4 := Lib.hid hi5
        clear hp hy hx hbw hi hlt hlt' hic hNg hgl hi5
        go_upto_region 12 with (first
          | (refine build1 57 _ rfl rfl 59 i0 Try.underlying57 hi0 hz0 hz1 ⟨6, (i : Int) + 1, 0⟩ rfl ?_)
          | (at_builtin; refine wpList_append_src rfl (.tmp 41) (.tmp 45) _ rfl w.heap.size 59 i0 _ 3 24 Try.underlying57 hi0 hz0 hz1 hz2 rfl (by omega) (.slice A0 i e0) i (evc (adF i)) rfl HR1.out (some ⟨wc.heap.size, 0, none⟩) 1 1 (evl ⟨6, (i : Int) + 1, 0⟩) rfl rfl (Src.box (Box.new wc (evv ⟨6, (i : Int) + 1, 0⟩) _) 1) (by simp [evl, Value.oneCell']) (by have := HI4.out; unfold maxLen; omega) (by have := HI4.out; omega) (by have := HNM.out; rw [World.size_alloc]; omega) ?_; intro v5 u5 ho5 hg5 hat5
             have hg5' := hg5
             rw [← HR0.out] at hg5'
             have hou := ((HP.out.bel HY.out).bel ((Bel.refl wc).alloc _)).kept (s := 0) (by omega) hg5'
             have ci : u5.cell? ⟨g, 0, none⟩ = some (.slice A0 i e0) := by rw [hou.cellAt 0 (by omega), ← HR0.out]; simp
             have zi : u5.frozen? ⟨g, 0, none⟩ = false := hou.frozenAt 0
             obtain ⟨A5, c5, rfl, _⟩ := Sl.own (n := i + 1) (l := adF (i + 1)) (by rw [adF_snoc, evc_append]; exact ho5)))
        have HOU := Lib.hid (show (u5.setCell ⟨g, 0, none⟩ (.slice A5 (i + 1) c5)).ownsRow w.heap.size 57 1 (.slice (some ⟨g, 0, none⟩) (i + 1) cap) (i + 1) ((List.range (i + 1)).map (updC r 0 (.slice A5 (i + 1) c5))) by
          rw [← range_map_set]; exact (hou.stored 0 _).1)
        have hb5 : Bel w u5 := Below.trans ((HB.out.trans HY.out).alloc (.cells (evv ⟨6, (i : Int) + 1, 0⟩) 59)) (grown_below hg5 HR1.out (Nat.le_refl _) (by have := HNM.out; rw [World.size_alloc]; omega))
        have HB6 := Lib.hid (hb5.setCell ⟨g, 0, none⟩ (by have := (own_lt hou (g := g) rfl).1; dsimp only; omega) (.slice A5 (i + 1) c5))
        have HS6 := Lib.hid (show w.heap.size ≤ (u5.setCell ⟨g, 0, none⟩ (.slice A5 (i + 1) c5)).heap.size from HB6.out.size)
        have HBX := Lib.hid (show Box ((u5.setCell ⟨g, 0, none⟩ (.slice A5 (i + 1) c5)).alloc (.cells #[.slice Ax (adB b z).length cx] 57)) u5.heap.size #[.slice Ax (adB b z).length cx] 57 by
          have h := Box.new (u5.setCell ⟨g, 0, none⟩ (.slice A5 (i + 1) c5)) #[.slice Ax (adB b z).length cx] 57
          rwa [show (u5.setCell ⟨g, 0, none⟩ (.slice A5 (i + 1) c5)).heap.size = u5.heap.size by simp] at h)
        have HO5 := Lib.hid ho5
        have HG5 := Lib.hid hg5
        have HA5 := Lib.hid hat5
        clear hou hb5 ho5 hg5 hat5 ci zi c0
        go_upto_region 13 with (first
          | (at_builtin; refine wpList_append_src rfl (.tmp 48) (.tmp 50) _ rfl w.heap.size 57 j0 _ 1 24 Try.underlying22 hj0 gz0 gz1 gz2 rfl (by omega) (.slice (some ⟨g, 0, none⟩) (i + 1) cap) (i + 1) ((List.range (i + 1)).map (updC r 0 (.slice A5 (i + 1) c5))) rfl (HOU.out.alloc _) (some ⟨u5.heap.size, 0, none⟩) 1 1 [.slice Ax (adB b z).length cx] rfl rfl (Src.box HBX.out 1) (by simp [Value.oneCell']) (by have := HI4.out; unfold maxLen; omega) (by have := HI4.out; omega) (by have := HS6.out; rw [World.size_alloc]; omega) ?_; intro v6 u6' ho6 hg6 hat6))
        have HFN := Lib.hid (show AdW w b (adN q) (i + 1) v6 u6' from by
          have hg5' := HG5.out
          have hat5' := HA5.out
          rw [← HR0.out] at hg5' hat5'
          exact AdW.step HP.out HZ.out HM.out (HX.out.alloc _) (HY.out.alloc _) HO5.out hg5' hat5' rfl ho6 hg6 hat6 (Below.trans (HB6.out.alloc _) (grown_below hg6 (HOU.out.alloc _) (Nat.le_refl _) (by have := HS6.out; rw [World.size_alloc]; omega))))
        clear ho6 hg6 hat6
        go_wp2
        go_roundw
        case rel => exact ⟨i + 1, by have := HI.out; omega, by go_num, rfl, HFN.out⟩
        case measure => have := HI.out; simp [intOf]; omega
    · obtain rfl : i = n := by omega
      have htk : (adN q).take i = adN q := by rw [show i = (adN q).length by rw [HQL.out]; simp [adN], List.take_length]
      rw [htk]
      obtain ⟨⟨r, hp⟩, hbw⟩ := hr
      obtain ⟨g, cap, rfl, _⟩ := hp.form (by omega)
      have HP := Lib.hid hp
      have HB := Lib.hid hbw
      clear hp hbw H0
      clear hn5 hlt
      go_wp2
      go_ret2
      obtain ⟨A', c', he, hpr, h1, h2⟩ := HP.out.prg (Nat.succ_pos _)
      refine ⟨A', c', ?_, ?_, ?_, h2, HB.out.out⟩
      · rw [← HQL.out]
        simp only [Value.slice.injEq] at he
        obtain ⟨rfl, _, rfl⟩ := he
        rfl
      · rw [← HQL.out]
        have hl : (adN q).length = i := by rw [HQL.out]; simp [adN]
        have h := adLs_all b (adN q)
        rw [hl] at h
        rw [h] at hpr
        exact hpr
      · rw [← HQL.out]; exact h1
end Go.Proofs.Ytlcldcbdobgdbaa

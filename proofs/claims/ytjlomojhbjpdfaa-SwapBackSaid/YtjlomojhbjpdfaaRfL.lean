/- Contracts of the reference: Copy of events, Least. -/
import Derived.Test.YtjlomojhbjpdfaaSl
import Derived.Test.YtjlomojhbjpdfaaRfA
import Derived.Test.YtjlomojhbjpdfaaAppend
import Derived.Test.YtjlomojhbjpdfaaKeepTw
set_option linter.all false
set_option maxRecDepth 100000
namespace Go.Proofs.Ytjlomojhbjpdfaa
open Go Go.RowKit

theorem take1_absent {t : Int} : ∀ {l : List Ev}, (∀ x ∈ l, x.t ≠ t) → take1 t l = none
  | [], _ => rfl
  | x :: l, h => take1_none (h x (List.mem_cons_self ..)) (take1_absent fun y hy => h y (List.mem_cons_of_mem _ hy))
theorem take1_stuck {t : Int} {e : Ev} {q : List Ev} (he : e.t = t) : ∀ {p : List Ev}, (∀ x ∈ p, x.t ≠ t) → (p.all fun x => !dep x e) = false → take1 t (p ++ e :: q) = none
  | [], _, h => by simp at h
  | x :: p, hp, h => by
    have hx := hp x (List.mem_cons_self ..)
    have hp' : ∀ y ∈ p, y.t ≠ t := fun y hy => hp y (List.mem_cons_of_mem _ hy)
    cases ha : (p.all fun x => !dep x e)
    · exact take1_none hx (take1_stuck he hp' ha)
    · have h1 : take1 t (p ++ e :: q) = some (e, p ++ q) := take1_at he fun y hy => by
        rw [List.all_eq_true] at ha; simpa using ha y hy
      have h2 : dep x e = true := by rw [List.all_cons, ha] at h; simpa using h
      exact take1_dep (r := p ++ e :: q) hx h1 h2
theorem wpList_append_srcE {P : Program} {ops : Array Oper} {rest : List Oper} {o : Oper} {a : Act} {w : World} {Q : Exit → Act → World → Prop} (hgd : o.guard = none) (s x : Operand) (t : TypeId)
    (ho : o.op = .call { callee := .builtin .append, args := #[s, x], argTypes := #[t, t] })
    (base : Nat) (e : TypeId) (i : TypeInfo) (z : Value) (size bytes : Nat) (ht : P.underlying t = some (.slice e)) (hi : P.info? e = some i) (hz : i.zero = some z)
    (hsize : i.size = size) (hby : i.bytes = bytes) (hzs : z.cells.size = size) (hsz : 0 < size)
    (v : Value) (n : Nat) (xs : List Value) (hv : a.eval s = v) (hown : w.ownsRow base e size v n xs)
    (A : Option Addr) (m c : Nat) (news : List Value) (hx : a.eval x = .slice A m c) (hl : news.length = m * size) (hs : Src w A m news) (h1 : ∀ u ∈ news, u.oneCell' = true)
    (h63 : n + m ≤ maxLen) (hbytes : (n + m) * bytes ≤ 140737488355328) (hbase : base ≤ w.heap.size)
    (h : ∀ v' w', w'.ownsRow base e size v' (n + m) (xs ++ news) → w.grownBy w' v.ownBlock → (v'.ownBlock = v.ownBlock ∨ v'.ownBlock = some w.heap.size) → wpList P ops Q rest (a.put o.dst v') w') : wpList P ops Q (o :: rest) a w :=
  wpList_plain hgd fun _ hK => wp_append_src s x t ho base e i z size bytes ht hi hz hsize hby hzs hsz v n xs hv hown A m c news hx hl hs h1 h63 hbytes hbase (fun v' w' a b c => hK _ _ (h v' w' a b c))
theorem all_succ' {p : Nat → Prop} {k : Nat} (h : ∀ j, j < k → p j) (hk : p k) : ∀ j, j < k + 1 → p j := fun j hj => by
  rcases Nat.lt_succ_iff_lt_or_eq.1 hj with hj | rfl
  · exact h j hj
  · exact hk
def CpPost (w : World) (n : Nat) (l : List Ev) (e : Ending) (w' : World) : Prop := ∃ v, e = .returned v ∧ w'.ownsRow w.heap.size 23 3 v n (evc l) ∧ Below w.heap.size w w'
set_option maxHeartbeats 2000000 in
theorem copyev_any (A : Option Addr) (n c : Nat) (l : List Ev) (w : World) (h : Sl w A n l) (hn : n ≤ 1000) : Calls Try.prog 20 #[.slice A n c] w (CpPost w n l) := by
  obtain ⟨i0, hi0, hz0, hz1, hz2⟩ := info_parts ev_info
  have HO := Lib.hid (World.ownsRow_nil w w.heap.size 23 3)
  have HS := Lib.hid h.src
  have HLN := Lib.hid (show (evc l).length = n * 3 by rw [evc_length, h.1])
  have HN := Lib.hid hn
  clear h hn
  go_enter Try.func20, Try.ntmps20
  go_wp2_with (at_builtin; refine wpList_append_srcE rfl (.const (.slice none 0 0)) (.tmp 3) _ rfl w.heap.size 23 i0 _ 3 24 Try.underlying25 hi0 hz0 hz1 hz2 rfl (by omega) (.slice none 0 0) 0 [] rfl HO.out A n c (evc l) rfl HLN.out HS.out (evc_one l) (by have := HN.out; unfold maxLen; omega) (by have := HN.out; omega) (Nat.le_refl _) ?_; intro v2 w2 hown2 hg2 hat2)
  go_ret
  refine ⟨_, rfl, ?_, (Below.refl _ w).grown hg2 (Nat.le_refl _) (fun k hk => by cases hk)⟩
  simpa using hown2
def LsPost (w : World) (l : List Ev) (e : Ending) (w' : World) : Prop := ∃ v, e = .returned v ∧ w'.ownsRow w.heap.size 23 3 v (leastL l).length (evc (leastL l)) ∧ Below w.heap.size w w'
def LsC (n : Nat) : Prop := ∀ (A : Option Addr) (c : Nat) (l : List Ev) (w : World), Sl w A n l → n ≤ c → c ≤ maxLen → n ≤ 80 → Fit l → Calls Try.prog 23 #[.slice A n c] w (LsPost w l)
theorem ls_zero : LsC 0 := by
  intro A c l w hl _ _ _ _
  obtain rfl : l = [] := List.eq_nil_of_length_eq_zero hl.1
  clear hl
  go_enter Try.func23, Try.ntmps23
  go_wp2
  go_ret
  exact ⟨_, rfl, World.ownsRow_nil _ _ _ _, Below.refl _ _⟩
set_option maxHeartbeats 32000000 in
theorem ls_next (n : Nat) (ih : LsC n) : LsC (n + 1) := by
  intro A c l w hl hnc hc h80 hf
  have IH := Lib.hid ih
  have HL := Lib.hid hl
  have HF := Lib.hid hf
  have HNC := Lib.hid (And.intro hnc hc)
  have HNE := Lib.hid (show l ≠ [] from fun e => by subst e; have := hl.1; simp at this)
  obtain ⟨i0, hi0, hz0, hz1, hz2⟩ := info_parts ev_info
  have J := Lib.hid (And.intro hi0 (And.intro hz0 (And.intro hz1 hz2)))
  generalize hN : n + 1 = N at *
  have hN0 : 0 < N := by omega
  have hN1 : ((N : Int) == 0) = false := by simp; omega
  unfold maxLen at hc
  clear ih hl hf hi0 hz0 hz1 hz2
  go_enter Try.func23, Try.ntmps23
  go_wp2
  go_loopw [12] (fun t wr => ∃ k : Nat, k ≤ 6 ∧ t = .int .i64 k ∧ (∀ u : Nat, u < k → take1 u l = none) ∧ Bel w wr) (fun t _ => 6 - (intOf t).toNat)
  case atStart => exact ⟨0, by omega, rfl, fun u h => by omega, Bel.refl _⟩
  case round =>
    obtain ⟨k, hk, rfl, hd, hbr⟩ := hrel
    have HD := Lib.hid hd
    have HB := Lib.hid hbr
    clear hd hbr
    by_cases hlt : k < 6
    · have hlt' : (k : Int) < 6 := by omega
      have HB0 := Lib.hid HB.out
      go_wp2
      go_loopw [17] (fun t wr => ∃ i : Nat, i ≤ N ∧ t = .int .i64 i ∧ (∀ x ∈ l.take i, x.t ≠ (k : Int)) ∧ Bel w wr) (fun t _ => N - (intOf t).toNat)
      case atStart => exact ⟨0, by omega, rfl, fun x h => by simp at h, HB0.out⟩
      case round =>
        obtain ⟨i, hi, rfl, hn, hbr⟩ := hrel
        have HNT := Lib.hid hn
        have HB1 := Lib.hid hbr
        clear hn hbr HB HB0
        by_cases hli : i < N
        · obtain ⟨bb, off, e, rfl, hbb, he, hrg⟩ := (HL.out.bel HB1.out).at_ hli
          have hli' : (i : Int) < N := by omega
          have hic : (i : Int) ≤ c := by omega
          have hR := Lib.hid hrg
          have HE := Lib.hid he
          have HX := Lib.hid (ewld_box wr e 23)
          have HB2 := Lib.hid (HB1.out.trans (ewld_below wr e 23))
          have c1 := HX.out.cell 1 (v := .int .i64 e.t) rfl
          have HSP := Lib.hid (show l = l.take i ++ e :: l.drop (i + 1) by
            have h1 := (List.take_append_drop i l).symm
            rwa [List.drop_eq_getElem_cons (by rw [HL.out.1]; exact hli), show l[i]'(by rw [HL.out.1]; exact hli) = e from (List.getElem?_eq_some_iff.1 he).2] at h1)
          clear hrg he hbb
          cases het : (e.t == (k : Int))
          · have HN2 := Lib.hid (show ∀ x ∈ l.take (i + 1), x.t ≠ (k : Int) from fun x hx => by
              rw [take_snoc' HE.out, List.mem_append, List.mem_singleton] at hx
              rcases hx with hx | rfl
              · exact HNT.out x hx
              · simpa using het)
            go_wp2_with (first | (refine load_ev T36 _ rfl rfl rfl hR.out ?_) | (refine ewld_store T36 _ _ rfl rfl _ rfl rfl rfl ?_))
            go_roundw
            case rel => exact ⟨i + 1, by omega, by go_num, HN2.out, HB2.out⟩
            case measure => simp [intOf]; omega
          · have HET := Lib.hid (show e.t = (k : Int) by simpa using het)
            go_wp2_with (first | (refine load_ev T36 _ rfl rfl rfl hR.out ?_) | (refine ewld_store T36 _ _ rfl rfl _ rfl rfl rfl ?_))
            rw [show (e.t != (k : Int)) = false by rw [bne, het]; rfl]
            clear het c1
            generalize ewld wr e 23 = wx at *
            generalize wr.heap.size = X at *
            go_loopw [6, 30] (fun v t wr => ∃ j : Nat, j ≤ i ∧ t = .int .i64 j ∧ v = .bool ((l.take j).all fun x => !dep x e) ∧ Bel wx wr) (fun _ t _ => i - (intOf t).toNat)
            case atStart => exact ⟨0, by omega, rfl, by simp, Bel.refl _⟩
            case round =>
              obtain ⟨j, hj, rfl, rfl, hbr⟩ := hrel
              have HB3 := Lib.hid hbr
              clear hbr
              by_cases hlj : j < i
              · obtain ⟨b9, o9, x, e9, hb9, hx, hr9⟩ := (HL.out.bel (HB2.out.trans HB3.out)).at_ (show j < N by omega)
                cases e9
                have hlj' : (j : Int) < i := by omega
                have hjc : (j : Int) ≤ c := by omega
                have hR9 := Lib.hid hr9
                have HTK := Lib.hid (show (l.take (j + 1)).all (fun x => !dep x e) = ((l.take j).all (fun x => !dep x e) && !dep x e) by rw [take_snoc' hx, List.all_append]; simp)
                have HY1 := Lib.hid (ewld_box wr x 23)
                have HB4 := Lib.hid (HB3.out.trans (ewld_below wr x 23))
                have HY2 := Lib.hid (HB4.out.box HX.out)
                clear hr9 hb9 hx
                go_upto_region 14 with (first | (refine load_ev T36 _ rfl rfl rfl hR9.out ?_) | (refine ewld_store T36 _ _ rfl rfl _ rfl rfl rfl ?_))
                cases hv : ((l.take j).all fun x => !dep x e)
                · have HV := Lib.hid (show (l.take (j + 1)).all (fun x => !dep x e) = false by rw [HTK.out, hv]; rfl)
                  go_wp2
                  go_roundw
                  case rel => exact ⟨j + 1, by omega, by go_num, by rw [HV.out], HB4.out⟩
                  case measure => simp [intOf]; omega
                · go_wp2_with (first | (refine loadG _ _ rfl rfl rfl HY1.out T36 ?_) | (refine loadG _ _ rfl rfl rfl HY2.out T36 ?_))
                  have HV := Lib.hid (show (l.take (j + 1)).all (fun x => !dep x e) = !dep x e by rw [HTK.out, hv]; rfl)
                  refine (refapart_any x e _).mono ?_
                  rintro e7 w7 ⟨rfl, hb7⟩
                  have HB7 := Lib.hid (HB4.out.call hb7)
                  rw [← HV.out]
                  clear hb7 hv
                  go_wp2
                  go_roundw
                  case rel => exact ⟨j + 1, by omega, by go_num, rfl, HB7.out⟩
                  case measure => simp [intOf]; omega
              · obtain rfl : j = i := by omega
                cases hfr : ((l.take j).all fun x => !dep x e)
                · have HST := Lib.hid (show take1 (k : Int) l = none by rw [HSP.out]; exact take1_stuck HET.out HNT.out hfr)
                  have HB4 := Lib.hid (HB2.out.trans HB3.out)
                  go_wp2
                  go_roundw
                  case rel => exact ⟨k + 1, by omega, by go_num, all_succ' HD.out HST.out, HB4.out⟩
                  case measure => simp [intOf]; omega
                · have HT1 := Lib.hid (show take1 (k : Int) l = some (e, l.take j ++ l.drop (j + 1)) by
                    have h1 := take1_at (q := l.drop (j + 1)) HET.out (p := l.take j) fun y hy => by rw [List.all_eq_true] at hfr; simpa using hfr y hy
                    rwa [← HSP.out] at h1)
                  have HPK := Lib.hid (pick_iff.2 ⟨k, hlt, HT1.out, HD.out⟩)
                  have HLE := Lib.hid (show leastL l = e :: leastL (l.take j ++ l.drop (j + 1)) by
                    unfold leastL
                    rw [pick_len HPK.out]
                    exact least_cons HPK.out)
                  have HRF := Lib.hid (pick_fit HPK.out HF.out)
                  have HRL := Lib.hid (show (l.take j ++ l.drop (j + 1)).length = n by have := pick_len HPK.out; rw [HL.out.1] at this; omega)
                  have HLL := Lib.hid (show (leastL (l.take j ++ l.drop (j + 1))).length = n by rw [leastL_len HRF.out]; exact HRL.out)
                  have HBW := Lib.hid (HB2.out.trans HB3.out)
                  have HXR := Lib.hid (HB3.out.box HX.out)
                  have HSI := Lib.hid (show Sl wr (some ⟨bb, off, none⟩) j (l.take j) from (HL.out.bel HBW.out).take (by omega))
                  have HSD0 := Lib.hid (Sl.drop (c := c) (HL.out.bel HBW.out) (show j + 1 ≤ N by omega) (by omega))
                  have HLD := Lib.hid (show (evc (l.drop (j + 1))).length = (N - (j + 1)) * 3 by rw [evc_length, List.length_drop, HL.out.1])
                  have HFIN := Lib.hid (fun (v : Value) (w' : World) (h : w'.ownsRow wr.heap.size 23 3 v (1 + (leastL (l.take j ++ l.drop (j + 1))).length) ((evv e).toList ++ evc (leastL (l.take j ++ l.drop (j + 1))))) => show w'.ownsRow wr.heap.size 23 3 v (e :: leastL (l.take j ++ l.drop (j + 1))).length (evc (e :: leastL (l.take j ++ l.drop (j + 1)))) by
                    rw [List.length_cons, Nat.add_comm]; exact h)
                  have hw8 : IntKind.i64.wrap ((j : Int) + 1) = (j : Int) + 1 := IntWalk.i64_in _ (by omega)
                  have hj1 : (j : Int) + 1 ≤ N := by omega
                  have hC0 : Bel wr wr := Bel.refl wr
                  clear hfr
                  go_wp2
                  refine region_grow (by kernel_rfl) ?_
                  have hbx := fun (w1 : World) (h1 : Below wr.heap.size wr w1) => (Bel.of h1).box HXR.out
                  (repeat (first | (refine wpG_go 0 (by simp only [List.getElem?_toArray, List.getElem?_cons_zero, List.getElem?_cons_succ] <;> rfl) (by decide +kernel) (by decide +kernel) (by kernel_rfl) (by rfl) (by exact fun _ _ _ _ h => h) (Nat.le_refl _) ?_; apply Exists.intro; refine ⟨fun w1 h1 => ?_, ?_⟩; (first | exact g_move _ rfl | exact g_assign _ rfl | exact g_load _ _ rfl T36 rfl (hbx w1 h1) | (go_simp; first | exact ⟨rfl, rfl⟩ | rfl)); simp only [Act.put, Act.eval, List.setIfInBounds_toArray, List.set_cons_zero, List.set_cons_succ, Array.getD_eq_getD_getElem?, List.getElem?_toArray, List.getElem?_cons_zero, List.getElem?_cons_succ, Option.getD_some]) | (refine wpG_go 2 (by simp only [List.getElem?_toArray, List.getElem?_cons_zero, List.getElem?_cons_succ] <;> rfl) (by decide +kernel) (by decide +kernel) (by kernel_rfl) (by rfl) (by exact fun _ _ _ _ h => h) (Nat.le_refl _) ?_; apply Exists.intro; refine ⟨fun w1 h1 => ?_, ?_⟩; (first | exact g_move _ rfl | exact g_assign _ rfl | exact g_load _ _ rfl T36 rfl (hbx w1 h1) | (go_simp; first | exact ⟨rfl, rfl⟩ | rfl)); simp only [Act.put, Act.eval, List.setIfInBounds_toArray, List.set_cons_zero, List.set_cons_succ, Array.getD_eq_getD_getElem?, List.getElem?_toArray, List.getElem?_cons_zero, List.getElem?_cons_succ, Option.getD_some]) | (refine wpG_go 3 (by simp only [List.getElem?_toArray, List.getElem?_cons_zero, List.getElem?_cons_succ] <;> rfl) (by decide +kernel) (by decide +kernel) (by kernel_rfl) (by rfl) (by exact fun _ _ _ _ h => h) (Nat.le_refl _) ?_; apply Exists.intro; refine ⟨fun w1 h1 => ?_, ?_⟩; (first | exact g_move _ rfl | exact g_assign _ rfl | exact g_load _ _ rfl T36 rfl (hbx w1 h1) | (go_simp; first | exact ⟨rfl, rfl⟩ | rfl)); simp only [Act.put, Act.eval, List.setIfInBounds_toArray, List.set_cons_zero, List.set_cons_succ, Array.getD_eq_getD_getElem?, List.getElem?_toArray, List.getElem?_cons_zero, List.getElem?_cons_succ, Option.getD_some]) | (refine wpG_go 4 (by simp only [List.getElem?_toArray, List.getElem?_cons_zero, List.getElem?_cons_succ] <;> rfl) (by decide +kernel) (by decide +kernel) (by kernel_rfl) (by rfl) (by exact fun _ _ _ _ h => h) (Nat.le_refl _) ?_; apply Exists.intro; refine ⟨fun w1 h1 => ?_, ?_⟩; (first | exact g_move _ rfl | exact g_assign _ rfl | exact g_load _ _ rfl T36 rfl (hbx w1 h1) | (go_simp; first | exact ⟨rfl, rfl⟩ | rfl)); simp only [Act.put, Act.eval, List.setIfInBounds_toArray, List.set_cons_zero, List.set_cons_succ, Array.getD_eq_getD_getElem?, List.getElem?_toArray, List.getElem?_cons_zero, List.getElem?_cons_succ, Option.getD_some]) | (refine wpG_go 6 (by simp only [List.getElem?_toArray, List.getElem?_cons_zero, List.getElem?_cons_succ] <;> rfl) (by decide +kernel) (by decide +kernel) (by kernel_rfl) (by rfl) (by exact fun _ _ _ _ h => h) (Nat.le_refl _) ?_; apply Exists.intro; refine ⟨fun w1 h1 => ?_, ?_⟩; (first | exact g_move _ rfl | exact g_assign _ rfl | exact g_load _ _ rfl T36 rfl (hbx w1 h1) | (go_simp; first | exact ⟨rfl, rfl⟩ | rfl)); simp only [Act.put, Act.eval, List.setIfInBounds_toArray, List.set_cons_zero, List.set_cons_succ, Array.getD_eq_getD_getElem?, List.getElem?_toArray, List.getElem?_cons_zero, List.getElem?_cons_succ, Option.getD_some]) | (refine wpG_go 7 (by simp only [List.getElem?_toArray, List.getElem?_cons_zero, List.getElem?_cons_succ] <;> rfl) (by decide +kernel) (by decide +kernel) (by kernel_rfl) (by rfl) (by exact fun _ _ _ _ h => h) (Nat.le_refl _) ?_; apply Exists.intro; refine ⟨fun w1 h1 => ?_, ?_⟩; (first | exact g_move _ rfl | exact g_assign _ rfl | exact g_load _ _ rfl T36 rfl (hbx w1 h1) | (go_simp; first | exact ⟨rfl, rfl⟩ | rfl)); simp only [Act.put, Act.eval, List.setIfInBounds_toArray, List.set_cons_zero, List.set_cons_succ, Array.getD_eq_getD_getElem?, List.getElem?_toArray, List.getElem?_cons_zero, List.getElem?_cons_succ, Option.getD_some]) | (refine wpG_go 8 (by simp only [List.getElem?_toArray, List.getElem?_cons_zero, List.getElem?_cons_succ] <;> rfl) (by decide +kernel) (by decide +kernel) (by kernel_rfl) (by rfl) (by exact fun _ _ _ _ h => h) (Nat.le_refl _) ?_; apply Exists.intro; refine ⟨fun w1 h1 => ?_, ?_⟩; (first | exact g_move _ rfl | exact g_assign _ rfl | exact g_load _ _ rfl T36 rfl (hbx w1 h1) | (go_simp; first | exact ⟨rfl, rfl⟩ | rfl)); simp only [Act.put, Act.eval, List.setIfInBounds_toArray, List.set_cons_zero, List.set_cons_succ, Array.getD_eq_getD_getElem?, List.getElem?_toArray, List.getElem?_cons_zero, List.getElem?_cons_succ, Option.getD_some]) | (refine wpG_go 9 (by simp only [List.getElem?_toArray, List.getElem?_cons_zero, List.getElem?_cons_succ] <;> rfl) (by decide +kernel) (by decide +kernel) (by kernel_rfl) (by rfl) (by exact fun _ _ _ _ h => h) (Nat.le_refl _) ?_; apply Exists.intro; refine ⟨fun w1 h1 => ?_, ?_⟩; (first | exact g_move _ rfl | exact g_assign _ rfl | exact g_load _ _ rfl T36 rfl (hbx w1 h1) | (go_simp; first | exact ⟨rfl, rfl⟩ | rfl)); simp only [Act.put, Act.eval, List.setIfInBounds_toArray, List.set_cons_zero, List.set_cons_succ, Array.getD_eq_getD_getElem?, List.getElem?_toArray, List.getElem?_cons_zero, List.getElem?_cons_succ, Option.getD_some]) | (refine wpG_skip 0 (by simp only [List.getElem?_toArray, List.getElem?_cons_zero, List.getElem?_cons_succ] <;> rfl) (by decide +kernel) (by decide +kernel) (by kernel_rfl) (by rfl) (by exact fun _ _ _ _ h => h) (Nat.le_refl _) ?_; simp only [Act.put, Act.eval, List.setIfInBounds_toArray, List.set_cons_zero, List.set_cons_succ, Array.getD_eq_getD_getElem?, List.getElem?_toArray, List.getElem?_cons_zero, List.getElem?_cons_succ, Option.getD_some]) | (refine wpG_skip 2 (by simp only [List.getElem?_toArray, List.getElem?_cons_zero, List.getElem?_cons_succ] <;> rfl) (by decide +kernel) (by decide +kernel) (by kernel_rfl) (by rfl) (by exact fun _ _ _ _ h => h) (Nat.le_refl _) ?_; simp only [Act.put, Act.eval, List.setIfInBounds_toArray, List.set_cons_zero, List.set_cons_succ, Array.getD_eq_getD_getElem?, List.getElem?_toArray, List.getElem?_cons_zero, List.getElem?_cons_succ, Option.getD_some]) | (refine wpG_skip 3 (by simp only [List.getElem?_toArray, List.getElem?_cons_zero, List.getElem?_cons_succ] <;> rfl) (by decide +kernel) (by decide +kernel) (by kernel_rfl) (by rfl) (by exact fun _ _ _ _ h => h) (Nat.le_refl _) ?_; simp only [Act.put, Act.eval, List.setIfInBounds_toArray, List.set_cons_zero, List.set_cons_succ, Array.getD_eq_getD_getElem?, List.getElem?_toArray, List.getElem?_cons_zero, List.getElem?_cons_succ, Option.getD_some]) | (refine wpG_skip 4 (by simp only [List.getElem?_toArray, List.getElem?_cons_zero, List.getElem?_cons_succ] <;> rfl) (by decide +kernel) (by decide +kernel) (by kernel_rfl) (by rfl) (by exact fun _ _ _ _ h => h) (Nat.le_refl _) ?_; simp only [Act.put, Act.eval, List.setIfInBounds_toArray, List.set_cons_zero, List.set_cons_succ, Array.getD_eq_getD_getElem?, List.getElem?_toArray, List.getElem?_cons_zero, List.getElem?_cons_succ, Option.getD_some]) | (refine wpG_skip 6 (by simp only [List.getElem?_toArray, List.getElem?_cons_zero, List.getElem?_cons_succ] <;> rfl) (by decide +kernel) (by decide +kernel) (by kernel_rfl) (by rfl) (by exact fun _ _ _ _ h => h) (Nat.le_refl _) ?_; simp only [Act.put, Act.eval, List.setIfInBounds_toArray, List.set_cons_zero, List.set_cons_succ, Array.getD_eq_getD_getElem?, List.getElem?_toArray, List.getElem?_cons_zero, List.getElem?_cons_succ, Option.getD_some]) | (refine wpG_skip 7 (by simp only [List.getElem?_toArray, List.getElem?_cons_zero, List.getElem?_cons_succ] <;> rfl) (by decide +kernel) (by decide +kernel) (by kernel_rfl) (by rfl) (by exact fun _ _ _ _ h => h) (Nat.le_refl _) ?_; simp only [Act.put, Act.eval, List.setIfInBounds_toArray, List.set_cons_zero, List.set_cons_succ, Array.getD_eq_getD_getElem?, List.getElem?_toArray, List.getElem?_cons_zero, List.getElem?_cons_succ, Option.getD_some]) | (refine wpG_skip 8 (by simp only [List.getElem?_toArray, List.getElem?_cons_zero, List.getElem?_cons_succ] <;> rfl) (by decide +kernel) (by decide +kernel) (by kernel_rfl) (by rfl) (by exact fun _ _ _ _ h => h) (Nat.le_refl _) ?_; simp only [Act.put, Act.eval, List.setIfInBounds_toArray, List.set_cons_zero, List.set_cons_succ, Array.getD_eq_getD_getElem?, List.getElem?_toArray, List.getElem?_cons_zero, List.getElem?_cons_succ, Option.getD_some]) | (refine wpG_skip 9 (by simp only [List.getElem?_toArray, List.getElem?_cons_zero, List.getElem?_cons_succ] <;> rfl) (by decide +kernel) (by decide +kernel) (by kernel_rfl) (by rfl) (by exact fun _ _ _ _ h => h) (Nat.le_refl _) ?_; simp only [Act.put, Act.eval, List.setIfInBounds_toArray, List.set_cons_zero, List.set_cons_succ, Array.getD_eq_getD_getElem?, List.getElem?_toArray, List.getElem?_cons_zero, List.getElem?_cons_succ, Option.getD_some])))
                  have HSD1 := HSD0.out
                  simp only [Option.map_some, Addr.add_lit] at HSD1
                  clear HSD0
                  generalize (if c = j + 1 then some (⟨bb, off, none⟩ : Addr) else some ⟨bb, off + (j + 1) * 3, none⟩) = A0 at *
                  have HSD := Lib.hid HSD1
                  clear HSD1 hbx
                  obtain ⟨hi0, hz0, hz1, hz2⟩ := J.out
                  (refine wpG_two 1 5 (by decide +kernel) ?_ ?_ <;> (intro w1 hw1; refine op_wanted (by simp only [List.getElem?_toArray, List.getElem?_cons_zero, List.getElem?_cons_succ] <;> rfl) rfl ?_))
                  · skip
                    have hE1 := hC0.trans hw1
                    have hG1 := hE1.size
                    refine wp_build1 _ _ rfl _ i0 Try.underlying25 J.out.1 J.out.2.1 J.out.2.2.1 e rfl ⟨Below.alloc (Below.refl _ _) hE1.size _, ?_⟩
                    simp only [Act.put, Act.eval, List.setIfInBounds_toArray, List.set_cons_zero, List.set_cons_succ, Array.getD_eq_getD_getElem?, List.getElem?_toArray, List.getElem?_cons_zero, List.getElem?_cons_succ, Option.getD_some]
                    have bx := Box.new w1 (evv e) 23
                    have hC1 := hE1.alloc (.cells (evv e) 23)
                    generalize w1.heap.size = X1 at *
                    generalize w1.alloc (.cells (evv e) 23) = v1 at *
                    (refine wpG_one 5 (by decide +kernel) ?_; intro w2 hw2; refine op_wanted (by simp only [List.getElem?_toArray, List.getElem?_cons_zero, List.getElem?_cons_succ] <;> rfl) rfl ?_)
                    have hE2 := hC1.trans hw2
                    have bx := hw2.box bx
                    go_simp
                    refine (copyev_any (some ⟨bb, off, none⟩) j c (l.take j) _ (HSI.out.bel hE2) (by omega)).mono ?_
                    rintro e2 v2 ⟨vc, rfl, hoc, hbc⟩
                    refine ⟨hbc.mono hE2.size, ?_⟩
                    have hne : some X1 ≠ vc.ownBlock := fun e9 => by have := (own_lt hoc e9.symm).1; have := bx.lt; omega
                    have bx := (Bel.of hbc).box bx
                    have hoc := own_drop_alloc hoc hE2.size
                    have hC2 := hE2.trans (Bel.of hbc)
                    clear hbc
                    (refine wpG_one 10 (by decide +kernel) ?_; intro w3 hw3; refine op_wanted (by simp only [List.getElem?_toArray, List.getElem?_cons_zero, List.getElem?_cons_succ] <;> rfl) rfl ?_)
                    have hE3 := hC2.trans hw3
                    have bx := hw3.box bx
                    have hoc := own_bel hoc hw3
                    refine wp_append_src (.tmp 47) (.tmp 51) _ rfl wr.heap.size 23 i0 _ 3 24 Try.underlying25 J.out.1 J.out.2.1 J.out.2.2.1 J.out.2.2.2 rfl (by omega) vc j (evc (l.take j)) rfl hoc A0 (N - (j + 1)) (c - (j + 1)) (evc (l.drop (j + 1))) rfl HLD.out (HSD.out.bel hE3).src (evc_one _) (by unfold maxLen; omega) (by omega) hE3.size ?_
                    intro vd v3 hod hgd hatd
                    refine ⟨grown_below hgd hoc (Nat.le_refl _) hE3.size, ?_⟩
                    simp only [Act.put, Act.eval, List.setIfInBounds_toArray, List.set_cons_zero, List.set_cons_succ, Array.getD_eq_getD_getElem?, List.getElem?_toArray, List.getElem?_cons_zero, List.getElem?_cons_succ, Option.getD_some]
                    have bx := bx.grown hgd hne
                    have hC3 : Bel wr v3 := Bel.of (hE3.out.trans (grown_below hgd hoc (Nat.le_refl _) hE3.size))
                    rw [← evc_append, show j + (N - (j + 1)) = n by omega] at hod
                    obtain ⟨Ad, cd, rfl, sd, nd, md⟩ := Sl.own hod
                    clear hod hgd hatd hoc
                    (refine wpG_one 11 (by decide +kernel) ?_; intro w4 hw4; refine op_wanted (by simp only [List.getElem?_toArray, List.getElem?_cons_zero, List.getElem?_cons_succ] <;> rfl) rfl ?_)
                    have hE4 := hC3.trans hw4
                    have bx := hw4.box bx
                    have sd := sd.bel hw4
                    go_simp
                    refine (IH.out Ad cd (l.take j ++ l.drop (j + 1)) _ sd nd md (by omega) HRF.out).mono ?_
                    rintro e4 v4 ⟨vl, rfl, hol, hbl⟩
                    refine ⟨hbl.mono hE4.size, ?_⟩
                    have bx := (Bel.of hbl).box bx
                    have hC4 := hE4.trans (Bel.of hbl)
                    obtain ⟨Al, cl, rfl, sl, nl, ml⟩ := Sl.own hol
                    clear hol hbl sd nd md
                    (refine wpG_one 12 (by decide +kernel) ?_; intro w5 hw5; refine op_wanted (by simp only [List.getElem?_toArray, List.getElem?_cons_zero, List.getElem?_cons_succ] <;> rfl) rfl ?_)
                    have hE5 := hC4.trans hw5
                    have bx := hw5.box bx
                    have sl := sl.bel hw5
                    have hlit := own_lit bx hG1 1 3 (by simp [maxLen]) rfl
                    refine wp_append_src (.tmp 43) (.tmp 53) _ rfl wr.heap.size 23 i0 _ 3 24 Try.underlying25 J.out.1 J.out.2.1 J.out.2.2.1 J.out.2.2.2 rfl (by omega) _ 1 _ rfl hlit Al _ cl (evc (leastL (l.take j ++ l.drop (j + 1)))) rfl (by rw [evc_length]) sl.src (evc_one _) (by unfold maxLen; have := HLL.out; omega) (by have := HLL.out; omega) hE5.size ?_
                    intro vz v5 hoz hgz hatz
                    refine ⟨grown_below hgz hlit (Nat.le_refl _) hE5.size, ?_⟩
                    simp only [Act.put, Act.eval, List.setIfInBounds_toArray, List.set_cons_zero, List.set_cons_succ, Array.getD_eq_getD_getElem?, List.getElem?_toArray, List.getElem?_cons_zero, List.getElem?_cons_succ, Option.getD_some]
                    have hC5 : Bel wr v5 := Bel.of (hE5.out.trans (grown_below hgz hlit (Nat.le_refl _) hE5.size))
                    (repeat (first | (refine wpG_go 13 (by simp only [List.getElem?_toArray, List.getElem?_cons_zero, List.getElem?_cons_succ] <;> rfl) (by decide +kernel) (by decide +kernel) (by kernel_rfl) (by rfl) (by exact fun _ _ _ _ h => h) hC5.size ?_; apply Exists.intro; refine ⟨fun w1 h1 => ?_, ?_⟩; (first | exact g_move _ rfl | exact g_assign _ rfl | (go_simp; first | exact ⟨rfl, rfl⟩ | rfl)); simp only [Act.put, Act.eval, List.setIfInBounds_toArray, List.set_cons_zero, List.set_cons_succ, Array.getD_eq_getD_getElem?, List.getElem?_toArray, List.getElem?_cons_zero, List.getElem?_cons_succ, Option.getD_some]) | (refine wpG_skip 13 (by simp only [List.getElem?_toArray, List.getElem?_cons_zero, List.getElem?_cons_succ] <;> rfl) (by decide +kernel) (by decide +kernel) (by kernel_rfl) (by rfl) (by exact fun _ _ _ _ h => h) hC5.size ?_; simp only [Act.put, Act.eval, List.setIfInBounds_toArray, List.set_cons_zero, List.set_cons_succ, Array.getD_eq_getD_getElem?, List.getElem?_toArray, List.getElem?_cons_zero, List.getElem?_cons_succ, Option.getD_some])))
                    (refine wpG_done (by decide +kernel) ?_ _; intro wz hwz; try simp only [Act.put, Act.eval, List.setIfInBounds_toArray, List.set_cons_zero, List.set_cons_succ, Array.getD_eq_getD_getElem?, List.getElem?_toArray, List.getElem?_cons_zero, List.getElem?_cons_succ, Option.getD_some])
                    have HZ := Lib.hid (And.intro (own_bel hoz hwz) (hC5.trans hwz))
                    clear hwz hoz hgz hatz hlit bx sl
                    go_wp2
                    go_ret
                    exact ⟨_, rfl, by rw [HLE.out]; exact own_drop_alloc (HFIN.out _ _ HZ.out.1) HBW.out.size, (HBW.out.trans HZ.out.2).out⟩
                  · skip
                    have hE1 := hC0.trans hw1
                    go_simp
                    refine (copyev_any (some ⟨bb, off, none⟩) j c (l.take j) _ (HSI.out.bel hE1) (by omega)).mono ?_
                    rintro e1 v1 ⟨vc, rfl, hoc, hbc⟩
                    refine ⟨hbc.mono hE1.size, ?_⟩
                    have hoc := own_drop_alloc hoc hE1.size
                    have hC1 := hE1.trans (Bel.of hbc)
                    clear hbc
                    (refine wpG_two 1 10 (by decide +kernel) ?_ ?_ <;> (intro w6 hw6; refine op_wanted (by simp only [List.getElem?_toArray, List.getElem?_cons_zero, List.getElem?_cons_succ] <;> rfl) rfl ?_))
                    · skip
                      have hE6 := hC1.trans hw6
                      have hoc := own_bel hoc hw6
                      have hG1 := hE6.size
                      refine wp_build1 _ _ rfl _ i0 Try.underlying25 J.out.1 J.out.2.1 J.out.2.2.1 e rfl ⟨Below.alloc (Below.refl _ _) hE6.size _, ?_⟩
                      simp only [Act.put, Act.eval, List.setIfInBounds_toArray, List.set_cons_zero, List.set_cons_succ, Array.getD_eq_getD_getElem?, List.getElem?_toArray, List.getElem?_cons_zero, List.getElem?_cons_succ, Option.getD_some]
                      have bx := Box.new w6 (evv e) 23
                      have hC6 := hE6.alloc (.cells (evv e) 23)
                      have hne : some w6.heap.size ≠ vc.ownBlock := fun e9 => by have := (own_lt hoc e9.symm).2; omega
                      have hoc := own_alloc hoc (.cells (evv e) 23)
                      generalize w6.heap.size = X1 at *
                      generalize w6.alloc (.cells (evv e) 23) = v6 at *
                      (refine wpG_one 10 (by decide +kernel) ?_; intro w7 hw7; refine op_wanted (by simp only [List.getElem?_toArray, List.getElem?_cons_zero, List.getElem?_cons_succ] <;> rfl) rfl ?_)
                      have hE7 := hC6.trans hw7
                      have hoc := own_bel hoc hw7
                      have bx := hw7.box bx
                      refine wp_append_src (.tmp 47) (.tmp 51) _ rfl wr.heap.size 23 i0 _ 3 24 Try.underlying25 J.out.1 J.out.2.1 J.out.2.2.1 J.out.2.2.2 rfl (by omega) vc j (evc (l.take j)) rfl hoc A0 (N - (j + 1)) (c - (j + 1)) (evc (l.drop (j + 1))) rfl HLD.out (HSD.out.bel hE7).src (evc_one _) (by unfold maxLen; omega) (by omega) hE7.size ?_
                      intro vd v7 hod hgd hatd
                      refine ⟨grown_below hgd hoc (Nat.le_refl _) hE7.size, ?_⟩
                      simp only [Act.put, Act.eval, List.setIfInBounds_toArray, List.set_cons_zero, List.set_cons_succ, Array.getD_eq_getD_getElem?, List.getElem?_toArray, List.getElem?_cons_zero, List.getElem?_cons_succ, Option.getD_some]
                      have bx := bx.grown hgd hne
                      have hC7 : Bel wr v7 := Bel.of (hE7.out.trans (grown_below hgd hoc (Nat.le_refl _) hE7.size))
                      rw [← evc_append, show j + (N - (j + 1)) = n by omega] at hod
                      obtain ⟨Ad, cd, rfl, sd, nd, md⟩ := Sl.own hod
                      clear hod hgd hatd hoc
                      (refine wpG_one 11 (by decide +kernel) ?_; intro w8 hw8; refine op_wanted (by simp only [List.getElem?_toArray, List.getElem?_cons_zero, List.getElem?_cons_succ] <;> rfl) rfl ?_)
                      have hE8 := hC7.trans hw8
                      have bx := hw8.box bx
                      have sd := sd.bel hw8
                      go_simp
                      refine (IH.out Ad cd (l.take j ++ l.drop (j + 1)) _ sd nd md (by omega) HRF.out).mono ?_
                      rintro e8 v8 ⟨vl, rfl, hol, hbl⟩
                      refine ⟨hbl.mono hE8.size, ?_⟩
                      have bx := (Bel.of hbl).box bx
                      have hC8 := hE8.trans (Bel.of hbl)
                      obtain ⟨Al, cl, rfl, sl, nl, ml⟩ := Sl.own hol
                      clear hol hbl sd nd md
                      (refine wpG_one 12 (by decide +kernel) ?_; intro w9 hw9; refine op_wanted (by simp only [List.getElem?_toArray, List.getElem?_cons_zero, List.getElem?_cons_succ] <;> rfl) rfl ?_)
                      have hE9 := hC8.trans hw9
                      have bx := hw9.box bx
                      have sl := sl.bel hw9
                      have hlit := own_lit bx hG1 1 3 (by simp [maxLen]) rfl
                      refine wp_append_src (.tmp 43) (.tmp 53) _ rfl wr.heap.size 23 i0 _ 3 24 Try.underlying25 J.out.1 J.out.2.1 J.out.2.2.1 J.out.2.2.2 rfl (by omega) _ 1 _ rfl hlit Al _ cl (evc (leastL (l.take j ++ l.drop (j + 1)))) rfl (by rw [evc_length]) sl.src (evc_one _) (by unfold maxLen; have := HLL.out; omega) (by have := HLL.out; omega) hE9.size ?_
                      intro vz v9 hoz hgz hatz
                      refine ⟨grown_below hgz hlit (Nat.le_refl _) hE9.size, ?_⟩
                      simp only [Act.put, Act.eval, List.setIfInBounds_toArray, List.set_cons_zero, List.set_cons_succ, Array.getD_eq_getD_getElem?, List.getElem?_toArray, List.getElem?_cons_zero, List.getElem?_cons_succ, Option.getD_some]
                      have hC9 : Bel wr v9 := Bel.of (hE9.out.trans (grown_below hgz hlit (Nat.le_refl _) hE9.size))
                      (repeat (first | (refine wpG_go 13 (by simp only [List.getElem?_toArray, List.getElem?_cons_zero, List.getElem?_cons_succ] <;> rfl) (by decide +kernel) (by decide +kernel) (by kernel_rfl) (by rfl) (by exact fun _ _ _ _ h => h) hC9.size ?_; apply Exists.intro; refine ⟨fun w1 h1 => ?_, ?_⟩; (first | exact g_move _ rfl | exact g_assign _ rfl | (go_simp; first | exact ⟨rfl, rfl⟩ | rfl)); simp only [Act.put, Act.eval, List.setIfInBounds_toArray, List.set_cons_zero, List.set_cons_succ, Array.getD_eq_getD_getElem?, List.getElem?_toArray, List.getElem?_cons_zero, List.getElem?_cons_succ, Option.getD_some]) | (refine wpG_skip 13 (by simp only [List.getElem?_toArray, List.getElem?_cons_zero, List.getElem?_cons_succ] <;> rfl) (by decide +kernel) (by decide +kernel) (by kernel_rfl) (by rfl) (by exact fun _ _ _ _ h => h) hC9.size ?_; simp only [Act.put, Act.eval, List.setIfInBounds_toArray, List.set_cons_zero, List.set_cons_succ, Array.getD_eq_getD_getElem?, List.getElem?_toArray, List.getElem?_cons_zero, List.getElem?_cons_succ, Option.getD_some])))
                      (refine wpG_done (by decide +kernel) ?_ _; intro wz hwz; try simp only [Act.put, Act.eval, List.setIfInBounds_toArray, List.set_cons_zero, List.set_cons_succ, Array.getD_eq_getD_getElem?, List.getElem?_toArray, List.getElem?_cons_zero, List.getElem?_cons_succ, Option.getD_some])
                      have HZ := Lib.hid (And.intro (own_bel hoz hwz) (hC9.trans hwz))
                      clear hwz hoz hgz hatz hlit bx sl
                      go_wp2
                      go_ret
                      exact ⟨_, rfl, by rw [HLE.out]; exact own_drop_alloc (HFIN.out _ _ HZ.out.1) HBW.out.size, (HBW.out.trans HZ.out.2).out⟩
                    · skip
                      have hE6 := hC1.trans hw6
                      have hoc := own_bel hoc hw6
                      refine wp_append_src (.tmp 47) (.tmp 51) _ rfl wr.heap.size 23 i0 _ 3 24 Try.underlying25 J.out.1 J.out.2.1 J.out.2.2.1 J.out.2.2.2 rfl (by omega) vc j (evc (l.take j)) rfl hoc A0 (N - (j + 1)) (c - (j + 1)) (evc (l.drop (j + 1))) rfl HLD.out (HSD.out.bel hE6).src (evc_one _) (by unfold maxLen; omega) (by omega) hE6.size ?_
                      intro vd v6 hod hgd hatd
                      refine ⟨grown_below hgd hoc (Nat.le_refl _) hE6.size, ?_⟩
                      simp only [Act.put, Act.eval, List.setIfInBounds_toArray, List.set_cons_zero, List.set_cons_succ, Array.getD_eq_getD_getElem?, List.getElem?_toArray, List.getElem?_cons_zero, List.getElem?_cons_succ, Option.getD_some]
                      have hC6 : Bel wr v6 := Bel.of (hE6.out.trans (grown_below hgd hoc (Nat.le_refl _) hE6.size))
                      rw [← evc_append, show j + (N - (j + 1)) = n by omega] at hod
                      obtain ⟨Ad, cd, rfl, sd, nd, md⟩ := Sl.own hod
                      clear hod hgd hatd hoc
                      (refine wpG_two 1 11 (by decide +kernel) ?_ ?_ <;> (intro w10 hw10; refine op_wanted (by simp only [List.getElem?_toArray, List.getElem?_cons_zero, List.getElem?_cons_succ] <;> rfl) rfl ?_))
                      · skip
                        have hE10 := hC6.trans hw10
                        have sd := sd.bel hw10
                        have hG1 := hE10.size
                        refine wp_build1 _ _ rfl _ i0 Try.underlying25 J.out.1 J.out.2.1 J.out.2.2.1 e rfl ⟨Below.alloc (Below.refl _ _) hE10.size _, ?_⟩
                        simp only [Act.put, Act.eval, List.setIfInBounds_toArray, List.set_cons_zero, List.set_cons_succ, Array.getD_eq_getD_getElem?, List.getElem?_toArray, List.getElem?_cons_zero, List.getElem?_cons_succ, Option.getD_some]
                        have bx := Box.new w10 (evv e) 23
                        have hC10 := hE10.alloc (.cells (evv e) 23)
                        have sd := sd.bel ((Bel.refl w10).alloc (.cells (evv e) 23))
                        generalize w10.heap.size = X1 at *
                        generalize w10.alloc (.cells (evv e) 23) = v10 at *
                        (refine wpG_one 11 (by decide +kernel) ?_; intro w11 hw11; refine op_wanted (by simp only [List.getElem?_toArray, List.getElem?_cons_zero, List.getElem?_cons_succ] <;> rfl) rfl ?_)
                        have hE11 := hC10.trans hw11
                        have sd := sd.bel hw11
                        have bx := hw11.box bx
                        go_simp
                        refine (IH.out Ad cd (l.take j ++ l.drop (j + 1)) _ sd nd md (by omega) HRF.out).mono ?_
                        rintro e11 v11 ⟨vl, rfl, hol, hbl⟩
                        refine ⟨hbl.mono hE11.size, ?_⟩
                        have bx := (Bel.of hbl).box bx
                        have hC11 := hE11.trans (Bel.of hbl)
                        obtain ⟨Al, cl, rfl, sl, nl, ml⟩ := Sl.own hol
                        clear hol hbl sd nd md
                        (refine wpG_one 12 (by decide +kernel) ?_; intro w12 hw12; refine op_wanted (by simp only [List.getElem?_toArray, List.getElem?_cons_zero, List.getElem?_cons_succ] <;> rfl) rfl ?_)
                        have hE12 := hC11.trans hw12
                        have bx := hw12.box bx
                        have sl := sl.bel hw12
                        have hlit := own_lit bx hG1 1 3 (by simp [maxLen]) rfl
                        refine wp_append_src (.tmp 43) (.tmp 53) _ rfl wr.heap.size 23 i0 _ 3 24 Try.underlying25 J.out.1 J.out.2.1 J.out.2.2.1 J.out.2.2.2 rfl (by omega) _ 1 _ rfl hlit Al _ cl (evc (leastL (l.take j ++ l.drop (j + 1)))) rfl (by rw [evc_length]) sl.src (evc_one _) (by unfold maxLen; have := HLL.out; omega) (by have := HLL.out; omega) hE12.size ?_
                        intro vz v12 hoz hgz hatz
                        refine ⟨grown_below hgz hlit (Nat.le_refl _) hE12.size, ?_⟩
                        simp only [Act.put, Act.eval, List.setIfInBounds_toArray, List.set_cons_zero, List.set_cons_succ, Array.getD_eq_getD_getElem?, List.getElem?_toArray, List.getElem?_cons_zero, List.getElem?_cons_succ, Option.getD_some]
                        have hC12 : Bel wr v12 := Bel.of (hE12.out.trans (grown_below hgz hlit (Nat.le_refl _) hE12.size))
                        (repeat (first | (refine wpG_go 13 (by simp only [List.getElem?_toArray, List.getElem?_cons_zero, List.getElem?_cons_succ] <;> rfl) (by decide +kernel) (by decide +kernel) (by kernel_rfl) (by rfl) (by exact fun _ _ _ _ h => h) hC12.size ?_; apply Exists.intro; refine ⟨fun w1 h1 => ?_, ?_⟩; (first | exact g_move _ rfl | exact g_assign _ rfl | (go_simp; first | exact ⟨rfl, rfl⟩ | rfl)); simp only [Act.put, Act.eval, List.setIfInBounds_toArray, List.set_cons_zero, List.set_cons_succ, Array.getD_eq_getD_getElem?, List.getElem?_toArray, List.getElem?_cons_zero, List.getElem?_cons_succ, Option.getD_some]) | (refine wpG_skip 13 (by simp only [List.getElem?_toArray, List.getElem?_cons_zero, List.getElem?_cons_succ] <;> rfl) (by decide +kernel) (by decide +kernel) (by kernel_rfl) (by rfl) (by exact fun _ _ _ _ h => h) hC12.size ?_; simp only [Act.put, Act.eval, List.setIfInBounds_toArray, List.set_cons_zero, List.set_cons_succ, Array.getD_eq_getD_getElem?, List.getElem?_toArray, List.getElem?_cons_zero, List.getElem?_cons_succ, Option.getD_some])))
                        (refine wpG_done (by decide +kernel) ?_ _; intro wz hwz; try simp only [Act.put, Act.eval, List.setIfInBounds_toArray, List.set_cons_zero, List.set_cons_succ, Array.getD_eq_getD_getElem?, List.getElem?_toArray, List.getElem?_cons_zero, List.getElem?_cons_succ, Option.getD_some])
                        have HZ := Lib.hid (And.intro (own_bel hoz hwz) (hC12.trans hwz))
                        clear hwz hoz hgz hatz hlit bx sl
                        go_wp2
                        go_ret
                        exact ⟨_, rfl, by rw [HLE.out]; exact own_drop_alloc (HFIN.out _ _ HZ.out.1) HBW.out.size, (HBW.out.trans HZ.out.2).out⟩
                      · skip
                        have hE10 := hC6.trans hw10
                        have sd := sd.bel hw10
                        go_simp
                        refine (IH.out Ad cd (l.take j ++ l.drop (j + 1)) _ sd nd md (by omega) HRF.out).mono ?_
                        rintro e10 v10 ⟨vl, rfl, hol, hbl⟩
                        refine ⟨hbl.mono hE10.size, ?_⟩
                        have hC10 := hE10.trans (Bel.of hbl)
                        obtain ⟨Al, cl, rfl, sl, nl, ml⟩ := Sl.own hol
                        clear hol hbl sd nd md
                        (refine wpG_one 1 (by decide +kernel) ?_; intro w13 hw13; refine op_wanted (by simp only [List.getElem?_toArray, List.getElem?_cons_zero, List.getElem?_cons_succ] <;> rfl) rfl ?_)
                        have hE13 := hC10.trans hw13
                        have sl := sl.bel hw13
                        have hG1 := hE13.size
                        refine wp_build1 _ _ rfl _ i0 Try.underlying25 J.out.1 J.out.2.1 J.out.2.2.1 e rfl ⟨Below.alloc (Below.refl _ _) hE13.size _, ?_⟩
                        simp only [Act.put, Act.eval, List.setIfInBounds_toArray, List.set_cons_zero, List.set_cons_succ, Array.getD_eq_getD_getElem?, List.getElem?_toArray, List.getElem?_cons_zero, List.getElem?_cons_succ, Option.getD_some]
                        have bx := Box.new w13 (evv e) 23
                        have hC13 := hE13.alloc (.cells (evv e) 23)
                        have sl := sl.bel ((Bel.refl w13).alloc (.cells (evv e) 23))
                        generalize w13.heap.size = X1 at *
                        generalize w13.alloc (.cells (evv e) 23) = v13 at *
                        (refine wpG_one 12 (by decide +kernel) ?_; intro w14 hw14; refine op_wanted (by simp only [List.getElem?_toArray, List.getElem?_cons_zero, List.getElem?_cons_succ] <;> rfl) rfl ?_)
                        have hE14 := hC13.trans hw14
                        have sl := sl.bel hw14
                        have bx := hw14.box bx
                        have hlit := own_lit bx hG1 1 3 (by simp [maxLen]) rfl
                        refine wp_append_src (.tmp 43) (.tmp 53) _ rfl wr.heap.size 23 i0 _ 3 24 Try.underlying25 J.out.1 J.out.2.1 J.out.2.2.1 J.out.2.2.2 rfl (by omega) _ 1 _ rfl hlit Al _ cl (evc (leastL (l.take j ++ l.drop (j + 1)))) rfl (by rw [evc_length]) sl.src (evc_one _) (by unfold maxLen; have := HLL.out; omega) (by have := HLL.out; omega) hE14.size ?_
                        intro vz v14 hoz hgz hatz
                        refine ⟨grown_below hgz hlit (Nat.le_refl _) hE14.size, ?_⟩
                        simp only [Act.put, Act.eval, List.setIfInBounds_toArray, List.set_cons_zero, List.set_cons_succ, Array.getD_eq_getD_getElem?, List.getElem?_toArray, List.getElem?_cons_zero, List.getElem?_cons_succ, Option.getD_some]
                        have hC14 : Bel wr v14 := Bel.of (hE14.out.trans (grown_below hgz hlit (Nat.le_refl _) hE14.size))
                        (repeat (first | (refine wpG_go 13 (by simp only [List.getElem?_toArray, List.getElem?_cons_zero, List.getElem?_cons_succ] <;> rfl) (by decide +kernel) (by decide +kernel) (by kernel_rfl) (by rfl) (by exact fun _ _ _ _ h => h) hC14.size ?_; apply Exists.intro; refine ⟨fun w1 h1 => ?_, ?_⟩; (first | exact g_move _ rfl | exact g_assign _ rfl | (go_simp; first | exact ⟨rfl, rfl⟩ | rfl)); simp only [Act.put, Act.eval, List.setIfInBounds_toArray, List.set_cons_zero, List.set_cons_succ, Array.getD_eq_getD_getElem?, List.getElem?_toArray, List.getElem?_cons_zero, List.getElem?_cons_succ, Option.getD_some]) | (refine wpG_skip 13 (by simp only [List.getElem?_toArray, List.getElem?_cons_zero, List.getElem?_cons_succ] <;> rfl) (by decide +kernel) (by decide +kernel) (by kernel_rfl) (by rfl) (by exact fun _ _ _ _ h => h) hC14.size ?_; simp only [Act.put, Act.eval, List.setIfInBounds_toArray, List.set_cons_zero, List.set_cons_succ, Array.getD_eq_getD_getElem?, List.getElem?_toArray, List.getElem?_cons_zero, List.getElem?_cons_succ, Option.getD_some])))
                        (refine wpG_done (by decide +kernel) ?_ _; intro wz hwz; try simp only [Act.put, Act.eval, List.setIfInBounds_toArray, List.set_cons_zero, List.set_cons_succ, Array.getD_eq_getD_getElem?, List.getElem?_toArray, List.getElem?_cons_zero, List.getElem?_cons_succ, Option.getD_some])
                        have HZ := Lib.hid (And.intro (own_bel hoz hwz) (hC14.trans hwz))
                        clear hwz hoz hgz hatz hlit bx sl
                        go_wp2
                        go_ret
                        exact ⟨_, rfl, by rw [HLE.out]; exact own_drop_alloc (HFIN.out _ _ HZ.out.1) HBW.out.size, (HBW.out.trans HZ.out.2).out⟩
        · obtain rfl : i = N := by omega
          have HST := Lib.hid (show take1 (k : Int) l = none from take1_absent (by have := HNT.out; rwa [← HL.out.1, List.take_length] at this))
          go_wp2
          go_roundw
          case rel => exact ⟨k + 1, by omega, by go_num, all_succ' HD.out HST.out, HB1.out⟩
          case measure => simp [intOf]; omega
    · exfalso
      obtain ⟨e, r, hp⟩ := pick_some HF.out HNE.out
      obtain ⟨t, h1, h2, _⟩ := pick_iff.1 hp
      have := HD.out t (by omega)
      rw [h2] at this
      cases this
theorem refleast_all : ∀ n, LsC n
  | 0 => ls_zero
  | n + 1 => ls_next n (refleast_all n)
theorem refleast_any (A : Option Addr) (n c : Nat) (l : List Ev) (w : World) (hl : Sl w A n l) (hnc : n ≤ c) (hc : c ≤ maxLen) (hm : may l = 0) : Calls Try.prog 23 #[.slice A n c] w (LsPost w l) :=
  refleast_all n A c l w hl hnc hc (by rw [← hl.1]; exact ((may_iff l).1 hm).1) (may_fit hm)
end Go.Proofs.Ytjlomojhbjpdfaa

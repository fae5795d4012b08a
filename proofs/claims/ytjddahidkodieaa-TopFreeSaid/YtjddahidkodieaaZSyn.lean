import Derived.Deep.DeepCutAuto
import Derived.Test.YtjddahidkodieaaZGrowU
import Derived.Test.YtjddahidkodieaaZCp
import Derived.Test.YtjddahidkodieaaZRr
import Derived.Test.YtjddahidkodieaaZAppend
import Derived.Test.YtjddahidkodieaaZSl
set_option linter.all false
set_option maxRecDepth 100000
namespace Go.Proofs.Ytjddahidkodieaa
open Go Go.RowKit

def syE (l : List Ev) (j : Nat) : List Ev := if j < 5 then l.filter (acqB (j : Nat)) else l.filter (sigB ((j - 5 : Nat) : Int))
def sySl (e : Ev) : Nat := if e.k = 3 then e.o.toNat else 5 + e.o.toNat
theorem syE_app (l : List Ev) (e : Ev) (j : Nat) : syE (l ++ [e]) j = syE l j ++ syE [e] j := by unfold syE; split <;> rw [List.filter_append]
theorem TS9 : RowTy Try.prog 57 9 := ⟨_, Try.underlying57, rfl, by kernel_rfl⟩
structure SyR (W : World) (T : Nat) (l : List Ev) (r : Nat → Value) (w : World) : Prop where
  box : Box w T (vs 9 r) 57
  own : ∀ j, j < 9 → w.ownsRow (T + 1) 54 3 (r j) (syE l j).length (evc (syE l j))
  apart : ∀ i j, i < 9 → j < 9 → i ≠ j → ∀ g, (r i).ownBlock = some g → (r j).ownBlock ≠ some g
  bel : Bel W w
theorem SyR.grow {W w w' : World} {T : Nat} {l : List Ev} {r : Nat → Value} (h : SyR W T l r w) (hb : Bel w w') : SyR W T l r w' :=
  ⟨hb.box h.box, fun j hj => own_bel (h.own j hj) hb, h.apart, h.bel.trans hb⟩
theorem syE_one (e : Ev) (j : Nat) (hj : j < 9) (hr : (e.k = 3 ∧ 0 ≤ e.o ∧ e.o < 5) ∨ ((e.k = 7 ∨ e.k = 8) ∧ 0 ≤ e.o ∧ e.o < 4)) : syE [e] j = if j = sySl e then [e] else [] := by
  unfold syE sySl
  rcases hr with ⟨hk, h0, h5⟩ | ⟨hk, h0, h4⟩
  · rw [if_pos hk]
    by_cases hj5 : j < 5
    · rw [if_pos hj5]
      unfold acqB
      by_cases h : j = e.o.toNat
      · rw [if_pos h]; simp [hk]; omega
      · rw [if_neg h]; simp [hk]; omega
    · rw [if_neg hj5, if_neg (by omega)]
      unfold sigB
      simp [hk]
  · have h3 : e.k ≠ 3 := by omega
    rw [if_neg h3]
    by_cases hj5 : j < 5
    · rw [if_pos hj5, if_neg (by omega)]
      unfold acqB
      simp [h3]
    · rw [if_neg hj5]
      unfold sigB
      by_cases h : j = 5 + e.o.toNat
      · rw [if_pos h]; simp [hk]; omega
      · rw [if_neg h]; simp [hk]; omega
theorem syE_none (e : Ev) (j : Nat) (h3 : e.k ≠ 3) (h7 : e.k ≠ 7) (h8 : e.k ≠ 8) : syE [e] j = [] := by
  unfold syE acqB sigB
  split <;> simp [h3, h7, h8]
theorem own_one9 {w : World} {base n size : Nat} {e : TypeId} {v : Value} {xs : List Value} (h : w.ownsRow base e size v n xs) : v.oneCell' = true := by
  rcases h.2 with ⟨rfl, _⟩ | ⟨g, cap, cur, rfl, _⟩ <;> rfl
theorem grown_bel {y u u' : World} {row : Option Nat} (h : y.grownBy u row) (hb : Bel u u') : y.grownBy u' row :=
  ⟨hb.os.trans h.os, hb.tape.trans h.tape, hb.output.trans h.output, Nat.le_trans h.size hb.size, fun k hk hne => (hb.block k (Nat.lt_of_lt_of_le hk h.size)).trans (h.block k hk hne)⟩
theorem SyR.step {W y u : World} {T s : Nat} {l : List Ev} {e : Ev} {r : Nat → Value} {v : Value} (h : SyR W T l r y) (hs : s < 9) (ho : u.ownsRow (T + 1) 54 3 v ((syE l s).length + 1) (evc (syE l s) ++ evl e)) (hg : y.grownBy u (r s).ownBlock)
    (hat : v.ownBlock = (r s).ownBlock ∨ v.ownBlock = some y.heap.size) (hW : W.heap.size ≤ T) (he : ∀ j, j < 9 → syE [e] j = if j = s then [e] else []) : SyR W T (l ++ [e]) (updC r s v) (u.setCell ⟨T, s, none⟩ v) := by
  have hlt : ∀ j, j < 9 → ∀ g, (r j).ownBlock = some g → T < g ∧ g < y.heap.size := fun j hj g hgj => by have := own_lt (h.own j hj) hgj; omega
  have hvT : ∀ g, v.ownBlock = some g → g ≠ T := fun g hgv => by
    rcases hat with q | q
    · have := hlt s hs g (q ▸ hgv); omega
    · rw [q] at hgv; have := Option.some.inj hgv; have := h.box.lt; omega
  refine ⟨?_, fun j hj => ?_, fun i j hi hj hij g hgi hgj => ?_, ?_⟩
  · have hb := (h.box.grown hg (fun q => by have := hlt s hs T q.symm; omega)).set s v
    rw [vs_set] at hb
    exact hb
  · rw [syE_app, he j hj]
    unfold updC
    by_cases hjs : j = s
    · subst hjs
      rw [if_pos rfl, if_pos rfl]
      have := own_keep (w' := u.setCell ⟨T, j, none⟩ v) ho (fun g hgv _ => heap_setCell_other u ⟨T, j, none⟩ g v (hvT g hgv))
      rw [List.length_append, evc_append]
      exact this
    · rw [if_neg hjs, if_neg hjs, List.append_nil]
      have h1 := own_keep (w' := u) (h.own j hj) (fun g hgj hl => hg.block g hl (fun q => h.apart j s hj hs hjs g hgj q.symm))
      exact own_keep h1 (fun g hgj _ => heap_setCell_other u ⟨T, s, none⟩ g v (by have := hlt j hj g hgj; dsimp only; omega))
  · unfold updC at hgi hgj
    by_cases his : i = s
    · subst his
      rw [if_pos rfl] at hgi
      rw [if_neg (Ne.symm hij)] at hgj
      rcases hat with q | q
      · exact h.apart i j hi hj hij g (q ▸ hgi) hgj
      · rw [q] at hgi; have := Option.some.inj hgi; have := hlt j hj g hgj; omega
    · rw [if_neg his] at hgi
      by_cases hjs : j = s
      · subst hjs
        rw [if_pos rfl] at hgj
        rcases hat with q | q
        · exact h.apart i j hi hj hij g hgi (q ▸ hgj)
        · rw [q] at hgj; have := Option.some.inj hgj; have := hlt i hi g hgi; omega
      · rw [if_neg hjs] at hgj
        exact h.apart i j hi hj hij g hgi hgj
  · exact Bel.of (((h.bel.out).trans (grown_below hg (h.own s hs) (by omega) h.bel.size)).setCell (p := ⟨T, s, none⟩) hW v)
theorem SyR.same {W w : World} {T : Nat} {l : List Ev} {e : Ev} {r : Nat → Value} (h : SyR W T l r w) (he : ∀ j, syE [e] j = []) : SyR W T (l ++ [e]) r w :=
  ⟨h.box, fun j hj => by rw [syE_app, he j, List.append_nil]; exact h.own j hj, h.apart, h.bel⟩
def SynPost (w : World) (l : List Ev) (e : Ending) (w' : World) : Prop := ∃ r, e = .returned (.agg (vs 9 r)) ∧ (∀ j, j < 9 → ∃ A n c, r j = .slice A n c ∧ Sl w' A n (syE l j) ∧ n ≤ c ∧ c ≤ maxLen) ∧ Below w.heap.size w w'
set_option maxHeartbeats 16000000 in
theorem syncs_any (A : Option Addr) (n c : Nat) (l : List Ev) (w : World) (hl : Sl w A n l) (hnc : n ≤ c) (hc : c ≤ maxLen) (hm : may l = 0) : Calls Try.prog 21 #[.slice A n c] w (SynPost w l) := by
  obtain ⟨i0, hi0, hz0, hz1, hz2⟩ := info_parts ev_info
  have HL := Lib.hid hl
  have HLN := Lib.hid hl.1
  have HFT := Lib.hid hm
  have HN80 := Lib.hid (show n ≤ 80 by rw [← hl.1]; exact ((may_iff l).1 hm).1)
  have hc63 : (c : Int) ≤ 9223372036854775807 := by unfold maxLen at hc; omega
  have H0 := Lib.hid (show SyR w w.heap.size [] (fun _ => .slice none 0 0) (w.alloc (.cells (vs 9 fun _ => .slice none 0 0) 57)) from
    ⟨Box.new w _ _, (fun j _ => by unfold syE; split <;> exact World.ownsRow_nil _ _ _ _), (fun i j _ _ _ g hg => by cases hg), (Bel.refl w).alloc _⟩)
  clear hl hm
  go_enter Try.func21, Try.ntmps21
  go_upto_region 1 with fail
  change Code.wp _ _ _ _ (w.alloc (.cells (vs 9 fun _ => .slice none 0 0) 57))
  generalize w.alloc (.cells (vs 9 fun _ => .slice none 0 0) 57) = wA at *
  generalize hT : w.heap.size = T at *
  have HT := Lib.hid hT
  clear hT
  go_wp2
  go_loopw [7] (fun t wr => ∃ (i : Nat) (r : Nat → Value), i ≤ n ∧ t = .int .i64 i ∧ SyR w T (l.take i) r wr) (fun t _ => n - (intOf t).toNat)
  case atStart => exact ⟨0, _, by omega, rfl, H0.out⟩
  case round =>
    obtain ⟨i, r, hi, rfl, hr⟩ := hrel
    have hn80 := HN80.out
    by_cases hlt : i < n
    · obtain ⟨bb, oo, e, rfl, hbb, he, hrg⟩ := (HL.out.bel hr.bel.out).at_ hlt
      have hlt' : (i : Int) < n := by omega
      have hic : (i : Int) ≤ c := by omega
      have hR := Lib.hid hrg
      have HTK := Lib.hid (show l.take (i + 1) = l.take i ++ [e] from take_snoc he)
      have HEV := Lib.hid (show isEv e = true from wrong_isEv (wrong_at HFT.out he))
      have HR := Lib.hid (hr.grow (Bel.of (ewld_below wr e 54)))
      have HXE := Lib.hid (ewld_box wr e 54)
      have HRX := Lib.hid (show ∀ j, j < 9 → ∀ g, (r j).ownBlock = some g → g ≠ wr.heap.size from fun j hj g hg => by have := (own_lt (hr.own j hj) hg).2; omega)
      have HXT := Lib.hid (show T < wr.heap.size from hr.box.lt)
      have HLE := Lib.hid (show ∀ j, (syE (l.take i) j).length ≤ 80 from fun j => by
        have h1 : (syE (l.take i) j).length ≤ (l.take i).length := by unfold syE; split <;> exact List.length_filter_le _ _
        rw [List.length_take] at h1; omega)
      have HI := Lib.hid hlt
      clear hr hrg he hbb H0
      go_upto_region 4 with (first | (refine load_ev T36 _ rfl rfl rfl hR.out ?_) | (refine ewld_store T36 _ _ rfl rfl _ rfl rfl rfl ?_))
      generalize ewld wr e 54 = w4 at *
      generalize wr.heap.size = X at *
      have c0 := HXE.out.cell 0 (v := .int .i64 e.k) rfl
      by_cases k3 : e.k = 3
      · have k3' : (e.k == 3) = true := by simpa using k3
        have hno := (nobj_at (k := e.k)).2.1 (.inl k3)
        have HSL := Lib.hid (fun j (hj : j < 9) => syE_one e j hj (.inl ⟨k3, by have := isEv_o HEV.out; omega, by have := isEv_o HEV.out; omega⟩))
        obtain ⟨v, hv, hvb⟩ : ∃ v : Nat, e.o = v ∧ v < 5 := ⟨e.o.toNat, by have := isEv_o HEV.out; omega, by have := isEv_o HEV.out; have := hno; omega⟩
        have hs : sySl e = v := by unfold sySl; rw [hv, Int.toNat_natCast]; rw [if_pos k3]
        rw [hs] at HSL
        have HS9 := Lib.hid (show v < 9 by omega)
        have HSN := Lib.hid hs
        clear hs
        have hs9 : (v : Int) < 9 := by omega
        clear k3 hno hvb
        have F := fun (w1 : World) (h1 : Ks (fun b => b = X ∨ b = T) w4 w1) => And.intro ((h1.box (.inl rfl) HXE.out).cell 2 (v := .int .i64 (v : Int)) (by rw [← hv]; rfl)) ((h1.box (.inr rfl) HR.out.box).cell (v) (vs_get r HS9.out))
        have HLX := fun (w1 : World) (h1 : Ks (fun b => b = X ∨ b = T) w4 w1) => h1.box (.inl rfl) HXE.out
        clear hv
        go_upto_region 6 with fail
        refine region_keepV (fun b => b = X ∨ b = T) 10 (by kernel_rfl) ?_
        (repeat (first | ((first | refine wpV_goN 0 (by simp only [List.getElem?_toArray, List.getElem?_cons_zero, List.getElem?_cons_succ] <;> rfl) (by decide +kernel) (by decide +kernel) (by kernel_rfl) (by rfl) (by exact fun _ _ _ _ h => h) ?_ | refine wpV_goN 1 (by simp only [List.getElem?_toArray, List.getElem?_cons_zero, List.getElem?_cons_succ] <;> rfl) (by decide +kernel) (by decide +kernel) (by kernel_rfl) (by rfl) (by exact fun _ _ _ _ h => h) ?_ | refine wpV_goN 2 (by simp only [List.getElem?_toArray, List.getElem?_cons_zero, List.getElem?_cons_succ] <;> rfl) (by decide +kernel) (by decide +kernel) (by kernel_rfl) (by rfl) (by exact fun _ _ _ _ h => h) ?_ | refine wpV_goN 3 (by simp only [List.getElem?_toArray, List.getElem?_cons_zero, List.getElem?_cons_succ] <;> rfl) (by decide +kernel) (by decide +kernel) (by kernel_rfl) (by rfl) (by exact fun _ _ _ _ h => h) ?_ | refine wpV_goN 4 (by simp only [List.getElem?_toArray, List.getElem?_cons_zero, List.getElem?_cons_succ] <;> rfl) (by decide +kernel) (by decide +kernel) (by kernel_rfl) (by rfl) (by exact fun _ _ _ _ h => h) ?_ | refine wpV_goN 5 (by simp only [List.getElem?_toArray, List.getElem?_cons_zero, List.getElem?_cons_succ] <;> rfl) (by decide +kernel) (by decide +kernel) (by kernel_rfl) (by rfl) (by exact fun _ _ _ _ h => h) ?_ | refine wpV_goN 6 (by simp only [List.getElem?_toArray, List.getElem?_cons_zero, List.getElem?_cons_succ] <;> rfl) (by decide +kernel) (by decide +kernel) (by kernel_rfl) (by rfl) (by exact fun _ _ _ _ h => h) ?_ | refine wpV_goN 9 (by simp only [List.getElem?_toArray, List.getElem?_cons_zero, List.getElem?_cons_succ] <;> rfl) (by decide +kernel) (by decide +kernel) (by kernel_rfl) (by rfl) (by exact fun _ _ _ _ h => h) ?_); apply Exists.intro; refine ⟨fun w1 h1 => ?_, ?_⟩; (first | exact g_move _ rfl | exact g_assign _ rfl | exact g_load _ _ rfl T36 rfl (HLX w1 h1) | (have fct0 := F w1 h1; go_simp; first | exact ⟨rfl, rfl⟩ | rfl)); simp only [Act.put, Act.eval, List.setIfInBounds_toArray, List.set_cons_zero, List.set_cons_succ, Array.getD_eq_getD_getElem?, List.getElem?_toArray, List.getElem?_cons_zero, List.getElem?_cons_succ, Option.getD_some]) | ((first | refine wpV_skip 0 (by simp only [List.getElem?_toArray, List.getElem?_cons_zero, List.getElem?_cons_succ] <;> rfl) (by decide +kernel) (by decide +kernel) (by kernel_rfl) (by rfl) (by exact fun _ _ _ _ h => h) ?_ | refine wpV_skip 1 (by simp only [List.getElem?_toArray, List.getElem?_cons_zero, List.getElem?_cons_succ] <;> rfl) (by decide +kernel) (by decide +kernel) (by kernel_rfl) (by rfl) (by exact fun _ _ _ _ h => h) ?_ | refine wpV_skip 2 (by simp only [List.getElem?_toArray, List.getElem?_cons_zero, List.getElem?_cons_succ] <;> rfl) (by decide +kernel) (by decide +kernel) (by kernel_rfl) (by rfl) (by exact fun _ _ _ _ h => h) ?_ | refine wpV_skip 3 (by simp only [List.getElem?_toArray, List.getElem?_cons_zero, List.getElem?_cons_succ] <;> rfl) (by decide +kernel) (by decide +kernel) (by kernel_rfl) (by rfl) (by exact fun _ _ _ _ h => h) ?_ | refine wpV_skip 4 (by simp only [List.getElem?_toArray, List.getElem?_cons_zero, List.getElem?_cons_succ] <;> rfl) (by decide +kernel) (by decide +kernel) (by kernel_rfl) (by rfl) (by exact fun _ _ _ _ h => h) ?_ | refine wpV_skip 5 (by simp only [List.getElem?_toArray, List.getElem?_cons_zero, List.getElem?_cons_succ] <;> rfl) (by decide +kernel) (by decide +kernel) (by kernel_rfl) (by rfl) (by exact fun _ _ _ _ h => h) ?_ | refine wpV_skip 6 (by simp only [List.getElem?_toArray, List.getElem?_cons_zero, List.getElem?_cons_succ] <;> rfl) (by decide +kernel) (by decide +kernel) (by kernel_rfl) (by rfl) (by exact fun _ _ _ _ h => h) ?_ | refine wpV_skip 9 (by simp only [List.getElem?_toArray, List.getElem?_cons_zero, List.getElem?_cons_succ] <;> rfl) (by decide +kernel) (by decide +kernel) (by kernel_rfl) (by rfl) (by exact fun _ _ _ _ h => h) ?_); simp only [Act.put, Act.eval, List.setIfInBounds_toArray, List.set_cons_zero, List.set_cons_succ, Array.getD_eq_getD_getElem?, List.getElem?_toArray, List.getElem?_cons_zero, List.getElem?_cons_succ, Option.getD_some]) | ((first | refine wpV_goA 0 (by simp only [List.getElem?_toArray, List.getElem?_cons_zero, List.getElem?_cons_succ] <;> rfl) (by decide +kernel) (by decide +kernel) (by kernel_rfl) (by rfl) (by exact fun _ _ _ _ h => h) ?_ | refine wpV_goA 1 (by simp only [List.getElem?_toArray, List.getElem?_cons_zero, List.getElem?_cons_succ] <;> rfl) (by decide +kernel) (by decide +kernel) (by kernel_rfl) (by rfl) (by exact fun _ _ _ _ h => h) ?_ | refine wpV_goA 2 (by simp only [List.getElem?_toArray, List.getElem?_cons_zero, List.getElem?_cons_succ] <;> rfl) (by decide +kernel) (by decide +kernel) (by kernel_rfl) (by rfl) (by exact fun _ _ _ _ h => h) ?_ | refine wpV_goA 3 (by simp only [List.getElem?_toArray, List.getElem?_cons_zero, List.getElem?_cons_succ] <;> rfl) (by decide +kernel) (by decide +kernel) (by kernel_rfl) (by rfl) (by exact fun _ _ _ _ h => h) ?_ | refine wpV_goA 4 (by simp only [List.getElem?_toArray, List.getElem?_cons_zero, List.getElem?_cons_succ] <;> rfl) (by decide +kernel) (by decide +kernel) (by kernel_rfl) (by rfl) (by exact fun _ _ _ _ h => h) ?_ | refine wpV_goA 5 (by simp only [List.getElem?_toArray, List.getElem?_cons_zero, List.getElem?_cons_succ] <;> rfl) (by decide +kernel) (by decide +kernel) (by kernel_rfl) (by rfl) (by exact fun _ _ _ _ h => h) ?_ | refine wpV_goA 6 (by simp only [List.getElem?_toArray, List.getElem?_cons_zero, List.getElem?_cons_succ] <;> rfl) (by decide +kernel) (by decide +kernel) (by kernel_rfl) (by rfl) (by exact fun _ _ _ _ h => h) ?_ | refine wpV_goA 9 (by simp only [List.getElem?_toArray, List.getElem?_cons_zero, List.getElem?_cons_succ] <;> rfl) (by decide +kernel) (by decide +kernel) (by kernel_rfl) (by rfl) (by exact fun _ _ _ _ h => h) ?_); apply Exists.intro; refine ⟨fun w1 => ?_, ?_⟩; (first | exact a_move _ rfl | exact a_assign _ rfl | (go_simp; first | exact ⟨rfl, rfl⟩ | rfl)); simp only [Act.put, Act.eval, List.setIfInBounds_toArray, List.set_cons_zero, List.set_cons_succ, Array.getD_eq_getD_getElem?, List.getElem?_toArray, List.getElem?_cons_zero, List.getElem?_cons_succ, Option.getD_some])))
        clear F HLX
        (refine wpV_one 7 (by decide +kernel) ?_; intro y1 hy1; refine op_wanted (by simp only [List.getElem?_toArray, List.getElem?_cons_zero, List.getElem?_cons_succ] <;> rfl) rfl ?_)
        refine wp_build1 22 _ rfl 54 i0 Try.underlying22 hi0 hz0 hz1 e rfl ?_
        refine ⟨Ks.of ((Bel.refl y1).alloc _), ?_⟩
        simp only [Act.put, Act.eval, List.setIfInBounds_toArray, List.set_cons_zero, List.set_cons_succ, Array.getD_eq_getD_getElem?, List.getElem?_toArray, List.getElem?_cons_zero, List.getElem?_cons_succ, Option.getD_some]
        have hbx0 := Box.new y1 (evv e) 54
        have hE1 := hy1.alloc (.cells (evv e) 54)
        generalize y1.heap.size = yb at *
        generalize y1.alloc (.cells (evv e) 54) = y2 at *
        (refine wpV_one 8 (by decide +kernel) ?_; intro y5 hy5; refine op_wanted (by simp only [List.getElem?_toArray, List.getElem?_cons_zero, List.getElem?_cons_succ] <;> rfl) rfl ?_)
        have hE5 := hE1.trans hy5
        have hR5 := HR.out.grow hE5
        have hbx := hy5.box hbx0
        have hsz5 : T + 1 ≤ y5.heap.size := hR5.box.lt
        refine wp_append_src (.tmp 20) (.tmp 22) _ rfl (T + 1) 54 i0 _ 3 24 Try.underlying22 hi0 hz0 hz1 hz2 rfl (by omega) (r (v)) (syE (l.take i) (v)).length (evc (syE (l.take i) (v))) rfl (hR5.own _ HS9.out) (some ⟨yb, 0, none⟩) 1 1 (evl e) rfl rfl (Src.box (show Box y5 yb (evl e).toArray 54 from hbx) 1) (by simp [evl, Value.oneCell']) (by have := HLE.out (v); unfold maxLen; omega) (by have := HLE.out (v); omega) hsz5 ?_
        intro v3 u3 ho3 hg3 hat3
        refine ⟨Ks.grown hg3 (fun b hb q => by
          have h1 := (own_lt (hR5.own _ HS9.out) q.symm).1
          have h2 := HRX.out _ HS9.out _ q.symm
          rcases hb with rfl | rfl
          · exact h2 rfl
          · omega), ?_⟩
        simp only [Act.put, Act.eval, List.setIfInBounds_toArray, List.set_cons_zero, List.set_cons_succ, Array.getD_eq_getD_getElem?, List.getElem?_toArray, List.getElem?_cons_zero, List.getElem?_cons_succ, Option.getD_some]
        (repeat (first | ((first | refine wpV_goN 9 (by simp only [List.getElem?_toArray, List.getElem?_cons_zero, List.getElem?_cons_succ] <;> rfl) (by decide +kernel) (by decide +kernel) (by kernel_rfl) (by rfl) (by exact fun _ _ _ _ h => h) ?_); apply Exists.intro; refine ⟨fun w1 h1 => ?_, ?_⟩; (first | exact g_move _ rfl | exact g_assign _ rfl | (go_simp; first | exact ⟨rfl, rfl⟩ | rfl)); simp only [Act.put, Act.eval, List.setIfInBounds_toArray, List.set_cons_zero, List.set_cons_succ, Array.getD_eq_getD_getElem?, List.getElem?_toArray, List.getElem?_cons_zero, List.getElem?_cons_succ, Option.getD_some]) | ((first | refine wpV_skip 9 (by simp only [List.getElem?_toArray, List.getElem?_cons_zero, List.getElem?_cons_succ] <;> rfl) (by decide +kernel) (by decide +kernel) (by kernel_rfl) (by rfl) (by exact fun _ _ _ _ h => h) ?_); simp only [Act.put, Act.eval, List.setIfInBounds_toArray, List.set_cons_zero, List.set_cons_succ, Array.getD_eq_getD_getElem?, List.getElem?_toArray, List.getElem?_cons_zero, List.getElem?_cons_succ, Option.getD_some]) | ((first | refine wpV_goA 9 (by simp only [List.getElem?_toArray, List.getElem?_cons_zero, List.getElem?_cons_succ] <;> rfl) (by decide +kernel) (by decide +kernel) (by kernel_rfl) (by rfl) (by exact fun _ _ _ _ h => h) ?_); apply Exists.intro; refine ⟨fun w1 => ?_, ?_⟩; (first | exact a_move _ rfl | exact a_assign _ rfl | (go_simp; first | exact ⟨rfl, rfl⟩ | rfl)); simp only [Act.put, Act.eval, List.setIfInBounds_toArray, List.set_cons_zero, List.set_cons_succ, Array.getD_eq_getD_getElem?, List.getElem?_toArray, List.getElem?_cons_zero, List.getElem?_cons_succ, Option.getD_some])))
        refine wpV_last (by decide +kernel) (by decide +kernel) (by simp only [List.getElem?_toArray, List.getElem?_cons_zero, List.getElem?_cons_succ] <;> rfl) rfl ?_
        intro y6 hy6
        have hN := SyR.step hR5 HS9.out (own_bel ho3 hy6) (grown_bel hg3 hy6) hat3 (by rw [HT.out]; exact Nat.le_refl _) HSL.out
        have hbT := hy6.box (hR5.box.grown hg3 (fun q => by have := (own_lt (hR5.own _ HS9.out) q.symm).1; omega))
        refine wp_cell1 22 _ _ rfl rfl rfl (by kernel_rfl) (own_one9 ho3) (by rw [hbT.cell (v) (vs_get r HS9.out)]; rfl) (hbT.frozen (v)) ?_
        intro y7 hy7
        have HFN := Lib.hid (hN.grow hy7)
        clear hN hbT hg3 hat3 ho3 hy7 hy6 hsz5 hbx hR5 hE5 hy5 hE1 hbx0 hy1
        simp only [Act.put, Act.eval, List.setIfInBounds_toArray, List.set_cons_zero, List.set_cons_succ, Array.getD_eq_getD_getElem?, List.getElem?_toArray, List.getElem?_cons_zero, List.getElem?_cons_succ, Option.getD_some]
        go_wp2
        go_roundw
        case rel => exact ⟨i + 1, _, HI.out, by go_num, by rw [HTK.out]; exact HFN.out⟩
        case measure => have := HI.out; simp [intOf]; omega
      · have k3' : (e.k == 3) = false := by simpa using k3
        by_cases k78 : e.k = 7 ∨ e.k = 8
        · have hno := (nobj_at (k := e.k)).2.2.2 k78
          have HKK := Lib.hid (And.intro k3 k78)
          have hq : (e.k == 7) = true ∨ ((e.k == 7) = false ∧ (e.k == 8) = true) := by rcases k78 with h | h; exact .inl (by simpa using h); exact .inr ⟨by simp; omega, by simpa using h⟩
          clear k3 k78
          rcases hq with k7' | ⟨k7', k8'⟩
          · have HSL := Lib.hid (fun j (hj : j < 9) => syE_one e j hj (.inr ⟨HKK.out.2, by have := isEv_o HEV.out; omega, by have := isEv_o HEV.out; omega⟩))
            obtain ⟨v, hv, hvb⟩ : ∃ v : Nat, e.o = v ∧ v < 4 := ⟨e.o.toNat, by have := isEv_o HEV.out; omega, by have := isEv_o HEV.out; have := hno; omega⟩
            obtain ⟨sl, hsl⟩ : ∃ sl : Nat, sl = 5 + v := ⟨_, rfl⟩
            have hs : sySl e = sl := by unfold sySl; rw [hv, Int.toNat_natCast]; rw [if_neg HKK.out.1]; exact hsl.symm
            rw [hs] at HSL
            have HS9 := Lib.hid (show sl < 9 by omega)
            have HSN := Lib.hid hs
            clear hs
            have hs9 : (sl : Int) < 9 := by omega
            have hw5 : IntKind.i64.wrap (5 + (v : Int)) = (sl : Int) := by rw [IntWalk.i64_in _ (by omega)]; omega
            clear hno hsl hvb
            have F := fun (w1 : World) (h1 : Ks (fun b => b = X ∨ b = T) w4 w1) => And.intro ((h1.box (.inl rfl) HXE.out).cell 2 (v := .int .i64 (v : Int)) (by rw [← hv]; rfl)) ((h1.box (.inr rfl) HR.out.box).cell (sl) (vs_get r HS9.out))
            have HLX := fun (w1 : World) (h1 : Ks (fun b => b = X ∨ b = T) w4 w1) => h1.box (.inl rfl) HXE.out
            clear hv
            go_upto_region 9 with fail
            refine region_keepV (fun b => b = X ∨ b = T) 12 (by kernel_rfl) ?_
            (repeat (first | ((first | refine wpV_goN 0 (by simp only [List.getElem?_toArray, List.getElem?_cons_zero, List.getElem?_cons_succ] <;> rfl) (by decide +kernel) (by decide +kernel) (by kernel_rfl) (by rfl) (by exact fun _ _ _ _ h => h) ?_ | refine wpV_goN 1 (by simp only [List.getElem?_toArray, List.getElem?_cons_zero, List.getElem?_cons_succ] <;> rfl) (by decide +kernel) (by decide +kernel) (by kernel_rfl) (by rfl) (by exact fun _ _ _ _ h => h) ?_ | refine wpV_goN 2 (by simp only [List.getElem?_toArray, List.getElem?_cons_zero, List.getElem?_cons_succ] <;> rfl) (by decide +kernel) (by decide +kernel) (by kernel_rfl) (by rfl) (by exact fun _ _ _ _ h => h) ?_ | refine wpV_goN 3 (by simp only [List.getElem?_toArray, List.getElem?_cons_zero, List.getElem?_cons_succ] <;> rfl) (by decide +kernel) (by decide +kernel) (by kernel_rfl) (by rfl) (by exact fun _ _ _ _ h => h) ?_ | refine wpV_goN 4 (by simp only [List.getElem?_toArray, List.getElem?_cons_zero, List.getElem?_cons_succ] <;> rfl) (by decide +kernel) (by decide +kernel) (by kernel_rfl) (by rfl) (by exact fun _ _ _ _ h => h) ?_ | refine wpV_goN 5 (by simp only [List.getElem?_toArray, List.getElem?_cons_zero, List.getElem?_cons_succ] <;> rfl) (by decide +kernel) (by decide +kernel) (by kernel_rfl) (by rfl) (by exact fun _ _ _ _ h => h) ?_ | refine wpV_goN 6 (by simp only [List.getElem?_toArray, List.getElem?_cons_zero, List.getElem?_cons_succ] <;> rfl) (by decide +kernel) (by decide +kernel) (by kernel_rfl) (by rfl) (by exact fun _ _ _ _ h => h) ?_ | refine wpV_goN 7 (by simp only [List.getElem?_toArray, List.getElem?_cons_zero, List.getElem?_cons_succ] <;> rfl) (by decide +kernel) (by decide +kernel) (by kernel_rfl) (by rfl) (by exact fun _ _ _ _ h => h) ?_ | refine wpV_goN 8 (by simp only [List.getElem?_toArray, List.getElem?_cons_zero, List.getElem?_cons_succ] <;> rfl) (by decide +kernel) (by decide +kernel) (by kernel_rfl) (by rfl) (by exact fun _ _ _ _ h => h) ?_ | refine wpV_goN 11 (by simp only [List.getElem?_toArray, List.getElem?_cons_zero, List.getElem?_cons_succ] <;> rfl) (by decide +kernel) (by decide +kernel) (by kernel_rfl) (by rfl) (by exact fun _ _ _ _ h => h) ?_); apply Exists.intro; refine ⟨fun w1 h1 => ?_, ?_⟩; (first | exact g_move _ rfl | exact g_assign _ rfl | exact g_load _ _ rfl T36 rfl (HLX w1 h1) | (have fct0 := F w1 h1; go_simp; first | exact ⟨rfl, rfl⟩ | rfl)); simp only [Act.put, Act.eval, List.setIfInBounds_toArray, List.set_cons_zero, List.set_cons_succ, Array.getD_eq_getD_getElem?, List.getElem?_toArray, List.getElem?_cons_zero, List.getElem?_cons_succ, Option.getD_some]) | ((first | refine wpV_skip 0 (by simp only [List.getElem?_toArray, List.getElem?_cons_zero, List.getElem?_cons_succ] <;> rfl) (by decide +kernel) (by decide +kernel) (by kernel_rfl) (by rfl) (by exact fun _ _ _ _ h => h) ?_ | refine wpV_skip 1 (by simp only [List.getElem?_toArray, List.getElem?_cons_zero, List.getElem?_cons_succ] <;> rfl) (by decide +kernel) (by decide +kernel) (by kernel_rfl) (by rfl) (by exact fun _ _ _ _ h => h) ?_ | refine wpV_skip 2 (by simp only [List.getElem?_toArray, List.getElem?_cons_zero, List.getElem?_cons_succ] <;> rfl) (by decide +kernel) (by decide +kernel) (by kernel_rfl) (by rfl) (by exact fun _ _ _ _ h => h) ?_ | refine wpV_skip 3 (by simp only [List.getElem?_toArray, List.getElem?_cons_zero, List.getElem?_cons_succ] <;> rfl) (by decide +kernel) (by decide +kernel) (by kernel_rfl) (by rfl) (by exact fun _ _ _ _ h => h) ?_ | refine wpV_skip 4 (by simp only [List.getElem?_toArray, List.getElem?_cons_zero, List.getElem?_cons_succ] <;> rfl) (by decide +kernel) (by decide +kernel) (by kernel_rfl) (by rfl) (by exact fun _ _ _ _ h => h) ?_ | refine wpV_skip 5 (by simp only [List.getElem?_toArray, List.getElem?_cons_zero, List.getElem?_cons_succ] <;> rfl) (by decide +kernel) (by decide +kernel) (by kernel_rfl) (by rfl) (by exact fun _ _ _ _ h => h) ?_ | refine wpV_skip 6 (by simp only [List.getElem?_toArray, List.getElem?_cons_zero, List.getElem?_cons_succ] <;> rfl) (by decide +kernel) (by decide +kernel) (by kernel_rfl) (by rfl) (by exact fun _ _ _ _ h => h) ?_ | refine wpV_skip 7 (by simp only [List.getElem?_toArray, List.getElem?_cons_zero, List.getElem?_cons_succ] <;> rfl) (by decide +kernel) (by decide +kernel) (by kernel_rfl) (by rfl) (by exact fun _ _ _ _ h => h) ?_ | refine wpV_skip 8 (by simp only [List.getElem?_toArray, List.getElem?_cons_zero, List.getElem?_cons_succ] <;> rfl) (by decide +kernel) (by decide +kernel) (by kernel_rfl) (by rfl) (by exact fun _ _ _ _ h => h) ?_ | refine wpV_skip 11 (by simp only [List.getElem?_toArray, List.getElem?_cons_zero, List.getElem?_cons_succ] <;> rfl) (by decide +kernel) (by decide +kernel) (by kernel_rfl) (by rfl) (by exact fun _ _ _ _ h => h) ?_); simp only [Act.put, Act.eval, List.setIfInBounds_toArray, List.set_cons_zero, List.set_cons_succ, Array.getD_eq_getD_getElem?, List.getElem?_toArray, List.getElem?_cons_zero, List.getElem?_cons_succ, Option.getD_some]) | ((first | refine wpV_goA 0 (by simp only [List.getElem?_toArray, List.getElem?_cons_zero, List.getElem?_cons_succ] <;> rfl) (by decide +kernel) (by decide +kernel) (by kernel_rfl) (by rfl) (by exact fun _ _ _ _ h => h) ?_ | refine wpV_goA 1 (by simp only [List.getElem?_toArray, List.getElem?_cons_zero, List.getElem?_cons_succ] <;> rfl) (by decide +kernel) (by decide +kernel) (by kernel_rfl) (by rfl) (by exact fun _ _ _ _ h => h) ?_ | refine wpV_goA 2 (by simp only [List.getElem?_toArray, List.getElem?_cons_zero, List.getElem?_cons_succ] <;> rfl) (by decide +kernel) (by decide +kernel) (by kernel_rfl) (by rfl) (by exact fun _ _ _ _ h => h) ?_ | refine wpV_goA 3 (by simp only [List.getElem?_toArray, List.getElem?_cons_zero, List.getElem?_cons_succ] <;> rfl) (by decide +kernel) (by decide +kernel) (by kernel_rfl) (by rfl) (by exact fun _ _ _ _ h => h) ?_ | refine wpV_goA 4 (by simp only [List.getElem?_toArray, List.getElem?_cons_zero, List.getElem?_cons_succ] <;> rfl) (by decide +kernel) (by decide +kernel) (by kernel_rfl) (by rfl) (by exact fun _ _ _ _ h => h) ?_ | refine wpV_goA 5 (by simp only [List.getElem?_toArray, List.getElem?_cons_zero, List.getElem?_cons_succ] <;> rfl) (by decide +kernel) (by decide +kernel) (by kernel_rfl) (by rfl) (by exact fun _ _ _ _ h => h) ?_ | refine wpV_goA 6 (by simp only [List.getElem?_toArray, List.getElem?_cons_zero, List.getElem?_cons_succ] <;> rfl) (by decide +kernel) (by decide +kernel) (by kernel_rfl) (by rfl) (by exact fun _ _ _ _ h => h) ?_ | refine wpV_goA 7 (by simp only [List.getElem?_toArray, List.getElem?_cons_zero, List.getElem?_cons_succ] <;> rfl) (by decide +kernel) (by decide +kernel) (by kernel_rfl) (by rfl) (by exact fun _ _ _ _ h => h) ?_ | refine wpV_goA 8 (by simp only [List.getElem?_toArray, List.getElem?_cons_zero, List.getElem?_cons_succ] <;> rfl) (by decide +kernel) (by decide +kernel) (by kernel_rfl) (by rfl) (by exact fun _ _ _ _ h => h) ?_ | refine wpV_goA 11 (by simp only [List.getElem?_toArray, List.getElem?_cons_zero, List.getElem?_cons_succ] <;> rfl) (by decide +kernel) (by decide +kernel) (by kernel_rfl) (by rfl) (by exact fun _ _ _ _ h => h) ?_); apply Exists.intro; refine ⟨fun w1 => ?_, ?_⟩; (first | exact a_move _ rfl | exact a_assign _ rfl | (go_simp; first | exact ⟨rfl, rfl⟩ | rfl)); simp only [Act.put, Act.eval, List.setIfInBounds_toArray, List.set_cons_zero, List.set_cons_succ, Array.getD_eq_getD_getElem?, List.getElem?_toArray, List.getElem?_cons_zero, List.getElem?_cons_succ, Option.getD_some])))
            clear F HLX
            (refine wpV_one 9 (by decide +kernel) ?_; intro y1 hy1; refine op_wanted (by simp only [List.getElem?_toArray, List.getElem?_cons_zero, List.getElem?_cons_succ] <;> rfl) rfl ?_)
            refine wp_build1 22 _ rfl 54 i0 Try.underlying22 hi0 hz0 hz1 e rfl ?_
            refine ⟨Ks.of ((Bel.refl y1).alloc _), ?_⟩
            simp only [Act.put, Act.eval, List.setIfInBounds_toArray, List.set_cons_zero, List.set_cons_succ, Array.getD_eq_getD_getElem?, List.getElem?_toArray, List.getElem?_cons_zero, List.getElem?_cons_succ, Option.getD_some]
            have hbx0 := Box.new y1 (evv e) 54
            have hE1 := hy1.alloc (.cells (evv e) 54)
            generalize y1.heap.size = yb at *
            generalize y1.alloc (.cells (evv e) 54) = y2 at *
            (refine wpV_one 10 (by decide +kernel) ?_; intro y5 hy5; refine op_wanted (by simp only [List.getElem?_toArray, List.getElem?_cons_zero, List.getElem?_cons_succ] <;> rfl) rfl ?_)
            have hE5 := hE1.trans hy5
            have hR5 := HR.out.grow hE5
            have hbx := hy5.box hbx0
            have hsz5 : T + 1 ≤ y5.heap.size := hR5.box.lt
            refine wp_append_src (.tmp 35) (.tmp 37) _ rfl (T + 1) 54 i0 _ 3 24 Try.underlying22 hi0 hz0 hz1 hz2 rfl (by omega) (r (sl)) (syE (l.take i) (sl)).length (evc (syE (l.take i) (sl))) rfl (hR5.own _ HS9.out) (some ⟨yb, 0, none⟩) 1 1 (evl e) rfl rfl (Src.box (show Box y5 yb (evl e).toArray 54 from hbx) 1) (by simp [evl, Value.oneCell']) (by have := HLE.out (sl); unfold maxLen; omega) (by have := HLE.out (sl); omega) hsz5 ?_
            intro v3 u3 ho3 hg3 hat3
            refine ⟨Ks.grown hg3 (fun b hb q => by
              have h1 := (own_lt (hR5.own _ HS9.out) q.symm).1
              have h2 := HRX.out _ HS9.out _ q.symm
              rcases hb with rfl | rfl
              · exact h2 rfl
              · omega), ?_⟩
            simp only [Act.put, Act.eval, List.setIfInBounds_toArray, List.set_cons_zero, List.set_cons_succ, Array.getD_eq_getD_getElem?, List.getElem?_toArray, List.getElem?_cons_zero, List.getElem?_cons_succ, Option.getD_some]
            (repeat (first | ((first | refine wpV_goN 11 (by simp only [List.getElem?_toArray, List.getElem?_cons_zero, List.getElem?_cons_succ] <;> rfl) (by decide +kernel) (by decide +kernel) (by kernel_rfl) (by rfl) (by exact fun _ _ _ _ h => h) ?_); apply Exists.intro; refine ⟨fun w1 h1 => ?_, ?_⟩; (first | exact g_move _ rfl | exact g_assign _ rfl | (go_simp; first | exact ⟨rfl, rfl⟩ | rfl)); simp only [Act.put, Act.eval, List.setIfInBounds_toArray, List.set_cons_zero, List.set_cons_succ, Array.getD_eq_getD_getElem?, List.getElem?_toArray, List.getElem?_cons_zero, List.getElem?_cons_succ, Option.getD_some]) | ((first | refine wpV_skip 11 (by simp only [List.getElem?_toArray, List.getElem?_cons_zero, List.getElem?_cons_succ] <;> rfl) (by decide +kernel) (by decide +kernel) (by kernel_rfl) (by rfl) (by exact fun _ _ _ _ h => h) ?_); simp only [Act.put, Act.eval, List.setIfInBounds_toArray, List.set_cons_zero, List.set_cons_succ, Array.getD_eq_getD_getElem?, List.getElem?_toArray, List.getElem?_cons_zero, List.getElem?_cons_succ, Option.getD_some]) | ((first | refine wpV_goA 11 (by simp only [List.getElem?_toArray, List.getElem?_cons_zero, List.getElem?_cons_succ] <;> rfl) (by decide +kernel) (by decide +kernel) (by kernel_rfl) (by rfl) (by exact fun _ _ _ _ h => h) ?_); apply Exists.intro; refine ⟨fun w1 => ?_, ?_⟩; (first | exact a_move _ rfl | exact a_assign _ rfl | (go_simp; first | exact ⟨rfl, rfl⟩ | rfl)); simp only [Act.put, Act.eval, List.setIfInBounds_toArray, List.set_cons_zero, List.set_cons_succ, Array.getD_eq_getD_getElem?, List.getElem?_toArray, List.getElem?_cons_zero, List.getElem?_cons_succ, Option.getD_some])))
            refine wpV_last (by decide +kernel) (by decide +kernel) (by simp only [List.getElem?_toArray, List.getElem?_cons_zero, List.getElem?_cons_succ] <;> rfl) rfl ?_
            intro y6 hy6
            have hN := SyR.step hR5 HS9.out (own_bel ho3 hy6) (grown_bel hg3 hy6) hat3 (by rw [HT.out]; exact Nat.le_refl _) HSL.out
            have hbT := hy6.box (hR5.box.grown hg3 (fun q => by have := (own_lt (hR5.own _ HS9.out) q.symm).1; omega))
            refine wp_cell1 22 _ _ rfl rfl rfl (by kernel_rfl) (own_one9 ho3) (by rw [hbT.cell (sl) (vs_get r HS9.out)]; rfl) (hbT.frozen (sl)) ?_
            intro y7 hy7
            have HFN := Lib.hid (hN.grow hy7)
            clear hN hbT hg3 hat3 ho3 hy7 hy6 hsz5 hbx hR5 hE5 hy5 hE1 hbx0 hy1
            simp only [Act.put, Act.eval, List.setIfInBounds_toArray, List.set_cons_zero, List.set_cons_succ, Array.getD_eq_getD_getElem?, List.getElem?_toArray, List.getElem?_cons_zero, List.getElem?_cons_succ, Option.getD_some]
            go_wp2
            go_roundw
            case rel => exact ⟨i + 1, _, HI.out, by go_num, by rw [HTK.out]; exact HFN.out⟩
            case measure => have := HI.out; simp [intOf]; omega
          · have HSL := Lib.hid (fun j (hj : j < 9) => syE_one e j hj (.inr ⟨HKK.out.2, by have := isEv_o HEV.out; omega, by have := isEv_o HEV.out; omega⟩))
            obtain ⟨v, hv, hvb⟩ : ∃ v : Nat, e.o = v ∧ v < 4 := ⟨e.o.toNat, by have := isEv_o HEV.out; omega, by have := isEv_o HEV.out; have := hno; omega⟩
            obtain ⟨sl, hsl⟩ : ∃ sl : Nat, sl = 5 + v := ⟨_, rfl⟩
            have hs : sySl e = sl := by unfold sySl; rw [hv, Int.toNat_natCast]; rw [if_neg HKK.out.1]; exact hsl.symm
            rw [hs] at HSL
            have HS9 := Lib.hid (show sl < 9 by omega)
            have HSN := Lib.hid hs
            clear hs
            have hs9 : (sl : Int) < 9 := by omega
            have hw5 : IntKind.i64.wrap (5 + (v : Int)) = (sl : Int) := by rw [IntWalk.i64_in _ (by omega)]; omega
            clear hno hsl hvb
            have F := fun (w1 : World) (h1 : Ks (fun b => b = X ∨ b = T) w4 w1) => And.intro ((h1.box (.inl rfl) HXE.out).cell 2 (v := .int .i64 (v : Int)) (by rw [← hv]; rfl)) ((h1.box (.inr rfl) HR.out.box).cell (sl) (vs_get r HS9.out))
            have HLX := fun (w1 : World) (h1 : Ks (fun b => b = X ∨ b = T) w4 w1) => h1.box (.inl rfl) HXE.out
            clear hv
            go_upto_region 9 with fail
            refine region_keepV (fun b => b = X ∨ b = T) 12 (by kernel_rfl) ?_
            (repeat (first | ((first | refine wpV_goN 0 (by simp only [List.getElem?_toArray, List.getElem?_cons_zero, List.getElem?_cons_succ] <;> rfl) (by decide +kernel) (by decide +kernel) (by kernel_rfl) (by rfl) (by exact fun _ _ _ _ h => h) ?_ | refine wpV_goN 1 (by simp only [List.getElem?_toArray, List.getElem?_cons_zero, List.getElem?_cons_succ] <;> rfl) (by decide +kernel) (by decide +kernel) (by kernel_rfl) (by rfl) (by exact fun _ _ _ _ h => h) ?_ | refine wpV_goN 2 (by simp only [List.getElem?_toArray, List.getElem?_cons_zero, List.getElem?_cons_succ] <;> rfl) (by decide +kernel) (by decide +kernel) (by kernel_rfl) (by rfl) (by exact fun _ _ _ _ h => h) ?_ | refine wpV_goN 3 (by simp only [List.getElem?_toArray, List.getElem?_cons_zero, List.getElem?_cons_succ] <;> rfl) (by decide +kernel) (by decide +kernel) (by kernel_rfl) (by rfl) (by exact fun _ _ _ _ h => h) ?_ | refine wpV_goN 4 (by simp only [List.getElem?_toArray, List.getElem?_cons_zero, List.getElem?_cons_succ] <;> rfl) (by decide +kernel) (by decide +kernel) (by kernel_rfl) (by rfl) (by exact fun _ _ _ _ h => h) ?_ | refine wpV_goN 5 (by simp only [List.getElem?_toArray, List.getElem?_cons_zero, List.getElem?_cons_succ] <;> rfl) (by decide +kernel) (by decide +kernel) (by kernel_rfl) (by rfl) (by exact fun _ _ _ _ h => h) ?_ | refine wpV_goN 6 (by simp only [List.getElem?_toArray, List.getElem?_cons_zero, List.getElem?_cons_succ] <;> rfl) (by decide +kernel) (by decide +kernel) (by kernel_rfl) (by rfl) (by exact fun _ _ _ _ h => h) ?_ | refine wpV_goN 7 (by simp only [List.getElem?_toArray, List.getElem?_cons_zero, List.getElem?_cons_succ] <;> rfl) (by decide +kernel) (by decide +kernel) (by kernel_rfl) (by rfl) (by exact fun _ _ _ _ h => h) ?_ | refine wpV_goN 8 (by simp only [List.getElem?_toArray, List.getElem?_cons_zero, List.getElem?_cons_succ] <;> rfl) (by decide +kernel) (by decide +kernel) (by kernel_rfl) (by rfl) (by exact fun _ _ _ _ h => h) ?_ | refine wpV_goN 11 (by simp only [List.getElem?_toArray, List.getElem?_cons_zero, List.getElem?_cons_succ] <;> rfl) (by decide +kernel) (by decide +kernel) (by kernel_rfl) (by rfl) (by exact fun _ _ _ _ h => h) ?_); apply Exists.intro; refine ⟨fun w1 h1 => ?_, ?_⟩; (first | exact g_move _ rfl | exact g_assign _ rfl | exact g_load _ _ rfl T36 rfl (HLX w1 h1) | (have fct0 := F w1 h1; go_simp; first | exact ⟨rfl, rfl⟩ | rfl)); simp only [Act.put, Act.eval, List.setIfInBounds_toArray, List.set_cons_zero, List.set_cons_succ, Array.getD_eq_getD_getElem?, List.getElem?_toArray, List.getElem?_cons_zero, List.getElem?_cons_succ, Option.getD_some]) | ((first | refine wpV_skip 0 (by simp only [List.getElem?_toArray, List.getElem?_cons_zero, List.getElem?_cons_succ] <;> rfl) (by decide +kernel) (by decide +kernel) (by kernel_rfl) (by rfl) (by exact fun _ _ _ _ h => h) ?_ | refine wpV_skip 1 (by simp only [List.getElem?_toArray, List.getElem?_cons_zero, List.getElem?_cons_succ] <;> rfl) (by decide +kernel) (by decide +kernel) (by kernel_rfl) (by rfl) (by exact fun _ _ _ _ h => h) ?_ | refine wpV_skip 2 (by simp only [List.getElem?_toArray, List.getElem?_cons_zero, List.getElem?_cons_succ] <;> rfl) (by decide +kernel) (by decide +kernel) (by kernel_rfl) (by rfl) (by exact fun _ _ _ _ h => h) ?_ | refine wpV_skip 3 (by simp only [List.getElem?_toArray, List.getElem?_cons_zero, List.getElem?_cons_succ] <;> rfl) (by decide +kernel) (by decide +kernel) (by kernel_rfl) (by rfl) (by exact fun _ _ _ _ h => h) ?_ | refine wpV_skip 4 (by simp only [List.getElem?_toArray, List.getElem?_cons_zero, List.getElem?_cons_succ] <;> rfl) (by decide +kernel) (by decide +kernel) (by kernel_rfl) (by rfl) (by exact fun _ _ _ _ h => h) ?_ | refine wpV_skip 5 (by simp only [List.getElem?_toArray, List.getElem?_cons_zero, List.getElem?_cons_succ] <;> rfl) (by decide +kernel) (by decide +kernel) (by kernel_rfl) (by rfl) (by exact fun _ _ _ _ h => h) ?_ | refine wpV_skip 6 (by simp only [List.getElem?_toArray, List.getElem?_cons_zero, List.getElem?_cons_succ] <;> rfl) (by decide +kernel) (by decide +kernel) (by kernel_rfl) (by rfl) (by exact fun _ _ _ _ h => h) ?_ | refine wpV_skip 7 (by simp only [List.getElem?_toArray, List.getElem?_cons_zero, List.getElem?_cons_succ] <;> rfl) (by decide +kernel) (by decide +kernel) (by kernel_rfl) (by rfl) (by exact fun _ _ _ _ h => h) ?_ | refine wpV_skip 8 (by simp only [List.getElem?_toArray, List.getElem?_cons_zero, List.getElem?_cons_succ] <;> rfl) (by decide +kernel) (by decide +kernel) (by kernel_rfl) (by rfl) (by exact fun _ _ _ _ h => h) ?_ | refine wpV_skip 11 (by simp only [List.getElem?_toArray, List.getElem?_cons_zero, List.getElem?_cons_succ] <;> rfl) (by decide +kernel) (by decide +kernel) (by kernel_rfl) (by rfl) (by exact fun _ _ _ _ h => h) ?_); simp only [Act.put, Act.eval, List.setIfInBounds_toArray, List.set_cons_zero, List.set_cons_succ, Array.getD_eq_getD_getElem?, List.getElem?_toArray, List.getElem?_cons_zero, List.getElem?_cons_succ, Option.getD_some]) | ((first | refine wpV_goA 0 (by simp only [List.getElem?_toArray, List.getElem?_cons_zero, List.getElem?_cons_succ] <;> rfl) (by decide +kernel) (by decide +kernel) (by kernel_rfl) (by rfl) (by exact fun _ _ _ _ h => h) ?_ | refine wpV_goA 1 (by simp only [List.getElem?_toArray, List.getElem?_cons_zero, List.getElem?_cons_succ] <;> rfl) (by decide +kernel) (by decide +kernel) (by kernel_rfl) (by rfl) (by exact fun _ _ _ _ h => h) ?_ | refine wpV_goA 2 (by simp only [List.getElem?_toArray, List.getElem?_cons_zero, List.getElem?_cons_succ] <;> rfl) (by decide +kernel) (by decide +kernel) (by kernel_rfl) (by rfl) (by exact fun _ _ _ _ h => h) ?_ | refine wpV_goA 3 (by simp only [List.getElem?_toArray, List.getElem?_cons_zero, List.getElem?_cons_succ] <;> rfl) (by decide +kernel) (by decide +kernel) (by kernel_rfl) (by rfl) (by exact fun _ _ _ _ h => h) ?_ | refine wpV_goA 4 (by simp only [List.getElem?_toArray, List.getElem?_cons_zero, List.getElem?_cons_succ] <;> rfl) (by decide +kernel) (by decide +kernel) (by kernel_rfl) (by rfl) (by exact fun _ _ _ _ h => h) ?_ | refine wpV_goA 5 (by simp only [List.getElem?_toArray, List.getElem?_cons_zero, List.getElem?_cons_succ] <;> rfl) (by decide +kernel) (by decide +kernel) (by kernel_rfl) (by rfl) (by exact fun _ _ _ _ h => h) ?_ | refine wpV_goA 6 (by simp only [List.getElem?_toArray, List.getElem?_cons_zero, List.getElem?_cons_succ] <;> rfl) (by decide +kernel) (by decide +kernel) (by kernel_rfl) (by rfl) (by exact fun _ _ _ _ h => h) ?_ | refine wpV_goA 7 (by simp only [List.getElem?_toArray, List.getElem?_cons_zero, List.getElem?_cons_succ] <;> rfl) (by decide +kernel) (by decide +kernel) (by kernel_rfl) (by rfl) (by exact fun _ _ _ _ h => h) ?_ | refine wpV_goA 8 (by simp only [List.getElem?_toArray, List.getElem?_cons_zero, List.getElem?_cons_succ] <;> rfl) (by decide +kernel) (by decide +kernel) (by kernel_rfl) (by rfl) (by exact fun _ _ _ _ h => h) ?_ | refine wpV_goA 11 (by simp only [List.getElem?_toArray, List.getElem?_cons_zero, List.getElem?_cons_succ] <;> rfl) (by decide +kernel) (by decide +kernel) (by kernel_rfl) (by rfl) (by exact fun _ _ _ _ h => h) ?_); apply Exists.intro; refine ⟨fun w1 => ?_, ?_⟩; (first | exact a_move _ rfl | exact a_assign _ rfl | (go_simp; first | exact ⟨rfl, rfl⟩ | rfl)); simp only [Act.put, Act.eval, List.setIfInBounds_toArray, List.set_cons_zero, List.set_cons_succ, Array.getD_eq_getD_getElem?, List.getElem?_toArray, List.getElem?_cons_zero, List.getElem?_cons_succ, Option.getD_some])))
            clear F HLX
            (refine wpV_one 9 (by decide +kernel) ?_; intro y1 hy1; refine op_wanted (by simp only [List.getElem?_toArray, List.getElem?_cons_zero, List.getElem?_cons_succ] <;> rfl) rfl ?_)
            refine wp_build1 22 _ rfl 54 i0 Try.underlying22 hi0 hz0 hz1 e rfl ?_
            refine ⟨Ks.of ((Bel.refl y1).alloc _), ?_⟩
            simp only [Act.put, Act.eval, List.setIfInBounds_toArray, List.set_cons_zero, List.set_cons_succ, Array.getD_eq_getD_getElem?, List.getElem?_toArray, List.getElem?_cons_zero, List.getElem?_cons_succ, Option.getD_some]
            have hbx0 := Box.new y1 (evv e) 54
            have hE1 := hy1.alloc (.cells (evv e) 54)
            generalize y1.heap.size = yb at *
            generalize y1.alloc (.cells (evv e) 54) = y2 at *
            (refine wpV_one 10 (by decide +kernel) ?_; intro y5 hy5; refine op_wanted (by simp only [List.getElem?_toArray, List.getElem?_cons_zero, List.getElem?_cons_succ] <;> rfl) rfl ?_)
            have hE5 := hE1.trans hy5
            have hR5 := HR.out.grow hE5
            have hbx := hy5.box hbx0
            have hsz5 : T + 1 ≤ y5.heap.size := hR5.box.lt
            refine wp_append_src (.tmp 35) (.tmp 37) _ rfl (T + 1) 54 i0 _ 3 24 Try.underlying22 hi0 hz0 hz1 hz2 rfl (by omega) (r (sl)) (syE (l.take i) (sl)).length (evc (syE (l.take i) (sl))) rfl (hR5.own _ HS9.out) (some ⟨yb, 0, none⟩) 1 1 (evl e) rfl rfl (Src.box (show Box y5 yb (evl e).toArray 54 from hbx) 1) (by simp [evl, Value.oneCell']) (by have := HLE.out (sl); unfold maxLen; omega) (by have := HLE.out (sl); omega) hsz5 ?_
            intro v3 u3 ho3 hg3 hat3
            refine ⟨Ks.grown hg3 (fun b hb q => by
              have h1 := (own_lt (hR5.own _ HS9.out) q.symm).1
              have h2 := HRX.out _ HS9.out _ q.symm
              rcases hb with rfl | rfl
              · exact h2 rfl
              · omega), ?_⟩
            simp only [Act.put, Act.eval, List.setIfInBounds_toArray, List.set_cons_zero, List.set_cons_succ, Array.getD_eq_getD_getElem?, List.getElem?_toArray, List.getElem?_cons_zero, List.getElem?_cons_succ, Option.getD_some]
            (repeat (first | ((first | refine wpV_goN 11 (by simp only [List.getElem?_toArray, List.getElem?_cons_zero, List.getElem?_cons_succ] <;> rfl) (by decide +kernel) (by decide +kernel) (by kernel_rfl) (by rfl) (by exact fun _ _ _ _ h => h) ?_); apply Exists.intro; refine ⟨fun w1 h1 => ?_, ?_⟩; (first | exact g_move _ rfl | exact g_assign _ rfl | (go_simp; first | exact ⟨rfl, rfl⟩ | rfl)); simp only [Act.put, Act.eval, List.setIfInBounds_toArray, List.set_cons_zero, List.set_cons_succ, Array.getD_eq_getD_getElem?, List.getElem?_toArray, List.getElem?_cons_zero, List.getElem?_cons_succ, Option.getD_some]) | ((first | refine wpV_skip 11 (by simp only [List.getElem?_toArray, List.getElem?_cons_zero, List.getElem?_cons_succ] <;> rfl) (by decide +kernel) (by decide +kernel) (by kernel_rfl) (by rfl) (by exact fun _ _ _ _ h => h) ?_); simp only [Act.put, Act.eval, List.setIfInBounds_toArray, List.set_cons_zero, List.set_cons_succ, Array.getD_eq_getD_getElem?, List.getElem?_toArray, List.getElem?_cons_zero, List.getElem?_cons_succ, Option.getD_some]) | ((first | refine wpV_goA 11 (by simp only [List.getElem?_toArray, List.getElem?_cons_zero, List.getElem?_cons_succ] <;> rfl) (by decide +kernel) (by decide +kernel) (by kernel_rfl) (by rfl) (by exact fun _ _ _ _ h => h) ?_); apply Exists.intro; refine ⟨fun w1 => ?_, ?_⟩; (first | exact a_move _ rfl | exact a_assign _ rfl | (go_simp; first | exact ⟨rfl, rfl⟩ | rfl)); simp only [Act.put, Act.eval, List.setIfInBounds_toArray, List.set_cons_zero, List.set_cons_succ, Array.getD_eq_getD_getElem?, List.getElem?_toArray, List.getElem?_cons_zero, List.getElem?_cons_succ, Option.getD_some])))
            refine wpV_last (by decide +kernel) (by decide +kernel) (by simp only [List.getElem?_toArray, List.getElem?_cons_zero, List.getElem?_cons_succ] <;> rfl) rfl ?_
            intro y6 hy6
            have hN := SyR.step hR5 HS9.out (own_bel ho3 hy6) (grown_bel hg3 hy6) hat3 (by rw [HT.out]; exact Nat.le_refl _) HSL.out
            have hbT := hy6.box (hR5.box.grown hg3 (fun q => by have := (own_lt (hR5.own _ HS9.out) q.symm).1; omega))
            refine wp_cell1 22 _ _ rfl rfl rfl (by kernel_rfl) (own_one9 ho3) (by rw [hbT.cell (sl) (vs_get r HS9.out)]; rfl) (hbT.frozen (sl)) ?_
            intro y7 hy7
            have HFN := Lib.hid (hN.grow hy7)
            clear hN hbT hg3 hat3 ho3 hy7 hy6 hsz5 hbx hR5 hE5 hy5 hE1 hbx0 hy1
            simp only [Act.put, Act.eval, List.setIfInBounds_toArray, List.set_cons_zero, List.set_cons_succ, Array.getD_eq_getD_getElem?, List.getElem?_toArray, List.getElem?_cons_zero, List.getElem?_cons_succ, Option.getD_some]
            go_wp2
            go_roundw
            case rel => exact ⟨i + 1, _, HI.out, by go_num, by rw [HTK.out]; exact HFN.out⟩
            case measure => have := HI.out; simp [intOf]; omega
        · have k7' : (e.k == 7) = false := by simp; omega
          have k8' : (e.k == 8) = false := by simp; omega
          have HFN := Lib.hid (HR.out.same (e := e) (fun j => syE_none e j k3 (fun h => k78 (.inl h)) (fun h => k78 (.inr h))))
          clear k3 k78
          go_wp2
          go_roundw
          case rel => exact ⟨i + 1, _, HI.out, by go_num, by rw [HTK.out]; exact HFN.out⟩
          case measure => have := HI.out; simp [intOf]; omega
    · obtain rfl : i = n := by omega
      have htk : l.take i = l := by rw [← HLN.out, List.take_length]
      rw [htk] at hr
      have HR := Lib.hid hr
      have HBX := Lib.hid hr.box
      have HONE := Lib.hid (show (vs 9 r).all (·.oneCell') = true by
        rw [Array.all_eq_true_iff_forall_mem]
        intro v hv
        simp only [vs, List.mem_toArray, List.mem_map] at hv
        obtain ⟨j, hj, rfl⟩ := hv
        exact own_one9 (hr.own j (List.mem_range.1 hj)))
      have HTY := Lib.hid (show RowTy Try.prog 57 (vs 9 r).size by rw [vs_size]; exact TS9)
      clear hr H0
      go_wp2_with (first | (refine loadB 57 _ rfl rfl rfl HBX.out HTY.out ?_) | (refine storeB 57 _ _ rfl rfl rfl rfl HBX.out rfl HTY.out HONE.out ?_))
      refine bodyPost_ret (res_c Try.results21 rfl (B := T) (c := vs 9 r) (t := 57) (HBX.out.setRow _) HTY.out) rfl ⟨r, rfl, fun j hj => ?_, ?_⟩
      · have h1 := own_keep (w' := wr.setRow T (vs 9 r)) (HR.out.own j hj) (fun g hg _ => setRow_other wr T g _ (by have := (own_lt (HR.out.own j hj) hg).1; omega))
        obtain ⟨A', c', h2, h3, h4, h5⟩ := Sl.own h1
        exact ⟨A', _, c', h2, h3, h4, h5⟩
      · exact below_setRow' HR.out.bel.out _ _ (by rw [HT.out]; exact Nat.le_refl _)
end Go.Proofs.Ytjddahidkodieaa

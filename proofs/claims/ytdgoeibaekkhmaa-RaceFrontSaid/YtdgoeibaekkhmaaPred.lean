/- The contract of predecessors: a map from each event to the row of those that come before it. -/
import Derived.Test.YtdgoeibaekkhmaaPre
import Derived.Test.YtdgoeibaekkhmaaKeepAh
import Derived.Test.YtdgoeibaekkhmaaTrace4
set_option linter.all false
set_option maxRecDepth 100000
namespace Go.Proofs.Ytdgoeibaekkhmaa
open Go Go.RowKit

def PredPost (w : World) (ps : List (Nat × Nat)) (e : Ending) (w' : World) : Prop :=
  ∃ M ks vs, e = .returned (.map (some M)) ∧ PreR w.heap.size M ps ks vs w' ∧ Below w.heap.size w w'
structure PredR (w : World) (ps : List (Nat × Nat)) (wr : World) : Prop where
  pre : ∃ ks vs, PreR w.heap.size w.heap.size ps ks vs wr
  below : Bel w wr
set_option maxHeartbeats 8000000 in
theorem pred_any (A : Option Addr) (n c : Nat) (ps : List (Nat × Nat)) (w : World) (hs : SlP w A n ps) (hn : n ≤ 6480) : Calls Try.prog 28 #[.slice A n c] w (PredPost w ps) := by
  have HS := Lib.hid hs
  have hmm := @run_makeMap Try.prog
  obtain ⟨i0, hi0, hz0, hz1, hz2⟩ := info_parts int_info
  have J := Lib.hid (And.intro hi0 (And.intro hz0 (And.intro hz1 hz2)))
  clear hi0 hz0 hz1 hz2 hs
  have H0 := Lib.hid (PredR.mk ⟨_, _, PreR.start w.heap.size (M := w.heap.size) (show MapR (w.alloc (.map #[] 0)) w.heap.size [] (fun _ => .slice none 0 0) from heap_alloc_new w _)⟩ ((Bel.refl w).alloc _) : PredR w (ps.take 0) (w.alloc (.map #[] 0)))
  go_enter Try.func28, Try.ntmps28
  go_wp2
  go_loopw [9] (fun t9 wr => ∃ i : Nat, i ≤ n ∧ t9 = .int .i64 i ∧ PredR w (ps.take i) wr) (fun t9 _ => n - (intOf t9).toNat)
  case atStart => exact ⟨0, by omega, rfl, H0.out⟩
  case round =>
    obtain ⟨i, hi, rfl, hr⟩ := hrel
    have HR := Lib.hid hr
    clear hr H0
    by_cases hlt : i < n
    · have hlt' : (i : Int) < n := by omega
      obtain ⟨bb, off, p, rfl, hbb, hp, hrg⟩ := HS.out.at_ hlt
      have hR := Lib.hid (rangeAt_below HR.out.below.out hbb hrg)
      have HE := Lib.hid (ptake_snoc hp)
      have HX := Lib.hid (pwld_box wr p 49)
      have HBW := Lib.hid (HR.out.below.trans (pwld_below wr p 49))
      obtain ⟨ks, vs, hpre⟩ := HR.out.pre
      have HP := Lib.hid (hpre.bel (pwld_below wr p 49))
      have hnB : ∀ b, (vs b).ownBlock ≠ some wr.heap.size := fun b e => by have := (own_lt (hpre.row b) e).2; omega
      have HNB := Lib.hid hnB
      have hMB : wr.heap.size ≠ w.heap.size := by have := hpre.map.lt; omega
      have HMB := Lib.hid hMB
      have HL := Lib.hid (Nat.le_trans (predOf_len (ps.take i) p.2) (by rw [List.length_take]; omega : (ps.take i).length ≤ 6480))
      clear hp hrg hpre hnB hMB
      go_wp2_with (first | (refine load_pr TPr _ rfl rfl rfl hR.out ?_) | (refine pwld_store TPr _ _ rfl rfl _ rfl rfl rfl ?_))
      generalize pwld wr p 49 = w3 at *
      generalize hX : wr.heap.size = X at *
      have F0 := fun (w1 : World) (h : Kp X w3 w1) => (h.box HX.out).cell 0 (v := .int .i64 p.1) rfl
      have F1 := fun (w1 : World) (h : Kp X w3 w1) => (h.box HX.out).cell 1 (v := .int .i64 p.2) rfl
      refine region_keep X (by kernel_rfl) ?_
      (repeat (first | (refine wpK_go 0 (by simp only [List.getElem?_toArray, List.getElem?_cons_zero, List.getElem?_cons_succ] <;> rfl) (by decide +kernel) (by decide +kernel) (by kernel_rfl) (by rfl) (by exact fun _ _ _ _ h => h) ?_; apply Exists.intro; refine ⟨fun w1 h1 => ?_, ?_⟩; (first | exact g_move _ rfl | exact g_assign _ rfl | (have fct0 := F0 w1 h1; have fct1 := F1 w1 h1; go_simp; first | exact ⟨rfl, rfl⟩ | rfl)); simp only [Act.put, Act.eval, List.setIfInBounds_toArray, List.set_cons_zero, List.set_cons_succ, Array.getD_eq_getD_getElem?, List.getElem?_toArray, List.getElem?_cons_zero, List.getElem?_cons_succ, Option.getD_some]) | (refine wpK_go 1 (by simp only [List.getElem?_toArray, List.getElem?_cons_zero, List.getElem?_cons_succ] <;> rfl) (by decide +kernel) (by decide +kernel) (by kernel_rfl) (by rfl) (by exact fun _ _ _ _ h => h) ?_; apply Exists.intro; refine ⟨fun w1 h1 => ?_, ?_⟩; (first | exact g_move _ rfl | exact g_assign _ rfl | (have fct0 := F0 w1 h1; have fct1 := F1 w1 h1; go_simp; first | exact ⟨rfl, rfl⟩ | rfl)); simp only [Act.put, Act.eval, List.setIfInBounds_toArray, List.set_cons_zero, List.set_cons_succ, Array.getD_eq_getD_getElem?, List.getElem?_toArray, List.getElem?_cons_zero, List.getElem?_cons_succ, Option.getD_some]) | (refine wpK_go 2 (by simp only [List.getElem?_toArray, List.getElem?_cons_zero, List.getElem?_cons_succ] <;> rfl) (by decide +kernel) (by decide +kernel) (by kernel_rfl) (by rfl) (by exact fun _ _ _ _ h => h) ?_; apply Exists.intro; refine ⟨fun w1 h1 => ?_, ?_⟩; (first | exact g_move _ rfl | exact g_assign _ rfl | (have fct0 := F0 w1 h1; have fct1 := F1 w1 h1; go_simp; first | exact ⟨rfl, rfl⟩ | rfl)); simp only [Act.put, Act.eval, List.setIfInBounds_toArray, List.set_cons_zero, List.set_cons_succ, Array.getD_eq_getD_getElem?, List.getElem?_toArray, List.getElem?_cons_zero, List.getElem?_cons_succ, Option.getD_some]) | (refine wpK_go 3 (by simp only [List.getElem?_toArray, List.getElem?_cons_zero, List.getElem?_cons_succ] <;> rfl) (by decide +kernel) (by decide +kernel) (by kernel_rfl) (by rfl) (by exact fun _ _ _ _ h => h) ?_; apply Exists.intro; refine ⟨fun w1 h1 => ?_, ?_⟩; (first | exact g_move _ rfl | exact g_assign _ rfl | (have fct0 := F0 w1 h1; have fct1 := F1 w1 h1; go_simp; first | exact ⟨rfl, rfl⟩ | rfl)); simp only [Act.put, Act.eval, List.setIfInBounds_toArray, List.set_cons_zero, List.set_cons_succ, Array.getD_eq_getD_getElem?, List.getElem?_toArray, List.getElem?_cons_zero, List.getElem?_cons_succ, Option.getD_some]) | (refine wpK_go 4 (by simp only [List.getElem?_toArray, List.getElem?_cons_zero, List.getElem?_cons_succ] <;> rfl) (by decide +kernel) (by decide +kernel) (by kernel_rfl) (by rfl) (by exact fun _ _ _ _ h => h) ?_; apply Exists.intro; refine ⟨fun w1 h1 => ?_, ?_⟩; (first | exact g_move _ rfl | exact g_assign _ rfl | (have fct0 := F0 w1 h1; have fct1 := F1 w1 h1; go_simp; first | exact ⟨rfl, rfl⟩ | rfl)); simp only [Act.put, Act.eval, List.setIfInBounds_toArray, List.set_cons_zero, List.set_cons_succ, Array.getD_eq_getD_getElem?, List.getElem?_toArray, List.getElem?_cons_zero, List.getElem?_cons_succ, Option.getD_some]) | (refine wpK_go 5 (by simp only [List.getElem?_toArray, List.getElem?_cons_zero, List.getElem?_cons_succ] <;> rfl) (by decide +kernel) (by decide +kernel) (by kernel_rfl) (by rfl) (by exact fun _ _ _ _ h => h) ?_; apply Exists.intro; refine ⟨fun w1 h1 => ?_, ?_⟩; (first | exact g_move _ rfl | exact g_assign _ rfl | (have fct0 := F0 w1 h1; have fct1 := F1 w1 h1; go_simp; first | exact ⟨rfl, rfl⟩ | rfl)); simp only [Act.put, Act.eval, List.setIfInBounds_toArray, List.set_cons_zero, List.set_cons_succ, Array.getD_eq_getD_getElem?, List.getElem?_toArray, List.getElem?_cons_zero, List.getElem?_cons_succ, Option.getD_some]) | (refine wpK_go 7 (by simp only [List.getElem?_toArray, List.getElem?_cons_zero, List.getElem?_cons_succ] <;> rfl) (by decide +kernel) (by decide +kernel) (by kernel_rfl) (by rfl) (by exact fun _ _ _ _ h => h) ?_; apply Exists.intro; refine ⟨fun w1 h1 => ?_, ?_⟩; (first | exact g_move _ rfl | exact g_assign _ rfl | (have fct0 := F0 w1 h1; have fct1 := F1 w1 h1; go_simp; first | exact ⟨rfl, rfl⟩ | rfl)); simp only [Act.put, Act.eval, List.setIfInBounds_toArray, List.set_cons_zero, List.set_cons_succ, Array.getD_eq_getD_getElem?, List.getElem?_toArray, List.getElem?_cons_zero, List.getElem?_cons_succ, Option.getD_some]) | (refine wpK_go 8 (by simp only [List.getElem?_toArray, List.getElem?_cons_zero, List.getElem?_cons_succ] <;> rfl) (by decide +kernel) (by decide +kernel) (by kernel_rfl) (by rfl) (by exact fun _ _ _ _ h => h) ?_; apply Exists.intro; refine ⟨fun w1 h1 => ?_, ?_⟩; (first | exact g_move _ rfl | exact g_assign _ rfl | (have fct0 := F0 w1 h1; have fct1 := F1 w1 h1; go_simp; first | exact ⟨rfl, rfl⟩ | rfl)); simp only [Act.put, Act.eval, List.setIfInBounds_toArray, List.set_cons_zero, List.set_cons_succ, Array.getD_eq_getD_getElem?, List.getElem?_toArray, List.getElem?_cons_zero, List.getElem?_cons_succ, Option.getD_some]) | (refine wpK_skip 0 (by simp only [List.getElem?_toArray, List.getElem?_cons_zero, List.getElem?_cons_succ] <;> rfl) (by decide +kernel) (by decide +kernel) (by kernel_rfl) (by rfl) (by exact fun _ _ _ _ h => h) ?_; simp only [Act.put, Act.eval, List.setIfInBounds_toArray, List.set_cons_zero, List.set_cons_succ, Array.getD_eq_getD_getElem?, List.getElem?_toArray, List.getElem?_cons_zero, List.getElem?_cons_succ, Option.getD_some]) | (refine wpK_skip 1 (by simp only [List.getElem?_toArray, List.getElem?_cons_zero, List.getElem?_cons_succ] <;> rfl) (by decide +kernel) (by decide +kernel) (by kernel_rfl) (by rfl) (by exact fun _ _ _ _ h => h) ?_; simp only [Act.put, Act.eval, List.setIfInBounds_toArray, List.set_cons_zero, List.set_cons_succ, Array.getD_eq_getD_getElem?, List.getElem?_toArray, List.getElem?_cons_zero, List.getElem?_cons_succ, Option.getD_some]) | (refine wpK_skip 2 (by simp only [List.getElem?_toArray, List.getElem?_cons_zero, List.getElem?_cons_succ] <;> rfl) (by decide +kernel) (by decide +kernel) (by kernel_rfl) (by rfl) (by exact fun _ _ _ _ h => h) ?_; simp only [Act.put, Act.eval, List.setIfInBounds_toArray, List.set_cons_zero, List.set_cons_succ, Array.getD_eq_getD_getElem?, List.getElem?_toArray, List.getElem?_cons_zero, List.getElem?_cons_succ, Option.getD_some]) | (refine wpK_skip 3 (by simp only [List.getElem?_toArray, List.getElem?_cons_zero, List.getElem?_cons_succ] <;> rfl) (by decide +kernel) (by decide +kernel) (by kernel_rfl) (by rfl) (by exact fun _ _ _ _ h => h) ?_; simp only [Act.put, Act.eval, List.setIfInBounds_toArray, List.set_cons_zero, List.set_cons_succ, Array.getD_eq_getD_getElem?, List.getElem?_toArray, List.getElem?_cons_zero, List.getElem?_cons_succ, Option.getD_some]) | (refine wpK_skip 4 (by simp only [List.getElem?_toArray, List.getElem?_cons_zero, List.getElem?_cons_succ] <;> rfl) (by decide +kernel) (by decide +kernel) (by kernel_rfl) (by rfl) (by exact fun _ _ _ _ h => h) ?_; simp only [Act.put, Act.eval, List.setIfInBounds_toArray, List.set_cons_zero, List.set_cons_succ, Array.getD_eq_getD_getElem?, List.getElem?_toArray, List.getElem?_cons_zero, List.getElem?_cons_succ, Option.getD_some]) | (refine wpK_skip 5 (by simp only [List.getElem?_toArray, List.getElem?_cons_zero, List.getElem?_cons_succ] <;> rfl) (by decide +kernel) (by decide +kernel) (by kernel_rfl) (by rfl) (by exact fun _ _ _ _ h => h) ?_; simp only [Act.put, Act.eval, List.setIfInBounds_toArray, List.set_cons_zero, List.set_cons_succ, Array.getD_eq_getD_getElem?, List.getElem?_toArray, List.getElem?_cons_zero, List.getElem?_cons_succ, Option.getD_some]) | (refine wpK_skip 7 (by simp only [List.getElem?_toArray, List.getElem?_cons_zero, List.getElem?_cons_succ] <;> rfl) (by decide +kernel) (by decide +kernel) (by kernel_rfl) (by rfl) (by exact fun _ _ _ _ h => h) ?_; simp only [Act.put, Act.eval, List.setIfInBounds_toArray, List.set_cons_zero, List.set_cons_succ, Array.getD_eq_getD_getElem?, List.getElem?_toArray, List.getElem?_cons_zero, List.getElem?_cons_succ, Option.getD_some]) | (refine wpK_skip 8 (by simp only [List.getElem?_toArray, List.getElem?_cons_zero, List.getElem?_cons_succ] <;> rfl) (by decide +kernel) (by decide +kernel) (by kernel_rfl) (by rfl) (by exact fun _ _ _ _ h => h) ?_; simp only [Act.put, Act.eval, List.setIfInBounds_toArray, List.set_cons_zero, List.set_cons_succ, Array.getD_eq_getD_getElem?, List.getElem?_toArray, List.getElem?_cons_zero, List.getElem?_cons_succ, Option.getD_some])))
      (refine wpK_two 6 9 (by decide +kernel) ?_ ?_ <;> (intro w4 hw4; refine op_wanted (by simp only [List.getElem?_toArray, List.getElem?_cons_zero, List.getElem?_cons_succ] <;> rfl) rfl ?_))
      · refine wp_look_row _ _ rfl (b := p.2) (HP.out.bel hw4) rfl rfl ?_
        refine ⟨Kp.of (Bel.refl _), ?_⟩
        simp only [Act.put, Act.eval, List.setIfInBounds_toArray, List.set_cons_zero, List.set_cons_succ, Array.getD_eq_getD_getElem?, List.getElem?_toArray, List.getElem?_cons_zero, List.getElem?_cons_succ, Option.getD_some]
        (refine wpK_one 9 (by decide +kernel) ?_; intro w5 hw5; refine op_wanted (by simp only [List.getElem?_toArray, List.getElem?_cons_zero, List.getElem?_cons_succ] <;> rfl) rfl ?_)
        refine wp_build_int 34 _ rfl 3 i0 Try.underlying34 J.out.1 J.out.2.1 J.out.2.2.1 p.1 rfl ?_
        refine ⟨Kp.of ((Bel.refl _).alloc _), ?_⟩
        simp only [Act.put, Act.eval, List.setIfInBounds_toArray, List.set_cons_zero, List.set_cons_succ, Array.getD_eq_getD_getElem?, List.getElem?_toArray, List.getElem?_cons_zero, List.getElem?_cons_succ, Option.getD_some]
        (refine wpK_one 10 (by decide +kernel) ?_; intro w6 hw6; refine op_wanted (by simp only [List.getElem?_toArray, List.getElem?_cons_zero, List.getElem?_cons_succ] <;> rfl) rfl ?_)
        have hpre6 := HP.out.bel ((hw4.trans (hw5.alloc (.cells #[.int .i64 p.1] 3))).trans hw6)
        have hsrc := Src.keep (Src.box (l := [.int .i64 p.1]) (Box.new w5 #[.int .i64 p.1] 3) 1) (hw6)
        have hsz6 : w.heap.size ≤ w6.heap.size := Nat.le_trans HBW.out.size ((hw4.trans (hw5.alloc (.cells #[.int .i64 p.1] 3))).trans hw6).size
        refine wp_append_src _ _ 34 rfl w.heap.size 3 i0 _ 1 8 Try.underlying34 J.out.1 J.out.2.1 J.out.2.2.1 J.out.2.2.2 rfl (by omega) (vs p.2) (predOf (ps.take i) p.2).length (il (predOf (ps.take i) p.2)) rfl (hpre6.row p.2) (some ⟨w5.heap.size, 0, none⟩) 1 1 [.int .i64 p.1] rfl rfl hsrc (by simp [Value.oneCell']) (by have := HL.out; unfold maxLen; omega) (by have := HL.out; omega) hsz6 ?_
        intro v7 w7 hown7 hg7 hat7
        have hX6 : X < w6.heap.size := Nat.lt_of_lt_of_le HX.out.lt ((hw4.trans (hw5.alloc (.cells #[.int .i64 p.1] 3))).trans hw6).size
        refine ⟨Kp.grown hg7 (fun e => HNB.out p.2 e.symm), ?_⟩
        simp only [Act.put, Act.eval, List.setIfInBounds_toArray, List.set_cons_zero, List.set_cons_succ, Array.getD_eq_getD_getElem?, List.getElem?_toArray, List.getElem?_cons_zero, List.getElem?_cons_succ, Option.getD_some]
        (refine wpK_one 11 (by decide +kernel) ?_; intro w8 hw8; refine op_wanted (by simp only [List.getElem?_toArray, List.getElem?_cons_zero, List.getElem?_cons_succ] <;> rfl) rfl ?_)
        have hst := hpre6.store (a := p.1) (b := p.2) (v := v7) hg7 hpre6.map.lt hown7 hat7 hw8
        refine wp_upd_row _ _ _ rfl hst.1 hpre6.nodup (b := p.2) rfl rfl rfl ?_
        refine ⟨⟨by rw [rset_size]; omega, fun _ => rset_other _ _ _ _ HMB.out⟩, ?_⟩
        simp only [Act.put, Act.eval, List.setIfInBounds_toArray, List.set_cons_zero, List.set_cons_succ, Array.getD_eq_getD_getElem?, List.getElem?_toArray, List.getElem?_cons_zero, List.getElem?_cons_succ, Option.getD_some]
        (refine wpK_done (by decide +kernel) ?_ _; intro w9 hw9; try simp only [Act.put, Act.eval, List.setIfInBounds_toArray, List.set_cons_zero, List.set_cons_succ, Array.getD_eq_getD_getElem?, List.getElem?_toArray, List.getElem?_cons_zero, List.getElem?_cons_succ, Option.getD_some])
        have HB9 := Lib.hid (Bel.trans (show Bel w (rset w8 w.heap.size (addK ks p.2) (updV vs p.2 v7)) from below_rset (((HBW.out.trans ((hw4.trans (hw5.alloc (.cells #[.int .i64 p.1] 3))).trans hw6)).out.trans (grown_below (N := w.heap.size) hg7 (hpre6.row p.2) (Nat.le_refl _) hsz6)).trans (Below.mono hw8 (Nat.le_trans hsz6 hg7.size))) (Nat.le_refl _) _ _) hw9)
        have HS9 := Lib.hid (hst.2.bel hw9)
        clear hst hpre6 hsrc hown7 hg7 hat7 hw4 hw5 hw6 hw8 hw9 F0 F1
        go_wp2
        go_roundw
        case rel => exact ⟨i + 1, by omega, by go_num, ⟨⟨_, _, by rw [HE.out]; exact HS9.out⟩, HB9.out⟩⟩
        case measure => simp [intOf]; omega
      · refine wp_build_int 34 _ rfl 3 i0 Try.underlying34 J.out.1 J.out.2.1 J.out.2.2.1 p.1 rfl ?_
        refine ⟨Kp.of ((Bel.refl _).alloc _), ?_⟩
        simp only [Act.put, Act.eval, List.setIfInBounds_toArray, List.set_cons_zero, List.set_cons_succ, Array.getD_eq_getD_getElem?, List.getElem?_toArray, List.getElem?_cons_zero, List.getElem?_cons_succ, Option.getD_some]
        (refine wpK_one 6 (by decide +kernel) ?_; intro w5 hw5; refine op_wanted (by simp only [List.getElem?_toArray, List.getElem?_cons_zero, List.getElem?_cons_succ] <;> rfl) rfl ?_)
        refine wp_look_row _ _ rfl (b := p.2) (HP.out.bel ((hw4.alloc (.cells #[.int .i64 p.1] 3)).trans hw5)) rfl rfl ?_
        refine ⟨Kp.of (Bel.refl _), ?_⟩
        simp only [Act.put, Act.eval, List.setIfInBounds_toArray, List.set_cons_zero, List.set_cons_succ, Array.getD_eq_getD_getElem?, List.getElem?_toArray, List.getElem?_cons_zero, List.getElem?_cons_succ, Option.getD_some]
        (refine wpK_one 10 (by decide +kernel) ?_; intro w6 hw6; refine op_wanted (by simp only [List.getElem?_toArray, List.getElem?_cons_zero, List.getElem?_cons_succ] <;> rfl) rfl ?_)
        have hpre6 := HP.out.bel (((hw4.alloc (.cells #[.int .i64 p.1] 3)).trans hw5).trans hw6)
        have hsrc := Src.keep (Src.box (l := [.int .i64 p.1]) (Box.new w4 #[.int .i64 p.1] 3) 1) (hw5.trans hw6)
        have hsz6 : w.heap.size ≤ w6.heap.size := Nat.le_trans HBW.out.size (((hw4.alloc (.cells #[.int .i64 p.1] 3)).trans hw5).trans hw6).size
        refine wp_append_src _ _ 34 rfl w.heap.size 3 i0 _ 1 8 Try.underlying34 J.out.1 J.out.2.1 J.out.2.2.1 J.out.2.2.2 rfl (by omega) (vs p.2) (predOf (ps.take i) p.2).length (il (predOf (ps.take i) p.2)) rfl (hpre6.row p.2) (some ⟨w4.heap.size, 0, none⟩) 1 1 [.int .i64 p.1] rfl rfl hsrc (by simp [Value.oneCell']) (by have := HL.out; unfold maxLen; omega) (by have := HL.out; omega) hsz6 ?_
        intro v7 w7 hown7 hg7 hat7
        have hX6 : X < w6.heap.size := Nat.lt_of_lt_of_le HX.out.lt (((hw4.alloc (.cells #[.int .i64 p.1] 3)).trans hw5).trans hw6).size
        refine ⟨Kp.grown hg7 (fun e => HNB.out p.2 e.symm), ?_⟩
        simp only [Act.put, Act.eval, List.setIfInBounds_toArray, List.set_cons_zero, List.set_cons_succ, Array.getD_eq_getD_getElem?, List.getElem?_toArray, List.getElem?_cons_zero, List.getElem?_cons_succ, Option.getD_some]
        (refine wpK_one 11 (by decide +kernel) ?_; intro w8 hw8; refine op_wanted (by simp only [List.getElem?_toArray, List.getElem?_cons_zero, List.getElem?_cons_succ] <;> rfl) rfl ?_)
        have hst := hpre6.store (a := p.1) (b := p.2) (v := v7) hg7 hpre6.map.lt hown7 hat7 hw8
        refine wp_upd_row _ _ _ rfl hst.1 hpre6.nodup (b := p.2) rfl rfl rfl ?_
        refine ⟨⟨by rw [rset_size]; omega, fun _ => rset_other _ _ _ _ HMB.out⟩, ?_⟩
        simp only [Act.put, Act.eval, List.setIfInBounds_toArray, List.set_cons_zero, List.set_cons_succ, Array.getD_eq_getD_getElem?, List.getElem?_toArray, List.getElem?_cons_zero, List.getElem?_cons_succ, Option.getD_some]
        (refine wpK_done (by decide +kernel) ?_ _; intro w9 hw9; try simp only [Act.put, Act.eval, List.setIfInBounds_toArray, List.set_cons_zero, List.set_cons_succ, Array.getD_eq_getD_getElem?, List.getElem?_toArray, List.getElem?_cons_zero, List.getElem?_cons_succ, Option.getD_some])
        have HB9 := Lib.hid (Bel.trans (show Bel w (rset w8 w.heap.size (addK ks p.2) (updV vs p.2 v7)) from below_rset (((HBW.out.trans (((hw4.alloc (.cells #[.int .i64 p.1] 3)).trans hw5).trans hw6)).out.trans (grown_below (N := w.heap.size) hg7 (hpre6.row p.2) (Nat.le_refl _) hsz6)).trans (Below.mono hw8 (Nat.le_trans hsz6 hg7.size))) (Nat.le_refl _) _ _) hw9)
        have HS9 := Lib.hid (hst.2.bel hw9)
        clear hst hpre6 hsrc hown7 hg7 hat7 hw4 hw5 hw6 hw8 hw9 F0 F1
        go_wp2
        go_roundw
        case rel => exact ⟨i + 1, by omega, by go_num, ⟨⟨_, _, by rw [HE.out]; exact HS9.out⟩, HB9.out⟩⟩
        case measure => simp [intOf]; omega
    · obtain rfl : i = n := by omega
      have HT := Lib.hid (ptake_all HS.out)
      obtain ⟨ks, vs, hpre⟩ := HR.out.pre
      have HP := Lib.hid hpre
      clear hpre
      go_wp2
      go_ret
      exact ⟨_, _, _, rfl, by have := HP.out; rw [HT.out] at this; exact this, HR.out.below⟩
end Go.Proofs.Ytdgoeibaekkhmaa

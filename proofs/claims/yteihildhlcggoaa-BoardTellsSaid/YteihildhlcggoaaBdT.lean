/- Package board, one goroutine: Trace. -/
import Derived.Test.YteihildhlcggoaaBd
set_option linter.all false
set_option maxRecDepth 100000
namespace Go.Proofs.Yteihildhlcggoaa
open Go Go.RowKit Go.Conc.Locks Go.MuLone

set_option maxHeartbeats 2000000 in
theorem bclone_any (A : Option Addr) (n c : Nat) (l : List Ev) (w : World) (h : Sl w A n l) (hn : n ≤ 1000) : Calls Try.prog 52 #[.slice A n c] w (CpPost w n l) := by
  cases A with
  | none =>
    have HO := Lib.hid (World.ownsRow_nil w w.heap.size 50 3)
    have h0 : n = 0 := by
      rcases Nat.eq_zero_or_pos n with h0 | h0
      · exact h0
      · obtain ⟨b, o, h1, _⟩ := h.2 h0
        cases h1
    subst h0
    have hl : l = [] := List.eq_nil_of_length_eq_zero h.1
    subst hl
    have NS := Lib.run_eql_slice_nil (P := Try.prog) w 22 50 none 0 c 0 0 Try.underlying22
    clear h hn
    go_enter Try.func52, Try.ntmps52
    go_wp2
    go_ret
    exact ⟨_, rfl, HO.out, Below.refl _ _⟩
  | some ad =>
    obtain ⟨i0, hi0, hz0, hz1, hz2⟩ := info_parts ev_info
    have HO := Lib.hid (show (w.alloc (.cells #[] 50)).ownsRow w.heap.size 50 3 (.slice (some ⟨w.heap.size, 0, none⟩) 0 0) 0 [] from
      ⟨rfl, .inr ⟨w.heap.size, 0, #[], rfl, Nat.le_refl _, Box.new w #[] _, Nat.le_refl _, by unfold maxLen; omega, rfl, rfl⟩⟩)
    have HS := Lib.hid (h.src.keep (Bel.of ((Below.refl w.heap.size w).alloc (Nat.le_refl _) (.cells #[] 50))))
    have HLN := Lib.hid (show (evc l).length = n * 3 by rw [evc_length, h.1])
    have HN := Lib.hid hn
    have NS := Lib.run_eql_slice_nil (P := Try.prog) w 22 50 (some ad) n c 0 0 Try.underlying22
    clear h hn
    go_enter Try.func52, Try.ntmps52
    go_wp2_with (at_builtin; refine wpList_append_srcE rfl (.tmp 5) (.tmp 6) _ rfl w.heap.size 50 i0 _ 3 24 Try.underlying22 hi0 hz0 hz1 hz2 rfl (by omega) (.slice (some ⟨w.heap.size, 0, none⟩) 0 0) 0 [] rfl HO.out (some ad) n c (evc l) rfl HLN.out HS.out (evc_one l) (by have := HN.out; unfold maxLen; omega) (by have := HN.out; omega) (by simp) ?_; intro v2 w2 hown2 hg2 hat2)
    go_ret
    refine ⟨_, rfl, by simpa using hown2, ((Below.refl w.heap.size w).alloc (Nat.le_refl _) (.cells #[] 50)).grown hg2 (by simp) (fun k hk => ?_)⟩
    simp [Value.ownBlock] at hk
    omega
/-- The lock taken and given back: the board's block is as it was. -/
theorem Bd.back {w w2 : World} {N B : Nat} {v : Value} {l : List Ev} (h : Bd w N B 0 v l) (hb : Bel (w.setCell ⟨B, 0, none⟩ (.int .i32 1)) w2) : Below w.heap.size w (w2.setCell ⟨B, 0, none⟩ (.int .i32 0)) := by
  have h2 := ((h.setS 1).bel hb).setS 0
  refine ⟨hb.out.os, hb.out.tape, hb.out.output, by have := hb.out.size; simpa using this, fun k hk => ?_⟩
  by_cases hB : k = B
  · subst hB
    exact h2.box.trans h.box.symm
  · rw [heap_setCell_other w2 ⟨B, 0, none⟩ k _ hB, hb.out.block k (by simpa using hk), heap_setCell_other w ⟨B, 0, none⟩ k _ hB]
set_option maxHeartbeats 2000000 in
theorem btrace_any (N B : Nat) (v : Value) (l : List Ev) (w : World) (h : Bd w N B 0 v l) : Calls Try.prog 31 #[.pointer (some ⟨B, 0, none⟩)] w (CpPost w l.length l) := by
  have c0 : w.cell? ⟨B, 0, none⟩ = some (.int .i32 0) := h.box.cell 0 rfl
  have f0 := h.box.frozen 0
  have HB := Lib.hid h
  have H1 := Lib.hid (h.setS 1)
  have HL := Lib.hid (show l.length ≤ 1000 by have := ((may_iff l).1 h.ok).1; omega)
  have HSZ := Lib.hid (show (w.setCell ⟨B, 0, none⟩ (.int .i32 1)).heap.size = w.heap.size by simp)
  have HBL := Lib.hid h.box.lt
  obtain ⟨A, c, rfl, hs⟩ := (h.setS 1).sl
  have HS := Lib.hid hs
  have cv := (h.setS 1).box.cell 2 (v := .slice A l.length c) rfl
  clear h hs
  go_enter_defers Try.func31, Try.ntmps31
  go_wp2_with (go_at_call 46; refine (lock_free muLib ⟨B, 0, none⟩ _ c0 f0).mono ?_; rintro e' w' ⟨rfl, rfl⟩)
  clear c0 f0
  have HBK := Lib.hid (fun (w2 : World) (hb : Bel (w.setCell ⟨B, 0, none⟩ (.int .i32 1)) w2) => HB.out.back hb)
  generalize w.setCell ⟨B, 0, none⟩ (.int .i32 1) = w1 at *
  refine (bclone_any A l.length c l _ HS.out HL.out).mono ?_
  rintro e2 w2 ⟨v2, rfl, ho2, hb2⟩
  have HW := Lib.hid (Bel.of hb2)
  have H2 := Lib.hid (H1.out.bel (Bel.of hb2))
  have HO := Lib.hid ho2
  clear hb2 ho2 cv
  go_wp2
  refine leaves_cons (f := 47) (args := #[.pointer (some ⟨B, 0, none⟩)]) (by simp) (by simp [go_sem]) ?_
  refine (unlock_deferred muLib ⟨B, 0, none⟩ .returning _ (H2.out.box.cell 0 rfl) (H2.out.box.frozen 0)).mono ?_
  rintro e5 u' w5 ⟨rfl, rfl, rfl⟩
  refine ⟨_, results_tmp rfl _ _ _, v2, rfl, ?_, HBK.out w2 HW.out⟩
  have := own_keep HO.out (w' := w2.setCell ⟨B, 0, none⟩ (.int .i32 0)) fun g hg _ => heap_setCell_other w2 ⟨B, 0, none⟩ g _ (by have := (own_lt HO.out hg).1; have h3 := HBL.out; have h4 := HSZ.out; show g ≠ B; omega)
  rw [HSZ.out] at this
  exact this
end Go.Proofs.Yteihildhlcggoaa

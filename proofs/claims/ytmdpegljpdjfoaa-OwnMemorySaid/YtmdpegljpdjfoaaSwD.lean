/- slices.Delete of one event from a row of the call's own. -/
import Derived.Test.YtmdpegljpdjfoaaSwP
import Derived.Test.YtmdpegljpdjfoaaAppend
import Derived.Test.YtmdpegljpdjfoaaKeepTw
import Derived.Deep.RegionLaw
set_option linter.all false
set_option maxRecDepth 100000
namespace Go.Proofs.Ytmdpegljpdjfoaa
open Go Go.RowKit

theorem run_clear3 {P : Program} (t e : TypeId) (i : TypeInfo) (ht : P.underlying t = some (.slice e)) (hi : P.info? e = some i) (hz : i.zero = some (.agg #[.int .i64 0, .int .i64 0, .int .i64 0])) (ty : TypeId) (w : World) (g o k c : Nat) (hk : k = 1)
    (hc : ∀ j, j < 3 → (w.cell? ⟨g, o + j, none⟩).isSome = true) (hf : ∀ j, j < 3 → w.frozen? ⟨g, o + j, none⟩ = false) :
    (Builtin.clear_ #[t] ty #[.slice (some ⟨g, o, none⟩) k c]).run P w = .ok (.tuple #[]) (w.setCells g o [.int .i64 0, .int .i64 0, .int .i64 0]) := by
  subst hk
  have hst := run_storeCells_cells (P := P) g o [.int .i64 0, .int .i64 0, .int .i64 0] 0 w (by simpa using hc) (by simpa using hf) (fun v hv => by
    simp only [List.mem_cons, List.not_mem_nil, or_false] at hv
    rcases hv with rfl | rfl | rfl <;> rfl)
  have hzc : (Builtin.zeroCells #[.int .i64 0, .int .i64 0, .int .i64 0] 1).toList = [.int .i64 0, .int .i64 0, .int .i64 0] := by kernel_rfl
  simp [Builtin.clear_, Sem.run_bind, run_underlying ht, typeInfo, hi, zeroValue, hz, Value.cells, hzc, hst, Result.andThen]
/-- A row of the call's own, in another block of whatever cells; where its value lies does not change. -/
def DelPost (w : World) (base n : Nat) (v : Value) (l : List Ev) (e : Ending) (w' : World) : Prop := ∃ v', e = .returned v' ∧ w'.ownsRow base 29 3 v' n (evc l) ∧ w.grownBy w' v.ownBlock ∧ v'.ownBlock = v.ownBlock
set_option maxHeartbeats 4000000 in
set_option maxRecDepth 1000000 in
theorem delete_any (base n i m : Nat) (v : Value) (l : List Ev) (w : World) (h : w.ownsRow base 29 3 v n (evc l)) (hi : i < n) (hm : m + 1 = n) (hn : n ≤ 1000) :
    Calls Try.prog 37 #[v, .int .i64 i, .int .i64 ((i : Int) + 1)] w (DelPost w base m v (l.eraseIdx i)) := by
  rcases h.2 with ⟨_, h0⟩ | ⟨g, cap, cur, rfl, h2, h3, h4, h5, h6, h7⟩
  · omega
  have hln : l.length = n := by have := h.1; rw [evc_length] at this; omega
  obtain ⟨i0, hi0, hz0, hz1, hz2⟩ := info_parts ev_info
  have HBX : Box w g cur 29 := h3
  have HM := Lib.hid (del_cells hln hi hm h4 h6 h7 [.int .i64 0, .int .i64 0, .int .i64 0])
  have HS := Lib.hid h6
  have HG := Lib.hid h2
  have hcell : ∀ k, k < n * 3 → ∃ u, cur[k]? = some u ∧ (evc l)[k]? = some u := fun k hk => by
    obtain ⟨u, hu⟩ : ∃ u, (evc l)[k]? = some u := ⟨_, List.getElem?_eq_getElem (by rw [h.1]; exact hk)⟩
    refine ⟨u, ?_, hu⟩
    rw [← h7, List.getElem?_take, if_pos hk] at hu
    simpa using hu
  have hml : (evc (l.drop (i + 1))).length = (n - (i + 1)) * 3 := by rw [evc_length, List.length_drop, hln]
  obtain ⟨A, hA, hnews⟩ : ∃ A : Addr, (if cap = i + 1 then some (⟨g, 0, none⟩ : Addr) else some ⟨g, (i + 1) * 3, none⟩) = some A ∧ (∀ j u, (evc (l.drop (i + 1)))[j]? = some u → w.drew.cell? (A.add j) = some u) := by
    by_cases hc : cap = i + 1
    · refine ⟨⟨g, 0, none⟩, by simp [hc], fun j u hu => ?_⟩
      have h0 : (evc (l.drop (i + 1))).length = 0 := by rw [hml]; omega
      rw [List.length_eq_zero_iff.1 h0] at hu
      cases hu
    · refine ⟨⟨g, (i + 1) * 3, none⟩, by simp [hc], fun j u hu => ?_⟩
      have hj := (List.getElem?_eq_some_iff.1 hu).1
      rw [hml] at hj
      obtain ⟨u', hu1, hu2⟩ := hcell ((i + 1) * 3 + j) (by omega)
      rw [← evc_drop, List.getElem?_drop, hu2] at hu
      cases hu
      rw [Addr.add_lit]
      exact HBX.drew.cell _ hu1
  have hnews := Lib.hid hnews
  have s1 := Lib.hid hml
  have s2 := Lib.hid (evc_one (l.drop (i + 1)))
  have s3 := Lib.hid (show ∀ j, j < (evc (l.drop (i + 1))).length → (w.drew.cell? ⟨g, 0 + i * 3 + j, none⟩).isSome = true ∧ w.drew.frozen? ⟨g, 0 + i * 3 + j, none⟩ = false from fun j hj => by
    rw [hml] at hj
    obtain ⟨u', hu1, _⟩ := hcell (i * 3 + j) (by omega)
    rw [Nat.zero_add]
    exact ⟨by rw [HBX.drew.cell _ hu1]; rfl, HBX.drew.frozen _⟩)
  have HBX := Lib.hid HBX
  have hic : i ≤ cap := by omega
  have hwr : IntKind.i64.wrap ((i : Int) + 1) = (i : Int) + 1 := by rw [IntKind.wrap_i64]; omega
  have hp0 : (0 : Int) ≤ (i : Int) + 1 := by omega
  have hp1 : (i : Int) + 1 ≤ (n : Int) := by omega
  have hp2 : ((i : Int) + 1).toNat = i + 1 := by omega
  have hp3 : ((i : Int) == (i : Int) + 1) = false := beq_eq_false_iff_ne.2 (by omega)
  have hp4 : (i : Int) ≤ (i : Int) + 1 := by omega
  have hp5 : (n : Int) ≤ (cap : Int) := by omega
  have H := Lib.hid h
  clear h hcell h2 h3 h6 h7 hml
  go_enter Try.func37, Try.ntmps37
  go_wp2_with fail
  go_region_law (refine step_append_room rfl (.tmp 22) (.tmp 25) 22 rfl 29 i0 3 Try.underlying22 hi0 hz1 g 0 i cap (by simp [Act.eval, Act.put]) A (n - (i + 1)) (cap - (i + 1)) (evc (l.drop (i + 1))) (by simp [Act.eval, Act.put]) s1.out hnews.out s2.out (by omega) s3.out ?_)
  have hmm : i + (n - (i + 1)) = m := by omega
  rw [hmm]
  try rw [Nat.zero_add]
  have HB3 := Lib.hid (Box.setL (evc (l.drop (i + 1))) (i * 3) HBX.out.drew)
  have HG3 := Lib.hid (grown_setCells g (evc (l.drop (i + 1))) (i * 3) w.drew)
  generalize w.drew.setCells g (i * 3) (evc (l.drop (i + 1))) = w3 at *
  have hz3 := Lib.hid (fun j => HB3.out.frozen (m * 3 + j))
  have hc3 := Lib.hid (show ∀ j, j < 3 → (w3.cell? ⟨g, m * 3 + j, none⟩).isSome = true from fun j hj => by
    obtain ⟨u, hu⟩ : ∃ u, (setL cur (i * 3) (evc (l.drop (i + 1))))[m * 3 + j]? = some u := ⟨_, Array.getElem?_eq_getElem (by rw [setL_size, HS.out]; omega)⟩
    rw [HB3.out.cell _ hu]; rfl)
  have hq1 : (0 : Int) ≤ (m : Int) := by omega
  have hq2 : (m : Int) ≤ (n : Int) := by omega
  have hq3 : ¬ cap = m := by omega
  have hq4 : m ≤ n := by omega
  clear hwr hp0 hp1 hp2 hp3 hp4 hmm hA hnews s1 s2 s3
  go_wp2
  rw [run_clear3 22 29 i0 Try.underlying22 hi0 hz0 0 w3 g (m * 3) (n - m) (cap - m) (by omega) hc3.out (fun j _ => hz3.out j)]
  go_wp2
  go_ret
  have h9 := Box.setL [.int .i64 0, .int .i64 0, .int .i64 0] (m * 3) HB3.out
  refine ⟨_, rfl, ⟨by rw [evc_length, List.length_eraseIdx_of_lt (by omega), hln]; omega, .inr ⟨g, cap, _, rfl, HG.out, h9, by omega, h5, by rw [setL_size, setL_size]; exact HS.out, HM.out⟩⟩, ?_, rfl⟩
  have hd : w.grownBy w.drew (some g) := ⟨rfl, rfl, rfl, Nat.le_refl _, fun _ _ _ => rfl⟩
  exact (hd.trans HG3.out).trans (grown_setCells g _ _ _)
end Go.Proofs.Ytmdpegljpdjfoaa

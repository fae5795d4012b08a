/- The laws' own: shrunk: over a contract of the package shrink. -/
import Derived.Test.YtmdpegljpdjfoaaShC
import Derived.Test.YtmdpegljpdjfoaaKeepTw
import Derived.Test.YtmdpegljpdjfoaaAppend
set_option linter.all false
set_option maxRecDepth 100000
namespace Go.Proofs.Ytmdpegljpdjfoaa
open Go Go.RowKit

set_option maxHeartbeats 4000000 in
theorem shrunk_any (HMi : MinC) (W : World) : Calls Try.prog 18 #[] W fun e w' => e = .returned (.bool true) ∧ Below W.heap.size W w' := by
  have hw0 : Bel W W := Bel.refl _
  unfold MinC at HMi
  have HMC := Lib.hid HMi
  obtain ⟨i0, hi0, hz0, hz1, hz2⟩ := info_parts ev_info
  have J := Lib.hid (And.intro hi0 (And.intro hz0 (And.intro hz1 hz2)))
  clear hi0 hz0 hz1 hz2 HMi
  go_enter Try.func18, Try.ntmps18
  go_wp2_with fail
  refine (two_any _).mono ?_
  rintro e1 w1 ⟨v1, rfl, hown1, hb1⟩
  have hw1 := hw0.call hb1
  clear hb1
  have HO := Lib.hid hown1
  clear hown1
  obtain ⟨hi0, hz0, hz1, hz2⟩ := J.out
  have HOA := Lib.hid (own_alloc HO.out (.cells #[.int .i64 1, .int .i64 0, .int .i64 0] 29))
  have hs1 := hw1.size
  go_wp2_with (at_builtin; refine wpList_append_own_at _ rfl (.tmp 4) (.tmp 6) _ rfl W.heap.size 29 i0 _ 3 24 Try.underlying22 hi0 hz0 hz1 hz2 rfl (by omega) v1 3 (evc twoL) rfl HOA.out ⟨w1.heap.size, 0, none⟩ 1 1 (evc [⟨1, 0, 0⟩]) rfl rfl (Box.news (l := evc [⟨1, 0, 0⟩]) (Box.new w1 _ _)) (by simp [evc, Value.oneCell']) (by simp [maxLen]) (by omega) (by simp; omega) ?_; intro v2 w2 hown2 hg2 hn2 hat2)
  have HW2 := Lib.hid (show Bel W w2 from (hw1.alloc _).out.grown hg2 (by simp; omega) (own_block_ge HO.out))
  obtain ⟨A2, c2, rfl, hs2, hc2, hm2⟩ := Sl.own (l := shrL) (by unfold shrL; rw [evc_append]; exact hown2)
  have HS2 := Lib.hid hs2
  clear hown2 hg2 hn2 hat2 hs2 hi0 hz0 hz1 hz2 hw0 hw1
  refine (HMC.out A2 4 c2 shrL w2 HS2.out hc2 hm2).mono ?_
  rintro e3 w3 ⟨r3, c3, hB3, v3, rfl, ho3, hb3⟩
  obtain ⟨rfl, rfl⟩ := minB_uniq hB3 shr_red
  obtain ⟨A3, d3, rfl, _, _, _⟩ := Sl.own ho3
  have HW3 := Lib.hid (HW2.out.call hb3)
  have h3 : ((shrM.length : Int) == 3) = true := by decide
  clear hB3 ho3 hb3
  generalize shrM.length = q at *
  go_wp2
  go_ret
  exact ⟨rfl, HW3.out.out⟩
end Go.Proofs.Ytmdpegljpdjfoaa

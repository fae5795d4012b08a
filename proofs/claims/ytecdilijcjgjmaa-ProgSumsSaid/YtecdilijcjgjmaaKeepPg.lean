/- Contracts of deadheatkeep over Run: ran, may. -/
import Derived.Test.YtecdilijcjgjmaaEqEn
import Derived.Test.YtecdilijcjgjmaaRefTr
set_option linter.all false
set_option maxRecDepth 100000
namespace Go.Proofs.Ytecdilijcjgjmaa
open Go Go.RowKit

theorem si_take {w : World} {A : Option Addr} {n : Nat} {l : List Int} (h : SI w A n l) {j : Nat} (hj : j ≤ n) : SI w A j (l.take j) :=
  ⟨by rw [List.length_take, h.1]; omega, fun h0 => by
    obtain ⟨b, o, hA, hc⟩ := h.2 (by omega)
    refine ⟨b, o, hA, fun i hi => ?_⟩
    rw [hc i (by omega), List.getElem?_take_of_lt hi]⟩
/-- What a run of fewer picks has to do with one of more. -/
theorem run_front (P : List (List Ev)) (q : List Int) (j : Nat) : ∃ m, (runP P q).L = (runP P (q.take j)).L ++ m := by
  have h : runP P q = (q.drop j).foldl (pickP P) (runP P (q.take j)) := by
    unfold runP
    rw [← List.foldl_append, List.take_append_drop]
  rw [h]
  exact (picks_len P (q.drop j) _).2
theorem run_stops (P : List (List Ev)) (q : List Int) (j : Nat) (h : doneP P (runP P (q.take j)) = true ∨ stuckP P (runP P (q.take j)) = true) : runP P q = runP P (q.take j) := by
  have h1 : runP P q = (q.drop j).foldl (pickP P) (runP P (q.take j)) := by
    unfold runP
    rw [← List.foldl_append, List.take_append_drop]
  rw [h1, stops h]
theorem runB_cases {P : List (List Ev)} {q : List Int} {x : Array Value} {l : List Ev} {c : Int} (h : RunB P q x l c) : (c ≠ 0 ∧ x = end0 ∧ l = []) ∨ (c = 0 ∧ OkP P ∧ q.length ≤ 100 ∧ x = endP P (runP P q) ∧ l = (runP P q).L) := by
  rcases h with ⟨h1, h2, h3, h4⟩ | ⟨_, _, h2, h3, h4⟩ | ⟨h1, h2, h3, h4, h5⟩
  · exact .inl ⟨by rw [h4]; exact h1, h2, h3⟩
  · exact .inl ⟨by rw [h4]; decide, h2, h3⟩
  · exact .inr ⟨h5, chk_ok.1 h1, h2, h3, h4⟩
def ranP : List (List Ev) := [[⟨3, 0, 5⟩, ⟨2, 2, 0⟩]]
theorem ran_run {x : Array Value} {l : List Ev} {c : Int} (h : RunB ranP [0, 0] x l c) : c = 0 ∧ l.length = 1 ∧ x = endP ranP (runP ranP [0, 0]) := by
  have h0 : chkP ranP = 0 := by decide +kernel
  rcases h with ⟨h1, _⟩ | ⟨_, h1, _⟩ | ⟨_, _, h2, h3, h4⟩
  · exact absurd h0 h1
  · exact absurd h1 (by decide)
  · exact ⟨h4, by rw [h3]; decide +kernel, h2⟩
theorem ran_mem : nat (runP ranP [0, 0]).mem 2 = 5 ∧ doneP ranP (runP ranP [0, 0]) = true := ⟨by decide +kernel, by decide +kernel⟩
set_option maxHeartbeats 4000000 in
theorem ran_any (HR : RunC) (w : World) : Calls Try.prog 27 #[] w fun e w' => e = .returned (.bool true) ∧ Below w.heap.size w w' := by
  unfold RunC at HR
  have H1 := Lib.hid HR
  clear HR
  go_enter Try.func27, Try.ntmps27
  go_wp2_with fail
  obtain ⟨b1, b2, b3, hbl, _⟩ := boxes3 w (evc [⟨3, 0, 5⟩, ⟨2, 2, 0⟩]).toArray #[.slice (some ⟨w.heap.size, 0, none⟩) 2 2] #[.int .i64 0, .int .i64 0] 55 46 3
  have hW := Bel.of hbl
  refine (H1.out (some ⟨w.heap.size + 1, 0, none⟩) 1 1 ranP (some ⟨w.heap.size + 1 + 1, 0, none⟩) 2 2 [0, 0] _ (Prg.one b2 (ops := [⟨3, 0, 5⟩, ⟨2, 2, 0⟩]) ⟨rfl, fun _ => ⟨_, 0, rfl, b1.lt, Box.range b1⟩⟩ (Nat.le_refl _) (by unfold maxLen; omega)) (Nat.le_refl _) (by unfold maxLen; omega) ⟨rfl, fun _ => ⟨_, 0, rfl, fun i hi => by
    have hc : i = 0 ∨ i = 1 := by omega
    rcases hc with rfl | rfl
    · exact b3.cell 0 rfl
    · exact b3.cell 1 rfl⟩⟩ (Nat.le_refl _) (by unfold maxLen; omega)).mono ?_
  rintro e1 w1 ⟨v1, x1, l1, c1, rfl, hB1, ho1, hb1⟩
  have HV := Lib.hid (EnV.run hB1)
  obtain ⟨rfl, hl1, rfl⟩ := ran_run hB1
  obtain ⟨A1, d1, rfl, _, _, _⟩ := Sl.own ho1
  rw [hl1]
  have HX := enw_box w1 (endP ranP (runP ranP [0, 0]))
  have c2 := HX.cell 2 (v := .int .i64 5) (by unfold endP endc; rw [ran_mem.1]; rfl)
  have c18 := HX.cell 18 (v := .bool true) (by unfold endP endc; rw [ran_mem.2]; rfl)
  have HE := Lib.hid (((hW.call hb1).trans (enw_bel w1 (endP ranP (runP ranP [0, 0])))))
  clear HX hb1 ho1 hB1 hl1 hW hbl b1 b2 b3
  generalize endP ranP (runP ranP [0, 0]) = x1 at *
  go_wp2_with (refine enw_store HV.out.ty _ _ rfl rfl HV.out.size HV.out.one rfl rfl rfl ?_)
  go_ret
  exact ⟨rfl, HE.out.out⟩
end Go.Proofs.Ytecdilijcjgjmaa

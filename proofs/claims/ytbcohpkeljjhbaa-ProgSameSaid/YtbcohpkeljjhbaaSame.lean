/- Plain facts: runs of equivalent traces end the same, as ends. -/
import Derived.Test.YtbcohpkeljjhbaaPg
import Derived.Test.YtbcohpkeljjhbaaPp
import Derived.Test.YtbcohpkeljjhbaaSl
set_option linter.all false
set_option maxRecDepth 100000
namespace Go.Proofs.Ytbcohpkeljjhbaa
open Go Go.RowKit

theorem has_out_pick {P : List (List Ev)} {s : Ps} (h : ∀ t, P.length ≤ t → s.has t = 0) (x : Int) : ∀ t, P.length ≤ t → (pickP P s x).has t = 0 := fun t ht => by
  unfold pickP
  split
  · rename_i hc
    obtain ⟨hu, _, o, h3, _⟩ := can_op hc.2
    rw [step_op h3]
    show hasO s x.toNat o t = 0
    have hne : t ≠ x.toNat := by omega
    unfold hasO
    split
    · rw [upF_ne _ _ hne]; exact h t ht
    · split
      · rw [upF_ne _ _ hne]; exact h t ht
      · split
        · rw [upF_ne _ _ hne]; exact h t ht
        · exact h t ht
  · exact h t ht
theorem has_out_picks {P : List (List Ev)} : ∀ (ts : List Int) {s : Ps}, (∀ t, P.length ≤ t → s.has t = 0) → ∀ t, P.length ≤ t → (ts.foldl (pickP P) s).has t = 0
  | [], _, h => h
  | x :: ts, _, h => has_out_picks ts (has_out_pick h x)
theorem run_has_out (P : List (List Ev)) (ts : List Int) {t : Nat} (ht : P.length ≤ t) : (runP P ts).has t = 0 := has_out_picks ts (fun _ _ => rfl) t ht
theorem done_not_stuck {P : List (List Ev)} {s : Ps} (h : doneP P s = true) : stuckP P s = false := by unfold stuckP; rw [h]; rfl
theorem end_same {P : List (List Ev)} (hP : OkP P) {ts us : List Int} (hd1 : doneP P (runP P ts) = true) (hd2 : doneP P (runP P us) = true) (h : Eqv (runP P ts).L (runP P us).L) : endP P (runP P ts) = endP P (runP P us) := by
  obtain ⟨h1, h2, h3⟩ := same_end hP hd1 hd2 h
  have hh : (runP P ts).has = (runP P us).has := funext fun t => by
    rcases Nat.lt_or_ge t P.length with ht | ht
    · exact h3 t ht
    · rw [run_has_out P ts ht, run_has_out P us ht]
  unfold endP
  rw [h1, h2, hh, hd1, hd2, done_not_stuck hd1, done_not_stuck hd2]
end Go.Proofs.Ytbcohpkeljjhbaa

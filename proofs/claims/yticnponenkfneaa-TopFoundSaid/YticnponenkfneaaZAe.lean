import Derived.Test.YticnponenkfneaaZFo
import Derived.Test.YticnponenkfneaaZEc
set_option linter.all false
set_option maxRecDepth 100000
namespace Go.Proofs.Yticnponenkfneaa
open Go Go.RowKit

def ablL (P : List (List Ev)) (s : Ps) (i : Nat) : List Nat := (List.range i).filter (canP P s)
theorem ablL_succ (P : List (List Ev)) (s : Ps) (i : Nat) : ablL P s (i + 1) = if canP P s i = true then ablL P s i ++ [i] else ablL P s i := by
  unfold ablL
  rw [List.range_succ, List.filter_append]
  split
  · rename_i h; simp [h]
  · rename_i h; simp [h]
theorem ablL_len (P : List (List Ev)) (s : Ps) (i : Nat) : (ablL P s i).length ≤ i := by
  have := List.length_filter_le (canP P s) (List.range i)
  rw [List.length_range] at this
  exact this
structure AbR (w1 : World) (P : List (List Ev)) (s : Ps) (v : Value) (i : Nat) (wr : World) : Prop where
  own : wr.ownsRow w1.heap.size 3 1 v (ablL P s i).length (intq (pks (ablL P s i)))
  below : Bel w1 wr
def AblePost (w : World) (P : List (List Ev)) (s : Ps) (e : Ending) (w' : World) : Prop :=
  ∃ v, e = .returned (.tuple #[v, .int .i64 0]) ∧ w'.ownsRow w.heap.size 3 1 v (ablL P s P.length).length (intq (pks (ablL P s P.length))) ∧ Below w.heap.size w w'
set_option maxHeartbeats 16000000 in
theorem able_yes (HC : CheckC) {A : Option Addr} {n c : Nat} {P : List (List Ev)} {B : Option Addr} {m d : Nat} {ts : List Int} {w : World} (h : Prg w A n P) (hnc : n ≤ c) (hcm : c ≤ maxLen) (hs : SI w B m ts) (hme : m ≤ d) (hem : d ≤ maxLen) (h0 : chkP P = 0) (hm100 : m ≤ 100) :
    Calls Try.prog 63 #[.slice A n c, .slice B m d] w (AblePost w P (runP P ts)) := by
  have HY := Lib.hid (follow_yes HC h hnc hcm hs hme hem h0 hm100)
  have HP := Lib.hid h
  have HM := Lib.hid hnc
  have hok := chk_ok.1 h0
  have HPR := Lib.hid (runP_ok hok ts)
  have HN := Lib.hid h.1
  have H6 := Lib.hid (show n ≤ 6 by rw [← h.1]; exact hok.six)
  obtain ⟨i0, hi0, hz0, hz1, hz2⟩ := info_parts qint_info
  have J := Lib.hid (And.intro hi0 (And.intro hz0 (And.intro hz1 hz2)))
  have hn6 : (n : Int) ≤ 6 := by have := H6.out; omega
  clear h hnc hcm hs hme hem h0 hm100 HC hi0 hz0 hz1 hz2
  go_enter Try.func63, Try.ntmps63
  go_wp2_with fail
  refine HY.out.mono ?_
  rintro e1 w1 ⟨M, LV, rfl, hg, how, hap, hsz, hb1⟩
  have HG := Lib.hid hg
  have HB1 := Lib.hid hb1
  have HP1 := Lib.hid (HP.out.bel (Bel.of hb1))
  generalize runP P ts = s at *
  clear hg how hap hsz hb1 HY HP
  have H0 := Lib.hid (show AbR w1 P s (.slice none 0 0) 0 w1 from ⟨World.ownsRow_nil _ _ _ _, Bel.refl _⟩)
  go_wp2
  go_loopw [8, 21] (fun v t wr => ∃ i : Nat, i ≤ n ∧ t = .int .i64 i ∧ AbR w1 P s v i wr) (fun _ t _ => n - (intOf t).toNat)
  case atStart => exact ⟨0, by omega, rfl, H0.out⟩
  case round =>
    obtain ⟨i, hi, rfl, hr⟩ := hrel
    have HR := Lib.hid hr
    clear hr H0
    by_cases hlt : i < n
    · have hlt' : (i : Int) < n := by omega
      go_wp2_with fail
      refine (mcan_any (i : Int) (HG.out.bel HR.out.below) (HP1.out.bel HR.out.below) HM.out hok HPR.out).mono ?_
      rintro e3 w3 ⟨rfl, hb3⟩
      have HO3 := Lib.hid (own_bel HR.out.own (Bel.of hb3))
      have HB3 := Lib.hid (HR.out.below.trans (Bel.of hb3))
      have hv : (decide (0 ≤ (i : Int)) && canP P s (i : Int).toNat) = canP P s i := by rw [Int.toNat_natCast]; simp
      rw [hv]
      clear hb3 hv
      cases hcn : canP P s i
      · have HE := Lib.hid (show ablL P s (i + 1) = ablL P s i by rw [ablL_succ, hcn]; rfl)
        clear hcn
        go_wp2
        go_roundw
        case rel => exact ⟨i + 1, by omega, by go_num, ⟨by rw [HE.out]; exact HO3.out, HB3.out⟩⟩
        case measure => simp [intOf]; omega
      · have HE := Lib.hid (show ablL P s (i + 1) = ablL P s i ++ [i] by rw [ablL_succ, hcn]; rfl)
        have HLE := Lib.hid (ablL_len P s i)
        have HA := Lib.hid (own_alloc HO3.out (.cells #[.int .i64 (i : Int)] 3))
        have HSZ := Lib.hid (HB3.out.alloc (.cells #[.int .i64 (i : Int)] 3)).size
        have HI := Lib.hid hlt
        clear hcn
        go_wp2_with (at_builtin; refine wpList_append_own_at _ rfl (.tmp 27) (.tmp 29) _ rfl w1.heap.size 3 i0 _ 1 8 Try.underlying36 J.out.1 J.out.2.1 J.out.2.2.1 J.out.2.2.2 rfl (by omega) _ (ablL P s i).length _ rfl HA.out ⟨w3.heap.size, 0, none⟩ 1 1 [.int .i64 i] rfl rfl (cell_one_new _ _ _) (by simp [Value.oneCell']) (by have := HLE.out; have := HI.out; have := H6.out; unfold maxLen; omega) (by have := HLE.out; have := HI.out; have := H6.out; omega) HSZ.out ?_; intro v7 w7 hown7 hg7 hn7 hat7)
        refine ⟨⟨i + 1, by omega, by go_num, ⟨?_, (HB3.out.alloc _).out.grown hg7 HSZ.out (own_block_ge HA.out)⟩⟩, by simp [intOf]; omega⟩
        rw [HE.out, List.length_append]
        have e : intq (pks (ablL P s i ++ [i])) = intq (pks (ablL P s i)) ++ [.int .i64 (i : Int)] := by simp [intq, pks]
        rw [e]
        exact hown7
    · obtain rfl : i = n := by omega
      go_wp2
      go_ret2
      exact ⟨_, rfl, by rw [HN.out]; exact own_drop_alloc HR.out.own HB1.out.size, HB1.out.trans ((Bel.of HB1.out).call HR.out.below |>.out |> fun h => Below.mono (HR.out.below) HB1.out.size)⟩
end Go.Proofs.Yticnponenkfneaa

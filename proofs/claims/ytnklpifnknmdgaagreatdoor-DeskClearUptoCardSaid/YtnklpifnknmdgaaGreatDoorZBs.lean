import Derived.Test.YtnklpifnknmdgaaGreatDoorZGuD
import Derived.Test.YtnklpifnknmdgaaGreatDoorRows
import Derived.WalkKit
import Derived.WalkSpells
import Derived.WalkLawsBesides
import Derived.BigQuiet
import Derived.Deep.RegionHeld3
import Derived.Lib.Hide
import Derived.Test.YtnklpifnknmdgaaGreatDoorZTr
import Derived.Maps.AppendAt
import Derived.IntWalk
import Derived.Test.YtnklpifnknmdgaaGreatDoorZTrace4
import Derived.Test.YtnklpifnknmdgaaGreatDoorZGu
import Derived.Test.YtnklpifnknmdgaaGreatDoorZOr
import Derived.Test.YtnklpifnknmdgaaGreatDoorZKeepTw
import Derived.Test.YtnklpifnknmdgaaGreatDoorZTrace
set_option linter.all false
set_option maxRecDepth 100000
namespace Go.Proofs.YtnklpifnknmdgaaGreatDoor
open Go Go.RowKit

def gfin (l : List Ev) : Nat → Nat := if may l = 0 then gG (gdT l l.length) else fun _ => 0
def warns (l : List Ev) : List Ev := if may l = 0 then wl l l.length else []
def GDet (w : World) (l : List Ev) (e : Ending) (w' : World) : Prop :=
  ∃ v, e = .returned (.tuple #[v, .agg (ns 24 (gfin l)), .int .i64 (may l)]) ∧ w'.ownsRow w.heap.size 107 3 v (warns l).length (evc (warns l)) ∧ Below w.heap.size w w'
set_option maxHeartbeats 4000000 in
theorem gdetect_bad (A : Option Addr) (n c : Nat) (l : List Ev) (w : World) (hl : Sl w A n l) (hm : may l ≠ 0) : Calls Tryz.prog 141 #[.slice A n c] w (GDet w l) := by
  obtain ⟨b1, b2, hB, hs⟩ := boxes2 w #[.slice A n c] (ns 24 fun _ => 0) 30 69
  have HL := Lib.hid (hl.bel hB)
  have h1 : ((check l).2 != 0) = true := by simpa [may] using hm
  have HM := Lib.hid hm
  have HB := Lib.hid hB
  have HB1 := Lib.hid b1
  have HB2 := Lib.hid b2
  clear hl hm hB b1 b2 hs
  go_enter Tryz.func141, Tryz.ntmps141
  go_wp2_with fail
  change Calls _ _ _ ((w.alloc (.cells #[.slice A n c] 30)).alloc (.cells (ns 24 fun _ => 0) 69)) _
  generalize ((w.alloc (.cells #[.slice A n c] 30)).alloc (.cells (ns 24 fun _ => 0) 69)) = W at *
  refine (check_any A n c l _ HL.out).mono ?_
  rintro e1 w1 ⟨rfl, hb1⟩
  have HX1 := Lib.hid (Bel.of hb1)
  have hr := HX1.out.box HB2.out
  have HR := Lib.hid hr
  clear hb1
  have HS := Lib.hid (hr.setRow (ns 24 fun _ => 0))
  have HBB := Lib.hid (below_setRow' (HB.out.trans (HX1.out.out.mono HB.out.size)) (w.heap.size + 1) (ns 24 fun _ => 0) (by omega))
  have HV := Lib.hid (show gfin l = (fun _ => 0) ∧ warns l = [] by unfold gfin warns; rw [if_neg HM.out, if_neg HM.out]; exact ⟨rfl, rfl⟩)
  go_wp2_with (first | (refine storeB _ _ _ rfl rfl rfl rfl hr (ns_size _ _) TGs (gns_all 24 fun _ => 0) ?_))
  refine bodyPost_ret (gres_tct Tryz.results141 rfl HS.out (TGz _)) rfl ⟨.slice none 0 0, ?_, ?_, HBB.out⟩
  · rw [HV.out.1]; rfl
  · rw [HV.out.2]; exact World.ownsRow_nil _ _ _ _
theorem gdetect_any (A : Option Addr) (n c : Nat) (l : List Ev) (w : World) (hl : Sl w A n l) (hnc : n ≤ c) : Calls Tryz.prog 141 #[.slice A n c] w (GDet w l) := by
  by_cases hm : may l = 0
  · refine (gdetect_ok A n c l w hl hnc hm).mono ?_
    rintro e w' ⟨v, rfl, h2, h3⟩
    refine ⟨v, ?_, ?_, h3⟩
    · unfold gfin; rw [if_pos hm, hm]
    · unfold warns; rw [if_pos hm]; exact h2
  · exact gdetect_bad A n c l w hl hm
def WarnsPost (w : World) (l : List Ev) (e : Ending) (w' : World) : Prop :=
  ∃ v, e = .returned (.tuple #[v, .int .i64 (may l)]) ∧ w'.ownsRow w.heap.size 107 3 v (warns l).length (evc (warns l)) ∧ Below w.heap.size w w'
set_option maxHeartbeats 4000000 in
theorem warns_any (A : Option Addr) (n c : Nat) (l : List Ev) (w : World) (hl : Sl w A n l) (hnc : n ≤ c) : Calls Tryz.prog 103 #[.slice A n c] w (WarnsPost w l) := by
  have HL := Lib.hid hl
  clear hl
  go_enter Tryz.func103, Tryz.ntmps103
  go_wp2_with fail
  refine (gdetect_any A n c l _ HL.out hnc).mono ?_
  rintro e1 w1 ⟨v, rfl, hown, hb1⟩
  have HO := Lib.hid hown
  have HB := Lib.hid hb1
  clear hown hb1
  have hbn := Box.new w1 (ns 24 fun _ => 0) 69
  go_wp2_with (refine storeB _ _ _ rfl rfl rfl rfl hbn (by rw [ns_size, ns_size]) (TGz _) (gns_all _ _) ?_)
  go_ret2
  exact ⟨_, rfl, (own_alloc HO.out (.cells (ns 24 fun _ => 0) 69)).kept (chg_setRow _ _ _) (.inr fun e => by have := (own_lt HO.out e).2; omega), below_setRow' (HB.out.alloc HB.out.size _) _ _ HB.out.size⟩
end Go.Proofs.YtnklpifnknmdgaaGreatDoor
set_option linter.all false
set_option maxRecDepth 100000
namespace Go.Proofs.YtnklpifnknmdgaaGreatDoor
open Go.RowKit

theorem ty28 : RowTy Tryz.prog 61 6 := ⟨_, Tryz.underlying61, rfl, by kernel_rfl⟩
set_option maxHeartbeats 400000 in
theorem within_any (a b : Nat → Int) (w : World) :
    Calls Tryz.prog 198 #[.agg (clk a), .agg (clk b)] w fun e w' => e = .returned (.bool (within a b)) ∧ Below w.heap.size w w' := by
  go_enter Tryz.func198, Tryz.ntmps198
  go_wp2
  obtain ⟨b1, b2, hB, hs⟩ := boxes2 w (clk a) (clk b) 61 61
  generalize ((w.alloc (.cells (clk a) 61)).alloc (.cells (clk b) 61)) = W at *
  have Hb := Lib.hid hB
  clear hB hs
  go_loopw [6] (fun i wr => ∃ k : Nat, k ≤ 6 ∧ i = .int .i64 k ∧ UpTo (fun j => a j ≤ b j) k ∧ ∃ n, wr = W.drewN n) (fun i _ => 6 - (intOf i).toNat)
  case atStart => exact ⟨0, by omega, rfl, UpTo.zero, 0, rfl⟩
  case round =>
    obtain ⟨k, hk, rfl, hu, n, rfl⟩ := hrel
    by_cases hlt : k < 6
    · have c1 := b1.cell k (clk_get a k hlt)
      have c2 := b2.cell k (clk_get b k hlt)
      clear b1 b2
      have hlt' : (k : Int) < 6 := by omega
      go_wp2
      go_quiet (fail)
      by_cases hab : b k < a k
      · go_wp2
        go_ret
        exact ⟨by rw [within_no hlt hab]; rfl, bdrewN (bdrewN Hb.out _) _⟩
      · go_wp2
        go_roundw
        case rel => exact ⟨k + 1, by omega, by go_num, hu.succ (by omega), n + nq, rfl⟩
        case measure => simp [intOf]; omega
    · go_wp2
      go_ret
      exact ⟨by rw [(within_iff a b).2 fun j hj => hu j (by omega)]; rfl, bdrewN Hb.out _⟩

set_option maxHeartbeats 400000 in
theorem largest_any (x y : Int) (B : Nat) (w : World) (hc : w.cell? ⟨B, 0, none⟩ = some (.int .i64 y)) :
    Calls Tryz.prog 205 #[.int .i64 x, .slice (some ⟨B, 0, none⟩) 1 1] w fun e w' => e = .returned (.int .i64 (mx x y)) ∧ w = w' := by
  go_enter Tryz.func205, Tryz.ntmps205
  go_wp2
  go_loop [0, 9] (fun f i => (i = .int .i64 0 ∧ f = .int .i64 x) ∨ (i = .int .i64 1 ∧ f = .int .i64 (mx x y))) (fun _ i => 1 - (intOf i).toNat)
  case atStart => exact .inl ⟨rfl, rfl⟩
  case round =>
    rcases hrel with ⟨rfl, rfl⟩ | ⟨rfl, rfl⟩
    · by_cases hxy : x < y
      all_goals
        go_wp2
        go_round
        case rel => exact .inr ⟨rfl, by simp [mx, hxy]⟩
        case measure => simp [intOf]
    · go_wp2
      go_ret
      exact ⟨rfl, rfl⟩


set_option maxHeartbeats 1000000 in
theorem join_any (a b : Nat → Int) (w : World) :
    Calls Tryz.prog 197 #[.agg (clk a), .agg (clk b)] w fun e w' => e = .returned (.agg (clk fun j => mx (a j) (b j))) ∧ Below w.heap.size w w' := by
  go_enter Tryz.func197, Tryz.ntmps197
  go_wp2
  obtain ⟨b1, b2, b3, b4, hB, hs⟩ := boxes4 w (clk a) (clk b) (clk fun _ => 0) (clk fun _ => 0) 61 61 61 61
  change Code.wp _ _ _ _ ((((w.alloc (.cells (clk a) 61)).alloc (.cells (clk b) 61)).alloc (.cells (clk fun _ => 0) 61)).alloc (.cells (clk fun _ => 0) 61))
  generalize ((((w.alloc (.cells (clk a) 61)).alloc (.cells (clk b) 61)).alloc (.cells (clk fun _ => 0) 61)).alloc (.cells (clk fun _ => 0) 61)) = W at *
  have HS := Lib.hid (show w.heap.size + 1 + 1 + 1 < W.heap.size by omega)
  have HB := Lib.hid hB
  clear hB hs
  go_loopw [7] (fun i wr => ∃ k : Nat, k ≤ 6 ∧ i = .int .i64 k ∧ JRel w a b mx k 61 wr) (fun i _ => 6 - (intOf i).toNat)
  case atStart => exact ⟨0, by omega, rfl, ⟨b1, b2, b3, b4, HB.out⟩⟩
  case round =>
    obtain ⟨k, hk, rfl, hr⟩ := hrel
    by_cases hlt : k < 6
    · have c1 := hr.ba.cell k (clk_get a k hlt)
      have c2 := hr.bb.cell k (clk_get b k hlt)
      have c3 := hr.out.cell k (clk_get _ k hlt)
      have f3 := hr.out.frozen k
      have hlt' : (k : Int) < 6 := by omega
      have H := Lib.hid hr
      clear hr b1 b2 b3 b4
      have hsz : w.heap.size + 1 + 1 + 1 < wr.heap.size := H.out.out.lt
      go_wp2
      go_region_held3 (fun w' => w'.cell? ⟨w.heap.size, k, none⟩ = some (.int .i64 (a k)) ∧ w'.cell? ⟨w.heap.size + 1, k, none⟩ = some (.int .i64 (b k))) (first | exact ⟨c1, c2⟩ | (refine ⟨Box.cell (c := clk a) (t := 61) ?_ k (clk_get a k hlt), Box.cell (c := clk b) (t := 61) ?_ k (clk_get b k hlt)⟩ <;> (repeat (first | exact H.out.ba | exact H.out.bb | with_reducible refine Box.old ?_ _ | with_reducible refine Box.set_ne ?_ _ _ (by first | omega | (dsimp only; omega) | (simp; omega) | (simp; done)) | with_reducible refine Box.setRow_ne ?_ _ _ (by omega) | with_reducible refine Box.drew ?_ | with_reducible refine Box.drewN ?_ _)))) (first | (go_at_call 205; refine (largest_any _ (b k) _ _ ?_).mono ?_; exact (Box.new wr #[.int .i64 (b k)] 3).drew.cell 0 rfl; rintro e w' ⟨rfl, rfl⟩))
      go_wp2
      go_roundw
      case rel =>
        refine ⟨k + 1, by omega, by go_num, ⟨by (repeat (first | exact H.out.ba | with_reducible refine Box.old ?_ _ | with_reducible refine Box.set_ne ?_ _ _ (by first | omega | (dsimp only; omega) | (simp; omega) | (simp; done)) | with_reducible refine Box.setRow_ne ?_ _ _ (by omega) | with_reducible refine Box.drew ?_ | with_reducible refine Box.drewN ?_ _)), by (repeat (first | exact H.out.bb | with_reducible refine Box.old ?_ _ | with_reducible refine Box.set_ne ?_ _ _ (by first | omega | (dsimp only; omega) | (simp; omega) | (simp; done)) | with_reducible refine Box.setRow_ne ?_ _ _ (by omega) | with_reducible refine Box.drew ?_ | with_reducible refine Box.drewN ?_ _)), by (repeat (first | exact H.out.res | with_reducible refine Box.old ?_ _ | with_reducible refine Box.set_ne ?_ _ _ (by first | omega | (dsimp only; omega) | (simp; omega) | (simp; done)) | with_reducible refine Box.setRow_ne ?_ _ _ (by omega) | with_reducible refine Box.drew ?_ | with_reducible refine Box.drewN ?_ _)), ?_, by (repeat (first | exact H.out.below | with_reducible exact Below.refl _ _ | with_reducible refine Below.alloc ?_ (by first | omega | (simp; omega) | (simp; done)) _ | with_reducible refine below_setRow' ?_ _ _ (by omega) | with_reducible refine Below.setCell ?_ (by first | omega | (dsimp only; omega) | (simp; omega) | (simp; done)) _ | with_reducible refine Below.drew ?_ | with_reducible refine bdrewN ?_ _))⟩⟩
        have h2 := H.out.out.set k (.int .i64 (mx (a k) (b k)))
        rw [clk_set _ _ hlt, jn_succ] at h2
        (repeat (first | exact h2 | with_reducible refine Box.old ?_ _ | with_reducible refine Box.set_ne ?_ _ _ (by first | omega | (dsimp only; omega) | (simp; omega) | (simp; done)) | with_reducible refine Box.setRow_ne ?_ _ _ (by omega) | with_reducible refine Box.drew ?_ | with_reducible refine Box.drewN ?_ _))
      case measure => simp [intOf]; omega
    · obtain rfl : k = 6 := by omega
      have hout := hr.out
      rw [clk_congr (jn_six mx a b)] at hout
      have hres := hr.res
      have H := Lib.hid hr
      clear hr
      go_wp2_with (first | (refine loadB _ _ rfl rfl rfl hout ty28 ?_) | (refine storeB _ _ _ rfl rfl rfl rfl hres rfl ty28 (clk_all _) ?_))
      refine bodyPost_ret (res_c Tryz.results197 rfl (B := w.heap.size + 1 + 1) (c := clk fun j => mx (a j) (b j)) (t := 61) ?_ ty28) rfl ⟨rfl, ?_⟩
      · exact hres.setRow _
      · (repeat (first | exact H.out.below | with_reducible exact Below.refl _ _ | with_reducible refine Below.alloc ?_ (by first | omega | (simp; omega) | (simp; done)) _ | with_reducible refine below_setRow' ?_ _ _ (by omega) | with_reducible refine Below.setCell ?_ (by first | omega | (dsimp only; omega) | (simp; omega) | (simp; done)) _ | with_reducible refine Below.drew ?_ | with_reducible refine bdrewN ?_ _))


theorem isThread_any (t : Int) (w : World) : Calls Tryz.prog 206 #[.int .i64 t] w fun e w' => e = .returned (.bool (isT t)) ∧ w = w' := by
  by_cases h0 : 0 ≤ t
  · by_cases h1 : t < 6
    · have h := isT_yes h0 h1
      go_enter Tryz.func206, Tryz.ntmps206
      go_wp2
      go_ret
      exact ⟨ret_val (by simp [h]), rfl⟩
    · have h := isT_no (t := t) (by omega)
      go_enter Tryz.func206, Tryz.ntmps206
      go_wp2
      go_ret
      exact ⟨ret_val (by simp [h]), rfl⟩
  · have h := isT_no (t := t) (by omega)
    go_enter Tryz.func206, Tryz.ntmps206
    go_wp2
    go_ret
    exact ⟨ret_val (by simp [h]), rfl⟩


end Go.Proofs.YtnklpifnknmdgaaGreatDoor
namespace Go.Proofs.YtnklpifnknmdgaaGreatDoor
open Go.RowKit

theorem ty37 : RowTy Tryz.prog 262 2 := ⟨_, Tryz.underlying262, rfl, by kernel_rfl⟩
set_option maxHeartbeats 1000000 in
theorem of_any (c : Nat → Int) (t : Int) (w : World) :
    Calls Tryz.prog 199 #[.agg (clk c), .int .i64 t] w fun e w' => e = .returned (.tuple #[.agg (ep (ofT t) (ofN c t)), .int .i64 (ofE t)]) ∧ Below w.heap.size w w' := by
  obtain ⟨b1, b2, hB, hs⟩ := boxes2 w (clk c) #[.int .i64 0, .int .i64 0] 61 262
  generalize hW : ((w.alloc (.cells (clk c) 61)).alloc (.cells #[.int .i64 0, .int .i64 0] 262)) = W at *
  have L1 : w.heap.size < W.heap.size := by omega
  have L2 : w.heap.size + 1 < W.heap.size := by omega
  have HB := Lib.hid hB
  clear hB hs
  by_cases ht : isT t = true
  · obtain ⟨h0, h6⟩ := isT_iff.1 ht
    have hF : ofT t = t ∧ ofN c t = c t.toNat ∧ ofE t = 0 := by simp [ofT, ofN, ofE, ht]
    have HF := Lib.hid hF
    clear hF
    obtain ⟨k, rfl⟩ := Int.eq_ofNat_of_zero_le h0
    have hk : k < 6 := by omega
    have c1 := b1.cell k (clk_get c k hk)
    go_enter Tryz.func199, Tryz.ntmps199
    go_wp2_with (first | (go_at_call 206; refine (isThread_any _ _).mono ?_; rintro e w' ⟨rfl, rfl⟩) | (refine storeB _ _ _ rfl rfl rfl rfl b2 rfl ty37 (ep_all _ _) ?_))
    refine bodyPost_ret (res_ct Tryz.results199 rfl (b2.setRow _) ty37) rfl ⟨?_, ?_⟩
    · obtain ⟨h1, h2, h3⟩ := HF.out
      rw [h1, h2, h3]; rfl
    · (repeat (first | exact HB.out | with_reducible exact Below.refl _ _ | with_reducible refine Below.alloc ?_ (by first | omega | (simp; omega) | (simp; done)) _ | with_reducible refine below_setRow' ?_ _ _ (by omega) | with_reducible refine Below.setCell ?_ (by first | omega | (dsimp only; omega) | (simp; omega) | (simp; done)) _ | with_reducible refine Below.drew ?_ | with_reducible refine bdrewN ?_ _))
  · have hF : ofT t = 0 ∧ ofN c t = 0 ∧ ofE t = 1 := by simp [ofT, ofN, ofE, ht]
    have HF := Lib.hid hF
    clear hF
    have ht' : isT t = false := by simpa using ht
    go_enter Tryz.func199, Tryz.ntmps199
    go_wp2_with (first | (go_at_call 206; refine (isThread_any _ _).mono ?_; rintro e w' ⟨rfl, rfl⟩) | (refine storeB _ _ _ rfl rfl rfl rfl b2 rfl ty37 (ep_all 0 0) ?_))
    refine bodyPost_ret (res_ct Tryz.results199 rfl (b2.setRow #[.int .i64 0, .int .i64 0]) ty37) rfl ⟨?_, ?_⟩
    · obtain ⟨h1, h2, h3⟩ := HF.out
      rw [h1, h2, h3]; rfl
    · (repeat (first | exact HB.out | with_reducible exact Below.refl _ _ | with_reducible refine Below.alloc ?_ (by first | omega | (simp; omega) | (simp; done)) _ | with_reducible refine below_setRow' ?_ _ _ (by omega) | with_reducible refine Below.setCell ?_ (by first | omega | (dsimp only; omega) | (simp; omega) | (simp; done)) _ | with_reducible refine Below.drew ?_ | with_reducible refine bdrewN ?_ _))

set_option maxHeartbeats 1000000 in
theorem seen_any (th n : Int) (c : Nat → Int) (w : World) :
    Calls Tryz.prog 208 #[.agg (ep th n), .agg (clk c)] w fun e w' => e = .returned (.bool (seen th n c)) ∧ Below w.heap.size w w' := by
  obtain ⟨b1, b2, hB, hs⟩ := boxes2 w (ep th n) (clk c) 262 61
  generalize hW : ((w.alloc (.cells (ep th n) 262)).alloc (.cells (clk c) 61)) = W at *
  have HB := Lib.hid hB
  clear hB hs
  have c0 := b1.cell 0 (v := .int .i64 th) rfl
  have c1 := b1.cell 1 (v := .int .i64 n) rfl
  by_cases ht : isT th = true
  · obtain ⟨h0, h6⟩ := isT_iff.1 ht
    obtain ⟨k, rfl⟩ := Int.eq_ofNat_of_zero_le h0
    have hk : k < 6 := by omega
    have hF : seen k n c = decide (n ≤ c k) := by simp [seen, ht]
    have HF := Lib.hid hF
    clear hF
    have c2 := b2.cell k (clk_get c k hk)
    clear b1 b2
    go_enter Tryz.func208, Tryz.ntmps208
    go_wp2
    go_quiet ((go_at_call 206; refine Calls.quiet_of_same ((isThread_any _ _).mono fun e w' h => ⟨h.1, h.2.symm⟩)))
    go_wp2
    go_ret
    exact ⟨by rw [HF.out]; rfl, bdrewN HB.out _⟩
  · have hF : seen th n c = false := by simp [seen, ht]
    have HF := Lib.hid hF
    clear hF
    have ht' : isT th = false := by simpa using ht
    clear b1 b2
    go_enter Tryz.func208, Tryz.ntmps208
    go_wp2
    go_quiet ((go_at_call 206; refine Calls.quiet_of_same ((isThread_any _ _).mono fun e w' h => ⟨h.1, h.2.symm⟩)))
    go_wp2
    go_ret
    exact ⟨by rw [HF.out]; rfl, bdrewN HB.out _⟩
end Go.Proofs.YtnklpifnknmdgaaGreatDoor
set_option linter.all false
set_option maxRecDepth 100000
namespace Go.Proofs.YtnklpifnknmdgaaGreatDoor
open Go Go.RowKit

def prl (p : Nat × Nat) : List Value := [.int .i64 p.1, .int .i64 p.2]
def prv (p : Nat × Nat) : Array Value := #[.int .i64 p.1, .int .i64 p.2]
theorem prv_all (p : Nat × Nat) : (prv p).all (·.oneCell') = true := by simp [prv, Value.oneCell']
def prc : List (Nat × Nat) → List Value
  | [] => []
  | p :: l => .int .i64 p.1 :: .int .i64 p.2 :: prc l
theorem prc_length (l : List (Nat × Nat)) : (prc l).length = l.length * 2 := by
  induction l with
  | nil => rfl
  | cons e l ih => simp only [prc, List.length_cons, ih]; omega
theorem prc_append (l m : List (Nat × Nat)) : prc (l ++ m) = prc l ++ prc m := by
  induction l with
  | nil => rfl
  | cons e l ih => simp only [List.cons_append, prc, ih]
theorem prc_get (l : List (Nat × Nat)) (i : Nat) (p : Nat × Nat) (h : l[i]? = some p) : (prc l)[i * 2]? = some (.int .i64 p.1) ∧ (prc l)[i * 2 + 1]? = some (.int .i64 p.2) := by
  induction l generalizing i with
  | nil => simp at h
  | cons x l ih =>
    cases i with
    | zero => simp at h; subst h; exact ⟨rfl, rfl⟩
    | succ i =>
      have := ih i (by simpa using h)
      simp only [prc]
      rw [show (i + 1) * 2 = i * 2 + 1 + 1 by omega]
      simpa using this
theorem prc_at {l : List (Nat × Nat)} {i : Nat} {p : Nat × Nat} (h : l[i]? = some p) (j : Nat) (v : Value) (hv : (prl p)[j]? = some v) : (prc l)[i * 2 + j]? = some v := by
  obtain ⟨h0, h1⟩ := prc_get l i p h
  match j, hv with
  | 0, hv => simp [prl] at hv; subst hv; simpa using h0
  | 1, hv => simp [prl] at hv; subst hv; exact h1
  | j + 2, hv => simp [prl] at hv
def SlP (w : World) (A : Option Addr) (n : Nat) (l : List (Nat × Nat)) : Prop :=
  l.length = n ∧ (0 < n → ∃ b off, A = some ⟨b, off, none⟩ ∧ b < w.heap.size ∧ w.rangeAt b off (prc l))
theorem SlP.at_ {w : World} {A : Option Addr} {n : Nat} {l : List (Nat × Nat)} (h : SlP w A n l) {i : Nat} (hi : i < n) :
    ∃ b off p, A = some ⟨b, off, none⟩ ∧ b < w.heap.size ∧ l[i]? = some p ∧ w.rangeAt b (off + i * 2) (prl p) := by
  obtain ⟨b, off, hA, hlt, hr⟩ := h.2 (by omega)
  have hl : i < l.length := by rw [h.1]; exact hi
  exact ⟨b, off, l[i], hA, hlt, List.getElem?_eq_getElem hl, range_part hr fun j v hv => prc_at (List.getElem?_eq_getElem hl) j v hv⟩
theorem SlP.own {w : World} {base : Nat} {t : TypeId} {v : Value} {n : Nat} {l : List (Nat × Nat)} (h : w.ownsRow base t 2 v n (prc l)) : ∃ A c, v = .slice A n c ∧ SlP w A n l ∧ n ≤ c ∧ c ≤ maxLen := by
  have hl : l.length = n := by have := h.1; rw [prc_length] at this; omega
  rcases h.2 with ⟨rfl, rfl⟩ | ⟨g, cap, cur, rfl, hg, hh, hn, hc, hs, ht⟩
  · exact ⟨none, 0, rfl, ⟨hl, fun h => absurd h (by omega)⟩, by omega, by omega⟩
  · have hb : Box w g cur t := hh
    refine ⟨_, cap, rfl, ⟨hl, fun _ => ⟨g, 0, rfl, hb.lt, fun j v hv => ?_⟩⟩, hn, hc⟩
    rw [Nat.zero_add]
    refine hb.cell j ?_
    rw [← ht, List.getElem?_take] at hv
    split at hv
    · simpa using hv
    · cases hv
theorem TPr : RowTy Tryz.prog 112 2 := ⟨_, Tryz.underlying112, rfl, by kernel_rfl⟩
theorem pr_info : (Tryz.prog.info? 112).map (fun i => (i.zero, i.size, i.bytes)) = some (some (.agg #[.int .i64 0, .int .i64 0]), 2, 16) := by kernel_rfl
def pwld (w : World) (p : Nat × Nat) (t : TypeId) : World := (w.alloc (.cells #[.int .i64 0, .int .i64 0] t)).setRow w.heap.size (prv p)
theorem pwld_box (w : World) (p : Nat × Nat) (t : TypeId) : Box (pwld w p t) w.heap.size (prv p) t := (Box.new w _ t).setRow _
theorem pwld_below (w : World) (p : Nat × Nat) (t : TypeId) : Bel w (pwld w p t) := below_setRow' ((Below.refl _ _).alloc (Nat.le_refl _) _) _ _ (Nat.le_refl _)
theorem pwld_store {P : Program} {ops : Array Oper} {rest : List Oper} {o : Oper} {a : Act} {w' w : World} {Q : Exit → Act → World → Prop} {ty : TypeId} (hT : RowTy P ty 2) (x y : Operand) (ho : o.op = .store ty x y) (hgd : o.guard = none) {p : Nat × Nat} (t : TypeId)
    (hy : a.eval y = .agg (prv p)) (hw : w' = w.alloc (.cells #[.int .i64 0, .int .i64 0] t)) (hx : a.eval x = .pointer (some ⟨w.heap.size, 0, none⟩))
    (h : wpList P ops Q rest (a.put o.dst undef) (pwld w p t)) : wpList P ops Q (o :: rest) a w' := by
  subst hw
  exact storeB ty x y ho hgd hx hy (Box.new w _ t) rfl hT (prv_all p) h
theorem load_pr {P : Program} {ops : Array Oper} {rest : List Oper} {o : Oper} {a : Act} {w : World} {Q : Exit → Act → World → Prop} {ty : TypeId} (hT : RowTy P ty 2) (x : Operand) (ho : o.op = .load ty x) (hgd : o.guard = none) {b off : Nat} {p : Nat × Nat}
    (hx : a.eval x = .pointer (some ⟨b, off, none⟩)) (hr : w.rangeAt b off (prl p))
    (h : wpList P ops Q rest (a.put o.dst (.agg (prv p))) w) : wpList P ops Q (o :: rest) a w := by
  obtain ⟨d, hu, hd, hi⟩ := hT
  exact wpList_load_mid hgd ty x ho b off hx (prl p) d hr hu hd hi h
theorem fill2 {n : Nat} (hn : n = 2) (f : Fin n → Value) (a b : Value) : ((Array.ofFn f).setIfInBounds 0 a).setIfInBounds 1 b = #[a, b] := by
  subst hn
  apply Array.ext
  · simp
  · intro i h1 h2
    have hi : i < 2 := by simpa using h2
    match i, hi with
    | 0, _ => simp [Array.getElem_setIfInBounds]
    | 1, _ => simp [Array.getElem_setIfInBounds]
theorem run_buildp (t e : TypeId) {P : Program} (i : TypeInfo) (ht : P.underlying t = some (.slice e)) (hi : P.info? e = some i) (hz : i.zero = some (.agg #[.int .i64 0, .int .i64 0])) (hs : i.size = 2) (p : Nat × Nat) (w : World) :
    (Instr.buildSlice t 1 #[(0, .agg (prv p))]).run P w = .ok (.slice (some ⟨w.heap.size, 0, none⟩) 1 1) (w.alloc (.cells (prv p) e)) := by
  simp [Instr.buildSlice, Sem.run_bind, run_underlying ht, sizeOf, typeInfo, hi, hs, zeroValue, hz, Instr.fill, Value.cells, prv, newRow, newObj, List.zipIdx, Array.range, Result.andThen, go_sem]
  rw [fill2 (by rw [hs])]
  rfl
theorem buildp {P : Program} {ops : Array Oper} {rest : List Oper} {o : Oper} {a : Act} {w : World} {Q : Exit → Act → World → Prop} (t : TypeId) (x : Operand) (ho : o.op = .buildSlice t 1 #[(0, x)]) (hgd : o.guard = none) (e : TypeId) (i : TypeInfo) (ht : P.underlying t = some (.slice e)) (hi : P.info? e = some i)
    (hz : i.zero = some (.agg #[.int .i64 0, .int .i64 0])) (hs : i.size = 2) (p : Nat × Nat) (hx : a.eval x = .agg (prv p))
    (h : wpList P ops Q rest (a.put o.dst (.slice (some ⟨w.heap.size, 0, none⟩) 1 1)) (w.alloc (.cells (prv p) e))) : wpList P ops Q (o :: rest) a w := by
  refine wpList_plain hgd fun _ hK' => ?_
  unfold Oper.wp execOp
  simp only [ho, Sem.run_bind, Sem.run_pure, Result.andThen_ok, List.map_toArray, List.map_cons, List.map_nil, hx, run_buildp t e i ht hi hz hs p w]
  exact hK' _ _ h
theorem ptake_snoc {l : List (Nat × Nat)} {i : Nat} {e : Nat × Nat} (h : l[i]? = some e) : l.take (i + 1) = l.take i ++ [e] := by
  have hi' := List.getElem?_eq_some_iff.1 h
  rw [List.take_succ_eq_append_getElem hi'.1, hi'.2]
theorem ptake_all {l : List (Nat × Nat)} {A : Option Addr} {w : World} {n : Nat} (h : SlP w A n l) : l.take n = l := by rw [← h.1, List.take_length]
end Go.Proofs.YtnklpifnknmdgaaGreatDoor
namespace Go.Proofs.YtnklpifnknmdgaaGreatDoor
open Go Go.RowKit

def Tells (w : World) (k : FuncId) (p : Value) (n : Nat) (C : Nat → Nat → Prop) (R : Nat → Nat → Bool) : Prop :=
  ∀ (a b : Nat) (w1 : World), a < n → b < n → C a b → Bel w w1 → Calls Tryz.prog k #[.int .i64 a, .int .i64 b, p] w1 fun e w2 => e = .returned (.bool (R a b)) ∧ Below w1.heap.size w1 w2
structure PrsR (w : World) (R : Nat → Nat → Bool) (n i j : Nat) (v : Value) (wr : World) : Prop where
  own : wr.ownsRow w.heap.size 112 2 v (prs R n i j).length (prc (prs R n i j))
  below : Bel w wr
theorem PrsR.to {w : World} {R : Nat → Nat → Bool} {n i j i' j' : Nat} {v : Value} {wr : World} (h : PrsR w R n i j v wr) (e : prs R n i' j' = prs R n i j) : PrsR w R n i' j' v wr := by
  obtain ⟨h1, h2⟩ := h; rw [← e] at h1; exact ⟨h1, h2⟩
def PrsPost (w : World) (R : Nat → Nat → Bool) (n : Nat) (e : Ending) (w' : World) : Prop :=
  ∃ v, e = .returned v ∧ w'.ownsRow w.heap.size 112 2 v (prsA R n).length (prc (prsA R n)) ∧ Below w.heap.size w w'
theorem prs_small {R : Nat → Nat → Bool} {n i j : Nat} (hn : n ≤ 80) (hi : i ≤ n) (hj : j ≤ n) : (prs R n i j).length ≤ 6480 := by
  have h1 := prs_len R n i j
  have h2 := Nat.mul_le_mul (Nat.le_trans hi hn) hn
  omega
set_option maxHeartbeats 8000000 in
theorem pairs_any (k : FuncId) (B : Nat) (n : Nat) (R : Nat → Nat → Bool) (w : World) (hn : n ≤ 80) (hE : ∀ args w, (callFunc k args).run Tryz.prog w = .ok (.enter k args) w) (hT : Tells w k (.pointer (some ⟨B, 0, none⟩)) n (fun a b => a < b) R) (hR : ∀ a b, b ≤ a → R a b = false) :
    Calls Tryz.prog 163 #[.int .i64 n, .func (.func k) #[] #[.pointer (some ⟨B, 0, none⟩)]] w (PrsPost w R n) := by
  have HT := Lib.hid hT
  have HR := Lib.hid hR
  have H0 := Lib.hid (PrsR.mk (World.ownsRow_nil _ _ _ _) (Bel.refl w) : PrsR w R n 0 0 (.slice none 0 0) w)
  obtain ⟨i0, hi0, hz0, hz1, hz2⟩ := info_parts pr_info
  have J := Lib.hid (And.intro hi0 (And.intro hz0 (And.intro hz1 hz2)))
  clear hi0 hz0 hz1 hz2 hT hR
  go_enter Tryz.func163, Tryz.ntmps163
  go_wp2
  go_loopw [5, 9] (fun v t9 wr => ∃ i : Nat, i ≤ n ∧ t9 = .int .i64 i ∧ PrsR w R n i 0 v wr) (fun _ t9 _ => n - (intOf t9).toNat)
  case atStart => exact ⟨0, by omega, rfl, H0.out⟩
  case round =>
    obtain ⟨i, hi, rfl, hr⟩ := hrel
    have HP := Lib.hid hr
    clear hr H0
    by_cases hlt : i < n
    · have hlt' : (i : Int) < n := by omega
      have H1 := Lib.hid (HP.out.to (prs_low (j := i + 1) (fun k hk => HR.out i k (by omega))))
      go_wp2
      go_loopw [5, 7] (fun v t7 wr => ∃ j : Nat, i < j ∧ j ≤ n ∧ t7 = .int .i64 j ∧ PrsR w R n i j v wr) (fun _ t7 _ => n - (intOf t7).toNat)
      case atStart => exact ⟨i + 1, by omega, by omega, by go_num, H1.out⟩
      case round =>
        obtain ⟨j, hij, hj, rfl, hr⟩ := hrel
        have HQ := Lib.hid hr
        clear hr H1 HP
        by_cases hlj : j < n
        · have hlj' : (j : Int) < n := by omega
          go_wp2_with fail
          refine (HT.out i j _ hlt hlj hij HQ.out.below).mono ?_
          rintro e w1 ⟨rfl, hb1⟩
          have HW := Lib.hid (HQ.out.below.call hb1)
          have HO := Lib.hid (own_bel HQ.out.own hb1)
          clear hb1
          cases hq : R i j
          · have HS := Lib.hid (PrsR.to ⟨HO.out, HW.out⟩ (prs_no hq))
            go_wp2
            go_roundw
            case rel => exact ⟨j + 1, by omega, by omega, by go_num, HS.out⟩
            case measure => simp [intOf]; omega
          · have HA := Lib.hid (own_alloc HO.out (.cells (prv (i, j)) 112))
            have HNW := Lib.hid (Box.news (l := prl (i, j)) (Box.new w1 (prv (i, j)) 112))
            have HSZ := Lib.hid (HW.out.alloc (.cells (prv (i, j)) 112)).size
            have hlen := prs_small (R := R) hn hi hj
            have HLN := Lib.hid hlen
            clear hlen
            go_wp2_with (first | (refine buildp 80 _ rfl rfl 112 i0 Tryz.underlying80 J.out.1 J.out.2.1 J.out.2.2.1 (i, j) rfl ?_) | (at_builtin; refine wpList_append_own_at _ rfl (.tmp 23) (.tmp 27) _ rfl w.heap.size 112 i0 _ 2 16 Tryz.underlying80 J.out.1 J.out.2.1 J.out.2.2.1 J.out.2.2.2 rfl (by omega) _ (prs R n i j).length _ rfl HA.out ⟨w1.heap.size, 0, none⟩ 1 1 (prl (i, j)) rfl rfl HNW.out (by simp [prl, Value.oneCell']) (by have := HLN.out; unfold maxLen; omega) (by have := HLN.out; omega) HSZ.out ?_; intro v2 w2 hown2 hg2 hn2 hat2))
            refine ⟨⟨j + 1, by omega, by omega, by go_num, ⟨?_, (HW.out.alloc _).out.grown hg2 HSZ.out (own_block_ge HA.out)⟩⟩, by simp [intOf]; omega⟩
            rw [prs_yes hq, List.length_append, prc_append]
            exact hown2
        · obtain rfl : j = n := by omega
          have HS := Lib.hid (HQ.out.to (prs_next R j i))
          go_wp2
          go_roundw
          case rel => exact ⟨i + 1, by omega, by go_num, HS.out⟩
          case measure => simp [intOf]; omega
    · obtain rfl : i = n := by omega
      go_wp2
      go_ret
      exact ⟨_, rfl, HP.out.own, HP.out.below⟩
end Go.Proofs.YtnklpifnknmdgaaGreatDoor
set_option linter.all false
set_option maxRecDepth 100000
namespace Go.Proofs.YtnklpifnknmdgaaGreatDoor
open Go Go.RowKit

def bsl (n : Nat) (g : Nat → Bool) : List Value := (List.range n).map fun j => .bool (g j)
def bs (n : Nat) (g : Nat → Bool) : Array Value := (bsl n g).toArray
theorem bsl_length (n : Nat) (g : Nat → Bool) : (bsl n g).length = n := by simp [bsl]
theorem bs_size (n : Nat) (g : Nat → Bool) : (bs n g).size = n := by simp [bs, bsl]
theorem bsl_get {n : Nat} (g : Nat → Bool) {j : Nat} (hj : j < n) : (bsl n g)[j]? = some (.bool (g j)) := by simp [bsl, hj]
theorem bs_get {n : Nat} (g : Nat → Bool) {j : Nat} (hj : j < n) : (bs n g)[j]? = some (.bool (g j)) := by simpa [bs] using bsl_get g hj
theorem bs_congr {n : Nat} {g g' : Nat → Bool} (h : ∀ j, j < n → g j = g' j) : bs n g = bs n g' := by
  unfold bs bsl
  congr 1
  refine List.map_congr_left fun j hj => ?_
  rw [h j (by simpa using hj)]
theorem bs_set (n : Nat) (g : Nat → Bool) (j : Nat) (v : Bool) : (bs n g).setIfInBounds j (.bool v) = bs n (updB g j v) := by
  apply Array.ext_getElem?
  intro i
  rw [Array.getElem?_setIfInBounds]
  by_cases hi : i < n
  · by_cases hij : j = i
    · subst hij; rw [if_pos rfl, if_pos (by rw [bs_size]; exact hi), bs_get _ hi]; simp [updB]
    · rw [if_neg hij, bs_get _ hi, bs_get _ hi]
      simp [updB, Ne.symm hij]
  · have h1 : (bs n g)[i]? = none := Array.getElem?_eq_none (by rw [bs_size]; omega)
    have h2 : (bs n (updB g j v))[i]? = none := Array.getElem?_eq_none (by rw [bs_size]; omega)
    rw [h1, h2]
    split
    · rename_i hij; subst hij; simp [bs_size, hi]
    · rfl
theorem bsl_one (n : Nat) (g : Nat → Bool) : ∀ v ∈ bsl n g, v.oneCell' = true := by
  intro v hv
  simp only [bsl, List.mem_map] at hv
  obtain ⟨j, _, rfl⟩ := hv
  rfl
theorem bs_all (n : Nat) (g : Nat → Bool) : (bs n g).all (·.oneCell') = true := all_oneCell_toArray (bsl_one n g)
theorem Box.part {w : World} {B N : Nat} {g : Nat → Bool} {t : TypeId} (h : Box w B (bs N g) t) (o m : Nat) (hm : o + m ≤ N) : w.rangeAt B o (bsl m fun k => g (o + k)) := fun j v hv => by
  have hj : j < m := by have := (List.getElem?_eq_some_iff.1 hv).1; rwa [bsl_length] at this
  rw [bsl_get _ hj] at hv
  cases hv
  exact h.cell _ (bs_get g (by omega))
theorem part_bool {P : Program} {e : TypeId} (he : P.underlying e = some .bool) (cs : Array Value) (off : Nat) (v : Value) (h : cs[off]? = some v) (w : World) : (part e cs off).run P w = .ok v w := by
  unfold part isAgg
  simp [Sem.run_bind, run_underlying he, h]
theorem index_bs {P : Program} {t e : TypeId} {N : Nat} (hT : P.underlying t = some (.array N e)) (he : P.underlying e = some .bool) (hi : (P.info? e).map (·.size) = some 1) (g : Nat → Bool) (k : Nat) (hk : k < N) (w : World) :
    (Instr.index t (.agg (bs N g)) (.int .i64 k)).run P w = .ok (.bool (g k)) w := by
  cases hq : P.info? e with
  | none => simp [hq] at hi
  | some i =>
    have hs : i.size = 1 := by simpa [hq] using hi
    have := part_bool he (bs N g) k _ (bs_get g hk)
    simp [Instr.index, asIntOf, Sem.run_bind, run_underlying hT, sizeOf, typeInfo, hk, hq, hs, this]
end Go.Proofs.YtnklpifnknmdgaaGreatDoor

import Derived.Laws.IdiomCopy
import Derived.Deep.RegionLaw
import Derived.Test.YtnklpifnknmdgaaGreatDoorZCp
import Derived.Test.YtnklpifnknmdgaaGreatDoorZTrace4
import Derived.Test.YtnklpifnknmdgaaGreatDoorZGu
import Derived.Test.YtnklpifnknmdgaaGreatDoorZTr
import Derived.Test.YtnklpifnknmdgaaGreatDoorZKeepTw
import Derived.Test.YtnklpifnknmdgaaGreatDoorZOr
import Derived.Test.YtnklpifnknmdgaaGreatDoorZFl
import Derived.Test.YtnklpifnknmdgaaGreatDoorZAcP
import Derived.Test.YtnklpifnknmdgaaGreatDoorZGrow
import Derived.Lib.Bytealg
import Derived.Lib.Split
import Derived.Lib.Join
import Derived.Test.YtnklpifnknmdgaaGreatDoorRows
import Derived.Test.YtnklpifnknmdgaaGreatDoorShelf
import Derived.WalkKit
import Derived.WalkSpells
import Derived.WalkLawsBesides
import Derived.Lib.Hide
import Derived.Laws.Strings3
import Derived.RegionTactic
set_option linter.all false
set_option maxRecDepth 100000
namespace Go.Proofs.YtnklpifnknmdgaaGreatDoor
open Go Go.RowKit

end Go.Proofs.YtnklpifnknmdgaaGreatDoor
namespace Go.Proofs.YtnklpifnknmdgaaGreatDoor
open Go Go.RowKit

def q2 (k m a b : Int) : Bool := (a == k || a == m) && (b == k || b == m)
set_option maxHeartbeats 2000000 in
theorem clone_any (A : Option Addr) (n c : Nat) (l : List Ev) (w : World) (h : Sl w A n l) (hn : n ≤ 1000) : Calls Tryz.prog 150 #[.slice A n c] w (CpPost w n l) := by
  cases A with
  | none =>
    have HO := Lib.hid (World.ownsRow_nil w w.heap.size 45 3)
    have h0 : n = 0 := by
      rcases Nat.eq_zero_or_pos n with h0 | h0
      · exact h0
      · obtain ⟨b, o, h1, _⟩ := h.2 h0
        cases h1
    subst h0
    have hl : l = [] := List.eq_nil_of_length_eq_zero h.1
    subst hl
    have NS := Lib.run_eql_slice_nil (P := Tryz.prog) w 30 45 none 0 c 0 0 Tryz.underlying30
    clear h hn
    go_enter Tryz.func150, Tryz.ntmps150
    go_wp2
    go_ret
    exact ⟨_, rfl, HO.out, Below.refl _ _⟩
  | some ad =>
    obtain ⟨i0, hi0, hz0, hz1, hz2⟩ := info_parts ev_info
    have HO := Lib.hid (show (w.alloc (.cells #[] 45)).ownsRow w.heap.size 45 3 (.slice (some ⟨w.heap.size, 0, none⟩) 0 0) 0 [] from
      ⟨rfl, .inr ⟨w.heap.size, 0, #[], rfl, Nat.le_refl _, Box.new w #[] _, Nat.le_refl _, by unfold maxLen; omega, rfl, rfl⟩⟩)
    have HS := Lib.hid (h.src.keep (Bel.of ((Below.refl w.heap.size w).alloc (Nat.le_refl _) (.cells #[] 45))))
    have HLN := Lib.hid (show (evc l).length = n * 3 by rw [evc_length, h.1])
    have HN := Lib.hid hn
    have NS := Lib.run_eql_slice_nil (P := Tryz.prog) w 30 45 (some ad) n c 0 0 Tryz.underlying30
    clear h hn
    go_enter Tryz.func150, Tryz.ntmps150
    go_wp2_with (at_builtin; refine wpList_append_srcE rfl (.tmp 5) (.tmp 6) _ rfl w.heap.size 45 i0 _ 3 24 Tryz.underlying30 hi0 hz0 hz1 hz2 rfl (by omega) (.slice (some ⟨w.heap.size, 0, none⟩) 0 0) 0 [] rfl HO.out (some ad) n c (evc l) rfl HLN.out HS.out (evc_one l) (by have := HN.out; unfold maxLen; omega) (by have := HN.out; omega) (by simp) ?_; intro v2 w2 hown2 hg2 hat2)
    go_ret
    refine ⟨_, rfl, by simpa using hown2, ((Below.refl w.heap.size w).alloc (Nat.le_refl _) (.cells #[] 45)).grown hg2 (by simp) (fun k hk => ?_)⟩
    simp [Value.ownBlock] at hk
    omega
end Go.Proofs.YtnklpifnknmdgaaGreatDoor
namespace Go.Proofs.YtnklpifnknmdgaaGreatDoor
open Go Go.RowKit

end Go.Proofs.YtnklpifnknmdgaaGreatDoor
namespace Go.Proofs.YtnklpifnknmdgaaGreatDoor
open Go Go.RowKit

end Go.Proofs.YtnklpifnknmdgaaGreatDoor
namespace Go.Proofs.YtnklpifnknmdgaaGreatDoor
open Go Go.RowKit

end Go.Proofs.YtnklpifnknmdgaaGreatDoor
namespace Go.Proofs.YtnklpifnknmdgaaGreatDoor
open Go Go.RowKit

end Go.Proofs.YtnklpifnknmdgaaGreatDoor
namespace Go.Proofs.YtnklpifnknmdgaaGreatDoor
open Go Go.RowKit

theorem own_two {w w' : World} {b1 b2 : Nat} {e1 e2 : TypeId} {s1 s2 n1 n2 : Nat} {v1 v2 v1' : Value} {x1 x2 : List Value} (h1 : w.ownsRow b1 e1 s1 v1 n1 x1) (h2 : w.ownsRow b2 e2 s2 v2 n2 x2) (ap : ∀ g, v1.ownBlock = some g → v2.ownBlock ≠ some g)
    (hg : w.grownBy w' v1.ownBlock) (hat : v1'.ownBlock = v1.ownBlock ∨ v1'.ownBlock = some w.heap.size) : w'.ownsRow b2 e2 s2 v2 n2 x2 ∧ (∀ g, v1'.ownBlock = some g → v2.ownBlock ≠ some g) := by
  refine ⟨own_keep h2 fun g hv hlt => hg.block g hlt fun e => ap g e.symm hv, fun g hv hv2 => ?_⟩
  rcases hat with h | h
  · exact ap g (h ▸ hv) hv2
  · rw [h] at hv; have := Option.some.inj hv; have := (own_lt h2 hv2).2; omega
end Go.Proofs.YtnklpifnknmdgaaGreatDoor
namespace Go.Proofs.YtnklpifnknmdgaaGreatDoor
open Go Go.RowKit

end Go.Proofs.YtnklpifnknmdgaaGreatDoor
namespace Go.Proofs.YtnklpifnknmdgaaGreatDoor
open Go Go.RowKit

end Go.Proofs.YtnklpifnknmdgaaGreatDoor
set_option linter.all false
set_option maxRecDepth 100000
namespace Go.Proofs.YtnklpifnknmdgaaGreatDoor
open Go Go.RowKit

def EvsOwn (w : World) (r : List Ev) (c : Int) (e : Ending) (w' : World) : Prop :=
  ∃ v, e = .returned (.tuple #[v, .int .i64 c]) ∧ w'.ownsRow w.heap.size 45 3 v r.length (evc r) ∧ Below w.heap.size w w'
theorem own_nil (w w' : World) (c : Int) (h : Below w.heap.size w w') : EvsOwn w [] c (.returned (.tuple #[.slice none 0 0, .int .i64 c])) w' := ⟨_, rfl, World.ownsRow_nil _ _ _ _, h⟩
def WoB (l : List Ev) (i : Int) (r : List Ev) (c : Int) : Prop :=
  (may l ≠ 0 ∧ r = [] ∧ c = may l) ∨ (may l = 0 ∧ (i < 0 ∨ (l.length : Int) ≤ i) ∧ r = [] ∧ c = 1) ∨
    (may l = 0 ∧ (∃ k : Nat, i = k ∧ k < l.length ∧ may (l.eraseIdx k) ≠ 0) ∧ r = [] ∧ c = 5) ∨ (may l = 0 ∧ (∃ k : Nat, i = k ∧ k < l.length ∧ may (l.eraseIdx k) = 0 ∧ r = l.eraseIdx k) ∧ c = 0)
def WoPost (w : World) (l : List Ev) (i : Int) (e : Ending) (w' : World) : Prop := ∃ r c, WoB l i r c ∧ EvsOwn w r c e w'
def WithoutC : Prop := ∀ (A : Option Addr) (n c : Nat) (l : List Ev) (i : Int) (w : World), Sl w A n l → n ≤ c → c ≤ maxLen → In64 i → Calls Tryz.prog 116 #[.slice A n c, .int .i64 i] w (WoPost w l i)
def MinB (l r : List Ev) (c : Int) : Prop := (may l ≠ 0 ∧ r = [] ∧ c = may l) ∨ (may l = 0 ∧ rcs l = [] ∧ r = [] ∧ c = 7) ∨ (Ok l ∧ Red l 0 r ∧ c = 0)
def MinPost (w : World) (l : List Ev) (e : Ending) (w' : World) : Prop := ∃ r c, MinB l r c ∧ EvsOwn w r c e w'
def MinC : Prop := ∀ (A : Option Addr) (n c : Nat) (l : List Ev) (w : World), Sl w A n l → n ≤ c → c ≤ maxLen → Calls Tryz.prog 117 #[.slice A n c] w (MinPost w l)
theorem minB_uniq {l r s : List Ev} {c d : Int} (h : MinB l r c) (k : MinB l s d) : r = s ∧ c = d := by
  rcases h with ⟨h1, h2, h3⟩ | ⟨h1, h4, h2, h3⟩ | ⟨h1, h2, h3⟩ <;> rcases k with ⟨k1, k2, k3⟩ | ⟨k1, k4, k2, k3⟩ | ⟨k1, k2, k3⟩ <;>
    first
    | exact absurd k1 h1
    | exact absurd h1 k1
    | exact absurd k1.1 h1
    | exact absurd h1.1 k1
    | exact absurd h4 k1.2
    | exact absurd k4 h1.2
    | exact ⟨h2.trans k2.symm, h3.trans k3.symm⟩
    | exact ⟨h2.uniq k2, h3.trans k3.symm⟩
end Go.Proofs.YtnklpifnknmdgaaGreatDoor
set_option linter.all false
set_option maxRecDepth 100000
namespace Go.Proofs.YtnklpifnknmdgaaGreatDoor
open Go Go.RowKit

theorem ck_info : (Tryz.prog.info? 61).map (fun i => (i.zero, i.size, i.bytes)) = some (some (.agg (Array.replicate 6 (.int .i64 0))), 6, 48) := by kernel_rfl
theorem made_ns (m n : Nat) (hn : 0 < n) : madeCells (Array.replicate n (Value.int .i64 0)) m = ns m (fun _ => 0) := by
  apply Array.ext
  · simp [madeCells, ns_size]
  · intro i h1 h2
    have h3 : i < m := by simpa [madeCells] using h1
    have h4 := ns_get (n := m) (fun _ => 0) h3
    rw [Array.getElem?_eq_getElem h2] at h4
    rw [Option.some.inj h4]
    simp [madeCells, Nat.mod_lt _ hn]
section
variable {ops : Array Oper} {rest : List Oper} {o : Oper} {a : Act} {w : World} {Q : Exit → Act → World → Prop}
theorem makeCk (l c : Operand) (ho : o.op = .makeSlice 76 l c) (hg : o.guard = none) (n : Nat) (hn : n ≤ 1000000) (hl : a.eval l = .int .i64 n) (hc : a.eval c = .int .i64 n)
    (h : wpList Tryz.prog ops Q rest (a.put o.dst (.slice (some ⟨w.heap.size, 0, none⟩) n n)) (w.alloc (.cells (ns (n * 6) (fun _ => 0)) 61))) : wpList Tryz.prog ops Q (o :: rest) a w := by
  obtain ⟨i, hi, hz, hs, hb⟩ := info_parts ck_info
  have hr := run_make (P := Tryz.prog) w 76 61 i _ Tryz.underlying76 hi hz .i64 .i64 n n (by omega) (by omega) (by rw [hb]; omega) (by omega)
  rw [hs, Int.toNat_natCast, show (Value.agg (Array.replicate 6 (Value.int .i64 0))).cells = Array.replicate 6 (Value.int .i64 0) from rfl, made_ns _ _ (by omega)] at hr
  refine wpList_plain hg fun _ hK => ?_
  unfold Oper.wp execOp
  simp only [ho, hl, hc, Sem.run_bind, hr, Result.andThen_ok, Sem.run_pure]
  exact hK _ _ h
end
structure CkR (w : World) (n : Nat) (L : List Nat) (wr : World) : Prop where
  box : Box wr w.heap.size (ns (n * 6) (cnt L)) 61
  below : Below w.heap.size w wr
theorem CkR.bel {w : World} {n : Nat} {L : List Nat} {wr w' : World} (h : CkR w n L wr) (hb : Bel wr w') : CkR w n L w' := ⟨hb.box h.box, h.below.trans (hb.out.mono h.below.size)⟩
theorem CkR.up {w : World} {n : Nat} {L : List Nat} {wr : World} (h : CkR w n L wr) {y v : Nat} (hv : cnt L y = v) {u : Int} (hu : u = (v : Int) + 1) : CkR w n (L ++ [y]) (wr.setCell ⟨w.heap.size, y, none⟩ (.int .i64 u)) := by
  obtain rfl : u = ((cnt L y + 1 : Nat) : Int) := by rw [hu, ← hv]; rfl
  exact ⟨by have := h.box.set y (.int .i64 ((cnt L y + 1 : Nat) : Int)); rwa [ns_set, ← cnt_snoc] at this, h.below.setCell (Nat.le_refl _) _⟩
theorem CkR.to {w : World} {n : Nat} {L L' : List Nat} {wr : World} (h : CkR w n L wr) (e : L = L') : CkR w n L' wr := e ▸ h
theorem CkR.done {w : World} {n : Nat} {L : List Nat} {wr : World} {l : List Ev} (h : CkR w n L wr) (hg : ∀ j t, j < n → t < 6 → cnt L (j * 6 + t) = kn l j t) : Cks wr w.heap.size n l := Cks.of h.box hg
theorem cnt_wrap {L : List Nat} {y v : Nat} (h : L.length ≤ 1000000) (hv : cnt L y = v) : IntKind.i64.wrap ((v : Int) + 1) = (v : Int) + 1 := by
  have := fcnt_le L y
  exact IntWalk.i64_in _ (by omega)
def StPost (w : World) (l : List Ev) (n : Nat) (e : Ending) (w' : World) : Prop :=
  ∃ B, e = .returned (.tuple #[.slice (some ⟨B, 0, none⟩) n n, .int .i64 0]) ∧ Cks w' B n l ∧ w.heap.size ≤ B ∧ Below w.heap.size w w'
set_option maxHeartbeats 8000000 in
theorem stamps_ok (A : Option Addr) (n c : Nat) (l : List Ev) (w : World) (hl : Sl w A n l) (hm : may l = 0) : Calls Tryz.prog 109 #[.slice A n c] w (StPost w l n) := by
  have hw0 := Bel.refl w
  have HL := Lib.hid hl
  have HM := Lib.hid hm
  have HN := Lib.hid hl.1
  have hn80 : n ≤ 80 := by rw [← hl.1]; exact ((may_iff l).1 hm).1
  have HT := Lib.hid (fun (i : Nat) (hi : i < l.length) => may_tOf hm hi)
  have HP := Lib.hid (prOf_ok (R := bef) hm rfl)
  have HMEM := Lib.hid (fun (p : Nat × Nat) (h : p ∈ prsA (bef l) l.length) => mem_prsA.1 h)
  have hln : (prsA (bef l) l.length).length ≤ 6480 := prs_small ((may_iff l).1 hm).1 (Nat.le_refl _) (Nat.zero_le _)
  have HCA := Lib.hid (fun (j t : Nat) (hj : j < l.length) (ht : t < 6) => count_all (fun i hi => may_tOf hm hi) (l := l) hj ht)
  clear hl hm
  go_enter Tryz.func109, Tryz.ntmps109
  go_wp2_with fail
  refine (before_any A n c l _ HL.out).mono ?_
  rintro e1 w1 ⟨v1, rfl, hown1, hb1⟩
  have hw1 := hw0.call hb1
  clear hb1
  rw [HM.out]
  rw [HP.out] at hown1
  generalize hps : prsA (bef l) l.length = ps at *
  obtain ⟨A1, c1, rfl, hs1, hn1, hm1⟩ := SlP.own hown1
  have HS1 := Lib.hid hs1
  have HW1 := Lib.hid hw1
  have H0 := Lib.hid (CkR.mk (Box.new w1 _ _) ((Bel.refl w1).alloc _) : CkR w1 n [] (w1.alloc (.cells (ns (n * 6) (cnt [])) 61)))
  generalize hm' : ps.length = m at *
  clear hs1 hown1 hn1 hm1 hps hw1 hw0
  go_wp2_with (refine makeCk _ _ rfl rfl n (by omega) rfl rfl ?_)
  change Code.wp _ _ _ _ (w1.alloc (.cells (ns (n * 6) (cnt [])) 61))
  generalize hW : w1.alloc (.cells (ns (n * 6) (cnt [])) 61) = w2 at *
  clear hW
  go_loopw [24] (fun t24 wr => ∃ i : Nat, i ≤ n ∧ t24 = .int .i64 i ∧ CkR w1 n (ownK l i) wr) (fun t24 _ => n - (intOf t24).toNat)
  case atStart => exact ⟨0, by omega, rfl, H0.out⟩
  case round =>
    obtain ⟨i, hi, rfl, hr⟩ := hrel
    have HR := Lib.hid hr
    clear hr H0
    by_cases hlt : i < n
    · obtain ⟨bb, off, ⟨ek, et, eo⟩, rfl, hbb, he, hrg⟩ := HL.out.at_ hlt
      have ht0 := HT.out i (by rw [HN.out]; exact hlt)
      have het := isEv_t (wrong_isEv (wrong_at HM.out he))
      obtain ⟨t, rfl⟩ := Int.eq_ofNat_of_zero_le het.1
      have HTO := Lib.hid (show tOf l i = t by rw [tOf_at he]; rfl)
      have ht6 : t < 6 := by rw [HTO.out] at ht0; exact ht0
      have hlt' : (i : Int) < n := by omega
      have ht6' : (t : Int) < 6 := by omega
      have hR := Lib.hid (rangeAt_below (HW1.out.trans (Bel.of HR.out.below)).out hbb hrg)
      obtain ⟨c0, c1, c2⟩ := ewld_cells wr ⟨ek, (t : Int), eo⟩ 45
      have HR2 := Lib.hid (HR.out.bel (ewld_below wr ⟨ek, (t : Int), eo⟩ 45))
      obtain ⟨v, hv⟩ : ∃ v, cnt (ownK l i) (i * 6 + t) = v := ⟨_, rfl⟩
      have d0 : (ewld wr ⟨ek, (t : Int), eo⟩ 45).cell? ⟨w1.heap.size, i * 6 + t, none⟩ = some (.int .i64 v) := by rw [← hv]; exact HR2.out.box.cell _ (ns_get _ (by omega))
      have g0 := HR2.out.box.frozen (i * 6 + t)
      have f1 := cnt_wrap (by rw [own_len]; omega) hv
      have HV := Lib.hid hv
      clear he hrg ht0 het hv
      go_wp2_with (first | (refine load_ev T36 _ rfl rfl rfl hR.out ?_) | (refine ewld_store T36 _ _ rfl rfl _ rfl rfl rfl ?_))
      generalize ewld wr ⟨ek, (t : Int), eo⟩ 45 = w3 at *
      (refine wp_region_still_tail 10 (by kernel_rfl) (by kernel_rfl) ?_; simp only [List.take_succ_cons, List.take_zero, List.drop_succ_cons, List.drop_zero]; (repeat (first | ((with_reducible refine s_skip ?_ ?_); exact rfl; simp only [Act.put, Act.eval, List.setIfInBounds_toArray, List.set_cons_zero, List.set_cons_succ, Array.getD_eq_getD_getElem?, List.getElem?_toArray, List.getElem?_cons_zero, List.getElem?_cons_succ, Option.getD_some]) | ((with_reducible refine wpStill_step ?_); intro K hK; go_simp; (with_reducible refine hK _ ?_); clear hK K))); (with_reducible refine wpStill_nil ?_))
      change wpList _ _ _ _ _ w3.drew
      go_wp2
      go_roundw
      case rel => exact ⟨i + 1, by omega, by go_num, ((HR2.out.bel (Bel.refl _).drew).up HV.out rfl).to (by rw [own_succ, HTO.out])⟩
      case measure => simp [intOf]; omega
    · obtain rfl : i = n := by omega
      have H1 := Lib.hid (HR.out.to (show ownK l i = ownK l l.length ++ oth l (ps.take 0) by rw [HN.out]; simp [oth]))
      have HLO := Lib.hid (own_len l l.length)
      generalize ownK l l.length = K at *
      have hK : K.length ≤ 80 := by rw [HLO.out, HN.out]; omega
      clear HR
      go_wp2
      go_loopw [42] (fun t42 wr => ∃ k : Nat, k ≤ m ∧ t42 = .int .i64 k ∧ CkR w1 i (K ++ oth l (ps.take k)) wr) (fun t42 _ => m - (intOf t42).toNat)
      case atStart => exact ⟨0, by omega, rfl, H1.out⟩
      case round =>
        obtain ⟨k, hk, rfl, hr⟩ := hrel
        have HR := Lib.hid hr
        clear hr H1
        by_cases hlk : k < m
        · have hlk' : (k : Int) < m := by omega
          obtain ⟨pb, poff, p, rfl, hpb, hp, hprg⟩ := HS1.out.at_ hlk
          have hmp := HMEM.out p (List.mem_of_getElem? hp)
          rw [HN.out] at hmp
          obtain ⟨bb, off, ⟨ek, et, eo⟩, rfl, hbb, he, hrg⟩ := HL.out.at_ hmp.1
          have het := isEv_t (wrong_isEv (wrong_at HM.out he))
          obtain ⟨t, rfl⟩ := Int.eq_ofNat_of_zero_le het.1
          have HTO := Lib.hid (show tOf l p.1 = t by rw [tOf_at he]; rfl)
          have ht6 : t < 6 := by have := het.2; dsimp only at this; omega
          have ht6' : (t : Int) < 6 := by omega
          have hp1 : (p.1 : Int) < i := by omega
          have hp2 : (p.2 : Int) < i := by omega
          have hp2n : p.2 < i := hmp.2.1
          have hR := Lib.hid (rangeAt_below HR.out.below hpb hprg)
          have hw1 := Bel.of HR.out.below
          have HBX := Lib.hid (pwld_below wr p 112)
          have HX := Lib.hid (pwld_box wr p 112)
          have HR2 := Lib.hid (HR.out.bel HBX.out)
          have HRG := Lib.hid (rangeAt_below (HW1.out.trans (hw1.trans HBX.out)).out hbb hrg)
          obtain ⟨v, hv⟩ : ∃ v, cnt (K ++ oth l (ps.take k)) (p.2 * 6 + t) = v := ⟨_, rfl⟩
          have f1 := cnt_wrap (by rw [List.length_append, oth_len, List.length_take]; omega) hv
          have HV := Lib.hid hv
          have HPS := Lib.hid (ptake_snoc hp)
          clear he hrg het hv hmp hp hprg hw1
          go_wp2_with (first | (refine load_pr TPr _ rfl rfl rfl hR.out ?_) | (refine pwld_store TPr _ _ rfl rfl _ rfl rfl rfl ?_))
          generalize hw3 : pwld wr p 112 = w3 at *
          have c0 := HX.out.cell 0 (v := .int .i64 p.1) rfl
          have c1 := HX.out.cell 1 (v := .int .i64 p.2) rfl
          have e1 : w3.cell? ⟨bb, off + p.1 * 3 + 1, none⟩ = some (.int .i64 t) := HRG.out 1 _ rfl
          have d0 : w3.cell? ⟨w1.heap.size, p.2 * 6 + t, none⟩ = some (.int .i64 v) := by rw [← HV.out]; exact HR2.out.box.cell _ (ns_get _ (by omega))
          have g0 := HR2.out.box.frozen (p.2 * 6 + t)
          clear hw3
          (refine wp_region_still_tail 15 (by kernel_rfl) (by kernel_rfl) ?_; simp only [List.take_succ_cons, List.take_zero, List.drop_succ_cons, List.drop_zero]; (repeat (first | ((with_reducible refine s_skip ?_ ?_); exact rfl; simp only [Act.put, Act.eval, List.setIfInBounds_toArray, List.set_cons_zero, List.set_cons_succ, Array.getD_eq_getD_getElem?, List.getElem?_toArray, List.getElem?_cons_zero, List.getElem?_cons_succ, Option.getD_some]) | ((with_reducible refine wpStill_step ?_); intro K hK; go_simp; (with_reducible refine hK _ ?_); clear hK K))); (with_reducible refine wpStill_nil ?_))
          change wpList _ _ _ _ _ w3.drew
          go_wp2
          go_roundw
          case rel => exact ⟨k + 1, by omega, by go_num, ((HR2.out.bel (Bel.refl _).drew).up HV.out rfl).to (by rw [HPS.out, oth_snoc, HTO.out, List.append_assoc])⟩
          case measure => simp [intOf]; omega
        · obtain rfl : k = m := by omega
          have HPA := Lib.hid (ptake_all HS1.out)
          have HE := Lib.hid (HR.out.to (show K ++ oth l (ps.take k) = K ++ oth l ps by rw [HPA.out]))
          go_wp2
          go_ret2
          exact ⟨_, rfl, HE.out.done (fun j t hj ht => HCA.out j t (by rw [HN.out]; exact hj) ht), HW1.out.size, HW1.out.trans (Bel.of HE.out.below)⟩
end Go.Proofs.YtnklpifnknmdgaaGreatDoor
set_option linter.all false
set_option maxRecDepth 100000
namespace Go.Proofs.YtnklpifnknmdgaaGreatDoor
open Go Go.RowKit

def str (l : List UInt8) : ByteArray := ⟨l.toArray⟩
theorem str_app (a b : List UInt8) : str a ++ str b = str (a ++ b) := by
  apply ByteArray.ext
  simp [str]
theorem str_extract (l : List UInt8) (a b : Nat) : (str l).extract a b = str ((l.take b).drop a) := by
  apply ByteArray.ext
  simp [str, List.drop_take]
theorem str_all (l : List UInt8) : (str l).data.toList = l := by simp [str]
theorem str_sz (l : List UInt8) : (str l).size = l.length := by simp [str, ByteArray.size]
theorem str_get (L : List UInt8) (i : Nat) (h : i < (str L).size) (h' : i < L.length) : (str L)[i] = L[i] := by
  show L.toArray[i] = _
  rw [List.getElem_toArray]
theorem str_isEmpty (l : List UInt8) : (str l).toList.isEmpty = l.isEmpty := by
  rw [ByteArray.toList_eq]; rfl
theorem str_inj {a b : List UInt8} (h : str a = str b) : a = b := by
  have := congrArg (fun s : ByteArray => s.data.toList) h
  simpa [str] using this
theorem str_beq (a b : List UInt8) : ((str a).toList == (str b).toList) = decide (a = b) := by
  rw [ByteArray.toList_eq, ByteArray.toList_eq, Bool.eq_iff_iff, beq_iff_eq, decide_eq_true_eq]
  exact Iff.rfl
def word (k : Int) : List UInt8 :=
  if k = 1 then [114, 101, 97, 100, 32, 120]
  else if k = 2 then [119, 114, 105, 116, 101, 32, 120]
  else if k = 3 then [97, 99, 113, 117, 105, 114, 101, 32, 109]
  else if k = 4 then [114, 101, 108, 101, 97, 115, 101, 32, 109]
  else if k = 5 then [102, 111, 114, 107, 32, 116]
  else if k = 6 then [106, 111, 105, 110, 32, 116]
  else if k = 7 then [115, 101, 101, 32, 118]
  else if k = 8 then [115, 104, 111, 119, 32, 118]
  else []
def digit (n : Int) : UInt8 := UInt8.ofNat (48 + n.toNat)
def lineL (e : Ev) : List UInt8 := 116 :: digit e.t :: 32 :: (word e.k ++ [digit e.o])
def allEv : List Ev := (List.range 8).flatMap fun (k : Nat) => (List.range 6).flatMap fun (t : Nat) => (List.range 8).map fun (o : Nat) => ⟨(k : Int) + 1, (t : Int), (o : Int)⟩
def evOf (s : List UInt8) : Ev × Int :=
  match allEv.find? fun e => isEv e && decide (lineL e = s) with
  | some e => (e, 0)
  | none => (⟨0, 0, 0⟩, 3)
theorem digit_inj {a b : Int} (ha : 0 ≤ a ∧ a < 8) (hb : 0 ≤ b ∧ b < 8) (h : digit a = digit b) : a = b := by
  obtain ⟨m, rfl⟩ := Int.eq_ofNat_of_zero_le ha.1
  obtain ⟨n, rfl⟩ := Int.eq_ofNat_of_zero_le hb.1
  have h1 := congrArg UInt8.toNat h
  simp only [digit, Int.toNat_natCast, UInt8.toNat_ofNat'] at h1
  omega
theorem nobj_le (k : Int) : nobj k ≤ 8 := by unfold nobj; repeat' split
                                             all_goals omega
theorem word_inj : ∀ a b : Fin 8, word ((a.val : Int) + 1) = word ((b.val : Int) + 1) → a = b := by decide +kernel
theorem isEv_k {e : Ev} (h : isEv e = true) : 1 ≤ e.k ∧ e.k ≤ 8 := by
  have h1 := isEv_o h
  unfold nobj at h1
  repeat' split at h1
  all_goals omega
theorem line_inj {a b : Ev} (ha : isEv a = true) (hb : isEv b = true) (h : lineL a = lineL b) : a = b := by
  have a1 := isEv_t ha; have a2 := isEv_o ha; have a3 := isEv_k ha; have a4 := nobj_le a.k
  have b1 := isEv_t hb; have b2 := isEv_o hb; have b3 := isEv_k hb; have b4 := nobj_le b.k
  simp only [lineL, List.cons.injEq, true_and] at h
  obtain ⟨h1, h2⟩ := h
  obtain ⟨h3, h4⟩ := List.append_inj' h2 rfl
  simp only [List.cons.injEq, and_true] at h4
  refine Ev.ext' ?_ (digit_inj (by omega) (by omega) h1) (digit_inj (by omega) (by omega) h4)
  have hk := word_inj ⟨(a.k - 1).toNat, by omega⟩ ⟨(b.k - 1).toNat, by omega⟩ (by
    simp only
    rw [show (((a.k - 1).toNat : Nat) : Int) + 1 = a.k by omega, show (((b.k - 1).toNat : Nat) : Int) + 1 = b.k by omega]
    exact h3)
  have := congrArg Fin.val hk
  simp only at this
  omega
theorem mem_allEv {e : Ev} (h : isEv e = true) : e ∈ allEv := by
  have h1 := isEv_t h; have h2 := isEv_o h; have h3 := isEv_k h; have h4 := nobj_le e.k
  simp only [allEv, List.mem_flatMap, List.mem_range, List.mem_map]
  refine ⟨(e.k - 1).toNat, by omega, e.t.toNat, by omega, e.o.toNat, by omega, ?_⟩
  apply Ev.ext' <;> simp only <;> omega
theorem evOf_line {e : Ev} (h : isEv e = true) : evOf (lineL e) = (e, 0) := by
  unfold evOf
  cases hf : allEv.find? fun x => isEv x && decide (lineL x = lineL e) with
  | none =>
    have := List.find?_eq_none.1 hf e (mem_allEv h)
    simp [h] at this
  | some x =>
    have h1 := List.find?_some hf
    simp only [Bool.and_eq_true, decide_eq_true_eq] at h1
    rw [line_inj h1.1 h h1.2]
theorem evOf_some {s : List UInt8} (h : (evOf s).2 = 0) : isEv (evOf s).1 = true ∧ lineL (evOf s).1 = s := by
  unfold evOf at *
  cases hf : allEv.find? fun x => isEv x && decide (lineL x = s) with
  | none => rw [hf] at h; simp at h
  | some x =>
    have h1 := List.find?_some hf
    simp only [Bool.and_eq_true, decide_eq_true_eq] at h1
    exact h1
theorem evOf_code (s : List UInt8) : (evOf s).2 = 0 ∨ evOf s = (⟨0, 0, 0⟩, 3) := by
  unfold evOf
  cases allEv.find? fun x => isEv x && decide (lineL x = s) with
  | none => exact .inr rfl
  | some x => exact .inl rfl
end Go.Proofs.YtnklpifnknmdgaaGreatDoor
namespace Go.Proofs.YtnklpifnknmdgaaGreatDoor
open Go Go.RowKit

def cutA (c : UInt8) (l : List UInt8) : List UInt8 := l.takeWhile (· != c)
def cutR (c : UInt8) (l : List UInt8) : List UInt8 := (l.dropWhile (· != c)).drop 1
def cutF (c : UInt8) (l : List UInt8) : Bool := l.contains c
def kindW (w : List UInt8) : Int :=
  if w = [114, 101, 97, 100] then 1 else if w = [119, 114, 105, 116, 101] then 2 else if w = [97, 99, 113, 117, 105, 114, 101] then 3 else if w = [114, 101, 108, 101, 97, 115, 101] then 4
  else if w = [102, 111, 114, 107] then 5 else if w = [106, 111, 105, 110] then 6 else if w = [115, 101, 101] then 7 else if w = [115, 104, 111, 119] then 8 else 0
def lastD (l : List UInt8) : Int := match l.getLast? with | none => -1 | some b => (b.toNat : Int) - 48
def guessL (s : List UInt8) : Ev := ⟨kindW (cutA 32 (cutR 32 s)), lastD (cutA 32 s), lastD (cutR 32 (cutR 32 s))⟩
theorem guess_all : ∀ e ∈ allEv, guessL (lineL e) = e := by decide +kernel
theorem guess_line {e : Ev} (h : isEv e = true) : guessL (lineL e) = e := guess_all e (mem_allEv h)
def goodL (s : List UInt8) : Bool := isEv (guessL s) && decide (lineL (guessL s) = s)
theorem evOf_good {s : List UInt8} (h : goodL s = true) : evOf s = (guessL s, 0) := by
  simp only [goodL, Bool.and_eq_true, decide_eq_true_eq] at h
  have := evOf_line h.1
  rwa [h.2] at this
theorem evOf_bad {s : List UInt8} (h : goodL s = false) : evOf s = (⟨0, 0, 0⟩, 3) := by
  rcases evOf_code s with h1 | h1
  · exfalso
    obtain ⟨h2, h3⟩ := evOf_some h1
    have h4 : guessL s = (evOf s).1 := by rw [← guess_line h2, h3]
    have : goodL s = true := by simp only [goodL, Bool.and_eq_true, decide_eq_true_eq]; rw [h4]; exact ⟨h2, h3⟩
    rw [h] at this; cases this
  · exact h1
theorem lastD_get (l : List UInt8) (h : 0 < l.length) : lastD l = ((l[l.length - 1]'(by omega)).toNat : Int) - 48 := by
  unfold lastD
  rw [List.getLast?_eq_getElem?, List.getElem?_eq_getElem (by omega)]

theorem index_miss {l : List UInt8} {c : UInt8} (h : Lib.indexByte l c < 0) : cutA c l = l ∧ cutR c l = [] ∧ cutF c l = false := by
  induction l with
  | nil => exact ⟨rfl, rfl, rfl⟩
  | cons b l ih =>
    unfold Lib.indexByte at h
    by_cases hb : (b == c) = true
    · rw [if_pos hb] at h; omega
    · rw [if_neg hb] at h
      have hn : Lib.indexByte l c < 0 := by
        have := Lib.indexByte_ge l c
        by_cases hm : (Lib.indexByte l c == -1) = true
        · have : Lib.indexByte l c = -1 := by simpa using hm
          omega
        · rw [if_neg hm] at h; omega
      obtain ⟨h1, h2, h3⟩ := ih hn
      have hbc : (b != c) = true := by simpa using hb
      refine ⟨?_, ?_, ?_⟩
      · unfold cutA at *; rw [List.takeWhile_cons, if_pos hbc, h1]
      · unfold cutR at *; rw [List.dropWhile_cons, if_pos hbc, h2]
      · unfold cutF at *; rw [List.contains_cons, h3]; simp at hb ⊢; exact fun e => hb e.symm
theorem index_hit {l : List UInt8} {c : UInt8} {i : Nat} (h : Lib.indexByte l c = i) : cutA c l = l.take i ∧ cutR c l = l.drop (i + 1) ∧ cutF c l = true ∧ i < l.length := by
  induction l generalizing i with
  | nil => exact absurd h (by unfold Lib.indexByte; omega)
  | cons b l ih =>
    unfold Lib.indexByte at h
    by_cases hb : (b == c) = true
    · rw [if_pos hb] at h
      have h0 : i = 0 := by omega
      subst h0
      have hbc : ¬ (b != c) = true := by simpa using hb
      refine ⟨?_, ?_, ?_, by simp⟩
      · unfold cutA; rw [List.takeWhile_cons, if_neg hbc]; rfl
      · unfold cutR; rw [List.dropWhile_cons, if_neg hbc]
      · unfold cutF; rw [List.contains_cons]; simp at hb ⊢; exact .inl hb.symm
    · rw [if_neg hb] at h
      by_cases hm : (Lib.indexByte l c == -1) = true
      · rw [if_pos hm] at h; omega
      · rw [if_neg hm] at h
        have := Lib.indexByte_ge l c
        have hm' : Lib.indexByte l c ≠ -1 := by simpa using hm
        obtain ⟨j, hj⟩ := Int.eq_ofNat_of_zero_le (show 0 ≤ Lib.indexByte l c by omega)
        obtain ⟨h1, h2, h3, h4⟩ := ih hj
        have hij : i = j + 1 := by omega
        subst hij
        have hbc : (b != c) = true := by simpa using hb
        refine ⟨?_, ?_, ?_, by simp; omega⟩
        · unfold cutA at *; rw [List.takeWhile_cons, if_pos hbc, h1]; rfl
        · unfold cutR at *; rw [List.dropWhile_cons, if_pos hbc, h2]; rfl
        · unfold cutF at *; rw [List.contains_cons, h3]; simp
theorem cut_of_index (l : List UInt8) (c : UInt8) : (Lib.indexByte l c < 0 ∧ cutA c l = l ∧ cutR c l = [] ∧ cutF c l = false) ∨ ∃ i : Nat, Lib.indexByte l c = i ∧ cutA c l = l.take i ∧ cutR c l = l.drop (i + 1) ∧ cutF c l = true ∧ i < l.length := by
  rcases Int.lt_or_le (Lib.indexByte l c) 0 with h | h
  · exact .inl ⟨h, index_miss h⟩
  · obtain ⟨i, hi⟩ := Int.eq_ofNat_of_zero_le h
    exact .inr ⟨i, hi, index_hit hi⟩

end Go.Proofs.YtnklpifnknmdgaaGreatDoor
set_option linter.all false
set_option maxRecDepth 100000
namespace Go.Proofs.YtnklpifnknmdgaaGreatDoor
open Go Go.RowKit

set_option maxHeartbeats 2000000 in
theorem scut_any (l : List UInt8) (c : UInt8) (w : World) (hs : l.length ≤ maxLen) :
    Calls Tryz.prog 181 #[.string (str l), .string ⟨#[c]⟩] w fun e w' => e = .returned (.tuple #[.string (str (cutA c l)), .string (str (cutR c l)), .bool (cutF c l)]) ∧ Below w.heap.size w w' := by
  unfold maxLen at hs
  have hz := str_sz l
  have hx := Tryz.stringslite_Index_one (str l) c w
  rw [str_all] at hx
  have HX := Lib.hid hx
  clear hx
  rcases cut_of_index l c with ⟨h0, h1, h2, h3⟩ | ⟨i, h0, h1, h2, h3, h4⟩
  · rw [h1, h2, h3]
    have HZ := Lib.hid hz
    have HW := Lib.hid (Below.refl w.heap.size w)
    clear h1 h2 h3 hz
    go_enter Tryz.func181, Tryz.ntmps181
    go_wp2_with (go_at_call 78; (with_reducible refine HX.out.mono ?_); rintro e w' ⟨rfl, rfl⟩)
    go_ret3
    exact ⟨rfl, HW.out⟩
  · have e1 : (str l).extract 0 i = str (l.take i) := by rw [str_extract]; rfl
    have e2 : (str l).extract (i + 1) (str l).size = str (l.drop (i + 1)) := by rw [str_extract, hz, List.take_of_length_le (Nat.le_refl _)]
    rw [h1, h2, h3]
    have c1 : (0 : Int) ≤ ↑i := by omega
    have c2 : (↑i : Int) ≤ ↑(str l).size := by omega
    have c3 : (0 : Int) ≤ ↑i + 1 := by omega
    have c4 : (↑i + 1 : Int) ≤ ↑(str l).size := by omega
    have HE := Lib.hid (And.intro e1 e2)
    have HZ := Lib.hid hz
    have HI := Lib.hid h0
    have HW := Lib.hid (Below.refl w.heap.size w)
    clear h0 h1 h2 h3 e1 e2 hz
    go_enter Tryz.func181, Tryz.ntmps181
    go_wp2_with (go_at_call 78; (with_reducible refine HX.out.mono ?_); rintro e w' ⟨rfl, rfl⟩; rw [HI.out])
    go_region
    go_wp2
    go_ret3
    have h := HE.out
    exact ⟨by rw [← h.1, ← h.2]; rfl, by (repeat (first | exact HW.out | with_reducible exact Below.refl _ _ | with_reducible refine Below.alloc ?_ (by first | omega | (simp; omega) | (simp; done)) _ | with_reducible refine below_setRow' ?_ _ _ (by omega) | with_reducible refine Below.setCell ?_ (by first | omega | (dsimp only; omega) | (simp; omega) | (simp; done)) _ | with_reducible refine Below.drew ?_ | with_reducible refine bdrewN ?_ _))⟩
set_option maxHeartbeats 1000000 in
theorem cut_any (l : List UInt8) (c : UInt8) (w : World) (hs : l.length ≤ maxLen) :
    Calls Tryz.prog 156 #[.string (str l), .string ⟨#[c]⟩] w fun e w' => e = .returned (.tuple #[.string (str (cutA c l)), .string (str (cutR c l)), .bool (cutF c l)]) ∧ Below w.heap.size w w' := by
  have HX := Lib.hid (scut_any l c w hs)
  go_enter Tryz.func156, Tryz.ntmps156
  go_wp2_with fail
  refine HX.out.mono ?_
  rintro e w1 ⟨rfl, hb⟩
  go_wp2
  go_ret3
  exact ⟨rfl, hb⟩
end Go.Proofs.YtnklpifnknmdgaaGreatDoor

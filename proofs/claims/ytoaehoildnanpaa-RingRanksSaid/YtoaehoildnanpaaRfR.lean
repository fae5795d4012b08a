/- Contract of the reference's Ring. -/
import Derived.Test.YtoaehoildnanpaaRwl
import Derived.Test.YtoaehoildnanpaaPi
import Derived.Test.YtoaehoildnanpaaRefTr
set_option linter.all false
set_option maxRecDepth 100000
namespace Go.Proofs.Ytoaehoildnanpaa
open Go Go.RowKit

def qbad (x : Int × Int) : Bool := outs x.1 0 4 || outs x.2 0 4
def Pq (l : List (Int × Int)) (a b : Nat) : Bool := decide ((((a : Nat) : Int), ((b : Nat) : Int)) ∈ l)
/-- A row of locks is a ring. -/
def at0 (r : List Nat) (i : Nat) : Nat := r[i]?.getD 0
def isR (P : Nat → Nat → Bool) (r : List Nat) (k : Nat) : Bool := (List.range k).all fun i => P (at0 r i) (at0 r ((i + 1) % r.length))
theorem toI_at (r : List Nat) (k : Nat) : (toI r)[k]?.getD 0 = ((at0 r k : Nat) : Int) := by
  unfold toI at0; rw [List.getElem?_map]; cases r[k]? <;> rfl
theorem isR_zero (P : Nat → Nat → Bool) (r : List Nat) : isR P r 0 = true := rfl
theorem isR_succ (P : Nat → Nat → Bool) (r : List Nat) (k : Nat) : isR P r (k + 1) = (isR P r k && P (at0 r k) (at0 r ((k + 1) % r.length))) := by
  unfold isR; rw [List.range_succ, List.all_append]; simp
def noR (P : Nat → Nat → Bool) (m : Nat) : Prop := ∀ j, 1 ≤ j → j < m → ∀ r ∈ rowsL j, isR P r j = false
def RingR (P : Nat → Nat → Bool) (r : List Nat) : Prop :=
  (r = [] ∧ noR P 6) ∨ ∃ m i, 1 ≤ m ∧ m ≤ 5 ∧ (rowsL m)[i]? = some r ∧ isR P r m = true ∧ noR P m ∧ ∀ s ∈ (rowsL m).take i, isR P s m = false
def RingA (l : List (Int × Int)) (r : List Nat) (c : Int) : Prop :=
  (l.any qbad = true ∧ r = [] ∧ c = 1) ∨ (l.any qbad = false ∧ c = 0 ∧ RingR (Pq l) r)
def RfRPost (w : World) (l : List (Int × Int)) (e : Ending) (w' : World) : Prop :=
  ∃ v r c, e = .returned (.tuple #[v, .int .i64 c]) ∧ RingA l r c ∧ w'.ownsRow w.heap.size 3 1 v r.length (intq (toI r)) ∧ Below w.heap.size w w'
set_option maxHeartbeats 16000000 in
theorem refring_any (A : Option Addr) (n c : Nat) (l : List (Int × Int)) (w : World) (h : SlQ w A n l) (hm : n ≤ maxLen) : Calls Try.prog 18 #[.slice A n c] w (RfRPost w l) := by
  have hm' : n ≤ 9223372036854775807 := by unfold maxLen at hm; omega
  have HL := Lib.hid h
  clear h hm
  go_enter Try.func18, Try.ntmps18
  go_wp2
  go_loopw [14] (fun t wr => ∃ k : Nat, k ≤ n ∧ t = .int .i64 k ∧ (∀ x ∈ l.take k, qbad x = false) ∧ Bel w wr) (fun t _ => n - (intOf t).toNat)
  case atStart => exact ⟨0, by omega, rfl, by simp, Bel.refl _⟩
  case round =>
    obtain ⟨k, hk, rfl, hd, hbr⟩ := hrel
    have HD := Lib.hid hd
    have HB := Lib.hid hbr
    clear hd hbr
    by_cases hlt : k < n
    · obtain ⟨b, off, e, rfl, hb, he, hrg⟩ := (HL.out.bel HB.out).at_ hlt
      have hlt' : (k : Int) < n := by omega
      have HR := Lib.hid hrg
      have HE := Lib.hid he
      have HB1 := Lib.hid (HB.out.trans (qwld_below wr e 31))
      have c0 : (qwld wr e 31).cell? ⟨wr.heap.size, 0, none⟩ = some (.int .i64 e.1) := (qwld_box wr e 31).cell 0 rfl
      have c1 : (qwld wr e 31).cell? ⟨wr.heap.size, 1, none⟩ = some (.int .i64 e.2) := (qwld_box wr e 31).cell 1 rfl
      clear hrg he hb
      have ST := Lib.hid (show l.any qbad = true → RingA l [] 1 from fun h => .inl ⟨h, rfl, rfl⟩)
      have MM := Lib.hid (List.mem_of_getElem? HE.out)
      cases h1 : outs e.1 0 4
      · cases h2 : outs e.2 0 4
        · have HN := Lib.hid (show ∀ x ∈ l.take (k + 1), qbad x = false from fun x hx => by
            rcases (qmem_take_succ HE.out x).1 hx with hx | rfl
            · exact HD.out x hx
            · simp [qbad, h1, h2])
          have H1 := Lib.hid h1
          have H2 := Lib.hid h2
          clear h1 h2
          go_wp2_with (first | (refine load_qr TPr _ rfl rfl rfl HR.out ?_) | (refine qwld_store TPr _ _ rfl rfl _ rfl rfl rfl ?_))
          refine (outside_any _ _ _ _).mono ?_
          rintro _ _ ⟨rfl, rfl⟩
          rw [H1.out]
          go_wp2_with fail
          refine (outside_any _ _ _ _).mono ?_
          rintro _ _ ⟨rfl, rfl⟩
          rw [H2.out]
          go_wp2
          go_roundw
          case rel => exact ⟨k + 1, by omega, by go_num, HN.out, HB1.out⟩
          case measure => simp [intOf]; omega
        · have HG := Lib.hid (ST.out (List.any_eq_true.2 ⟨e, MM.out, by simp [qbad, h2]⟩))
          have H1 := Lib.hid h1
          have H2 := Lib.hid h2
          clear h1 h2
          go_wp2_with (first | (refine load_qr TPr _ rfl rfl rfl HR.out ?_) | (refine qwld_store TPr _ _ rfl rfl _ rfl rfl rfl ?_))
          refine (outside_any _ _ _ _).mono ?_
          rintro _ _ ⟨rfl, rfl⟩
          rw [H1.out]
          go_wp2_with fail
          refine (outside_any _ _ _ _).mono ?_
          rintro _ _ ⟨rfl, rfl⟩
          rw [H2.out]
          go_wp2
          go_ret2
          exact ⟨_, [], 1, rfl, HG.out, World.ownsRow_nil _ _ _ _, HB1.out⟩
      · have HG := Lib.hid (ST.out (List.any_eq_true.2 ⟨e, MM.out, by simp [qbad, h1]⟩))
        have H1 := Lib.hid h1
        clear h1
        go_wp2_with (first | (refine load_qr TPr _ rfl rfl rfl HR.out ?_) | (refine qwld_store TPr _ _ rfl rfl _ rfl rfl rfl ?_))
        refine (outside_any _ _ _ _).mono ?_
        rintro _ _ ⟨rfl, rfl⟩
        rw [H1.out]
        go_wp2
        go_ret2
        exact ⟨_, [], 1, rfl, HG.out, World.ownsRow_nil _ _ _ _, HB1.out⟩
    · obtain rfl : k = n := by omega
      have HG := Lib.hid (show l.any qbad = false from by
        rw [List.any_eq_false]; intro x hx
        have := HD.out x (by rw [qtake_all HL.out]; exact hx)
        simp [this])
      have HP0 := Lib.hid (show noR (Pq l) 1 from fun j h1 h2 => absurd h1 (by omega))
      go_wp2
      go_loopw [6] (fun t wq => ∃ m : Nat, 1 ≤ m ∧ m ≤ 6 ∧ t = .int .i64 m ∧ noR (Pq l) m ∧ Bel w wq) (fun t _ => 6 - (intOf t).toNat)
      case atStart => exact ⟨1, by omega, by omega, rfl, HP0.out, HB.out⟩
      case round =>
        obtain ⟨m, hm1, hm6, rfl, hno, hbq⟩ := hrel
        have HNO := Lib.hid hno
        have HBQ := Lib.hid hbq
        clear hno hbq HP0
        by_cases hm5 : m ≤ 5
        · have hm5' : (m : Int) ≤ 5 := by omega
          have HLN := Lib.hid (rowsL_len m (by omega))
          go_wp2_with fail
          refine (rows_any m _ _ hm5 rfl).mono ?_
          rintro e w1 ⟨v1, xs1, rfl, hr1, hb1⟩
          have HR1 := Lib.hid (hr1.drop (Bel.size HBQ.out))
          have HB1 := Lib.hid (HBQ.out.call hb1)
          obtain ⟨A1, c1, rfl, hc1⟩ := hr1.sl
          have HC1 := Lib.hid hc1
          clear hr1 hb1 hc1
          generalize hN : (rowsL m).length = N at *
          have HN := Lib.hid hN
          have hn120 := HLN.out
          clear hN
          go_wp2
          go_loopw [34] (fun t wq => ∃ i : Nat, i ≤ N ∧ t = .int .i64 i ∧ (∀ s ∈ (rowsL m).take i, isR (Pq l) s m = false) ∧ Bel w1 wq) (fun t _ => N - (intOf t).toNat)
          case atStart => exact ⟨0, by omega, rfl, by simp, Bel.refl _⟩
          case round =>
            obtain ⟨i, hi, rfl, hno, hbi⟩ := hrel
            have HNI := Lib.hid hno
            have HBI := Lib.hid hbi
            clear hno hbi
            by_cases hlt : i < N
            · have hlt' : (i : Int) < N := by omega
              have hiL : i < (rowsL m).length := by rw [HN.out]; exact hlt
              have hix : i < xs1.length := by rw [HR1.out.len]; exact hiL
              have hq : (rowsL m)[i]? = some ((rowsL m)[i]) := List.getElem?_eq_getElem hiL
              have hqx : xs1[i]? = some (xs1[i]) := List.getElem?_eq_getElem hix
              generalize (rowsL m)[i] = r at *
              generalize xs1[i] = x at *
              have hrx := HR1.out.row i r x hq hqx
              obtain ⟨b1, o1, rfl, hcell⟩ := HC1.out i x hqx
              have hcell' := HBI.out.cell hcell
              have hrl : r.length = m := (rows_mem.1 (List.mem_of_getElem? hq)).1
              obtain ⟨Ax, nx, cx, rfl, hsx, hmx⟩ := (own_int hrx).form
              obtain rfl : nx = m := by rw [← hsx.1]; simp [toI, hrl]
              obtain ⟨g, o, rfl, hce⟩ := hsx.2 (by omega)
              have HX := Lib.hid hrx
              have HCE := Lib.hid hce
              have HQ := Lib.hid hq
              have HRL := Lib.hid hrl
              clear hcell hq hqx hrx hsx hmx hrl hce
              go_wp2
              go_loopw [9, 40] (fun u t wq => ∃ k : Nat, k ≤ nx ∧ t = .int .i64 k ∧ u = .bool (isR (Pq l) r k) ∧ Bel w1 wq) (fun _ t _ => nx - (intOf t).toNat)
              case atStart => exact ⟨0, by omega, rfl, rfl, HBI.out⟩
              case round =>
                obtain ⟨k, hk, rfl, rfl, hbk⟩ := hrel
                have HBK := Lib.hid hbk
                clear hbk hcell'
                by_cases hkm : k < nx
                · have hkm' : (k : Int) < nx := by omega
                  have hj : (k + 1) % nx < nx := Nat.mod_lt _ (by omega)
                  have d0 : wr.cell? ⟨g, o + k, none⟩ = some (.int .i64 (at0 r k)) := by
                    have := HCE.out k hkm; rw [toI_at] at this; exact HBK.out.cell this
                  have d1 : wr.cell? ⟨g, o + (k + 1) % nx, none⟩ = some (.int .i64 (at0 r ((k + 1) % nx))) := by
                    have := HCE.out _ hj; rw [toI_at] at this; exact HBK.out.cell this
                  have d2 : ((k : Int) + 1) % (nx : Int) = (((k + 1) % nx : Nat) : Int) := by push_cast; rfl
                  have SC := Lib.hid (isR_succ (Pq l) r k)
                  cases hres : isR (Pq l) r k
                  · have SF := Lib.hid (show isR (Pq l) r (k + 1) = false by rw [SC.out, hres]; rfl)
                    clear hj d1 d2
                    go_wp2
                    go_roundw
                    case rel => exact ⟨k + 1, by omega, by go_num, by rw [SF.out], HBK.out⟩
                    case measure => simp [intOf]; omega
                  · have SF := Lib.hid (show isR (Pq l) r (k + 1) = Pq l (at0 r k) (at0 r ((k + 1) % nx)) by rw [SC.out, hres, HRL.out]; rfl)
                    clear hres
                    generalize (k + 1) % nx = j at *
                    have hj' : (j : Int) < nx := by omega
                    go_wp2_with fail
                    refine (hasp_any _ _ c l (((at0 r k : Nat) : Int), ((at0 r j : Nat) : Int)) _ (HL.out.bel ((HB1.out.trans HBK.out))) hm').mono ?_
                    rintro e w9 ⟨rfl, hb9⟩
                    have HB9 := Lib.hid (HBK.out.call hb9)
                    clear hb9
                    have SF2 := Lib.hid (SF.out.trans (show Pq l (at0 r k) (at0 r j) = decide ((((at0 r k : Nat) : Int), ((at0 r j : Nat) : Int)) ∈ l) from rfl))
                    generalize decide ((((at0 r k : Nat) : Int), ((at0 r j : Nat) : Int)) ∈ l) = q at *
                    go_wp2
                    go_roundw
                    case rel => exact ⟨k + 1, by omega, by go_num, by rw [SF2.out], HB9.out⟩
                    case measure => simp [intOf]; omega
                · obtain rfl : k = nx := by omega
                  cases hres : isR (Pq l) r k
                  · have HNS := Lib.hid (show ∀ s ∈ (rowsL k).take (i + 1), isR (Pq l) s k = false from fun s hs => by
                      rw [List.take_succ_eq_append_getElem (List.getElem?_eq_some_iff.1 HQ.out).1, List.mem_append, List.mem_singleton] at hs
                      rcases hs with hs | rfl
                      · exact HNI.out s hs
                      · rw [(List.getElem?_eq_some_iff.1 HQ.out).2]; exact hres)
                    clear hres
                    go_wp2
                    go_roundw
                    case rel => exact ⟨i + 1, by omega, by go_num, HNS.out, HBK.out⟩
                    case measure => simp [intOf]; omega
                  · have HRA := Lib.hid (show RingA l r 0 from .inr ⟨HG.out, rfl, .inr ⟨k, i, hm1, hm5, HQ.out, hres, HNO.out, HNI.out⟩⟩)
                    clear hres
                    go_wp2
                    go_ret2
                    exact ⟨_, r, 0, rfl, HRA.out, by rw [HRL.out]; have := own_bel HX.out HBK.out; rw [HRL.out] at this; exact this, HB1.out.trans HBK.out⟩
            · obtain rfl : i = N := by omega
              have HS := Lib.hid (show noR (Pq l) (m + 1) from fun j h1 h2 r hr => by
                rcases Nat.lt_or_ge j m with hj | hj
                · exact HNO.out j h1 hj r hr
                · obtain rfl : j = m := by omega
                  exact HNI.out r (by rw [← HN.out, List.take_length]; exact hr))
              go_wp2
              go_roundw
              case rel => exact ⟨m + 1, by omega, by omega, by go_num, HS.out, HB1.out.trans HBI.out⟩
              case measure => simp [intOf]; omega
        · obtain rfl : m = 6 := by omega
          have HRA := Lib.hid (show RingA l [] 0 from .inr ⟨HG.out, rfl, .inl ⟨rfl, HNO.out⟩⟩)
          go_wp2
          go_ret2
          exact ⟨_, [], 0, rfl, HRA.out, World.ownsRow_nil _ _ _ _, HBQ.out⟩
end Go.Proofs.Ytoaehoildnanpaa

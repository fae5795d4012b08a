/- Contracts of the package race: First. -/
import Derived.Test.YtbkciglapambgaaSec
set_option linter.all false
set_option maxRecDepth 100000
namespace Go.Proofs.Ytbkciglapambgaa
open Go Go.RowKit

/-- The seconds of a trace, ascending. -/
def secs (l : List Ev) : List Int := dd ((rcs l).map fB)
theorem secs_mem {l : List Ev} {y : Int} (h : y ∈ secs l) : ∃ r ∈ rcs l, y = (r.b : Int) ∧ r.b < l.length := by
  obtain ⟨r, hr, rfl⟩ := List.mem_map.1 (dd_mem.1 h)
  refine ⟨r, hr, rfl, ?_⟩
  unfold rcs at hr
  split at hr
  · obtain ⟨a, b, _, h2, _⟩ := mem_rcsA hr
    exact (List.getElem?_eq_some_iff.1 h2).1
  · cases hr
def isV (x : Int) : Bool := inB x 8
def objB (l : List Ev) (x : Int) (y : Int) : Bool := (evZ l y.toNat).o == x
def fst (l : List Ev) (x : Int) : Option Int := if may l = 0 ∧ isV x = true then (secs l).find? (objB l x) else none
def fstE (l : List Ev) (x : Int) : Int := if may l ≠ 0 then may l else if isV x = true then 0 else 1
def fstA (l : List Ev) (x : Int) : Int := (fst l x).getD 0
def fstI (l : List Ev) (x : Int) : Bool := (fst l x).isSome
theorem fst_bad {l : List Ev} {x : Int} (h : ¬ (may l = 0 ∧ isV x = true)) : fst l x = none := by unfold fst; rw [if_neg h]
theorem fst_ok {l : List Ev} {x : Int} (h : may l = 0) (hx : isV x = true) : fst l x = (secs l).find? (objB l x) := by unfold fst; rw [if_pos ⟨h, hx⟩]
theorem find_hit {p : Int → Bool} {ss : List Int} {k : Nat} {y : Int} (h0 : ∀ z ∈ ss.take k, p z = false) (hk : ss[k]? = some y) (hy : p y = true) : ss.find? p = some y := by
  have hi := List.getElem?_eq_some_iff.1 hk
  have e : ss = ss.take k ++ y :: ss.drop (k + 1) := by
    rw [← hi.2, List.getElem_cons_drop, List.take_append_drop]
  rw [e, List.find?_append, List.find?_eq_none.2 (fun z hz => by rw [h0 z hz]; decide), List.find?_cons_of_pos hy]
  rfl
theorem find_miss {p : Int → Bool} {ss : List Int} (h0 : ∀ z ∈ ss, p z = false) : ss.find? p = none := List.find?_eq_none.2 fun z hz => by rw [h0 z hz]; decide
set_option maxHeartbeats 8000000 in
theorem first_any (A : Option Addr) (n c : Nat) (l : List Ev) (x : Int) (w : World) (hl : Sl w A n l) :
    Calls Try.prog 22 #[.slice A n c, .int .i64 x] w fun e w' => e = .returned (.tuple #[.int .i64 (fstA l x), .bool (fstI l x), .int .i64 (fstE l x)]) ∧ Below w.heap.size w w' := by
  have hw0 := Bel.refl w
  have HL := Lib.hid hl
  have HN := Lib.hid hl.1
  cases h1 : (may l != 0)
  · have hm : may l = 0 := by simpa using h1
    have HM := Lib.hid hm
    cases hx : isV x
    · have HA := Lib.hid (show fstA l x = 0 by unfold fstA; rw [fst_bad (fun h => by rw [hx] at h; cases h.2)]; rfl)
      have HI := Lib.hid (show fstI l x = false by unfold fstI; rw [fst_bad (fun h => by rw [hx] at h; cases h.2)]; rfl)
      have HE := Lib.hid (show fstE l x = 1 by unfold fstE; rw [if_neg (by rw [hm]; decide), hx]; rfl)
      have hxx : ¬ (0 ≤ x ∧ x < 8) := fun h => by unfold isV at hx; rw [inB_yes h.1 h.2] at hx; cases hx
      clear hl hm hx
      by_cases h0 : x < 0
      · clear hxx
        go_enter Try.func22, Try.ntmps22
        go_wp2_with fail
        refine (seconds_any A n c l _ HL.out).mono ?_
        rintro e1 w1 ⟨v1, rfl, hs1, hb1⟩
        have hw1 := hw0.call hb1
        clear hb1
        rw [HM.out]
        clear hs1
        go_wp2
        go_ret3
        exact ⟨by rw [HA.out, HI.out, HE.out]; rfl, hw1⟩
      · have h8 : 8 ≤ x := by omega
        clear hxx
        go_enter Try.func22, Try.ntmps22
        go_wp2_with fail
        refine (seconds_any A n c l _ HL.out).mono ?_
        rintro e1 w1 ⟨v1, rfl, hs1, hb1⟩
        have hw1 := hw0.call hb1
        clear hb1
        rw [HM.out]
        clear hs1
        go_wp2
        go_ret3
        exact ⟨by rw [HA.out, HI.out, HE.out]; rfl, hw1⟩
    · have HF := Lib.hid (fst_ok hm hx)
      have HE := Lib.hid (show fstE l x = 0 by unfold fstE; rw [if_neg (by rw [hm]; decide), hx]; rfl)
      have hxx := inB_iff.1 hx
      obtain ⟨hx0, hx8⟩ := hxx
      have HSM := Lib.hid (fun (y : Int) (h : y ∈ secs l) => secs_mem h)
      have HAA := Lib.hid (show fstA l x = (fst l x).getD 0 from rfl)
      have HII := Lib.hid (show fstI l x = (fst l x).isSome from rfl)
      clear hl hm hx
      go_enter Try.func22, Try.ntmps22
      go_wp2_with fail
      refine (seconds_any A n c l _ HL.out).mono ?_
      rintro e1 w1 ⟨v1, rfl, hs1, hb1⟩
      have hw1 := hw0.call hb1
      clear hb1
      rw [HM.out]
      change SlI w1 v1 (secs l) at hs1
      generalize hss : secs l = ss at *
      obtain ⟨A1, n1, c1, rfl, hs1, hm1⟩ := SlI.form hs1
      have HS1 := Lib.hid hs1
      have HW1 := Lib.hid hw1
      have HLW := Lib.hid (HL.out.bel hw1)
      unfold maxLen at hm1
      clear hs1 hw1 hss hw0
      go_wp2
      go_loop [27] (fun t => ∃ k : Nat, k ≤ n1 ∧ t = .int .i64 k ∧ ∀ z ∈ ss.take k, objB l x z = false) (fun t => n1 - (intOf t).toNat)
      case atStart => exact ⟨0, by omega, rfl, by simp⟩
      case round =>
        obtain ⟨k, hk, rfl, hd⟩ := hrel
        have HD := Lib.hid hd
        clear hd
        by_cases hlt : k < n1
        · obtain ⟨sb, so, rfl, hc⟩ := HS1.out.2 (by omega)
          have hc1 := hc k hlt
          have hkl : k < ss.length := by rw [HS1.out.1]; exact hlt
          have hlt' : (k : Int) < n1 := by omega
          have he : ss[k]? = some ss[k] := List.getElem?_eq_getElem hkl
          obtain ⟨r, hr, hy, hrn⟩ := HSM.out _ (List.getElem_mem hkl)
          rw [he, Option.getD_some, hy] at hc1
          rw [hy] at he
          have HK := Lib.hid he
          have hrn' : r.b < n := by rw [← HN.out]; exact hrn
          obtain ⟨bb, off, ev, rfl, hbb, hev, hrg⟩ := HLW.out.at_ hrn'
          have e2 : w1.cell? ⟨bb, off + r.b * 3 + 2, none⟩ = some (.int .i64 ev.o) := hrg 2 _ rfl
          have HO := Lib.hid (show objB l x (r.b : Int) = (ev.o == x) by unfold objB; rw [show ((r.b : Int)).toNat = r.b from by omega, evZ_at hev])
          have hb0 : (0 : Int) ≤ (r.b : Int) := by omega
          have hbn : (r.b : Int) < n := by omega
          clear hc he hr hy hrn hev hrg
          cases hq : (ev.o == x)
          · have HT := Lib.hid (show ∀ z ∈ ss.take (k + 1), objB l x z = false by
              intro z hz
              rw [List.take_succ, HK.out] at hz
              rcases List.mem_append.1 hz with h | h
              · exact HD.out z h
              · simp at h; subst h; rw [HO.out, hq])
            go_wp2
            go_round
            case rel => exact ⟨k + 1, by omega, by go_num, HT.out⟩
            case measure => simp [intOf]; omega
          · have HH := Lib.hid (find_hit HD.out HK.out (by rw [HO.out, hq]))
            go_wp2
            go_ret3
            exact ⟨by rw [HAA.out, HII.out, HE.out, HF.out, HH.out]; rfl, HW1.out⟩
        · obtain rfl : k = n1 := by omega
          have HH := Lib.hid (find_miss (p := objB l x) (ss := ss) (by have := HD.out; rwa [← HS1.out.1, List.take_length] at this))
          go_wp2
          go_ret3
          exact ⟨by rw [HAA.out, HII.out, HE.out, HF.out, HH.out]; rfl, HW1.out⟩
  · have hm : may l ≠ 0 := by simpa using h1
    have HA := Lib.hid (show fstA l x = 0 by unfold fstA; rw [fst_bad (fun h => hm h.1)]; rfl)
    have HI := Lib.hid (show fstI l x = false by unfold fstI; rw [fst_bad (fun h => hm h.1)]; rfl)
    have HE := Lib.hid (show fstE l x = may l by unfold fstE; rw [if_pos hm])
    clear hl hm
    go_enter Try.func22, Try.ntmps22
    go_wp2_with fail
    refine (seconds_any A n c l _ HL.out).mono ?_
    rintro e1 w1 ⟨v1, rfl, hs1, hb1⟩
    have hw1 := hw0.call hb1
    clear hb1
    clear hs1
    go_wp2
    go_ret3
    exact ⟨by rw [HA.out, HI.out, HE.out]; rfl, hw1⟩
end Go.Proofs.Ytbkciglapambgaa

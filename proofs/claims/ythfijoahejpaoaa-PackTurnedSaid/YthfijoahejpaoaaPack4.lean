/- Contracts of the package pack: Read. -/
import Derived.Test.YthfijoahejpaoaaPack2
import Derived.Test.YthfijoahejpaoaaBytes
import Derived.Laws.Strings3
set_option linter.all false
set_option maxRecDepth 100000
namespace Go.Proofs.Ythfijoahejpaoaa
open Go Go.RowKit

def PReadPost (w : World) (s : List UInt8) (e : Ending) (w' : World) : Prop :=
  ∃ v, e = .returned (.tuple #[v, .int .i64 (packReadL s).2]) ∧ w'.ownsRow w.heap.size 31 3 v (packReadL s).1.length (evc (packReadL s).1) ∧ Below w.heap.size w w'
theorem readP_short {s : List UInt8} (h : s.length < 4) : packReadL s = ([], 4) := by unfold packReadL; rw [if_pos h]
/-- A text of four bytes or more, in its parts. -/
theorem parts {s : List UInt8} (h : ¬ s.length < 4) : ∃ (m n : UInt8) (r : List UInt8) (a b : UInt8), s = (m :: n :: r) ++ [a, b] := by
  have h1 : (s.drop (s.length - 2)).length = 2 := by rw [List.length_drop]; omega
  have h2 : (s.take (s.length - 2)).length ≥ 2 := by rw [List.length_take]; omega
  have h3 := List.take_append_drop (s.length - 2) s
  generalize s.drop (s.length - 2) = q at *
  generalize s.take (s.length - 2) = p at *
  match p, h2, q, h1 with
  | m :: n :: r, _, [a, b], _ => exact ⟨m, n, r, a, b, h3.symm⟩
theorem readP_parts (m n a b : UInt8) (r : List UInt8) : packReadL (m :: n :: (r ++ [a, b])) =
    if (sumN (m :: n :: r) : Int) % 65536 = (a.toNat : Int) * 256 + b.toNat then (if wholeL (m :: n :: r) = true ∧ may (evsL r) = 0 then (evsL r, 0) else ([], 5)) else ([], 6) := by
  obtain ⟨h1, h2⟩ := take_body (m :: n :: r) [a, b] rfl
  show packReadL ((m :: n :: r) ++ [a, b]) = _
  unfold packReadL
  rw [if_neg (by simp), h1, h2]
  by_cases h : [a, b] = sumL (sumN (m :: n :: r))
  · have h3 := (sumL_eq _ _ _).1 h
    have h4 : (sumN (m :: n :: r) : Int) % 65536 = (a.toNat : Int) * 256 + b.toNat := by omega
    rw [if_pos h4, if_neg (by simpa using h)]
    rfl
  · have h3 := fun hh => h ((sumL_eq _ _ _).2 hh)
    have h4 : ¬ (sumN (m :: n :: r) : Int) % 65536 = (a.toNat : Int) * 256 + b.toNat := fun hh => h3 (by omega)
    rw [if_neg h4, if_pos (by simpa using h)]
set_option maxHeartbeats 4000000 in
theorem kread_any (s : List UInt8) (hs : s.length ≤ 140737488355328) (w : World) : Calls Try.prog 10 #[.string (str s)] w (PReadPost w s) := by
  have hz := str_sz s
  have hw0 := Bel.refl w
  by_cases h4 : s.length < 4
  · have HV := Lib.hid (readP_short h4)
    have h0 : ((str s).size : Int) < 4 := by omega
    have HW := Lib.hid hw0
    clear hz hw0
    go_enter Try.func10, Try.ntmps10
    go_wp2
    go_ret2
    exact ⟨.slice none 0 0, by rw [HV.out]; rfl, by rw [HV.out]; exact World.ownsRow_nil .., HW.out⟩
  · obtain ⟨m, n, r, a, b, rfl⟩ := parts h4
    have hlen : ((m :: n :: r) ++ [a, b]).length = r.length + 4 := by simp
    have HR := Lib.hid (readP_parts m n a b r)
    have e1 : (str ((m :: n :: r) ++ [a, b])).extract 0 (r.length + 2) = str (m :: n :: r) := by
      rw [str_extract, show r.length + 2 = (m :: n :: r).length from rfl, List.take_left]; rfl
    have e2 : (str ((m :: n :: r) ++ [a, b])).extract (r.length + 2) (r.length + 4) = str [a, b] := by
      rw [str_extract, ← hlen, List.take_length, show r.length + 2 = (m :: n :: r).length from rfl, List.drop_left]
    have e3 : (str (m :: n :: r)).extract 2 (r.length + 2) = str r := by
      rw [str_extract, show r.length + 2 = (m :: n :: r).length from rfl, List.take_length]; rfl
    have HL := Lib.hid (show (m :: n :: r).length ≤ maxLen by unfold maxLen; simp; omega)
    have hz2 : (str (m :: n :: r)).size = r.length + 2 := str_sz _
    have HL2 := Lib.hid (show r.length ≤ 9223372036854775000 by omega)
    rw [hlen] at hz
    have HZ := Lib.hid (And.intro e3 hz2)
    have HS := Lib.hid hs
    generalize str ((m :: n :: r) ++ [a, b]) = S at *
    have f0 : ¬ (r.length : Int) + 4 < 4 := by omega
    have f1 : IntKind.i64.wrap ((r.length : Int) + 4 - 2) = r.length + 2 := by rw [IntWalk.i64_in _ (by omega)]; omega
    have f2 : ((r.length : Int) + 2).toNat = r.length + 2 := by omega
    have f3 : 0 ≤ (r.length : Int) + 2 := by omega
    have f4 : (r.length : Int) + 2 ≤ r.length + 4 := by omega
    clear e3 hz2 hlen h4 hs
    go_enter Try.func10, Try.ntmps10
    go_wp2
    (refine region_bel (by kernel_rfl) (by kernel_rfl) ?_; (repeat (first | (refine BigFrame.wpQuiet_skip rfl ?_; simp only [Act.put, Act.eval, List.setIfInBounds_toArray, List.set_cons_zero, List.set_cons_succ, Array.getD_eq_getD_getElem?, List.getElem?_toArray, List.getElem?_cons_zero, List.getElem?_cons_succ, Option.getD_some]) | (refine q_move _ rfl rfl ?_; simp only [Act.put, Act.eval, List.setIfInBounds_toArray, List.set_cons_zero, List.set_cons_succ, Array.getD_eq_getD_getElem?, List.getElem?_toArray, List.getElem?_cons_zero, List.getElem?_cons_succ, Option.getD_some]) | (refine q_assign _ rfl rfl ?_; simp only [Act.put, Act.eval, List.setIfInBounds_toArray, List.set_cons_zero, List.set_cons_succ, Array.getD_eq_getD_getElem?, List.getElem?_toArray, List.getElem?_cons_zero, List.getElem?_cons_succ, Option.getD_some]) | (refine q_any rfl ?_; apply Exists.intro; refine ⟨fun w hw => ?_, ?_⟩; (go_simp; first | exact ⟨rfl, rfl⟩ | rfl); simp only [Act.put, Act.eval, List.setIfInBounds_toArray, List.set_cons_zero, List.set_cons_succ, Array.getD_eq_getD_getElem?, List.getElem?_toArray, List.getElem?_cons_zero, List.getElem?_cons_succ, Option.getD_some]))); refine wpQuiet_nil ?_; intro w2 hw2)
    have HW2 := Lib.hid hw2
    clear hw0 hw2 e1 e2 f0 f1 f2 f3 f4
    go_wp2_with fail
    refine (checksum_any _ HL.out _).mono ?_
    rintro _ _ ⟨rfl, rfl⟩
    go_wp2_with fail
    refine (number_any a b _).mono ?_
    rintro e3 w3 ⟨rfl, hb3⟩
    have hw3 := HW2.out.call hb3
    clear hb3
    by_cases hq : (sumN (m :: n :: r) : Int) % 65536 = (a.toNat : Int) * 256 + b.toNat
    · rw [if_pos hq] at HR
      have hne : ((sumN (m :: n :: r) : Int) % 65536 != (a.toNat : Int) * 256 + b.toNat) = false := by simpa using hq
      by_cases hwh : wholeL (m :: n :: r) = true
      · have hr5 : r.length ≤ 1000000 := by
          have h1 := hwh
          have := n.toNat_lt
          simp only [wholeL, Bool.and_eq_true, beq_iff_eq] at h1
          omega
        have e3 := HZ.out.1
        have hz2 := HZ.out.2
        have g1 : 2 ≤ (r.length : Int) + 2 := by omega
        go_wp2_with fail
        refine (isWhole_any m n r HL2.out _).mono ?_
        rintro _ _ ⟨rfl, rfl⟩
        rw [hwh]
        rw [hwh] at HR
        clear hne hwh
        go_wp2_with fail
        refine (events_any r hr5 _).mono ?_
        rintro e4 w4 ⟨v4, rfl, hown4, hb4⟩
        have hw4 := hw3.call hb4
        obtain ⟨A4, c4, rfl, hs4, hc4, hm4⟩ := Sl.own hown4
        have HS4 := Lib.hid hs4
        have HO := Lib.hid (own_drop_alloc hown4 hw3.size)
        clear hb4 hown4 hs4
        go_wp2_with fail
        refine (check_any A4 _ c4 _ _ HS4.out).mono ?_
        rintro e6 w6 ⟨rfl, hb6⟩
        have HB6 := Lib.hid (hw4.call hb6)
        have HO6 := Lib.hid (own_bel HO.out (Bel.of hb6))
        clear hb6
        cases hmy : (may (evsL r) != 0)
        · have hz0 : ((check (evsL r)).2 != 0) = false := hmy
          have HM : may (evsL r) = 0 := by simpa using hmy
          rw [if_pos (by exact ⟨trivial, HM⟩)] at HR
          clear hmy HM
          go_wp2
          go_ret2
          refine ⟨.slice A4 (evsL r).length c4, ?_, ?_, HB6.out⟩
          · rw [HR.out]; rfl
          · rw [HR.out]; exact HO6.out
        · have hz0 : ((check (evsL r)).2 != 0) = true := hmy
          have HM : ¬ may (evsL r) = 0 := by simpa using hmy
          rw [if_neg (fun h => HM h.2)] at HR
          clear hmy HM
          go_wp2
          go_ret2
          exact ⟨.slice none 0 0, by rw [HR.out]; rfl, by rw [HR.out]; exact World.ownsRow_nil .., HB6.out⟩
      · have hwf : wholeL (m :: n :: r) = false := by simpa using hwh
        rw [if_neg (fun h => hwh h.1)] at HR
        go_wp2_with fail
        refine (isWhole_any m n r HL2.out _).mono ?_
        rintro _ _ ⟨rfl, rfl⟩
        rw [hwf]
        go_wp2
        go_ret2
        exact ⟨.slice none 0 0, by rw [HR.out]; rfl, by rw [HR.out]; exact World.ownsRow_nil .., hw3⟩
    · rw [if_neg hq] at HR
      have hne : ((sumN (m :: n :: r) : Int) % 65536 != (a.toNat : Int) * 256 + b.toNat) = true := by simpa using hq
      go_wp2
      go_ret2
      exact ⟨.slice none 0 0, by rw [HR.out]; rfl, by rw [HR.out]; exact World.ownsRow_nil .., hw3⟩
end Go.Proofs.Ythfijoahejpaoaa

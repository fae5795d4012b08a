/- Contracts of the reference: PackRead. -/
import Derived.Test.YthfijoahejpaoaaRefPk
import Derived.Test.YthfijoahejpaoaaPack4
set_option linter.all false
set_option maxRecDepth 100000
namespace Go.Proofs.Ythfijoahejpaoaa
open Go Go.RowKit

def strLen : Value → Nat
  | .string b => b.size
  | _ => 0
theorem drop_two {l : List UInt8} {i : Nat} (h : i + 1 < l.length) : l.drop i = l[i]'(by omega) :: l[i + 1] :: l.drop (i + 2) := by
  rw [List.drop_eq_getElem_cons (by omega), List.drop_eq_getElem_cons h]
structure QRel (w : World) (s : List UInt8) (i : Nat) (v t : Value) (wr : World) : Prop where
  own : wr.ownsRow w.heap.size 31 3 v i (evc ((evsL s).take i))
  rest : t = .string (str (s.drop (2 * i)))
  below : Bel w wr
theorem evsL_take_snoc {s : List UInt8} {i : Nat} (h : 2 * i + 1 < s.length) : (evsL s).take (i + 1) = (evsL s).take i ++ [evAt (s[2 * i]'(by omega)) (s[2 * i + 1])] := take_snoc (evsL_get s i h)
set_option maxHeartbeats 8000000 in
theorem krread_any (s : List UInt8) (hs : s.length ≤ 2000000000000) (w : World) : Calls Try.prog 11 #[.string (str s)] w (PReadPost w s) := by
  have hz := str_sz s
  have hw0 := Bel.refl w
  by_cases h4 : s.length < 4
  · have HV := Lib.hid (readP_short h4)
    have h0 : ((str s).size : Int) < 4 := by omega
    have HW := Lib.hid hw0
    clear hz hw0
    go_enter Try.func11, Try.ntmps11
    go_wp2
    go_ret2
    exact ⟨.slice none 0 0, by rw [HV.out]; rfl, by rw [HV.out]; exact World.ownsRow_nil .., HW.out⟩
  · obtain ⟨m, n, r, a, b, rfl⟩ := parts h4
    have hlen : ((m :: n :: r) ++ [a, b]).length = r.length + 4 := by simp
    have HR := Lib.hid (readP_parts m n a b r)
    have e1 : (str ((m :: n :: r) ++ [a, b])).extract 0 (r.length + 2) = str (m :: n :: r) := by
      rw [str_extract, show r.length + 2 = (m :: n :: r).length from rfl, List.take_left]; rfl
    have e2 : (str ((m :: n :: r) ++ [a, b])).extract (r.length + 2) (r.length + 4) = str [a, b] := by
      rw [str_extract, ← hlen, List.take_length, show r.length + 2 = (m :: n :: r).length from rfl, List.drop_left]
    have e3 : (str ((m :: n :: r) ++ [a, b])).extract 2 (r.length + 2) = str r := by
      rw [str_extract, show r.length + 2 = (m :: n :: r).length from rfl, List.take_left]; rfl
    have HL := Lib.hid (show (m :: n :: r).length ≤ 140737488355328 by simp; omega)
    have hsl := sumN_le (m :: n :: r)
    have hs5 : sumN (m :: n :: r) ≤ 510000000000000 := by simp only [List.length_cons] at hsl; omega
    rw [hlen] at hz
    generalize hS : str ((m :: n :: r) ++ [a, b]) = S at *
    have HSS := Lib.hid hS
    have f0 : ¬ (r.length : Int) + 4 < 4 := by omega
    have f1 : IntKind.i64.wrap ((r.length : Int) + 4 - 2) = r.length + 2 := by rw [IntWalk.i64_in _ (by omega)]; omega
    have f2 : ((r.length : Int) + 2).toNat = r.length + 2 := by omega
    have f3 : 0 ≤ (r.length : Int) + 2 := by omega
    have f4 : (r.length : Int) + 2 ≤ r.length + 4 := by omega
    have f5 : 2 ≤ (r.length : Int) + 2 := by omega
    have HSL := Lib.hid hs
    clear hsl hlen h4 hs hS
    go_enter Try.func11, Try.ntmps11
    go_wp2_with fail
    refine (sumOf_any _ HL.out _).mono ?_
    rintro _ _ ⟨rfl, rfl⟩
    generalize hT : sumN (m :: n :: r) = T at *
    have f6 : IntKind.i64.wrap ((T : Int) / 256) = (T : Int) / 256 := IntWalk.i64_in _ (by omega)
    have f7 : ((T : Int) / 256).tmod 256 = (T : Int) / 256 % 256 := Int.tmod_eq_emod_of_nonneg (by omega)
    have f8 : (T : Int).tmod 256 = (T : Int) % 256 := Int.tmod_eq_emod_of_nonneg (by omega)
    have y1 : (str [b8 ((T : Int) / 256 % 256)]).size = 1 := str_sz _
    have y2 : (str [b8 ((T : Int) % 256)]).size = 1 := str_sz _
    have hc : ((str [a, b]).toList == (str [b8 ((T : Int) / 256 % 256)] ++ str [b8 ((T : Int) % 256)]).toList) = decide ((T : Int) % 65536 = (a.toNat : Int) * 256 + b.toNat) := by
      rw [str_app, str_beq, Bool.eq_iff_iff, decide_eq_true_iff, decide_eq_true_iff]
      have h := sumL_eq T a b
      have e : sumL T = [b8 ((T : Int) / 256 % 256)] ++ [b8 ((T : Int) % 256)] := rfl
      rw [← e, h]
      omega
    by_cases hq : (T : Int) % 65536 = (a.toNat : Int) * 256 + b.toNat
    · rw [decide_eq_true hq] at hc
      go_wp2
      (refine region_bel (by kernel_rfl) (by kernel_rfl) ?_; (repeat (first | (refine BigFrame.wpQuiet_skip rfl ?_; simp only [Act.put, Act.eval, List.setIfInBounds_toArray, List.set_cons_zero, List.set_cons_succ, Array.getD_eq_getD_getElem?, List.getElem?_toArray, List.getElem?_cons_zero, List.getElem?_cons_succ, Option.getD_some]) | (refine q_move _ rfl rfl ?_; simp only [Act.put, Act.eval, List.setIfInBounds_toArray, List.set_cons_zero, List.set_cons_succ, Array.getD_eq_getD_getElem?, List.getElem?_toArray, List.getElem?_cons_zero, List.getElem?_cons_succ, Option.getD_some]) | (refine q_assign _ rfl rfl ?_; simp only [Act.put, Act.eval, List.setIfInBounds_toArray, List.set_cons_zero, List.set_cons_succ, Array.getD_eq_getD_getElem?, List.getElem?_toArray, List.getElem?_cons_zero, List.getElem?_cons_succ, Option.getD_some]) | (refine q_any rfl ?_; apply Exists.intro; refine ⟨fun w hw => ?_, ?_⟩; (go_simp; first | exact ⟨rfl, rfl⟩ | rfl | (go_at_call 19; (with_reducible refine (chr_b8 _ (by omega) _).mono ?_); rintro e w' ⟨rfl, hb⟩; exact ⟨rfl, hw.call hb⟩)); simp only [Act.put, Act.eval, List.setIfInBounds_toArray, List.set_cons_zero, List.set_cons_succ, Array.getD_eq_getD_getElem?, List.getElem?_toArray, List.getElem?_cons_zero, List.getElem?_cons_succ, Option.getD_some]))); refine wpQuiet_nil ?_; intro w2 hw2)
      have HW2 := Lib.hid hw2
      rw [if_pos hq] at HR
      have HQ := Lib.hid hq
      clear hc hw2 hq f6 f7 f8 y1 y2
      have g1 : (0 : Int) ≤ 2 := by omega
      obtain ⟨i0, hi0, hz0, hz1, hz2⟩ := info_parts ev_info
      have J := Lib.hid (And.intro hi0 (And.intro hz0 (And.intro hz1 hz2)))
      clear hi0 hz0 hz1 hz2
      go_wp2
      have HRL := Lib.hid (show r.length ≤ 2000000000000 by have := HSL.out; simp at this; omega)
      clear f0 f1 f2 f3 f4 f5 g1 e1 e2 e3 hz
      go_loopw [5, 6] (fun v t wr => ∃ i : Nat, 2 * i ≤ r.length ∧ QRel w r i v t wr) (fun _ t _ => strLen t)
      case atStart => exact ⟨0, by omega, ⟨World.ownsRow_nil .., rfl, HW2.out⟩⟩
      case round =>
        obtain ⟨i, hi, hr⟩ := hrel
        have HB := Lib.hid hr.below
        have HO := Lib.hid hr.own
        obtain rfl := hr.rest
        clear hr
        have hsz : (str (r.drop (2 * i))).size = r.length - 2 * i := by rw [str_sz, List.length_drop]
        by_cases hlt : 2 * i + 1 < r.length
        · have hgt : (1 : Int) < (str (r.drop (2 * i))).size := by omega
          have hd := drop_two hlt
          have HT := Lib.hid (evsL_take_snoc hlt)
          have HD := Lib.hid (congrArg (List.drop 2) hd)
          rw [hd] at hgt hsz ⊢
          have hdd : r.drop (2 * i + 2) = r.drop (2 * (i + 1)) := by rw [show 2 * (i + 1) = 2 * i + 2 by omega]
          rw [hdd] at hgt hsz ⊢
          clear hd hdd HD
          generalize r[2 * i]'(by omega) = x at *
          generalize r[2 * i + 1]'(by omega) = y at *
          have e0 : (str (x :: y :: r.drop (2 * (i + 1)))).extract 2 (str (x :: y :: r.drop (2 * (i + 1)))).size = str (r.drop (2 * (i + 1))) := by
            rw [str_extract, str_sz, List.take_length]; rfl
          have HE0 := Lib.hid e0
          have hX0 : ∀ h, (str (x :: y :: r.drop (2 * (i + 1))))[0]'h = x := fun h => str_get _ 0 h (by simp)
          have hX1 : ∀ h, (str (x :: y :: r.drop (2 * (i + 1))))[1]'h = y := fun h => str_get _ 1 h (by simp)
          generalize hZ : str (x :: y :: r.drop (2 * (i + 1))) = Z at *
          have bx := x.toNat_lt
          have bY := y.toNat_lt
          have w1 : IntKind.i64.wrap (x.toNat : Int) = x.toNat := IntWalk.i64_in _ (by omega)
          have w3 : IntKind.i64.wrap (y.toNat : Int) = y.toNat := IntWalk.i64_in _ (by omega)
          have w4 : (x.toNat : Int).tmod 8 = (x.toNat : Int) % 8 := Int.tmod_eq_emod_of_nonneg (by omega)
          have w5 : (x.toNat : Int).tdiv 8 = (x.toNat : Int) / 8 := Int.tdiv_eq_ediv_of_nonneg (by omega)
          have w6 : IntKind.i64.wrap ((x.toNat : Int) % 8 + 1) = (x.toNat : Int) % 8 + 1 := IntWalk.i64_in _ (by omega)
          have w7 : IntKind.i64.wrap ((x.toNat : Int) / 8) = (x.toNat : Int) / 8 := IntWalk.i64_in _ (by omega)
          have hgt0 : (0 : Int) < Z.size := by omega
          have hgt1 : 0 < Z.size := by omega
          have hgt2 : 1 < Z.size := by omega
          have hg2 : (2 : Int) ≤ Z.size := by omega
          have HSZ := Lib.hid hsz
          clear e0 hZ hsz
          go_wp2
          have hN : w.heap.size ≤ wr.heap.size := HB.out.size
          refine region_growN w.heap.size (by kernel_rfl) ?_
          (repeat (first | (refine wpG_go 0 (by simp only [List.getElem?_toArray, List.getElem?_cons_zero, List.getElem?_cons_succ] <;> rfl) (by decide +kernel) (by decide +kernel) (by kernel_rfl) (by rfl) (by exact fun _ _ _ _ h => h) hN ?_; apply Exists.intro; refine ⟨fun w1 h1 => ?_, ?_⟩; (first | exact g_move _ rfl | exact g_assign _ rfl | (go_simp; first | exact ⟨rfl, rfl⟩ | rfl)); simp only [Act.put, Act.eval, List.setIfInBounds_toArray, List.set_cons_zero, List.set_cons_succ, Array.getD_eq_getD_getElem?, List.getElem?_toArray, List.getElem?_cons_zero, List.getElem?_cons_succ, Option.getD_some]) | (refine wpG_go 1 (by simp only [List.getElem?_toArray, List.getElem?_cons_zero, List.getElem?_cons_succ] <;> rfl) (by decide +kernel) (by decide +kernel) (by kernel_rfl) (by rfl) (by exact fun _ _ _ _ h => h) hN ?_; apply Exists.intro; refine ⟨fun w1 h1 => ?_, ?_⟩; (first | exact g_move _ rfl | exact g_assign _ rfl | (go_simp; first | exact ⟨rfl, rfl⟩ | rfl)); simp only [Act.put, Act.eval, List.setIfInBounds_toArray, List.set_cons_zero, List.set_cons_succ, Array.getD_eq_getD_getElem?, List.getElem?_toArray, List.getElem?_cons_zero, List.getElem?_cons_succ, Option.getD_some]) | (refine wpG_go 2 (by simp only [List.getElem?_toArray, List.getElem?_cons_zero, List.getElem?_cons_succ] <;> rfl) (by decide +kernel) (by decide +kernel) (by kernel_rfl) (by rfl) (by exact fun _ _ _ _ h => h) hN ?_; apply Exists.intro; refine ⟨fun w1 h1 => ?_, ?_⟩; (first | exact g_move _ rfl | exact g_assign _ rfl | (go_simp; first | exact ⟨rfl, rfl⟩ | rfl)); simp only [Act.put, Act.eval, List.setIfInBounds_toArray, List.set_cons_zero, List.set_cons_succ, Array.getD_eq_getD_getElem?, List.getElem?_toArray, List.getElem?_cons_zero, List.getElem?_cons_succ, Option.getD_some]) | (refine wpG_go 3 (by simp only [List.getElem?_toArray, List.getElem?_cons_zero, List.getElem?_cons_succ] <;> rfl) (by decide +kernel) (by decide +kernel) (by kernel_rfl) (by rfl) (by exact fun _ _ _ _ h => h) hN ?_; apply Exists.intro; refine ⟨fun w1 h1 => ?_, ?_⟩; (first | exact g_move _ rfl | exact g_assign _ rfl | (go_simp; first | exact ⟨rfl, rfl⟩ | rfl)); simp only [Act.put, Act.eval, List.setIfInBounds_toArray, List.set_cons_zero, List.set_cons_succ, Array.getD_eq_getD_getElem?, List.getElem?_toArray, List.getElem?_cons_zero, List.getElem?_cons_succ, Option.getD_some]) | (refine wpG_go 4 (by simp only [List.getElem?_toArray, List.getElem?_cons_zero, List.getElem?_cons_succ] <;> rfl) (by decide +kernel) (by decide +kernel) (by kernel_rfl) (by rfl) (by exact fun _ _ _ _ h => h) hN ?_; apply Exists.intro; refine ⟨fun w1 h1 => ?_, ?_⟩; (first | exact g_move _ rfl | exact g_assign _ rfl | (go_simp; first | exact ⟨rfl, rfl⟩ | rfl)); simp only [Act.put, Act.eval, List.setIfInBounds_toArray, List.set_cons_zero, List.set_cons_succ, Array.getD_eq_getD_getElem?, List.getElem?_toArray, List.getElem?_cons_zero, List.getElem?_cons_succ, Option.getD_some]) | (refine wpG_go 5 (by simp only [List.getElem?_toArray, List.getElem?_cons_zero, List.getElem?_cons_succ] <;> rfl) (by decide +kernel) (by decide +kernel) (by kernel_rfl) (by rfl) (by exact fun _ _ _ _ h => h) hN ?_; apply Exists.intro; refine ⟨fun w1 h1 => ?_, ?_⟩; (first | exact g_move _ rfl | exact g_assign _ rfl | (go_simp; first | exact ⟨rfl, rfl⟩ | rfl)); simp only [Act.put, Act.eval, List.setIfInBounds_toArray, List.set_cons_zero, List.set_cons_succ, Array.getD_eq_getD_getElem?, List.getElem?_toArray, List.getElem?_cons_zero, List.getElem?_cons_succ, Option.getD_some]) | (refine wpG_go 6 (by simp only [List.getElem?_toArray, List.getElem?_cons_zero, List.getElem?_cons_succ] <;> rfl) (by decide +kernel) (by decide +kernel) (by kernel_rfl) (by rfl) (by exact fun _ _ _ _ h => h) hN ?_; apply Exists.intro; refine ⟨fun w1 h1 => ?_, ?_⟩; (first | exact g_move _ rfl | exact g_assign _ rfl | (go_simp; first | exact ⟨rfl, rfl⟩ | rfl)); simp only [Act.put, Act.eval, List.setIfInBounds_toArray, List.set_cons_zero, List.set_cons_succ, Array.getD_eq_getD_getElem?, List.getElem?_toArray, List.getElem?_cons_zero, List.getElem?_cons_succ, Option.getD_some]) | (refine wpG_go 7 (by simp only [List.getElem?_toArray, List.getElem?_cons_zero, List.getElem?_cons_succ] <;> rfl) (by decide +kernel) (by decide +kernel) (by kernel_rfl) (by rfl) (by exact fun _ _ _ _ h => h) hN ?_; apply Exists.intro; refine ⟨fun w1 h1 => ?_, ?_⟩; (first | exact g_move _ rfl | exact g_assign _ rfl | (go_simp; first | exact ⟨rfl, rfl⟩ | rfl)); simp only [Act.put, Act.eval, List.setIfInBounds_toArray, List.set_cons_zero, List.set_cons_succ, Array.getD_eq_getD_getElem?, List.getElem?_toArray, List.getElem?_cons_zero, List.getElem?_cons_succ, Option.getD_some]) | (refine wpG_go 8 (by simp only [List.getElem?_toArray, List.getElem?_cons_zero, List.getElem?_cons_succ] <;> rfl) (by decide +kernel) (by decide +kernel) (by kernel_rfl) (by rfl) (by exact fun _ _ _ _ h => h) hN ?_; apply Exists.intro; refine ⟨fun w1 h1 => ?_, ?_⟩; (first | exact g_move _ rfl | exact g_assign _ rfl | (go_simp; first | exact ⟨rfl, rfl⟩ | rfl)); simp only [Act.put, Act.eval, List.setIfInBounds_toArray, List.set_cons_zero, List.set_cons_succ, Array.getD_eq_getD_getElem?, List.getElem?_toArray, List.getElem?_cons_zero, List.getElem?_cons_succ, Option.getD_some]) | (refine wpG_go 9 (by simp only [List.getElem?_toArray, List.getElem?_cons_zero, List.getElem?_cons_succ] <;> rfl) (by decide +kernel) (by decide +kernel) (by kernel_rfl) (by rfl) (by exact fun _ _ _ _ h => h) hN ?_; apply Exists.intro; refine ⟨fun w1 h1 => ?_, ?_⟩; (first | exact g_move _ rfl | exact g_assign _ rfl | (go_simp; first | exact ⟨rfl, rfl⟩ | rfl)); simp only [Act.put, Act.eval, List.setIfInBounds_toArray, List.set_cons_zero, List.set_cons_succ, Array.getD_eq_getD_getElem?, List.getElem?_toArray, List.getElem?_cons_zero, List.getElem?_cons_succ, Option.getD_some]) | (refine wpG_go 10 (by simp only [List.getElem?_toArray, List.getElem?_cons_zero, List.getElem?_cons_succ] <;> rfl) (by decide +kernel) (by decide +kernel) (by kernel_rfl) (by rfl) (by exact fun _ _ _ _ h => h) hN ?_; apply Exists.intro; refine ⟨fun w1 h1 => ?_, ?_⟩; (first | exact g_move _ rfl | exact g_assign _ rfl | (go_simp; first | exact ⟨rfl, rfl⟩ | rfl)); simp only [Act.put, Act.eval, List.setIfInBounds_toArray, List.set_cons_zero, List.set_cons_succ, Array.getD_eq_getD_getElem?, List.getElem?_toArray, List.getElem?_cons_zero, List.getElem?_cons_succ, Option.getD_some]) | (refine wpG_go 11 (by simp only [List.getElem?_toArray, List.getElem?_cons_zero, List.getElem?_cons_succ] <;> rfl) (by decide +kernel) (by decide +kernel) (by kernel_rfl) (by rfl) (by exact fun _ _ _ _ h => h) hN ?_; apply Exists.intro; refine ⟨fun w1 h1 => ?_, ?_⟩; (first | exact g_move _ rfl | exact g_assign _ rfl | (go_simp; first | exact ⟨rfl, rfl⟩ | rfl)); simp only [Act.put, Act.eval, List.setIfInBounds_toArray, List.set_cons_zero, List.set_cons_succ, Array.getD_eq_getD_getElem?, List.getElem?_toArray, List.getElem?_cons_zero, List.getElem?_cons_succ, Option.getD_some]) | (refine wpG_go 12 (by simp only [List.getElem?_toArray, List.getElem?_cons_zero, List.getElem?_cons_succ] <;> rfl) (by decide +kernel) (by decide +kernel) (by kernel_rfl) (by rfl) (by exact fun _ _ _ _ h => h) hN ?_; apply Exists.intro; refine ⟨fun w1 h1 => ?_, ?_⟩; (first | exact g_move _ rfl | exact g_assign _ rfl | (go_simp; first | exact ⟨rfl, rfl⟩ | rfl)); simp only [Act.put, Act.eval, List.setIfInBounds_toArray, List.set_cons_zero, List.set_cons_succ, Array.getD_eq_getD_getElem?, List.getElem?_toArray, List.getElem?_cons_zero, List.getElem?_cons_succ, Option.getD_some]) | (refine wpG_go 13 (by simp only [List.getElem?_toArray, List.getElem?_cons_zero, List.getElem?_cons_succ] <;> rfl) (by decide +kernel) (by decide +kernel) (by kernel_rfl) (by rfl) (by exact fun _ _ _ _ h => h) hN ?_; apply Exists.intro; refine ⟨fun w1 h1 => ?_, ?_⟩; (first | exact g_move _ rfl | exact g_assign _ rfl | (go_simp; first | exact ⟨rfl, rfl⟩ | rfl)); simp only [Act.put, Act.eval, List.setIfInBounds_toArray, List.set_cons_zero, List.set_cons_succ, Array.getD_eq_getD_getElem?, List.getElem?_toArray, List.getElem?_cons_zero, List.getElem?_cons_succ, Option.getD_some]) | (refine wpG_skip 0 (by simp only [List.getElem?_toArray, List.getElem?_cons_zero, List.getElem?_cons_succ] <;> rfl) (by decide +kernel) (by decide +kernel) (by kernel_rfl) (by rfl) (by exact fun _ _ _ _ h => h) hN ?_; simp only [Act.put, Act.eval, List.setIfInBounds_toArray, List.set_cons_zero, List.set_cons_succ, Array.getD_eq_getD_getElem?, List.getElem?_toArray, List.getElem?_cons_zero, List.getElem?_cons_succ, Option.getD_some]) | (refine wpG_skip 1 (by simp only [List.getElem?_toArray, List.getElem?_cons_zero, List.getElem?_cons_succ] <;> rfl) (by decide +kernel) (by decide +kernel) (by kernel_rfl) (by rfl) (by exact fun _ _ _ _ h => h) hN ?_; simp only [Act.put, Act.eval, List.setIfInBounds_toArray, List.set_cons_zero, List.set_cons_succ, Array.getD_eq_getD_getElem?, List.getElem?_toArray, List.getElem?_cons_zero, List.getElem?_cons_succ, Option.getD_some]) | (refine wpG_skip 2 (by simp only [List.getElem?_toArray, List.getElem?_cons_zero, List.getElem?_cons_succ] <;> rfl) (by decide +kernel) (by decide +kernel) (by kernel_rfl) (by rfl) (by exact fun _ _ _ _ h => h) hN ?_; simp only [Act.put, Act.eval, List.setIfInBounds_toArray, List.set_cons_zero, List.set_cons_succ, Array.getD_eq_getD_getElem?, List.getElem?_toArray, List.getElem?_cons_zero, List.getElem?_cons_succ, Option.getD_some]) | (refine wpG_skip 3 (by simp only [List.getElem?_toArray, List.getElem?_cons_zero, List.getElem?_cons_succ] <;> rfl) (by decide +kernel) (by decide +kernel) (by kernel_rfl) (by rfl) (by exact fun _ _ _ _ h => h) hN ?_; simp only [Act.put, Act.eval, List.setIfInBounds_toArray, List.set_cons_zero, List.set_cons_succ, Array.getD_eq_getD_getElem?, List.getElem?_toArray, List.getElem?_cons_zero, List.getElem?_cons_succ, Option.getD_some]) | (refine wpG_skip 4 (by simp only [List.getElem?_toArray, List.getElem?_cons_zero, List.getElem?_cons_succ] <;> rfl) (by decide +kernel) (by decide +kernel) (by kernel_rfl) (by rfl) (by exact fun _ _ _ _ h => h) hN ?_; simp only [Act.put, Act.eval, List.setIfInBounds_toArray, List.set_cons_zero, List.set_cons_succ, Array.getD_eq_getD_getElem?, List.getElem?_toArray, List.getElem?_cons_zero, List.getElem?_cons_succ, Option.getD_some]) | (refine wpG_skip 5 (by simp only [List.getElem?_toArray, List.getElem?_cons_zero, List.getElem?_cons_succ] <;> rfl) (by decide +kernel) (by decide +kernel) (by kernel_rfl) (by rfl) (by exact fun _ _ _ _ h => h) hN ?_; simp only [Act.put, Act.eval, List.setIfInBounds_toArray, List.set_cons_zero, List.set_cons_succ, Array.getD_eq_getD_getElem?, List.getElem?_toArray, List.getElem?_cons_zero, List.getElem?_cons_succ, Option.getD_some]) | (refine wpG_skip 6 (by simp only [List.getElem?_toArray, List.getElem?_cons_zero, List.getElem?_cons_succ] <;> rfl) (by decide +kernel) (by decide +kernel) (by kernel_rfl) (by rfl) (by exact fun _ _ _ _ h => h) hN ?_; simp only [Act.put, Act.eval, List.setIfInBounds_toArray, List.set_cons_zero, List.set_cons_succ, Array.getD_eq_getD_getElem?, List.getElem?_toArray, List.getElem?_cons_zero, List.getElem?_cons_succ, Option.getD_some]) | (refine wpG_skip 7 (by simp only [List.getElem?_toArray, List.getElem?_cons_zero, List.getElem?_cons_succ] <;> rfl) (by decide +kernel) (by decide +kernel) (by kernel_rfl) (by rfl) (by exact fun _ _ _ _ h => h) hN ?_; simp only [Act.put, Act.eval, List.setIfInBounds_toArray, List.set_cons_zero, List.set_cons_succ, Array.getD_eq_getD_getElem?, List.getElem?_toArray, List.getElem?_cons_zero, List.getElem?_cons_succ, Option.getD_some]) | (refine wpG_skip 8 (by simp only [List.getElem?_toArray, List.getElem?_cons_zero, List.getElem?_cons_succ] <;> rfl) (by decide +kernel) (by decide +kernel) (by kernel_rfl) (by rfl) (by exact fun _ _ _ _ h => h) hN ?_; simp only [Act.put, Act.eval, List.setIfInBounds_toArray, List.set_cons_zero, List.set_cons_succ, Array.getD_eq_getD_getElem?, List.getElem?_toArray, List.getElem?_cons_zero, List.getElem?_cons_succ, Option.getD_some]) | (refine wpG_skip 9 (by simp only [List.getElem?_toArray, List.getElem?_cons_zero, List.getElem?_cons_succ] <;> rfl) (by decide +kernel) (by decide +kernel) (by kernel_rfl) (by rfl) (by exact fun _ _ _ _ h => h) hN ?_; simp only [Act.put, Act.eval, List.setIfInBounds_toArray, List.set_cons_zero, List.set_cons_succ, Array.getD_eq_getD_getElem?, List.getElem?_toArray, List.getElem?_cons_zero, List.getElem?_cons_succ, Option.getD_some]) | (refine wpG_skip 10 (by simp only [List.getElem?_toArray, List.getElem?_cons_zero, List.getElem?_cons_succ] <;> rfl) (by decide +kernel) (by decide +kernel) (by kernel_rfl) (by rfl) (by exact fun _ _ _ _ h => h) hN ?_; simp only [Act.put, Act.eval, List.setIfInBounds_toArray, List.set_cons_zero, List.set_cons_succ, Array.getD_eq_getD_getElem?, List.getElem?_toArray, List.getElem?_cons_zero, List.getElem?_cons_succ, Option.getD_some]) | (refine wpG_skip 11 (by simp only [List.getElem?_toArray, List.getElem?_cons_zero, List.getElem?_cons_succ] <;> rfl) (by decide +kernel) (by decide +kernel) (by kernel_rfl) (by rfl) (by exact fun _ _ _ _ h => h) hN ?_; simp only [Act.put, Act.eval, List.setIfInBounds_toArray, List.set_cons_zero, List.set_cons_succ, Array.getD_eq_getD_getElem?, List.getElem?_toArray, List.getElem?_cons_zero, List.getElem?_cons_succ, Option.getD_some]) | (refine wpG_skip 12 (by simp only [List.getElem?_toArray, List.getElem?_cons_zero, List.getElem?_cons_succ] <;> rfl) (by decide +kernel) (by decide +kernel) (by kernel_rfl) (by rfl) (by exact fun _ _ _ _ h => h) hN ?_; simp only [Act.put, Act.eval, List.setIfInBounds_toArray, List.set_cons_zero, List.set_cons_succ, Array.getD_eq_getD_getElem?, List.getElem?_toArray, List.getElem?_cons_zero, List.getElem?_cons_succ, Option.getD_some]) | (refine wpG_skip 13 (by simp only [List.getElem?_toArray, List.getElem?_cons_zero, List.getElem?_cons_succ] <;> rfl) (by decide +kernel) (by decide +kernel) (by kernel_rfl) (by rfl) (by exact fun _ _ _ _ h => h) hN ?_; simp only [Act.put, Act.eval, List.setIfInBounds_toArray, List.set_cons_zero, List.set_cons_succ, Array.getD_eq_getD_getElem?, List.getElem?_toArray, List.getElem?_cons_zero, List.getElem?_cons_succ, Option.getD_some])))
          clear w1 w3 w4 w5 w6 w7 hX0 hX1
          obtain ⟨hi0, hz0, hz1, hz2⟩ := J.out
          (refine wpG_one 14 (by decide +kernel) ?_; intro wa hwa; refine op_wanted (by simp only [List.getElem?_toArray, List.getElem?_cons_zero, List.getElem?_cons_succ] <;> rfl) rfl ?_)
          refine wp_build1 _ _ rfl _ i0 Try.underlying22 hi0 hz0 hz1 (evAt x y) rfl ⟨Below.alloc (Below.refl _ _) (HB.out.trans hwa).size _, ?_⟩
          have bxx := Box.new wa (evv (evAt x y)) 31
          have hwb0 := hwa.alloc (.cells (evv (evAt x y)) 31)
          (refine wpG_one 15 (by decide +kernel) ?_; intro wb hwb; refine op_wanted (by simp only [List.getElem?_toArray, List.getElem?_cons_zero, List.getElem?_cons_succ] <;> rfl) rfl ?_)
          have hwb1 := hwb0.trans hwb
          have ho1 := own_bel HO.out hwb1
          have hN2 : w.heap.size ≤ wb.heap.size := (HB.out.trans hwb1).size
          refine wp_append_src (.tmp 42) (.tmp 56) _ rfl w.heap.size 31 i0 _ 3 24 Try.underlying22 hi0 hz0 hz1 hz2 rfl (by omega) u5 i (evc ((evsL r).take i)) rfl ho1 (some ⟨wa.heap.size, 0, none⟩) 1 1 (evc [evAt x y]) rfl rfl (Src.box (l := evc [evAt x y]) (hwb.box bxx) 1) (evc_one _) (by have := HRL.out; simp only [maxLen]; omega) (by have := HRL.out; omega) hN2 fun v8 w8 hown howng _ => ⟨grown_below howng ho1 (Nat.le_refl _) hN2, ?_⟩
          have hw8 : Bel w w8 := (HB.out.trans hwb1).out.trans (grown_below howng ho1 (Nat.le_refl _) hN2)
          clear howng ho1 hwb1 hwb hwb0 bxx hwa hN hN2
          (repeat (first | (refine wpG_go 16 (by simp only [List.getElem?_toArray, List.getElem?_cons_zero, List.getElem?_cons_succ] <;> rfl) (by decide +kernel) (by decide +kernel) (by kernel_rfl) (by rfl) (by exact fun _ _ _ _ h => h) hw8.size ?_; apply Exists.intro; refine ⟨fun w1 h1 => ?_, ?_⟩; (first | exact g_move _ rfl | exact g_assign _ rfl | (go_simp; first | exact ⟨rfl, rfl⟩ | rfl)); simp only [Act.put, Act.eval, List.setIfInBounds_toArray, List.set_cons_zero, List.set_cons_succ, Array.getD_eq_getD_getElem?, List.getElem?_toArray, List.getElem?_cons_zero, List.getElem?_cons_succ, Option.getD_some]) | (refine wpG_skip 16 (by simp only [List.getElem?_toArray, List.getElem?_cons_zero, List.getElem?_cons_succ] <;> rfl) (by decide +kernel) (by decide +kernel) (by kernel_rfl) (by rfl) (by exact fun _ _ _ _ h => h) hw8.size ?_; simp only [Act.put, Act.eval, List.setIfInBounds_toArray, List.set_cons_zero, List.set_cons_succ, Array.getD_eq_getD_getElem?, List.getElem?_toArray, List.getElem?_cons_zero, List.getElem?_cons_succ, Option.getD_some])))
          (refine wpG_done (by decide +kernel) ?_ _; intro w9 hw9; try simp only [Act.put, Act.eval, List.setIfInBounds_toArray, List.set_cons_zero, List.set_cons_succ, Array.getD_eq_getD_getElem?, List.getElem?_toArray, List.getElem?_cons_zero, List.getElem?_cons_succ, Option.getD_some])
          have HW9 := Lib.hid (hw8.trans hw9)
          have HO9 := Lib.hid (own_bel hown hw9)
          have e0 := HE0.out
          clear hown hw8 hw9 hgt0 hgt1 hgt2 bx bY hi0 hz0 hz1 hz2
          go_wp2
          have hsz := HSZ.out
          refine ⟨⟨i + 1, by omega, ⟨?_, rfl, HW9.out⟩⟩, ?_⟩
          · rw [HT.out, evc_append]; exact HO9.out
          · simp only [strLen, str_sz, List.length_drop]; omega
        · have hgt : ¬ (1 : Int) < (str (r.drop (2 * i))).size := by omega
          have hlen : (evsL r).length = i := by rw [evsL_length]; omega
          have hown := HO.out
          rw [List.take_of_length_le (by omega)] at hown
          obtain ⟨A5, c5, rfl, hs5, hc5, hm5⟩ := Sl.own hown
          have HO5 := Lib.hid hown
          have HS5 := Lib.hid hs5
          unfold maxLen at hm5
          have hform := ref_form (s := m :: n :: (r ++ [a, b])) (by simp) (by
            have h1 := take_body (m :: n :: r) [a, b] rfl
            have h2 := (sumL_eq T a b).2 (by have := HQ.out; omega)
            rw [show m :: n :: (r ++ [a, b]) = (m :: n :: r) ++ [a, b] from rfl, h1.1, h1.2, h2, hT])
          have htk : (m :: n :: (r ++ [a, b])).take ((m :: n :: (r ++ [a, b])).length - 2) = m :: n :: r := (take_body (m :: n :: r) [a, b] rfl).1
          rw [htk] at hform
          have hform2 : (may (evsL r) = 0 ∧ packOf (evsL r) = m :: n :: (r ++ [a, b])) ↔ (wholeL (m :: n :: r) = true ∧ may (evsL r) = 0) := hform
          have HF := Lib.hid hform2
          clear hsz hown hs5 hform hform2 htk
          go_wp2_with fail
          refine (rpack_any A5 _ c5 _ _ HS5.out (by omega) (by omega)).mono ?_
          rintro e6 w6 ⟨rfl, hb6⟩
          have HB6 := Lib.hid (HB.out.call hb6)
          have HO6 := Lib.hid (own_bel HO5.out (Bel.of hb6))
          clear hb6
          cases hmy : (may (evsL r) != 0)
          · have HM : may (evsL r) = 0 := by simpa using hmy
            by_cases hp : packOf (evsL r) = m :: n :: (r ++ [a, b])
            · have hcmp : ((str (packOf (evsL r))).toList == S.toList) = true := by rw [← HSS.out, str_beq]; simpa using hp
              rw [if_pos (HF.out.1 ⟨HM, hp⟩)] at HR
              rw [HM]
              clear HM hp hmy
              go_wp2
              go_ret2
              refine ⟨.slice A5 i c5, by rw [HR.out]; rfl, ?_, HB6.out⟩
              rw [HR.out]
              simp only [hlen]
              exact HO6.out
            · have hcmp : ((str (packOf (evsL r))).toList == S.toList) = false := by rw [← HSS.out, str_beq]; simpa using hp
              rw [if_neg (fun h => hp (HF.out.2 h).2)] at HR
              rw [HM]
              clear HM hp hmy
              go_wp2
              go_ret2
              exact ⟨.slice none 0 0, by rw [HR.out]; rfl, by rw [HR.out]; exact World.ownsRow_nil .., HB6.out⟩
          · have HM : ¬ may (evsL r) = 0 := by simpa using hmy
            rw [if_neg (fun h => HM h.2)] at HR
            clear HM
            go_wp2
            go_ret2
            exact ⟨.slice none 0 0, by rw [HR.out]; rfl, by rw [HR.out]; exact World.ownsRow_nil .., HB6.out⟩
    · rw [decide_eq_false hq] at hc
      go_wp2
      (refine region_bel (by kernel_rfl) (by kernel_rfl) ?_; (repeat (first | (refine BigFrame.wpQuiet_skip rfl ?_; simp only [Act.put, Act.eval, List.setIfInBounds_toArray, List.set_cons_zero, List.set_cons_succ, Array.getD_eq_getD_getElem?, List.getElem?_toArray, List.getElem?_cons_zero, List.getElem?_cons_succ, Option.getD_some]) | (refine q_move _ rfl rfl ?_; simp only [Act.put, Act.eval, List.setIfInBounds_toArray, List.set_cons_zero, List.set_cons_succ, Array.getD_eq_getD_getElem?, List.getElem?_toArray, List.getElem?_cons_zero, List.getElem?_cons_succ, Option.getD_some]) | (refine q_assign _ rfl rfl ?_; simp only [Act.put, Act.eval, List.setIfInBounds_toArray, List.set_cons_zero, List.set_cons_succ, Array.getD_eq_getD_getElem?, List.getElem?_toArray, List.getElem?_cons_zero, List.getElem?_cons_succ, Option.getD_some]) | (refine q_any rfl ?_; apply Exists.intro; refine ⟨fun w hw => ?_, ?_⟩; (go_simp; first | exact ⟨rfl, rfl⟩ | rfl | (go_at_call 19; (with_reducible refine (chr_b8 _ (by omega) _).mono ?_); rintro e w' ⟨rfl, hb⟩; exact ⟨rfl, hw.call hb⟩)); simp only [Act.put, Act.eval, List.setIfInBounds_toArray, List.set_cons_zero, List.set_cons_succ, Array.getD_eq_getD_getElem?, List.getElem?_toArray, List.getElem?_cons_zero, List.getElem?_cons_succ, Option.getD_some]))); refine wpQuiet_nil ?_; intro w2 hw2)
      have HW2 := Lib.hid hw2
      rw [if_neg hq] at HR
      clear hc hw2 hq
      go_wp2
      go_ret2
      exact ⟨.slice none 0 0, by rw [HR.out]; rfl, by rw [HR.out]; exact World.ownsRow_nil .., HW2.out⟩
end Go.Proofs.Ythfijoahejpaoaa

/- Contracts of small functions beside the laws of ring: ringed, locks. -/
import Derived.Test.YtoaehoildnanpaaRgC
import Derived.Test.YtoaehoildnanpaaRest
import Derived.Test.YtoaehoildnanpaaGrow
set_option linter.all false
set_option maxRecDepth 100000
namespace Go.Proofs.Ytoaehoildnanpaa
open Go Go.RowKit

theorem ring_13 {r : List Nat} {c : Int} (h : RingB [(1, 3), (3, 1)] r c) : r = [1, 3] ∧ c = 0 := by
  have hb : ([(1, 3), (3, 1)] : List (Int × Int)).any qbad = false := by decide
  have key : ∀ a b, Pq [(1, 3), (3, 1)] a b = true → (a = 1 ∧ b = 3) ∨ (a = 3 ∧ b = 1) := fun a b h => by
    have := of_decide_eq_true h
    simp at this; omega
  refine ringB_uniq h (.inr ⟨hb, rfl, .inr ⟨⟨by decide, by decide, trivial⟩, fun s hs => ?_, fun s hs hl hlx => ?_⟩⟩)
  · match s, hs with
    | [a], hs => have := key _ _ hs.1; omega
    | _ :: _ :: _, _ => simp
  · match s, hs, hl, hlx with
    | [a, b], hs, _, hlx =>
      have h1 := key _ _ hs.1
      have h2 : a < 1 ∨ (a = 1 ∧ lx [b] [3]) := hlx
      rcases h2 with h2 | ⟨rfl, h2⟩
      · omega
      · have h3 : b < 3 ∨ (b = 3 ∧ lx [] []) := h2
        rcases h3 with h3 | ⟨_, h3⟩
        · omega
        · exact h3.elim
theorem ringed_any (HR : RingC) (w : World) : Calls Try.prog 22 #[] w fun e w' => e = .returned (.bool true) ∧ Below w.heap.size w w' := by
  have HRC := Lib.hid HR
  clear HR
  have HX := Lib.hid (Box.new w (qrc [(1, 3), (3, 1)]).toArray 31)
  have HW := Lib.hid ((Bel.refl w).alloc (.cells (qrc [(1, 3), (3, 1)]).toArray 31))
  go_enter Try.func22, Try.ntmps22
  go_wp2_with fail
  refine (HRC.out (some ⟨w.heap.size, 0, none⟩) 2 2 [(1, 3), (3, 1)] _ (SlQ.box HX.out 2 rfl) (by omega) (by simp [maxLen])).mono ?_
  rintro e w1 ⟨v1, r1, c1, rfl, hB1, hs1, hb1⟩
  obtain ⟨rfl, rfl⟩ := ring_13 hB1
  have HS1 := Lib.hid hs1
  have HW1 := Lib.hid (HW.out.call hb1)
  clear hB1 hs1 hb1
  have HX5 := Lib.hid (SlI.lit (Box.new w1 (ints [1, 3]) 3) 2 rfl (by simp [maxLen]) 2)
  have HB5 := Lib.hid ((Bel.refl w1).alloc (.cells (ints [1, 3]) 3))
  have HW5 := Lib.hid (HW1.out.trans HB5.out)
  go_wp2_with fail
  refine (eqint_any _ _ (toI [1, 3]) [1, 3] _ (HS1.out.bel HB5.out) HX5.out).mono ?_
  rintro e w6 ⟨rfl, rfl⟩
  have HE2 := Lib.hid (show (toI [1, 3] == [1, 3]) = true by decide)
  rw [HE2.out]
  go_wp2
  go_ret
  exact ⟨rfl, HW5.out⟩
def lk (p : Int × Int) : Int × Int := (p.1 % 5, p.2 % 5)
def LocksPost (w : World) (l : List (Int × Int)) (e : Ending) (w' : World) : Prop :=
  ∃ v, e = .returned v ∧ w'.ownsRow w.heap.size 31 2 v l.length (qrc (l.map lk)) ∧ Below w.heap.size w w'
theorem wp_buildq {P : Program} {o : Oper} {a : Act} {w : World} {K : Act → World → Prop} {Q : Exit → Act → World → Prop} (t : TypeId) (x : Operand) (ho : o.op = .buildSlice t 1 #[(0, x)]) (e : TypeId) (i : TypeInfo) (ht : P.underlying t = some (.slice e)) (hi : P.info? e = some i)
    (hz : i.zero = some (.agg #[.int .i64 0, .int .i64 0])) (hs : i.size = 2) (p : Int × Int) (hx : a.eval x = .agg (qrv p))
    (h : K (a.put o.dst (.slice (some ⟨w.heap.size, 0, none⟩) 1 1)) (w.alloc (.cells (qrv p) e))) : o.wp P a w K Q := by
  unfold Oper.wp execOp
  simp only [ho, Sem.run_bind, Sem.run_pure, Result.andThen_ok, List.map_toArray, List.map_cons, List.map_nil, hx, run_buildq t e i ht hi hz hs p w]
  exact h
set_option maxHeartbeats 8000000 in
theorem locks_any (A : Option Addr) (n c : Nat) (l : List (Int × Int)) (w : World) (h : SlQ w A n l) (hm : n * 16 ≤ 140737488351232) (hok : ∀ e ∈ l, QrOk e) :
    Calls Try.prog 23 #[.slice A n c] w (LocksPost w l) := by
  obtain ⟨i0, hi0, hz0, hz1, hz2⟩ := info_parts pr_info
  have J := Lib.hid (And.intro hi0 (And.intro hz0 (And.intro hz1 hz2)))
  have HL := Lib.hid h
  have HOK := Lib.hid hok
  have H0 := Lib.hid (World.ownsRow_nil w w.heap.size 31 2)
  clear hi0 hz0 hz1 hz2 h hok
  go_enter Try.func23, Try.ntmps23
  go_wp2
  go_loopw [3, 8] (fun v t wr => ∃ i : Nat, i ≤ n ∧ t = .int .i64 i ∧ wr.ownsRow w.heap.size 31 2 v i (qrc ((l.take i).map lk)) ∧ Bel w wr) (fun _ t _ => n - (intOf t).toNat)
  case atStart => exact ⟨0, by omega, rfl, H0.out, Bel.refl _⟩
  case round =>
    obtain ⟨i, hi, rfl, hown, hbr⟩ := hrel
    have HO := Lib.hid hown
    have HB := Lib.hid hbr
    clear hown hbr H0
    by_cases hlt : i < n
    · obtain ⟨bb, off, e, rfl, hbb, he, hrg⟩ := (HL.out.bel HB.out).at_ hlt
      have hlt' : (i : Int) < n := by omega
      have HR := Lib.hid hrg
      have HE := Lib.hid he
      have HK := Lib.hid (HOK.out e (List.mem_of_getElem? he))
      have HK1 := Lib.hid (show In64 e.1 from HK.out.1)
      have HK2 := Lib.hid (show In64 e.2 from HK.out.2)
      have HX := Lib.hid (qwld_box wr e 31)
      have HBW := Lib.hid (HB.out.trans (qwld_below wr e 31))
      have HO3 := Lib.hid (own_bel HO.out (qwld_below wr e 31))
      have HNB := Lib.hid (show u3.ownBlock ≠ some wr.heap.size from fun e9 => absurd (own_lt HO.out e9).2 (by omega))
      clear hrg he hbb
      go_wp2_with (first | (refine load_qr TPr _ rfl rfl rfl HR.out ?_) | (refine qwld_store TPr _ _ rfl rfl _ rfl rfl rfl ?_))
      generalize qwld wr e 31 = w3 at *
      generalize hX : wr.heap.size = X at *
      have F0 := fun (w1 : World) (h : Kp X w3 w1) => (h.box HX.out).cell 0 (v := .int .i64 e.1) rfl
      have F1 := fun (w1 : World) (h : Kp X w3 w1) => (h.box HX.out).cell 1 (v := .int .i64 e.2) rfl
      refine region_keep X (by kernel_rfl) ?_
      (repeat (first | (refine wpK_go 0 (by simp only [List.getElem?_toArray, List.getElem?_cons_zero, List.getElem?_cons_succ] <;> rfl) (by decide +kernel) (by decide +kernel) (by kernel_rfl) (by rfl) (by exact fun _ _ _ _ h => h) ?_; apply Exists.intro; refine ⟨fun w1 h1 => ?_, ?_⟩; (first | exact g_move _ rfl | exact g_assign _ rfl | (have fct0 := F0 w1 h1; have fct1 := F1 w1 h1; go_simp; first | exact ⟨rfl, rfl⟩ | rfl | (go_at_call 26; (with_reducible refine (rest_any e.1 5 HK1.out (by omega) (by omega) _).mono ?_); rintro e w' ⟨rfl, hb⟩; first | exact ⟨rfl, hb⟩ | exact ⟨rfl, hb ▸ Bel.refl _⟩) | (go_at_call 26; (with_reducible refine (rest_any e.2 5 HK2.out (by omega) (by omega) _).mono ?_); rintro e w' ⟨rfl, hb⟩; first | exact ⟨rfl, hb⟩ | exact ⟨rfl, hb ▸ Bel.refl _⟩))); simp only [Act.put, Act.eval, List.setIfInBounds_toArray, List.set_cons_zero, List.set_cons_succ, Array.getD_eq_getD_getElem?, List.getElem?_toArray, List.getElem?_cons_zero, List.getElem?_cons_succ, Option.getD_some]) | (refine wpK_go 1 (by simp only [List.getElem?_toArray, List.getElem?_cons_zero, List.getElem?_cons_succ] <;> rfl) (by decide +kernel) (by decide +kernel) (by kernel_rfl) (by rfl) (by exact fun _ _ _ _ h => h) ?_; apply Exists.intro; refine ⟨fun w1 h1 => ?_, ?_⟩; (first | exact g_move _ rfl | exact g_assign _ rfl | (have fct0 := F0 w1 h1; have fct1 := F1 w1 h1; go_simp; first | exact ⟨rfl, rfl⟩ | rfl | (go_at_call 26; (with_reducible refine (rest_any e.1 5 HK1.out (by omega) (by omega) _).mono ?_); rintro e w' ⟨rfl, hb⟩; first | exact ⟨rfl, hb⟩ | exact ⟨rfl, hb ▸ Bel.refl _⟩) | (go_at_call 26; (with_reducible refine (rest_any e.2 5 HK2.out (by omega) (by omega) _).mono ?_); rintro e w' ⟨rfl, hb⟩; first | exact ⟨rfl, hb⟩ | exact ⟨rfl, hb ▸ Bel.refl _⟩))); simp only [Act.put, Act.eval, List.setIfInBounds_toArray, List.set_cons_zero, List.set_cons_succ, Array.getD_eq_getD_getElem?, List.getElem?_toArray, List.getElem?_cons_zero, List.getElem?_cons_succ, Option.getD_some]) | (refine wpK_go 2 (by simp only [List.getElem?_toArray, List.getElem?_cons_zero, List.getElem?_cons_succ] <;> rfl) (by decide +kernel) (by decide +kernel) (by kernel_rfl) (by rfl) (by exact fun _ _ _ _ h => h) ?_; apply Exists.intro; refine ⟨fun w1 h1 => ?_, ?_⟩; (first | exact g_move _ rfl | exact g_assign _ rfl | (have fct0 := F0 w1 h1; have fct1 := F1 w1 h1; go_simp; first | exact ⟨rfl, rfl⟩ | rfl | (go_at_call 26; (with_reducible refine (rest_any e.1 5 HK1.out (by omega) (by omega) _).mono ?_); rintro e w' ⟨rfl, hb⟩; first | exact ⟨rfl, hb⟩ | exact ⟨rfl, hb ▸ Bel.refl _⟩) | (go_at_call 26; (with_reducible refine (rest_any e.2 5 HK2.out (by omega) (by omega) _).mono ?_); rintro e w' ⟨rfl, hb⟩; first | exact ⟨rfl, hb⟩ | exact ⟨rfl, hb ▸ Bel.refl _⟩))); simp only [Act.put, Act.eval, List.setIfInBounds_toArray, List.set_cons_zero, List.set_cons_succ, Array.getD_eq_getD_getElem?, List.getElem?_toArray, List.getElem?_cons_zero, List.getElem?_cons_succ, Option.getD_some]) | (refine wpK_go 3 (by simp only [List.getElem?_toArray, List.getElem?_cons_zero, List.getElem?_cons_succ] <;> rfl) (by decide +kernel) (by decide +kernel) (by kernel_rfl) (by rfl) (by exact fun _ _ _ _ h => h) ?_; apply Exists.intro; refine ⟨fun w1 h1 => ?_, ?_⟩; (first | exact g_move _ rfl | exact g_assign _ rfl | (have fct0 := F0 w1 h1; have fct1 := F1 w1 h1; go_simp; first | exact ⟨rfl, rfl⟩ | rfl | (go_at_call 26; (with_reducible refine (rest_any e.1 5 HK1.out (by omega) (by omega) _).mono ?_); rintro e w' ⟨rfl, hb⟩; first | exact ⟨rfl, hb⟩ | exact ⟨rfl, hb ▸ Bel.refl _⟩) | (go_at_call 26; (with_reducible refine (rest_any e.2 5 HK2.out (by omega) (by omega) _).mono ?_); rintro e w' ⟨rfl, hb⟩; first | exact ⟨rfl, hb⟩ | exact ⟨rfl, hb ▸ Bel.refl _⟩))); simp only [Act.put, Act.eval, List.setIfInBounds_toArray, List.set_cons_zero, List.set_cons_succ, Array.getD_eq_getD_getElem?, List.getElem?_toArray, List.getElem?_cons_zero, List.getElem?_cons_succ, Option.getD_some]) | (refine wpK_go 4 (by simp only [List.getElem?_toArray, List.getElem?_cons_zero, List.getElem?_cons_succ] <;> rfl) (by decide +kernel) (by decide +kernel) (by kernel_rfl) (by rfl) (by exact fun _ _ _ _ h => h) ?_; apply Exists.intro; refine ⟨fun w1 h1 => ?_, ?_⟩; (first | exact g_move _ rfl | exact g_assign _ rfl | (have fct0 := F0 w1 h1; have fct1 := F1 w1 h1; go_simp; first | exact ⟨rfl, rfl⟩ | rfl | (go_at_call 26; (with_reducible refine (rest_any e.1 5 HK1.out (by omega) (by omega) _).mono ?_); rintro e w' ⟨rfl, hb⟩; first | exact ⟨rfl, hb⟩ | exact ⟨rfl, hb ▸ Bel.refl _⟩) | (go_at_call 26; (with_reducible refine (rest_any e.2 5 HK2.out (by omega) (by omega) _).mono ?_); rintro e w' ⟨rfl, hb⟩; first | exact ⟨rfl, hb⟩ | exact ⟨rfl, hb ▸ Bel.refl _⟩))); simp only [Act.put, Act.eval, List.setIfInBounds_toArray, List.set_cons_zero, List.set_cons_succ, Array.getD_eq_getD_getElem?, List.getElem?_toArray, List.getElem?_cons_zero, List.getElem?_cons_succ, Option.getD_some]) | (refine wpK_go 5 (by simp only [List.getElem?_toArray, List.getElem?_cons_zero, List.getElem?_cons_succ] <;> rfl) (by decide +kernel) (by decide +kernel) (by kernel_rfl) (by rfl) (by exact fun _ _ _ _ h => h) ?_; apply Exists.intro; refine ⟨fun w1 h1 => ?_, ?_⟩; (first | exact g_move _ rfl | exact g_assign _ rfl | (have fct0 := F0 w1 h1; have fct1 := F1 w1 h1; go_simp; first | exact ⟨rfl, rfl⟩ | rfl | (go_at_call 26; (with_reducible refine (rest_any e.1 5 HK1.out (by omega) (by omega) _).mono ?_); rintro e w' ⟨rfl, hb⟩; first | exact ⟨rfl, hb⟩ | exact ⟨rfl, hb ▸ Bel.refl _⟩) | (go_at_call 26; (with_reducible refine (rest_any e.2 5 HK2.out (by omega) (by omega) _).mono ?_); rintro e w' ⟨rfl, hb⟩; first | exact ⟨rfl, hb⟩ | exact ⟨rfl, hb ▸ Bel.refl _⟩))); simp only [Act.put, Act.eval, List.setIfInBounds_toArray, List.set_cons_zero, List.set_cons_succ, Array.getD_eq_getD_getElem?, List.getElem?_toArray, List.getElem?_cons_zero, List.getElem?_cons_succ, Option.getD_some]) | (refine wpK_go 6 (by simp only [List.getElem?_toArray, List.getElem?_cons_zero, List.getElem?_cons_succ] <;> rfl) (by decide +kernel) (by decide +kernel) (by kernel_rfl) (by rfl) (by exact fun _ _ _ _ h => h) ?_; apply Exists.intro; refine ⟨fun w1 h1 => ?_, ?_⟩; (first | exact g_move _ rfl | exact g_assign _ rfl | (have fct0 := F0 w1 h1; have fct1 := F1 w1 h1; go_simp; first | exact ⟨rfl, rfl⟩ | rfl | (go_at_call 26; (with_reducible refine (rest_any e.1 5 HK1.out (by omega) (by omega) _).mono ?_); rintro e w' ⟨rfl, hb⟩; first | exact ⟨rfl, hb⟩ | exact ⟨rfl, hb ▸ Bel.refl _⟩) | (go_at_call 26; (with_reducible refine (rest_any e.2 5 HK2.out (by omega) (by omega) _).mono ?_); rintro e w' ⟨rfl, hb⟩; first | exact ⟨rfl, hb⟩ | exact ⟨rfl, hb ▸ Bel.refl _⟩))); simp only [Act.put, Act.eval, List.setIfInBounds_toArray, List.set_cons_zero, List.set_cons_succ, Array.getD_eq_getD_getElem?, List.getElem?_toArray, List.getElem?_cons_zero, List.getElem?_cons_succ, Option.getD_some]) | (refine wpK_go 7 (by simp only [List.getElem?_toArray, List.getElem?_cons_zero, List.getElem?_cons_succ] <;> rfl) (by decide +kernel) (by decide +kernel) (by kernel_rfl) (by rfl) (by exact fun _ _ _ _ h => h) ?_; apply Exists.intro; refine ⟨fun w1 h1 => ?_, ?_⟩; (first | exact g_move _ rfl | exact g_assign _ rfl | (have fct0 := F0 w1 h1; have fct1 := F1 w1 h1; go_simp; first | exact ⟨rfl, rfl⟩ | rfl | (go_at_call 26; (with_reducible refine (rest_any e.1 5 HK1.out (by omega) (by omega) _).mono ?_); rintro e w' ⟨rfl, hb⟩; first | exact ⟨rfl, hb⟩ | exact ⟨rfl, hb ▸ Bel.refl _⟩) | (go_at_call 26; (with_reducible refine (rest_any e.2 5 HK2.out (by omega) (by omega) _).mono ?_); rintro e w' ⟨rfl, hb⟩; first | exact ⟨rfl, hb⟩ | exact ⟨rfl, hb ▸ Bel.refl _⟩))); simp only [Act.put, Act.eval, List.setIfInBounds_toArray, List.set_cons_zero, List.set_cons_succ, Array.getD_eq_getD_getElem?, List.getElem?_toArray, List.getElem?_cons_zero, List.getElem?_cons_succ, Option.getD_some]) | (refine wpK_skip 0 (by simp only [List.getElem?_toArray, List.getElem?_cons_zero, List.getElem?_cons_succ] <;> rfl) (by decide +kernel) (by decide +kernel) (by kernel_rfl) (by rfl) (by exact fun _ _ _ _ h => h) ?_; simp only [Act.put, Act.eval, List.setIfInBounds_toArray, List.set_cons_zero, List.set_cons_succ, Array.getD_eq_getD_getElem?, List.getElem?_toArray, List.getElem?_cons_zero, List.getElem?_cons_succ, Option.getD_some]) | (refine wpK_skip 1 (by simp only [List.getElem?_toArray, List.getElem?_cons_zero, List.getElem?_cons_succ] <;> rfl) (by decide +kernel) (by decide +kernel) (by kernel_rfl) (by rfl) (by exact fun _ _ _ _ h => h) ?_; simp only [Act.put, Act.eval, List.setIfInBounds_toArray, List.set_cons_zero, List.set_cons_succ, Array.getD_eq_getD_getElem?, List.getElem?_toArray, List.getElem?_cons_zero, List.getElem?_cons_succ, Option.getD_some]) | (refine wpK_skip 2 (by simp only [List.getElem?_toArray, List.getElem?_cons_zero, List.getElem?_cons_succ] <;> rfl) (by decide +kernel) (by decide +kernel) (by kernel_rfl) (by rfl) (by exact fun _ _ _ _ h => h) ?_; simp only [Act.put, Act.eval, List.setIfInBounds_toArray, List.set_cons_zero, List.set_cons_succ, Array.getD_eq_getD_getElem?, List.getElem?_toArray, List.getElem?_cons_zero, List.getElem?_cons_succ, Option.getD_some]) | (refine wpK_skip 3 (by simp only [List.getElem?_toArray, List.getElem?_cons_zero, List.getElem?_cons_succ] <;> rfl) (by decide +kernel) (by decide +kernel) (by kernel_rfl) (by rfl) (by exact fun _ _ _ _ h => h) ?_; simp only [Act.put, Act.eval, List.setIfInBounds_toArray, List.set_cons_zero, List.set_cons_succ, Array.getD_eq_getD_getElem?, List.getElem?_toArray, List.getElem?_cons_zero, List.getElem?_cons_succ, Option.getD_some]) | (refine wpK_skip 4 (by simp only [List.getElem?_toArray, List.getElem?_cons_zero, List.getElem?_cons_succ] <;> rfl) (by decide +kernel) (by decide +kernel) (by kernel_rfl) (by rfl) (by exact fun _ _ _ _ h => h) ?_; simp only [Act.put, Act.eval, List.setIfInBounds_toArray, List.set_cons_zero, List.set_cons_succ, Array.getD_eq_getD_getElem?, List.getElem?_toArray, List.getElem?_cons_zero, List.getElem?_cons_succ, Option.getD_some]) | (refine wpK_skip 5 (by simp only [List.getElem?_toArray, List.getElem?_cons_zero, List.getElem?_cons_succ] <;> rfl) (by decide +kernel) (by decide +kernel) (by kernel_rfl) (by rfl) (by exact fun _ _ _ _ h => h) ?_; simp only [Act.put, Act.eval, List.setIfInBounds_toArray, List.set_cons_zero, List.set_cons_succ, Array.getD_eq_getD_getElem?, List.getElem?_toArray, List.getElem?_cons_zero, List.getElem?_cons_succ, Option.getD_some]) | (refine wpK_skip 6 (by simp only [List.getElem?_toArray, List.getElem?_cons_zero, List.getElem?_cons_succ] <;> rfl) (by decide +kernel) (by decide +kernel) (by kernel_rfl) (by rfl) (by exact fun _ _ _ _ h => h) ?_; simp only [Act.put, Act.eval, List.setIfInBounds_toArray, List.set_cons_zero, List.set_cons_succ, Array.getD_eq_getD_getElem?, List.getElem?_toArray, List.getElem?_cons_zero, List.getElem?_cons_succ, Option.getD_some]) | (refine wpK_skip 7 (by simp only [List.getElem?_toArray, List.getElem?_cons_zero, List.getElem?_cons_succ] <;> rfl) (by decide +kernel) (by decide +kernel) (by kernel_rfl) (by rfl) (by exact fun _ _ _ _ h => h) ?_; simp only [Act.put, Act.eval, List.setIfInBounds_toArray, List.set_cons_zero, List.set_cons_succ, Array.getD_eq_getD_getElem?, List.getElem?_toArray, List.getElem?_cons_zero, List.getElem?_cons_succ, Option.getD_some])))
      (refine wpK_one 8 (by decide +kernel) ?_; intro w4 hw4; refine op_wanted (by simp only [List.getElem?_toArray, List.getElem?_cons_zero, List.getElem?_cons_succ] <;> rfl) rfl ?_)
      have hown4 := own_bel HO3.out hw4
      refine wp_buildq 23 _ rfl 31 i0 Try.underlying23 J.out.1 J.out.2.1 J.out.2.2.1 (lk e) rfl ?_
      refine ⟨Kp.of ((Bel.refl _).alloc _), ?_⟩
      simp only [Act.put, Act.eval, List.setIfInBounds_toArray, List.set_cons_zero, List.set_cons_succ, Array.getD_eq_getD_getElem?, List.getElem?_toArray, List.getElem?_cons_zero, List.getElem?_cons_succ, Option.getD_some]
      (refine wpK_one 9 (by decide +kernel) ?_; intro w5 hw5; refine op_wanted (by simp only [List.getElem?_toArray, List.getElem?_cons_zero, List.getElem?_cons_succ] <;> rfl) rfl ?_)
      have hb5 := (hw4.alloc (.cells (qrv (lk e)) 31)).trans hw5
      have hown5 := own_bel HO3.out hb5
      have hsrc := Src.keep (Src.box (l := qrl (lk e)) (Box.new w4 (qrv (lk e)) 31) 1) hw5
      have hsz5 : w.heap.size ≤ w5.heap.size := (HBW.out.trans hb5).size
      refine wp_append_src _ _ 23 rfl w.heap.size 31 i0 _ 2 16 Try.underlying23 J.out.1 J.out.2.1 J.out.2.2.1 J.out.2.2.2 rfl (by omega) u3 i (qrc ((l.take i).map lk)) rfl hown5 (some ⟨w4.heap.size, 0, none⟩) 1 1 (qrl (lk e)) rfl rfl hsrc (by simp [qrl, Value.oneCell']) (by unfold maxLen; omega) (by omega) hsz5 ?_
      intro v7 w7 hown7 hg7 hat7
      refine ⟨Kp.grown hg7 (fun e9 => HNB.out e9.symm), ?_⟩
      simp only [Act.put, Act.eval, List.setIfInBounds_toArray, List.set_cons_zero, List.set_cons_succ, Array.getD_eq_getD_getElem?, List.getElem?_toArray, List.getElem?_cons_zero, List.getElem?_cons_succ, Option.getD_some]
      (repeat (first | (refine wpK_go 10 (by simp only [List.getElem?_toArray, List.getElem?_cons_zero, List.getElem?_cons_succ] <;> rfl) (by decide +kernel) (by decide +kernel) (by kernel_rfl) (by rfl) (by exact fun _ _ _ _ h => h) ?_; apply Exists.intro; refine ⟨fun w1 h1 => ?_, ?_⟩; (first | exact g_move _ rfl | exact g_assign _ rfl | (go_simp; first | exact ⟨rfl, rfl⟩ | rfl)); simp only [Act.put, Act.eval, List.setIfInBounds_toArray, List.set_cons_zero, List.set_cons_succ, Array.getD_eq_getD_getElem?, List.getElem?_toArray, List.getElem?_cons_zero, List.getElem?_cons_succ, Option.getD_some]) | (refine wpK_skip 10 (by simp only [List.getElem?_toArray, List.getElem?_cons_zero, List.getElem?_cons_succ] <;> rfl) (by decide +kernel) (by decide +kernel) (by kernel_rfl) (by rfl) (by exact fun _ _ _ _ h => h) ?_; simp only [Act.put, Act.eval, List.setIfInBounds_toArray, List.set_cons_zero, List.set_cons_succ, Array.getD_eq_getD_getElem?, List.getElem?_toArray, List.getElem?_cons_zero, List.getElem?_cons_succ, Option.getD_some])))
      (refine wpK_done (by decide +kernel) ?_ _; intro w9 hw9; try simp only [Act.put, Act.eval, List.setIfInBounds_toArray, List.set_cons_zero, List.set_cons_succ, Array.getD_eq_getD_getElem?, List.getElem?_toArray, List.getElem?_cons_zero, List.getElem?_cons_succ, Option.getD_some])
      have HO9 := Lib.hid (own_bel hown7 hw9)
      have HB9 := Lib.hid (((HBW.out.trans hb5).grown hg7 hsz5 (own_block_ge hown5)).trans (Below.mono hw9 (Nat.le_trans hsz5 hg7.size)))
      have HT := Lib.hid (qtake_snoc HE.out)
      clear hown4 hb5 hown5 hsrc hsz5 hown7 hg7 hat7 hw4 hw5 hw9 F0 F1
      go_wp2
      go_roundw
      case rel =>
        refine ⟨i + 1, by omega, by go_num, ?_, HB9.out⟩
        rw [HT.out, List.map_append, qrc_append]
        exact HO9.out
      case measure => simp [intOf]; omega
    · obtain rfl : i = n := by omega
      have HF := Lib.hid HO.out
      go_wp2
      go_ret
      refine ⟨_, rfl, ?_, HB.out⟩
      have := HF.out
      rw [qtake_all HL.out] at this
      rw [HL.out.1]; exact this
theorem SlQ.take {w : World} {A : Option Addr} {n : Nat} {l : List (Int × Int)} (h : SlQ w A n l) {i : Nat} (hi : i ≤ n) : SlQ w A i (l.take i) := by
  refine ⟨by rw [List.length_take, h.1]; omega, fun h0 => ?_⟩
  obtain ⟨b, off, hA, hlt, hr⟩ := h.2 (by omega)
  refine ⟨b, off, hA, hlt, fun j v hv => hr j v ?_⟩
  rw [← List.take_append_drop i l, qrc_append, List.getElem?_append_left (List.getElem?_eq_some_iff.1 hv).1]
  exact hv
theorem lk_in (l : List (Int × Int)) : (l.map lk).any qbad = false := by
  rw [List.any_eq_false]
  intro x hx
  obtain ⟨⟨a, b⟩, _, rfl⟩ := List.mem_map.1 hx
  show ¬ (decide (a % 5 < 0 ∨ 4 < a % 5) || decide (b % 5 < 0 ∨ 4 < b % 5)) = true
  rw [Bool.or_eq_true, decide_eq_true_eq, decide_eq_true_eq]
  omega
theorem any_take {l : List (Int × Int)} (h : l.any qbad = false) (i : Nat) : (l.take i).any qbad = false := by
  rw [List.any_eq_false] at h ⊢
  exact fun x hx => h x (List.mem_of_mem_take hx)
theorem ringB_in {l : List (Int × Int)} {r : List Nat} {c : Int} (h : l.any qbad = false) (k : RingB l r c) : c = 0 ∧ RingOk (Pq l) r := by
  rcases k with ⟨k1, _⟩ | ⟨_, k2, k3⟩
  · rw [h] at k1; cases k1
  · exact ⟨k2, k3⟩
theorem pq_mono {l k : List (Int × Int)} (h : ∀ x ∈ l, x ∈ k) : ∀ a b, Pq l a b = true → Pq k a b = true := fun a b hab => decide_eq_true (h _ (of_decide_eq_true hab))
end Go.Proofs.Ytoaehoildnanpaa

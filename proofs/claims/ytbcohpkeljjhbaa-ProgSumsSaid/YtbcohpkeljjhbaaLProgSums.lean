/- 'deadheatkeep.ProgSums' returns true for every input and leaves its argument as it is. No condition. -/
import Derived.Test.YtbcohpkeljjhbaaOpen
import Derived.Test.YtbcohpkeljjhbaaOpenInts
import Derived.Test.YtbcohpkeljjhbaaKeepPg
import Derived.Test.YtbcohpkeljjhbaaKeepTw
import Derived.Test.YtbcohpkeljjhbaaGh
import Derived.Test.YtbcohpkeljjhbaaRest
import Derived.Test.YtbcohpkeljjhbaaCi
import Derived.Test.YtbcohpkeljjhbaaBl
import Derived.Deep.DeepCutAuto
import Derived.Test.YtbcohpkeljjhbaaFo
set_option linter.all false
set_option maxRecDepth 100000
namespace Go.Proofs.Ytbcohpkeljjhbaa.LProgSums
open Go Go.ChangeShapes Go.WideShapes Go.ChangeAt Go.RowKit

/-- The numbers that are added. -/
def nums (q : List Int) : List Int := (q.take 6).map fun n => n % 2001 - 1000
theorem nums_len (q : List Int) : (nums q).length = min q.length 6 := by unfold nums; rw [List.length_map, List.length_take, Nat.min_comm]
theorem nums_at {q : List Int} {i : Nat} {n : Int} (h : q[i]? = some n) (hi : i < 6) : (nums q)[i]? = some (n % 2001 - 1000) := by
  unfold nums
  rw [List.getElem?_map, List.getElem?_take_of_lt hi, h]
  rfl
theorem nums_b {q : List Int} : ∀ n ∈ nums q, -1000 ≤ n ∧ n ≤ 1000 := fun n h => by
  unfold nums at h
  obtain ⟨m, _, rfl⟩ := List.mem_map.1 h
  have h1 := Int.emod_nonneg m (show (2001 : Int) ≠ 0 by decide)
  have h2 := Int.emod_lt_of_pos m (show (0 : Int) < 2001 by decide)
  omega
theorem sum_b : ∀ {l : List Int}, (∀ n ∈ l, -1000 ≤ n ∧ n ≤ 1000) → -(1000 * (l.length : Int)) ≤ l.sum ∧ l.sum ≤ 1000 * (l.length : Int)
  | [], _ => by simp
  | x :: l, h => by
    have h1 := h x (List.mem_cons_self ..)
    have h2 := sum_b (l := l) fun n hn => h n (List.mem_cons_of_mem _ hn)
    rw [List.sum_cons, List.length_cons]
    omega
theorem sums_b (q : List Int) (i : Nat) : -6000 ≤ ((nums q).take i).sum ∧ ((nums q).take i).sum ≤ 6000 := by
  have h := sum_b (l := (nums q).take i) fun n hn => nums_b n (List.mem_of_mem_take hn)
  have hl : ((nums q).take i).length ≤ 6 := by rw [List.length_take, nums_len]; omega
  omega
/-- What is wanted of the variables, behind the first i numbers. -/
def wantF (q : List Int) (i j : Nat) : Int := if j < i then ((nums q).take (j + 1)).sum else 0
def w8 (f : Nat → Int) : Array Value := #[.int .i64 (f 0), .int .i64 (f 1), .int .i64 (f 2), .int .i64 (f 3), .int .i64 (f 4), .int .i64 (f 5), .int .i64 (f 6), .int .i64 (f 7)]
theorem w8_set (q : List Int) {i : Nat} (hi : i < 6) : (w8 (wantF q i)).setIfInBounds i (.int .i64 ((nums q).take (i + 1)).sum) = w8 (wantF q (i + 1)) := by
  match i, hi with
  | 0, _ => simp [w8, wantF]
  | 1, _ => simp [w8, wantF]
  | 2, _ => simp [w8, wantF]
  | 3, _ => simp [w8, wantF]
  | 4, _ => simp [w8, wantF]
  | 5, _ => simp [w8, wantF]
theorem sumO_app : ∀ (a b : List Int) (u : Nat), sumO u (a ++ b) = sumO u a ++ sumO (u + a.length) b
  | [], b, u => by simp [sumO]
  | x :: a, b, u => by
    simp only [List.cons_append, sumO, List.length_cons, sumO_app a b (u + 1)]
    rw [show u + 1 + a.length = u + (a.length + 1) by omega]
theorem sumO_snoc {q : List Int} {i : Nat} {n : Int} (h : (nums q)[i]? = some n) : sumO 0 ((nums q).take (i + 1)) = sumO 0 ((nums q).take i) ++ [⟨3, 0, n⟩, ⟨2, (i : Nat), 0⟩] := by
  have hi : i < (nums q).length := (List.getElem?_eq_some_iff.1 h).1
  rw [List.take_succ, h, sumO_app]
  simp [sumO, List.length_take, Nat.min_eq_left (Nat.le_of_lt hi)]
theorem T8 : RowTy Try.prog 24 8 := ⟨_, Try.underlying24, rfl, by kernel_rfl⟩
theorem grd_8 : Try.prog.eqGuardType Try.prog.depth 24 = false := by kernel_rfl
theorem items_d (d : Nat) (xs : Array Value) (w : World) : ∀ is : List Nat, (∀ i ∈ is, ∃ n, xs[i]? = some (.int .i64 n)) → (Op.eqItems (d + 1) 3 1 xs xs is).run Try.prog w = .ok true w
  | [], _ => rfl
  | i :: is, h => by
    obtain ⟨n, hn⟩ := h i (List.mem_cons_self ..)
    have hp : (part 3 xs (i * 1)).run Try.prog w = .ok (.int .i64 n) w := run_part_int Try.underlying3 xs _ _ (by rw [Nat.mul_one]; exact hn) w
    have he : (Op.equalIn (d + 1) 3 (.int .i64 n) (.int .i64 n)).run Try.prog w = .ok true w := by
      rw [run_equalIn_int w d 3 .i64 .i64 n n Try.underlying3]; simp
    simp only [Op.eqItems, Sem.run_bind, hp, Result.andThen_ok, he, Bool.not_true, Bool.false_eq_true, if_false]
    exact items_d d xs w is fun j hj => h j (List.mem_cons_of_mem _ hj)
theorem eql_8 (f : Nat → Int) (w : World) : (binOp .eql 24 (.agg (w8 f)) (.agg (w8 f))).run Try.prog w = .ok (.bool true) w := by
  obtain ⟨j, hj, _⟩ := enint_info
  rw [run_eql_struct, run_equalIn_array w 9999 (w8 f) (w8 f) Try.underlying24 hj, cells_int, items_d 9998]
  · rfl
  · intro i hi
    have h8 : i < 8 := by simpa using hi
    match i, h8 with
    | 0, _ => exact ⟨_, rfl⟩ | 1, _ => exact ⟨_, rfl⟩ | 2, _ => exact ⟨_, rfl⟩ | 3, _ => exact ⟨_, rfl⟩ | 4, _ => exact ⟨_, rfl⟩ | 5, _ => exact ⟨_, rfl⟩ | 6, _ => exact ⟨_, rfl⟩ | 7, _ => exact ⟨_, rfl⟩
theorem loadGm8 {P : Program} {ops : Array Oper} {rest : List Oper} {o : Oper} {a : Act} {w : World} {Q : Exit → Act → World → Prop} (ty : TypeId) (x : Operand) (ho : o.op = .load ty x) (hw : Region.wanted o (yielded ops a.tmps) = true) {b off : Nat} {cs : List Value} (hx : a.eval x = .pointer (some ⟨b, off, none⟩)) (hr : w.rangeAt b off cs) (hT : RowTy P ty cs.length) (c : Array Value) (hc : cs.toArray = c)
    (h : wpList P ops Q rest (a.put o.dst (.agg c)) w) : wpList P ops Q (o :: rest) a w := by
  subst hc
  obtain ⟨d, hu, hd, hi⟩ := hT
  refine BigFrame.wpList_want hw fun _ hK => ?_
  unfold Oper.wp execOp
  simp only [ho, hx, Instr.loadAt, Instr.sureAddr, Sem.run_bind, Sem.run_pure, Result.andThen_ok, run_loadVar_mid w b off ty cs d hr hu hd hi]
  exact hK _ _ h
theorem own_slice {w : World} {base n size : Nat} {e : TypeId} {v : Value} {xs : List Value} (h : w.ownsRow base e size v n xs) : ∃ A c, v = .slice A n c ∧ True := by
  rcases h.2 with ⟨rfl, rfl, _⟩ | ⟨g, cap, cur, rfl, _⟩
  · exact ⟨none, 0, rfl, trivial⟩
  · exact ⟨_, _, rfl, trivial⟩
/-- What the loop has made. -/
structure SuW (w : World) (T : Nat) (q : List Int) (i : Nat) (v : Value) (wr : World) : Prop where
  box : Box wr T (w8 (wantF q i)) 24
  own : wr.ownsRow (T + 1) 46 3 v (2 * i) (evc (sumO 0 ((nums q).take i)))
  bel : Bel w wr
set_option maxHeartbeats 16000000 in
theorem walkH (HR : RunC) (W : World) (B : Option Addr) (k d : Nat) (q : List Int) (s1 : SI W B k q) (m1 : k ≤ d) (x1 : d ≤ maxLen) (g1 : ∀ x ∈ q, In64 x) :
    Calls Try.prog 10 #[.slice B k d] W fun e w' => e = .returned (.bool true) ∧ Below W.heap.size W w' := by
  have HS := Lib.hid s1
  have HM := Lib.hid (And.intro m1 x1)
  have HG := Lib.hid g1
  have HRN := Lib.hid (fun w => ran_any HR w)
  unfold RunC at HR
  have H1 := Lib.hid HR
  obtain ⟨i0, hi0, hz0, hz1, hz2⟩ := info_parts op_info
  have HQL := Lib.hid (show k = q.length from s1.1.symm)
  have hkd := m1
  clear s1 m1 x1 g1 HR
  go_enter Try.func10, Try.ntmps10
  go_wp2_with fail
  refine (HRN.out W).mono ?_
  rintro e0 w0 ⟨rfl, hb0⟩
  have HW0 := Lib.hid (Bel.of hb0)
  clear hb0
  go_upto_if 15 with fail
  go_cut [0] (fun v wr => v = .slice B (min k 6) d ∧ w0 = wr)
  case first =>
    by_cases h6 : 6 < k
    · have h6' : (6 : Int) < k := by omega
      have hm : min k 6 = 6 := by omega
      go_wp2
      go_meet
      case rel => exact ⟨by rw [hm], rfl⟩
    · have h6' : ¬ (6 : Int) < k := by omega
      have hm : min k 6 = k := by omega
      go_wp2
      go_meet
      case rel => exact ⟨by rw [hm], rfl⟩
  case rest =>
    obtain ⟨rfl, rfl⟩ := hcut
    have HK6 := Lib.hid (show min k 6 ≤ 6 ∧ min k 6 ≤ k ∧ min k 6 = (nums q).length from ⟨by omega, by omega, by rw [nums_len, ← HQL.out]⟩)
    generalize min k 6 = K at *
    have hKd : (K : Int) ≤ d := by have := HK6.out.2.1; omega
    have H0 := Lib.hid (show SuW w0 w0.heap.size q 0 (.slice none 0 0) (w0.alloc (.cells (w8 (wantF q 0)) 24)) from ⟨Box.new w0 _ _, World.ownsRow_nil _ _ _ _, (Bel.refl w0).alloc _⟩)
    go_upto_region 7 with fail
    change Code.wp _ _ _ _ (w0.alloc (.cells (w8 (wantF q 0)) 24))
    generalize w0.alloc (.cells (w8 (wantF q 0)) 24) = w1 at *
    generalize hT : w0.heap.size = T at *
    have HT := Lib.hid hT
    clear hT
    go_wp2
    go_loopw [3, 5, 20] (fun v sm t wr => ∃ i : Nat, i ≤ K ∧ t = .int .i64 i ∧ sm = .int .i64 ((nums q).take i).sum ∧ SuW w0 T q i v wr) (fun _ _ t _ => K - (intOf t).toNat)
    case atStart => exact ⟨0, by omega, rfl, rfl, H0.out⟩
    case round =>
      obtain ⟨i, hi, rfl, rfl, hr⟩ := hrel
      have hK6 := HK6.out.1
      by_cases hlt : i < K
      · have hlt' : (i : Int) < K := by omega
        have hik : i < k := by have := HK6.out.2.1; omega
        have hid' : (i : Int) ≤ d := by omega
        have hi8 : (i : Int) < 8 := by omega
        obtain ⟨b, o, rfl, hc⟩ := HS.out.2 (by omega)
        obtain ⟨nq, hnq⟩ : ∃ nq, q[i]? = some nq := ⟨_, List.getElem?_eq_getElem (by rw [← HQL.out]; exact hik)⟩
        have hci := (HW0.out.trans hr.bel).cell (hc i hik)
        rw [hnq] at hci
        have hci' : wr.cell? ⟨b, o + i, none⟩ = some (.int .i64 nq) := hci
        have HN64 := Lib.hid (HG.out nq (List.mem_of_getElem? hnq))
        have hz := nums_at hnq (by omega)
        have hzb := nums_b _ (List.mem_of_getElem? hz)
        have hsb := sums_b q i
        have hts := take_sum hz
        have hss := sumO_snoc hz
        generalize hzz : nq % 2001 - 1000 = z at *
        have hwz : IntKind.i64.wrap (nq % 2001 - 1000) = z := by rw [hzz]; exact IntWalk.i64_in _ (by omega)
        have hws : IntKind.i64.wrap (((nums q).take i).sum + z) = ((nums q).take (i + 1)).sum := by rw [← hts]; exact IntWalk.i64_in _ (by have := sums_b q (i + 1); omega)
        have HWZ := Lib.hid hwz
        have HWS := Lib.hid hws
        have HSS := Lib.hid hss
        have HR := Lib.hid hr
        have HSB := Lib.hid hsb
        have HI := Lib.hid (And.intro hi hlt)
        clear hc hci hnq hz hzb hsb hts hss hwz hws hzz hr H0
        generalize ((nums q).take i).sum = S at *
        go_wp2_with fail
        refine (rest_any nq 2001 HN64.out (by omega) (by omega) wr).mono ?_
        rintro e9 w9 ⟨rfl, rfl⟩
        have hwz := HWZ.out
        have hws := HWS.out
        clear hci'
        go_upto_region 13 with fail
        clear hwz hws
        have HA := Lib.hid ((Bel.refl wr).alloc (.cells (evc [⟨3, 0, z⟩, ⟨2, (i : Nat), 0⟩]).toArray 46))
        have hszT : T + 1 ≤ (wr.alloc (.cells (evc [⟨3, 0, z⟩, ⟨2, (i : Nat), 0⟩]).toArray 46)).heap.size := by have := HR.out.box.lt; simp; omega
        have HSZ := Lib.hid hszT
        clear hszT
        go_upto_region 14 with (first | (refine bld2 44 _ _ rfl rfl 46 i0 Try.underlying44 hi0 hz0 hz1 ⟨3, 0, z⟩ ⟨2, (i : Nat), 0⟩ rfl rfl ?_) | (at_builtin; refine wpList_append_src rfl (.tmp 31) (.tmp 36) _ rfl (T + 1) 46 i0 _ 3 24 Try.underlying44 hi0 hz0 hz1 hz2 rfl (by omega) _ (2 * i) (evc (sumO 0 ((nums q).take i))) rfl (own_bel HR.out.own HA.out) (some ⟨wr.heap.size, 0, none⟩) 2 2 (evc [⟨3, 0, z⟩, ⟨2, (i : Nat), 0⟩]) rfl rfl (Src.box (show Box _ wr.heap.size (evc [⟨3, 0, z⟩, ⟨2, (i : Nat), 0⟩]).toArray 46 from Box.new wr _ _) 2) (evc_one _) (by unfold maxLen; omega) (by omega) HSZ.out ?_; intro v6 w6 ho6 hg6 hat6))
        have hb6 : Below T wr w6 := (HA.out.out.mono (by have := HR.out.box.lt; omega)).trans (grown_below hg6 (own_bel HR.out.own HA.out) (Nat.le_succ _) (by have := HSZ.out; omega))
        have hx6 : Box w6 T (w8 (wantF q i)) 24 := (HA.out.box HR.out.box).grown hg6 (fun e => by have := (own_lt HR.out.own e.symm).1; omega)
        rw [← evc_append, ← HSS.out] at ho6
        have HX6 := Lib.hid hx6
        have HB6 := Lib.hid (show Bel w0 w6 from HR.out.bel.out.trans (by rw [HT.out]; exact hb6))
        have HO6 := Lib.hid ho6
        have ci := hx6.cell i (v := .int .i64 (wantF q i i)) (by have : i < 6 := by omega
                                                                 match i, this with
                                                                 | 0, _ => rfl | 1, _ => rfl | 2, _ => rfl | 3, _ => rfl | 4, _ => rfl | 5, _ => rfl)
        have zi := hx6.frozen i
        clear hb6 hx6 ho6 hg6 hat6
        go_wp2
        have HFN := Lib.hid (show SuW w0 T q (i + 1) v6 (w6.setCell ⟨T, i, none⟩ (.int .i64 ((nums q).take (i + 1)).sum)) from
          ⟨by have h := HX6.out.set i (.int .i64 ((nums q).take (i + 1)).sum); rw [w8_set q (by omega)] at h; exact h,
           own_keep (by rw [show 2 * (i + 1) = 2 * i + 2 by omega]; exact HO6.out) (fun g hg _ => heap_setCell_other w6 ⟨T, i, none⟩ g _ (by have := (own_lt HO6.out hg).1; dsimp only; omega)),
           HB6.out.setCell ⟨T, i, none⟩ (by have := HT.out; dsimp only; omega) _⟩)
        go_roundw
        case rel => exact ⟨i + 1, by omega, by go_num, rfl, HFN.out⟩
        case measure => simp [intOf]; omega
      · obtain rfl : i = K := by omega
        have htk : (nums q).take i = nums q := by rw [HK6.out.2.2, List.take_length]
        rw [htk]
        have hown := hr.own
        rw [htk] at hown
        have hN2 : (sumO 0 (nums q)).length = 2 * i := by rw [sumO_len, ← HK6.out.2.2]
        obtain ⟨A1, c1, rfl, hs1, hn1, hm1⟩ := Sl.own (show wr.ownsRow (T + 1) 46 3 u3 (sumO 0 (nums q)).length (evc (sumO 0 (nums q))) by rw [hN2]; exact hown)
        have HOK := Lib.hid (sumP_ok (ns := nums q) (by rw [← HK6.out.2.2]; exact hK6) nums_b)
        have HSR := Lib.hid (show SumR (nums q) i (oneS (sumO 0 (nums q)) (2 * i)) from sum_run i (by rw [← HK6.out.2.2]; exact Nat.le_refl _))
        have HDN := Lib.hid (show doneP [sumO 0 (nums q)] (oneS (sumO 0 (nums q)) (2 * i)) = true by have := sum_done (nums q); rwa [← HK6.out.2.2] at this)
        have HB := Lib.hid (HW0.out.trans hr.bel)
        have HXT := Lib.hid (hr.box)
        have HS1 := Lib.hid (And.intro hs1 (And.intro hn1 hm1))
        have HHS := Lib.hid (show ((nums q).take i).sum = (nums q).sum by rw [htk])
        rw [hN2] at HS1
        rw [hN2]
        clear hr hown hs1 hn1 hm1 htk H0
        generalize hops : sumO 0 (nums q) = ops at *
        clear hops hN2
        generalize hN2 : 2 * i = N2 at *
        have hN12 : N2 ≤ 12 := by omega
        go_wp2_with (refine makeInts _ _ rfl rfl N2 (by omega) rfl rfl ?_)
        have hA := Bel.alloc (Bel.refl wr) (.cells #[.slice A1 N2 c1] 44)
        have hB := hA.alloc (.cells (Array.replicate N2 (.int .i64 0)) 3)
        have hbx : Box ((wr.alloc (.cells #[.slice A1 N2 c1] 44)).alloc (.cells (Array.replicate N2 (.int .i64 0)) 3)) wr.heap.size #[.slice A1 N2 c1] 44 := (Box.new wr _ _).old _
        have hby : Box ((wr.alloc (.cells #[.slice A1 N2 c1] 44)).alloc (.cells (Array.replicate N2 (.int .i64 0)) 3)) (wr.heap.size + 1) (Array.replicate N2 (.int .i64 0)) 3 := by
          have h := Box.new (wr.alloc (.cells #[.slice A1 N2 c1] 44)) (Array.replicate N2 (.int .i64 0)) 3
          rwa [World.size_alloc] at h
        have hp := Prg.one hbx (ops := ops) (HS1.out.1.bel hB.out) HS1.out.2.1 HS1.out.2.2
        have hs : SI ((wr.alloc (.cells #[.slice A1 N2 c1] 44)).alloc (.cells (Array.replicate N2 (.int .i64 0)) 3)) (some ⟨wr.heap.size + 1, 0, none⟩) N2 (List.replicate N2 0) := ⟨by simp, fun _ => ⟨_, 0, rfl, fun i hi => by
          rw [Nat.zero_add]
          exact hby.cell i (by simp [hi])⟩⟩
        have hHB := Lib.hid hB
        clear hA hbx hby hB
        refine (H1.out (some ⟨wr.heap.size, 0, none⟩) 1 1 [ops] (some ⟨wr.heap.size + 1, 0, none⟩) N2 N2 (List.replicate N2 0) _ hp (Nat.le_refl _) (by unfold maxLen; omega) hs (Nat.le_refl _) (by unfold maxLen; omega)).mono ?_
        rintro e2 w2 ⟨v2, y2, l2, c2, rfl, hB2, ho2, hb2⟩
        have HV := Lib.hid (EnV.run hB2)
        obtain ⟨rfl, rfl, rfl⟩ : y2 = endP [ops] (oneS ops N2) ∧ l2 = (oneS ops N2).L ∧ c2 = 0 := by
          rcases hB2 with ⟨h1, _⟩ | ⟨_, h1, _⟩ | ⟨_, _, h2, h3, h4⟩
          · exact absurd (chk_ok.2 HOK.out) h1
          · rw [List.length_replicate] at h1; omega
          · exact ⟨h2, h3, h4⟩
        rw [HSR.out.len] at ho2
        obtain ⟨A2, d2, rfl, hn2⟩ := own_slice ho2
        have HX := Lib.hid (enw_box w2 (endP [ops] (oneS ops N2)))
        have HE := Lib.hid (((HB.out.trans hHB.out).call hb2).trans (enw_bel w2 (endP [ops] (oneS ops N2))))
        have HT2 := Lib.hid (((hHB.out.call hb2).trans (enw_bel w2 (endP [ops] (oneS ops N2)))).box HXT.out)
        have HM8 := Lib.hid (show w8 (nat (oneS ops N2).mem) = w8 (wantF q i) by
          have e : ∀ j, nat (oneS ops N2).mem j = wantF q i j := fun j => HSR.out.mem j
          unfold w8; simp only [e])
        have HRG := Lib.hid (show (enw w2 (endP [ops] (oneS ops N2))).rangeAt w2.heap.size 0 (w8 (wantF q i)).toList by
          rw [← HM8.out]
          intro j v hj
          rw [Nat.zero_add]
          exact HX.out.cell j (by
            have h8 : j < 8 := by have := (List.getElem?_eq_some_iff.1 hj).1; simpa [w8] using this
            match j, h8 with
            | 0, _ => exact hj | 1, _ => exact hj | 2, _ => exact hj | 3, _ => exact hj | 4, _ => exact hj | 5, _ => exact hj | 6, _ => exact hj | 7, _ => exact hj))
        have c12 := HX.out.cell 12 (v := .int .i64 (nums q).sum) (by rw [← HHS.out, ← HSR.out.has]; rfl)
        have c18 := HX.out.cell 18 (v := .bool true) (by rw [← HDN.out]; rfl)
        clear hB2 ho2 hb2 hp hs
        generalize endP [ops] (oneS ops N2) = y2 at *
        go_wp2_with (first | (refine enw_store HV.out.ty _ _ rfl rfl HV.out.size HV.out.one rfl rfl rfl ?_) | (refine loadGm8 24 _ rfl rfl rfl HRG.out T8 (w8 (wantF q i)) rfl ?_) | (refine loadG 24 _ rfl rfl rfl HT2.out T8 ?_) | (refine eqlG_step 24 _ _ _ rfl rfl rfl rfl grd_8 (eql_8 (wantF q i) _) ?_))
        go_ret
        exact ⟨rfl, HE.out.out⟩
set_option maxRecDepth 100000 in
theorem lifted (os : Os) (started : os.Started) (H : Type) (enc : TypeId × Value → H) :
    ReturnsInHanded {} Try.checked os 10 .any (Rows.progSumsSpec.pre6 enc Try.prog Try.f10 Rows.progSumsRow.domain false) (Rows.progSumsSpec.post enc Try.prog Try.f10 false true false false) := by
  refine returnsInHanded_of_change_sized (C := Try.checked) own started (by kernel_rfl) Try.func10
    (ChangeSpec.witness6 (enc := enc) (C := Try.checked) false ⟨#[], #[.slice none 0 0], []⟩ 8 (by kernel_rfl) (by kernel_rfl) (by kernel_rfl) (by kernel_rfl)) ?_
  intro W base args ds gs before hval0 hW hcnd hsz0 _
  have hsz : (DataW.weightsEach Try.prog (Try.f10.params.toList ++ Rows.progSumsSpec.plain.varTypes Try.prog) (ds ++ gs)).all (· ≤ reachBytes) = true := hsz0
  clear hsz0
  have hval : ∀ (j : Nat) t v, Try.f10.params[j]? = some t → args[j]? = some v → Value.okWide Try.prog W .any base t v := hval0
  have hW' := hW
  obtain ⟨p, q, hA0, hV, rfl, hfz, hnd⟩ := hW
  have hA : DataW.TrodAll enc Try.prog W 0 (fun _ => true) true Try.f10.params.toList args.toList ds p := hA0
  rw [Try.params10] at hA hval hsz
  obtain ⟨v0, vs0, d0, ds0, p0, q0, hargs, rfl, rfl, h0, r0⟩ := trodAll_cons hA
  obtain ⟨rfl, rfl, rfl⟩ := trodAll_nil r0
  obtain rfl : args = #[v0] := by cases args; simp_all
  obtain ⟨rfl, rfl⟩ := trodVars_none hV
  have t0 := h0
  have lt0 : ∀ x ∈ p0, x.block < W.heap.size := by obtain ⟨m, hm⟩ := t0; exact DataW.trod_lt m _ _ _ hm
  obtain ⟨A0, n0, c0, l0, rfl, s0, m0, x0, g0⟩ := open_ints_arg Try.underlying23 Try.underlying3 (by kernel_rfl) (hval 0 23 v0 rfl rfl) h0
  clear hA0 hval0
  refine (walkH pgrun_c W A0 n0 c0 l0 s0 m0 x0 g0).mono fun e W' ⟨he, bel⟩ => ?_
  subst he
  exact ⟨_, rfl, _, _, _, [], _, [], hW', trodAll_mk1 (shut_bool Try.underlying4 _), (trodAll_cons_mk (Below.trod laidOut (by kernel_rfl) (of_decide_eq_true (by kernel_rfl)) t0 bel lt0) trodAll_mk0), rfl, bel.frame _, fun h => by cases h⟩

theorem over : Rows.progSumsRow.holds Try.pinned (OpenSpec.ofChange Rows.progSumsSpec) :=
  OpenClaim.holds_of_wide 10 Try.f10 rfl rfl rfl rfl rfl rfl rfl ⟨rfl, rfl, rfl, rfl, rfl⟩ rfl rfl rfl rfl rfl (by kernel_rfl) Try.func10 (by kernel_rfl)
    (of_decide_eq_true (by kernel_rfl)) (by unfold Func.isWrapper; first | (rw [if_pos (by decide +kernel)]; kernel_rfl) | (rw [if_neg (by decide +kernel)]; exact ⟨rfl, rfl⟩))
    (fun os started H enc _ => lifted os started H enc)

theorem proved : Rows.ProgSumsSaid := over
#print axioms proved
end Go.Proofs.Ytbcohpkeljjhbaa.LProgSums

import Derived.Shelf.Abstract
import Derived.Test.YtbcohpkeljjhbaaZEqInt
import Derived.Test.YtbcohpkeljjhbaaZFollow
import Derived.Test.YtbcohpkeljjhbaaZTrace
import Derived.Maps.AppendAt
import Derived.Test.YtbcohpkeljjhbaaZAppend
import Derived.Test.YtbcohpkeljjhbaaZTr
set_option linter.all false
set_option maxRecDepth 100000
namespace Go.Proofs.Ytbcohpkeljjhbaa
open Go Go.RowKit

theorem Sl.get {w : World} {A : Option Addr} {n : Nat} {l : List Ev} (h : Sl w A n l) {i : Nat} (hi : i < n) : ∃ e, l[i]? = some e := ⟨_, List.getElem?_eq_getElem (by rw [h.1]; exact hi)⟩
set_option maxHeartbeats 2000000 in
/-- The function value of Before. -/
theorem before1_any (B G n : Nat) (g : Nat → Bool) (t u : TypeId) (w : World) (hb : Box w B #[.slice (some ⟨G, 0, none⟩) n n] t) (hg : Box w G (bs (n * 80) g) u) (i j : Nat) (hi : i < n) (hj : j < 80) (R : Bool) (hR : g (i * 80 + j) = R) :
    Calls Try.prog 69 #[.int .i64 i, .int .i64 j, .pointer (some ⟨B, 0, none⟩)] w fun e w' => e = .returned (.bool R) ∧ Below w.heap.size w w' := by
  subst hR
  have c0 := hb.cell 0 (v := .slice (some ⟨G, 0, none⟩) n n) rfl
  have c1 : w.cell? ⟨G, i * 80 + j, none⟩ = some (.bool (g (i * 80 + j))) := hg.cell _ (bs_get _ (by omega))
  have hi' : (i : Int) < n := by omega
  have hj' : (j : Int) < 80 := by omega
  have hw0 := Lib.hid (Bel.refl w)
  clear hb hg
  go_enter Try.func69, Try.ntmps69
  go_wp2
  go_ret
  exact ⟨rfl, hw0.out⟩
def prOf (R : List Ev → Nat → Nat → Bool) (l : List Ev) : List (Nat × Nat) := if may l = 0 then prsA (R l) l.length else []
def PrPost (w : World) (R : List Ev → Nat → Nat → Bool) (l : List Ev) (e : Ending) (w' : World) : Prop :=
  ∃ v, e = .returned (.tuple #[v, .int .i64 (may l)]) ∧ w'.ownsRow w.heap.size 131 2 v (prOf R l).length (prc (prOf R l)) ∧ Below w.heap.size w w'
theorem prOf_ok {R : List Ev → Nat → Nat → Bool} {l : List Ev} {n : Nat} (h : may l = 0) (hn : l.length = n) : prOf R l = prsA (R l) n := by unfold prOf; rw [if_pos h, hn]
theorem prOf_no {R : List Ev → Nat → Nat → Bool} {l : List Ev} (h : may l ≠ 0) : prOf R l = [] := by unfold prOf; rw [if_neg h]
theorem bef_up (l : List Ev) (a b : Nat) (h : b ≤ a) : bef l a b = false := by rw [← Bool.not_eq_true]; intro hh; have := bef_lt hh; omega
theorem Bel.own {w w1 w2 : World} {e : TypeId} {size n : Nat} {v : Value} {xs : List Value} (h : Bel w w1) (ho : w2.ownsRow w1.heap.size e size v n xs) : w2.ownsRow w.heap.size e size v n xs := own_drop_alloc ho h.size
theorem doneC_at (l : List Ev) {a b : Nat} (hb : b < 80) : doneC l 0 (a * 80 + b) = bef l a b := by
  unfold doneC
  rw [if_neg (by omega), show (a * 80 + b) / 80 = a by omega, show (a * 80 + b) % 80 = b by omega]
set_option maxHeartbeats 4000000 in
theorem before_any (A : Option Addr) (n c : Nat) (l : List Ev) (w : World) (hl : Sl w A n l) : Calls Try.prog 43 #[.slice A n c] w (PrPost w bef l) := by
  have hw0 := Bel.refl w
  have HL := Lib.hid hl
  have HE := Lib.hid (enters_of Try.func69 (by kernel_rfl) rfl)
  cases h1 : (may l != 0)
  · have HM := Lib.hid (show may l = 0 by simpa using h1)
    have hn80 : n ≤ 80 := by rw [← hl.1]; exact ((may_iff l).1 HM.out).1
    have HP := Lib.hid (prOf_ok (R := bef) HM.out hl.1)
    have h1' : ((check l).2 != 0) = false := h1
    clear hl
    go_enter Try.func43, Try.ntmps43
    go_wp2_with fail
    refine (check_any A n c l _ HL.out).mono ?_
    rintro e1 w1 ⟨rfl, hb1⟩
    have hw1 := hw0.call hb1
    clear hb1
    go_wp2_with fail
    refine (followers_any A n c l _ (HL.out.bel hw1) hn80).mono ?_
    rintro e w2 ⟨rfl, hf⟩
    have HF := Lib.hid hf
    have HW2 := Lib.hid (hw1.call hf.below)
    have HBX := Lib.hid (Box.new w2 #[.slice (some ⟨w1.heap.size, 0, none⟩) n n] 124)
    have HFX := Lib.hid (HF.out.box.old (.cells #[.slice (some ⟨w1.heap.size, 0, none⟩) n n] 124))
    have hE := HE.out
    clear hf hw1
    go_wp2_with fail
    refine (pairs_any _ w2.heap.size n (bef l) _ hn80 HE.out (fun a b w3 ha hb hab hbw => before1_any _ _ n _ _ _ w3 (hbw.box HBX.out) (hbw.box HFX.out) a b ha (by omega) _ (doneC_at l (by omega))) (bef_up l)).mono ?_
    rintro e w3 ⟨v, rfl, hown, hb3⟩
    have HW2' := Lib.hid (HW2.out.alloc (.cells #[.slice (some ⟨w1.heap.size, 0, none⟩) n n] 124))
    have HO := Lib.hid (HW2'.out.own hown)
    have HW3 := Lib.hid (HW2'.out.call hb3)
    clear hown hb3
    go_wp2
    go_ret2
    exact ⟨v, by rw [HM.out]; rfl, by rw [HP.out]; exact HO.out, HW3.out⟩
  · have HP := Lib.hid (prOf_no (R := bef) (show may l ≠ 0 by simpa using h1))
    have h1' : ((check l).2 != 0) = true := h1
    clear hl
    go_enter Try.func43, Try.ntmps43
    go_wp2_with fail
    refine (check_any A n c l _ HL.out).mono ?_
    rintro e1 w1 ⟨rfl, hb1⟩
    have hw1 := hw0.call hb1
    clear hb1
    go_wp2
    go_ret2
    exact ⟨_, rfl, by rw [HP.out]; exact World.ownsRow_nil _ _ _ _, hw1⟩
end Go.Proofs.Ytbcohpkeljjhbaa
set_option linter.all false
set_option maxRecDepth 100000
namespace Go.Proofs.Ytbcohpkeljjhbaa
open Go.RowKit

def pheld (l : List Ev) (t : Int) : Int × Int := if may l = 0 then (if inB t 6 = true then (held l t, 0) else (0, 1)) else (0, may l)
set_option maxHeartbeats 1000000 in
theorem held_any (A : Option Addr) (n c : Nat) (l : List Ev) (t : Int) (w : World) (hl : Sl w A n l) :
    Calls Try.prog 89 #[.slice A n c, .int .i64 t] w fun e w' => e = .returned (.tuple #[.int .i64 (pheld l t).1, .int .i64 (pheld l t).2]) ∧ Below w.heap.size w w' := by
  have HL := Lib.hid hl
  clear hl
  cases h1 : (may l != 0)
  · have h0 : may l = 0 := by simpa using h1
    have hfo : fol l = stv l := by unfold fol; rw [show (check l).2 = 0 from h0]; rfl
    have HF := Lib.hid hfo
    cases h2 : inB t 6
    · have HV := Lib.hid (show pheld l t = (0, 1) by unfold pheld; rw [if_pos h0, h2]; rfl)
      clear hfo h0
      go_enter Try.func89, Try.ntmps89
      go_wp2_with fail
      refine (follow_any A n c l _ HL.out).mono ?_
      rintro e w1 ⟨rfl, hb⟩
      have HB := Lib.hid hb
      clear hb
      have bx := Lib.hid (Box.new w1 #[.bool false, .bool false, .bool false, .bool false, .bool false, .bool false, .bool false, .bool false, .bool false, .bool false, .bool false, .bool false, .int .i64 0, .int .i64 0, .int .i64 0, .int .i64 0, .int .i64 0, .int .i64 0] 121)
      have HZ := Lib.hid (fol_size l)
      have h1' : ((check l).2 != 0) = false := h1
      go_wp2_with (first | (refine storeT T52 _ _ rfl rfl rfl HZ.out rfl bx.out rfl (fol_all l) ?_) | (first | (go_at_call 98; (with_reducible refine (isBelow_any _ _ _).mono ?_); rintro e w' ⟨rfl, rfl⟩)))
      go_ret2
      exact ⟨by rw [HV.out]; rfl, below_setRow' (HB.out.alloc HB.out.size _) _ _ HB.out.size⟩
    · obtain ⟨k0, k6⟩ := inB_iff.1 h2
      obtain ⟨k, rfl⟩ := Int.eq_ofNat_of_zero_le k0
      have hk : k < 6 := by omega
      have HV := Lib.hid (show pheld l k = (held l k, 0) by unfold pheld; rw [if_pos h0, h2]; rfl)
      clear hfo h0
      go_enter Try.func89, Try.ntmps89
      go_wp2_with fail
      refine (follow_any A n c l _ HL.out).mono ?_
      rintro e w1 ⟨rfl, hb⟩
      have HB := Lib.hid hb
      clear hb
      have bx := Lib.hid (Box.new w1 #[.bool false, .bool false, .bool false, .bool false, .bool false, .bool false, .bool false, .bool false, .bool false, .bool false, .bool false, .bool false, .int .i64 0, .int .i64 0, .int .i64 0, .int .i64 0, .int .i64 0, .int .i64 0] 121)
      have HZ := Lib.hid (fol_size l)
      have hcell := (bx.out.setRow (fol l)).cell (12 + k) (v := .int .i64 (held l k)) (by rw [HF.out]; exact st18_h _ _ _ k hk)
      have h1' : ((check l).2 != 0) = false := h1
      go_wp2_with (first | (refine storeT T52 _ _ rfl rfl rfl HZ.out rfl bx.out rfl (fol_all l) ?_) | (first | (go_at_call 98; (with_reducible refine (isBelow_any _ _ _).mono ?_); rintro e w' ⟨rfl, rfl⟩)))
      go_ret2
      exact ⟨by rw [HV.out]; rfl, below_setRow' (HB.out.alloc HB.out.size _) _ _ HB.out.size⟩
  · have HV := Lib.hid (show pheld l t = (0, may l) by unfold pheld; rw [if_neg (by simpa using h1)])
    go_enter Try.func89, Try.ntmps89
    go_wp2_with fail
    refine (follow_any A n c l _ HL.out).mono ?_
    rintro e w1 ⟨rfl, hb⟩
    have HB := Lib.hid hb
    clear hb
    have bx := Lib.hid (Box.new w1 #[.bool false, .bool false, .bool false, .bool false, .bool false, .bool false, .bool false, .bool false, .bool false, .bool false, .bool false, .bool false, .int .i64 0, .int .i64 0, .int .i64 0, .int .i64 0, .int .i64 0, .int .i64 0] 121)
    have HZ := Lib.hid (fol_size l)
    have h1' : ((check l).2 != 0) = true := h1
    go_wp2_with (first | (refine storeT T52 _ _ rfl rfl rfl HZ.out rfl bx.out rfl (fol_all l) ?_))
    go_ret2
    exact ⟨by rw [HV.out]; rfl, below_setRow' (HB.out.alloc HB.out.size _) _ _ HB.out.size⟩

theorem int_info : (Try.prog.info? 3).map (fun i => (i.zero, i.size, i.bytes)) = some (some (.int .i64 0), 1, 8) := by kernel_rfl
end Go.Proofs.Ytbcohpkeljjhbaa
set_option linter.all false
set_option maxRecDepth 100000
namespace Go.Proofs.Ytbcohpkeljjhbaa
open Go Go.RowKit

theorem wpList_append_src {P : Program} {ops : Array Oper} {rest : List Oper} {o : Oper} {a : Act} {w : World} {Q : Exit → Act → World → Prop} (hgd : o.guard = none) (s x : Operand) (t : TypeId)
    (ho : o.op = .call { callee := .builtin .append, args := #[s, x], argTypes := #[t, t] })
    (base : Nat) (e : TypeId) (i : TypeInfo) (z : Value) (size bytes : Nat) (ht : P.underlying t = some (.slice e)) (hi : P.info? e = some i) (hz : i.zero = some z)
    (hsize : i.size = size) (hby : i.bytes = bytes) (hzs : z.cells.size = size) (hsz : 0 < size)
    (v : Value) (n : Nat) (xs : List Value) (hv : a.eval s = v) (hown : w.ownsRow base e size v n xs)
    (A : Option Addr) (m c : Nat) (news : List Value) (hx : a.eval x = .slice A m c) (hl : news.length = m * size) (hs : Src w A m news) (h1 : ∀ u ∈ news, u.oneCell' = true)
    (h63 : n + m ≤ maxLen) (hbytes : (n + m) * bytes ≤ 140737488355328) (hbase : base ≤ w.heap.size)
    (h : ∀ v' w', w'.ownsRow base e size v' (n + m) (xs ++ news) → w.grownBy w' v.ownBlock → (v'.ownBlock = v.ownBlock ∨ v'.ownBlock = some w.heap.size) → wpList P ops Q rest (a.put o.dst v') w') : wpList P ops Q (o :: rest) a w :=
  wpList_plain hgd fun _ hK => wp_append_src s x t ho base e i z size bytes ht hi hz hsize hby hzs hsz v n xs hv hown A m c news hx hl hs h1 h63 hbytes hbase (fun v' w' a b c => hK _ _ (h v' w' a b c))
theorem fill1 {n : Nat} (hn : n = 1) (f : Fin n → Value) (a : Value) : (Array.ofFn f).setIfInBounds 0 a = #[a] := by
  subst hn
  apply Array.ext
  · simp
  · intro i h1 h2
    have hi : i < 1 := by simpa using h2
    match i, hi with
    | 0, _ => simp [Array.getElem_setIfInBounds]
theorem run_build_int {P : Program} (t e : TypeId) (i : TypeInfo) (ht : P.underlying t = some (.slice e)) (hi : P.info? e = some i) (hz : i.zero = some (.int .i64 0)) (hs : i.size = 1) (x : Int) (w : World) :
    (Instr.buildSlice t 1 #[(0, .int .i64 x)]).run P w = .ok (.slice (some ⟨w.heap.size, 0, none⟩) 1 1) (w.alloc (.cells #[.int .i64 x] e)) := by
  simp [Instr.buildSlice, Sem.run_bind, run_underlying ht, sizeOf, typeInfo, hi, hs, zeroValue, hz, Instr.fill, Value.cells, newRow, newObj, List.zipIdx, Array.range, Result.andThen, go_sem]
  rw [fill1 (by rw [hs])]
  rfl
section
variable {ops : Array Oper} {o : Oper} {a : Act} {w : World} {K : Act → World → Prop} {Q : Exit → Act → World → Prop}
theorem wp_build_int (t : TypeId) (x : Operand) (ho : o.op = .buildSlice t 1 #[(0, x)]) (e : TypeId) (i : TypeInfo) {P : Program} (ht : P.underlying t = some (.slice e)) (hi : P.info? e = some i) (hz : i.zero = some (.int .i64 0)) (hs : i.size = 1) (n : Int) (hx : a.eval x = .int .i64 n)
    (h : K (a.put o.dst (.slice (some ⟨w.heap.size, 0, none⟩) 1 1)) (w.alloc (.cells #[.int .i64 n] e))) : o.wp P a w K Q := by
  unfold Oper.wp execOp
  simp only [ho, Sem.run_bind, Sem.run_pure, Result.andThen_ok, List.map_toArray, List.map_cons, List.map_nil, hx, run_build_int t e i ht hi hz hs n w]
  exact h
end
end Go.Proofs.Ytbcohpkeljjhbaa

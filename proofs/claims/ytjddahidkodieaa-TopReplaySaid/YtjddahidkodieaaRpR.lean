/- The reference's Prog: Step. | The reference's ProgCheck. | The reference's ProgRun. -/
import Derived.Test.YtjddahidkodieaaRpG
import Derived.Test.YtjddahidkodieaaPg
import Derived.Test.YtjddahidkodieaaCp
import Derived.Test.YtjddahidkodieaaMapInt
import Derived.Test.YtjddahidkodieaaGt
import Derived.Test.YtjddahidkodieaaCi
import Derived.Deep.DeepCutAuto
import Derived.Deep.CutBlock
import Derived.Test.YtjddahidkodieaaPp
import Derived.Test.YtjddahidkodieaaRefTr
import Derived.Test.YtjddahidkodieaaAppend
import Derived.Test.YtjddahidkodieaaMid
set_option linter.all false
set_option maxRecDepth 100000
namespace Go.Proofs.Ytjddahidkodieaa
open Go Go.RowKit

section
variable {P : Program} {T K E : TypeId}
theorem look_no (hT : P.underlying T = some (.map K E)) (hK : P.underlying K = some (.int .i64)) (i : TypeInfo) (v : Value) (hi : P.info? E = some i) (hz : i.zero = some v) (es : Array MapEntry) (c : Nat) (k : Int) (r : Nat) (w : World) (hw : w.heap[r]? = some (.map es c))
    (hn : Instr.findNow (.int .i64) (.int .i64 k) es.toList 0 = some none) :
    (Instr.lookup T (.map (some r)) (.int .i64 k) false).run P w = .ok v w := by
  unfold Instr.lookup
  simp [Sem.run_bind, run_underlying hT, MapKept.run_getObj_map hw, run_checkKey_int hK, Instr.findKey, run_underlying hK, hn, zeroValue, typeInfo, hi, hz]
end
/-- The kinds of events by kinds of ops, as the literal makes them. -/
def kE (k v b : Nat) : MapEntry := ⟨.int .i64 (k : Nat), .int .i64 (v : Nat), b⟩
def kEs : Array MapEntry := #[⟨.int .i64 1, .int .i64 1, 0⟩, ⟨.int .i64 2, .int .i64 2, 1⟩, ⟨.int .i64 4, .int .i64 3, 2⟩, ⟨.int .i64 5, .int .i64 4, 3⟩, ⟨.int .i64 6, .int .i64 5, 4⟩, ⟨.int .i64 7, .int .i64 6, 5⟩, ⟨.int .i64 8, .int .i64 7, 6⟩, ⟨.int .i64 9, .int .i64 8, 7⟩]
def kEt (i : Nat) : Array MapEntry := kEs.extract 0 i
def KUp (w : World) (i : Nat) (k v : Int) : Prop :=
  (Instr.mapUpdate 67 (.map (some w.heap.size)) (.int .i64 k) (.int .i64 v)).run Try.prog (w.alloc (.map (kEt i) i)) = .ok () (w.alloc (.map (kEt (i + 1)) (i + 1)))
theorem kup (w : World) : KUp w 0 1 1 ∧ KUp w 1 2 2 ∧ KUp w 2 4 3 ∧ KUp w 3 5 4 ∧ KUp w 4 6 5 ∧ KUp w 5 7 6 ∧ KUp w 6 8 7 ∧ KUp w 7 9 8 :=
  ⟨upd_new Try.underlying67 Try.underlying3 _ _ _ _ _ rfl, upd_new Try.underlying67 Try.underlying3 _ _ _ _ _ rfl, upd_new Try.underlying67 Try.underlying3 _ _ _ _ _ rfl,
   upd_new Try.underlying67 Try.underlying3 _ _ _ _ _ rfl, upd_new Try.underlying67 Try.underlying3 _ _ _ _ _ rfl, upd_new Try.underlying67 Try.underlying3 _ _ _ _ _ rfl,
   upd_new Try.underlying67 Try.underlying3 _ _ _ _ _ rfl, upd_new Try.underlying67 Try.underlying3 _ _ _ _ _ rfl⟩
theorem klook (w : World) (r : Nat) (hw : w.heap[r]? = some (.map (kEt 8) 8)) {k : Int} (h1 : 1 ≤ k) (h9 : k ≤ 9) : (Instr.lookup 67 (.map (some r)) (.int .i64 k) false).run Try.prog w = .ok (.int .i64 (kOf k)) w := by
  have hc : k = 1 ∨ k = 2 ∨ k = 3 ∨ k = 4 ∨ k = 5 ∨ k = 6 ∨ k = 7 ∨ k = 8 ∨ k = 9 := by omega
  have hi : (Try.prog.info? 3).map (fun i => i.zero) = some (some (.int .i64 0)) := by kernel_rfl
  obtain ⟨i, hi1, hz⟩ : ∃ i, Try.prog.info? 3 = some i ∧ i.zero = some (.int .i64 0) := by
    cases h : Try.prog.info? 3 with
    | none => rw [h] at hi; cases hi
    | some i => rw [h] at hi; simp only [Option.map_some, Option.some.injEq] at hi; exact ⟨i, rfl, hi⟩
  rcases hc with rfl | rfl | rfl | rfl | rfl | rfl | rfl | rfl | rfl
  · exact look_in Try.underlying67 Try.underlying3 _ _ _ _ r 0 w hw rfl
  · exact look_in Try.underlying67 Try.underlying3 _ _ _ _ r 1 w hw rfl
  · exact look_no Try.underlying67 Try.underlying3 i _ hi1 hz _ _ _ r w hw rfl
  · exact look_in Try.underlying67 Try.underlying3 _ _ _ _ r 2 w hw rfl
  · exact look_in Try.underlying67 Try.underlying3 _ _ _ _ r 3 w hw rfl
  · exact look_in Try.underlying67 Try.underlying3 _ _ _ _ r 4 w hw rfl
  · exact look_in Try.underlying67 Try.underlying3 _ _ _ _ r 5 w hw rfl
  · exact look_in Try.underlying67 Try.underlying3 _ _ _ _ r 6 w hw rfl
  · exact look_in Try.underlying67 Try.underlying3 _ _ _ _ r 7 w hw rfl
variable {w w' : World} {A : Option Addr} {n c : Nat} {s : Ps} {LV QV : Value} {d k : Bool}
/-- A slice that does not lie in block X. -/
def apartV (X : Nat) (v : Value) : Prop := ∀ b off n c, v = .slice (some ⟨b, off, none⟩) n c → b ≠ X
theorem apart_own {w : World} {base n size X : Nat} {e : TypeId} {v : Value} {xs : List Value} (h : w.ownsRow base e size v n xs) (hX : X < base) : apartV X v := fun b off n c hv => by
  subst hv
  have := (own_lt h (g := b) rfl).1
  omega
def StPost (w : World) (A : Option Addr) (n c : Nat) (P : List (List Ev)) (s : Ps) (LV : Value) (o : Ev) (u : Nat) (Q : List Int) (d k : Bool) (e : Ending) (w' : World) : Prop :=
  ∃ LV' QV', e = .returned (.agg (vs 29 (gP A n c (stepO P s u o) LV' QV' d k))) ∧ LVal w' LV' (stepO P s u o).L ∧ SlI w' QV' (Q ++ [(u : Int)]) ∧ Below w.heap.size w w' ∧ (∀ X, X < w.heap.size → apartV X QV' ∧ (apartV X LV → apartV X LV')) ∧
    (∀ base, base ≤ w.heap.size → w.ownsRow base 54 3 LV s.L.length (evc s.L) → w'.ownsRow base 54 3 LV' (stepO P s u o).L.length (evc (stepO P s u o).L))
def z29 : Array Value := #[.slice none 0 0, .int .i64 0, .int .i64 0, .int .i64 0, .int .i64 0, .int .i64 0, .int .i64 0, .slice none 0 0, .int .i64 0, .int .i64 0, .int .i64 0, .int .i64 0, .int .i64 0, .int .i64 0, .int .i64 0, .int .i64 0, .int .i64 0, .int .i64 0, .int .i64 0, .int .i64 0, .int .i64 0, .int .i64 0, .int .i64 0, .int .i64 0, .int .i64 0, .int .i64 0, .bool false, .bool false, .slice none 0 0]
/-- All but the list of events. -/
def stE (s : Ps) (u : Nat) (o : Ev) : Ps := ⟨upF s.a u (s.a u + 1), s.L, memO s u o, volO s u o, hasO s u o⟩
theorem memO_at {s : Ps} {t : Nat} {o : Ev} (h : o.k = 2) : memO s t o = updI s.mem o.t (s.has t) := if_pos h
theorem memO_no {s : Ps} {t : Nat} {o : Ev} (h : o.k ≠ 2) : memO s t o = s.mem := if_neg h
theorem volO_at {s : Ps} {t : Nat} {o : Ev} (h : o.k = 9) : volO s t o = updI s.vol o.t (s.has t) := if_pos h
theorem volO_no {s : Ps} {t : Nat} {o : Ev} (h : o.k ≠ 9) : volO s t o = s.vol := if_neg h
theorem hasO_1 {s : Ps} {t : Nat} {o : Ev} (h : o.k = 1) : hasO s t o = upF s.has t (s.mem o.t) := if_pos h
theorem hasO_3 {s : Ps} {t : Nat} {o : Ev} (h : o.k = 3) : hasO s t o = upF s.has t (s.has t + o.o) := by unfold hasO; rw [if_neg (by omega), if_pos h]
theorem hasO_8 {s : Ps} {t : Nat} {o : Ev} (h : o.k = 8) : hasO s t o = upF s.has t (s.vol o.t) := by unfold hasO; rw [if_neg (by omega), if_neg (by omega), if_pos h]
theorem hasO_no {s : Ps} {t : Nat} {o : Ev} (h1 : o.k ≠ 1) (h3 : o.k ≠ 3) (h8 : o.k ≠ 8) : hasO s t o = s.has := by unfold hasO; rw [if_neg h1, if_neg h3, if_neg h8]
theorem kind_of {P : List (List Ev)} {s : Ps} {t : Nat} {o : Ev} (h5 : o.k ≠ 5) (h6 : o.k ≠ 6) : kindO P s t o = kOf o.k := by unfold kindO kOf; rw [if_neg h5, if_neg h6, if_neg h5, if_neg h6]
theorem GBx.drew {w : World} {B : Nat} {A : Option Addr} {n c : Nat} {s : Ps} {LV QV : Value} {d k : Bool} (h : GBx w B A n c s LV QV d k) : GBx w.drew B A n c s LV QV d k := ⟨h.box.drew⟩
theorem own_one {w : World} {base n size : Nat} {e : TypeId} {v : Value} {xs : List Value} (h : w.ownsRow base e size v n xs) : v.oneCell' = true := by
  rcases h.2 with ⟨rfl, _⟩ | ⟨g, cap, cur, rfl, _⟩ <;> rfl
/-- A list of events that lies in neither of two blocks. -/
structure SlX (w : World) (X Y : Nat) (A : Option Addr) (n : Nat) (l : List Ev) : Prop where
  sl : Sl w A n l
  ne : ∀ b off, A = some ⟨b, off, none⟩ → 0 < n → b ≠ X ∧ b ≠ Y
theorem SlX.bel {w w' : World} {X Y : Nat} {A : Option Addr} {n : Nat} {l : List Ev} (h : SlX w X Y A n l) (hb : Bel w w') : SlX w' X Y A n l := ⟨h.sl.bel hb.out, h.ne⟩
theorem SlX.old {w : World} {A : Option Addr} {n : Nat} {l : List Ev} (h : Sl w A n l) : SlX w w.heap.size (w.heap.size + 1) A n l :=
  ⟨h, fun b off hA h0 => by
    obtain ⟨b', off', hA', hlt, _⟩ := h.2 h0
    rw [hA] at hA'
    cases hA'
    exact ⟨by omega, by omega⟩⟩
theorem SlX.keep {w w' : World} {X Y : Nat} {A : Option Addr} {n : Nat} {l : List Ev} (h : SlX w X Y A n l) (hs : w.heap.size ≤ w'.heap.size) (hk : ∀ b, b ≠ X → b ≠ Y → w'.heap[b]? = w.heap[b]?) : SlX w' X Y A n l :=
  ⟨⟨h.sl.1, fun h0 => by
    obtain ⟨b, off, hA, hlt, hr⟩ := h.sl.2 h0
    obtain ⟨h1, h2⟩ := h.ne b off hA h0
    exact ⟨b, off, hA, by omega, fun j v hj => (World.cell?_of_block (a := ⟨b, off + j, none⟩) (hk b h1 h2)).trans (hr j v hj)⟩⟩, h.ne⟩
theorem SlX.own {w : World} {base n X Y : Nat} {e : TypeId} {A : Option Addr} {c : Nat} {xs : List Value} {l : List Ev} (ho : w.ownsRow base e 3 (.slice A n c) n xs) (h : Sl w A n l) (hX : X < base) (hY : Y < base) : SlX w X Y A n l :=
  ⟨h, fun b off hA _ => by
    subst hA
    have := (own_lt ho (g := b) rfl).1
    exact ⟨by omega, by omega⟩⟩
theorem wpList_build_int {P : Program} {ops : Array Oper} {rest : List Oper} {o : Oper} {a : Act} {w : World} {Q : Exit → Act → World → Prop} (t : TypeId) (x : Operand) (ho : o.op = .buildSlice t 1 #[(0, x)]) (hgd : o.guard = none) (e : TypeId) (i : TypeInfo) (ht : P.underlying t = some (.slice e)) (hi : P.info? e = some i) (hz : i.zero = some (.int .i64 0)) (hs : i.size = 1) (n : Int) (hx : a.eval x = .int .i64 n)
    (h : wpList P ops Q rest (a.put o.dst (.slice (some ⟨w.heap.size, 0, none⟩) 1 1)) (w.alloc (.cells #[.int .i64 n] e))) : wpList P ops Q (o :: rest) a w :=
  wpList_plain hgd fun _ hK => wp_build_int t x ho e i ht hi hz hs n hx (hK _ _ h)
theorem gP_one {A : Option Addr} {n c : Nat} {s : Ps} {LV QV : Value} {d k : Bool} (hL : LV.oneCell' = true) (hQ : QV.oneCell' = true) (i : Nat) : (gP A n c s LV QV d k i).oneCell' = true := by
  unfold gP endF
  repeat' split
  all_goals first | rfl | exact hL | exact hQ
/-- A row of the call's own that lies in neither of two blocks. -/
def OwnX (w : World) (X Y base : Nat) (v : Value) (l : List Ev) : Prop := w.ownsRow base 54 3 v l.length (evc l) ∧ ∀ g, v.ownBlock = some g → g ≠ X ∧ g ≠ Y
/-- Behind the switch. -/
structure StC (w : World) (x3 : Nat) (A : Option Addr) (n c : Nat) (s : Ps) (u : Nat) (o : Ev) (LV QV : Value) (d k : Bool) (wx : World) : Prop where
  g : GBx wx w.heap.size A n c (stE s u o) LV QV d k
  x : Box wx x3 (evv o) 63
  r : Box wx (w.heap.size + 1) z29 95
  b : Bel w wx
set_option maxHeartbeats 16000000 in
theorem stepr_any (u : Nat) {P : List (List Ev)} {Q : List Int} {K : Int} {o : Ev} (hP : Prg w A n P) (hnc : n ≤ c) (hcm : c ≤ maxLen) (hO : OkP P) (hL : LVal w LV s.L) (hQ : SlI w QV Q) (hu : u < n) (ho : (opsP P u)[s.a u]? = some o)
    (hl : s.L.length ≤ 900) (hq : Q.length ≤ 900) (hlim : LimS K s) (hK : K ≤ 1000000) :
    Calls Try.prog 42 #[.agg (vs 29 (gP A n c s LV QV d k)), .int .i64 u] w (StPost w A n c P s LV o u Q d k) := by
  obtain ⟨hb, hw⟩ := boxG w A n c s LV QV d k
  obtain ⟨B, m, e, rfl, hsl, hme, hem⟩ := hL.ex
  have h6 : n ≤ 6 := by rw [← hP.1]; exact hO.six
  have hu6 : u < 6 := by omega
  have HLN := Lib.hid hP.1
  have hm63 : m ≤ 9223372036854775807 := by unfold maxLen at hem; omega
  have HW := Lib.hid hw
  have HP1 := Lib.hid (hP.bel hw)
  have HS0 := Lib.hid hsl
  have HQ0 := Lib.hid hQ
  have HG := Lib.hid hb
  have HM := Lib.hid (And.intro hnc hcm)
  have HD := Lib.hid (And.intro (And.intro hme hem) trivial)
  have HOP := Lib.hid (hO.op u o (List.mem_of_getElem? ho))
  have HLM := Lib.hid (And.intro hlim hK)
  have HLL := Lib.hid (And.intro hl hq)
  have HHO := Lib.hid ho
  clear hb hw hP hsl hL hQ hnc hcm hO hem hme ho hl hq hlim hK
  go_enter Try.func42, Try.ntmps42
  go_wp2
  change Code.wp _ _ _ _ ((w.alloc (.cells (vs 29 (gP A n c s (.slice B m e) QV d k)) 95)).alloc (.cells z29 95))
  have HR2 := Lib.hid (show Box ((w.alloc (.cells (vs 29 (gP A n c s (.slice B m e) QV d k)) 95)).alloc (.cells z29 95)) (w.heap.size + 1) z29 95 by simpa using Box.new (w.alloc (.cells (vs 29 (gP A n c s (.slice B m e) QV d k)) 95)) z29 95)
  have HW2 := Lib.hid (HW.out.alloc (.cells z29 95))
  have HA2 := Lib.hid ((Bel.refl (w.alloc (.cells (vs 29 (gP A n c s (.slice B m e) QV d k)) 95))).alloc (.cells z29 95))
  have HG2 := Lib.hid (HG.out.bel HA2.out)
  have HP2 := Lib.hid (HP1.out.bel HA2.out)
  have HSZ := Lib.hid (show ((w.alloc (.cells (vs 29 (gP A n c s (.slice B m e) QV d k)) 95)).alloc (.cells z29 95)).heap.size = w.heap.size + 2 by simp)
  clear HG HP1 HW HA2
  generalize ((w.alloc (.cells (vs 29 (gP A n c s (.slice B m e) QV d k)) 95)).alloc (.cells z29 95)) = w2 at *
  obtain ⟨b, off, C, mo, co, rfl, hbl, hrow, hops, hmo, hco⟩ := HP2.out.at_ hu
  obtain ⟨bb, oo, o', rfl, hbb, ho, hrg⟩ := hops.at_ (show s.a u < mo by rw [← hops.1]; exact (List.getElem?_eq_some_iff.1 HHO.out).1)
  obtain rfl : o = o' := Option.some.inj (HHO.out.symm.trans ho)
  have hau : (s.a u : Int) < mo := by have := hops.1; have := (List.getElem?_eq_some_iff.1 HHO.out).1; omega
  have hac : (s.a u : Int) ≤ co := by omega
  have hun : (u : Int) < n := by omega
  have hun6 : (u : Int) < 6 := by omega
  have huc : (u : Int) ≤ c := by have := HM.out.1; omega
  have HO := Lib.hid ho
  have HROW := fun (w1 : World) (h1 : Below w2.heap.size w2 w1) => rangeAt_below h1 hbb hrg
  have HGB := HG2
  have F := fun (w1 : World) (h1 : Below w2.heap.size w2 w1) => And.intro (HGB.out.bel (Bel.of h1)).p (And.intro ((HGB.out.bel (Bel.of h1)).at_ hu6) ((Bel.of h1).cell hrow))
  obtain ⟨j0, hj0, gz0, gz1, gz2⟩ := info_parts info_op
  refine region_grow (by kernel_rfl) ?_
  (repeat (first | ((first | refine wpG_go 0 (by simp only [List.getElem?_toArray, List.getElem?_cons_zero, List.getElem?_cons_succ] <;> rfl) (by decide +kernel) (by decide +kernel) (by kernel_rfl) (by rfl) (by exact fun _ _ _ _ h => h) (Nat.le_refl _) ?_ | refine wpG_go 1 (by simp only [List.getElem?_toArray, List.getElem?_cons_zero, List.getElem?_cons_succ] <;> rfl) (by decide +kernel) (by decide +kernel) (by kernel_rfl) (by rfl) (by exact fun _ _ _ _ h => h) (Nat.le_refl _) ?_ | refine wpG_go 2 (by simp only [List.getElem?_toArray, List.getElem?_cons_zero, List.getElem?_cons_succ] <;> rfl) (by decide +kernel) (by decide +kernel) (by kernel_rfl) (by rfl) (by exact fun _ _ _ _ h => h) (Nat.le_refl _) ?_ | refine wpG_go 3 (by simp only [List.getElem?_toArray, List.getElem?_cons_zero, List.getElem?_cons_succ] <;> rfl) (by decide +kernel) (by decide +kernel) (by kernel_rfl) (by rfl) (by exact fun _ _ _ _ h => h) (Nat.le_refl _) ?_ | refine wpG_go 4 (by simp only [List.getElem?_toArray, List.getElem?_cons_zero, List.getElem?_cons_succ] <;> rfl) (by decide +kernel) (by decide +kernel) (by kernel_rfl) (by rfl) (by exact fun _ _ _ _ h => h) (Nat.le_refl _) ?_ | refine wpG_go 5 (by simp only [List.getElem?_toArray, List.getElem?_cons_zero, List.getElem?_cons_succ] <;> rfl) (by decide +kernel) (by decide +kernel) (by kernel_rfl) (by rfl) (by exact fun _ _ _ _ h => h) (Nat.le_refl _) ?_ | refine wpG_go 6 (by simp only [List.getElem?_toArray, List.getElem?_cons_zero, List.getElem?_cons_succ] <;> rfl) (by decide +kernel) (by decide +kernel) (by kernel_rfl) (by rfl) (by exact fun _ _ _ _ h => h) (Nat.le_refl _) ?_ | refine wpG_go 7 (by simp only [List.getElem?_toArray, List.getElem?_cons_zero, List.getElem?_cons_succ] <;> rfl) (by decide +kernel) (by decide +kernel) (by kernel_rfl) (by rfl) (by exact fun _ _ _ _ h => h) (Nat.le_refl _) ?_ | refine wpG_go 8 (by simp only [List.getElem?_toArray, List.getElem?_cons_zero, List.getElem?_cons_succ] <;> rfl) (by decide +kernel) (by decide +kernel) (by kernel_rfl) (by rfl) (by exact fun _ _ _ _ h => h) (Nat.le_refl _) ?_ | refine wpG_go 9 (by simp only [List.getElem?_toArray, List.getElem?_cons_zero, List.getElem?_cons_succ] <;> rfl) (by decide +kernel) (by decide +kernel) (by kernel_rfl) (by rfl) (by exact fun _ _ _ _ h => h) (Nat.le_refl _) ?_ | refine wpG_go 10 (by simp only [List.getElem?_toArray, List.getElem?_cons_zero, List.getElem?_cons_succ] <;> rfl) (by decide +kernel) (by decide +kernel) (by kernel_rfl) (by rfl) (by exact fun _ _ _ _ h => h) (Nat.le_refl _) ?_); apply Exists.intro; refine ⟨fun w1 h1 => ?_, ?_⟩; (first | exact g_move _ rfl | exact g_assign _ rfl | exact g_load_mid _ _ rfl rfl (HROW w1 h1) TOp' (evv o) rfl | (have fct0 := F w1 h1; go_simp; first | exact ⟨rfl, rfl⟩ | rfl)); simp only [Act.put, Act.eval, List.setIfInBounds_toArray, List.set_cons_zero, List.set_cons_succ, Array.getD_eq_getD_getElem?, List.getElem?_toArray, List.getElem?_cons_zero, List.getElem?_cons_succ, Option.getD_some]) | ((first | refine wpG_skip 0 (by simp only [List.getElem?_toArray, List.getElem?_cons_zero, List.getElem?_cons_succ] <;> rfl) (by decide +kernel) (by decide +kernel) (by kernel_rfl) (by rfl) (by exact fun _ _ _ _ h => h) (Nat.le_refl _) ?_ | refine wpG_skip 1 (by simp only [List.getElem?_toArray, List.getElem?_cons_zero, List.getElem?_cons_succ] <;> rfl) (by decide +kernel) (by decide +kernel) (by kernel_rfl) (by rfl) (by exact fun _ _ _ _ h => h) (Nat.le_refl _) ?_ | refine wpG_skip 2 (by simp only [List.getElem?_toArray, List.getElem?_cons_zero, List.getElem?_cons_succ] <;> rfl) (by decide +kernel) (by decide +kernel) (by kernel_rfl) (by rfl) (by exact fun _ _ _ _ h => h) (Nat.le_refl _) ?_ | refine wpG_skip 3 (by simp only [List.getElem?_toArray, List.getElem?_cons_zero, List.getElem?_cons_succ] <;> rfl) (by decide +kernel) (by decide +kernel) (by kernel_rfl) (by rfl) (by exact fun _ _ _ _ h => h) (Nat.le_refl _) ?_ | refine wpG_skip 4 (by simp only [List.getElem?_toArray, List.getElem?_cons_zero, List.getElem?_cons_succ] <;> rfl) (by decide +kernel) (by decide +kernel) (by kernel_rfl) (by rfl) (by exact fun _ _ _ _ h => h) (Nat.le_refl _) ?_ | refine wpG_skip 5 (by simp only [List.getElem?_toArray, List.getElem?_cons_zero, List.getElem?_cons_succ] <;> rfl) (by decide +kernel) (by decide +kernel) (by kernel_rfl) (by rfl) (by exact fun _ _ _ _ h => h) (Nat.le_refl _) ?_ | refine wpG_skip 6 (by simp only [List.getElem?_toArray, List.getElem?_cons_zero, List.getElem?_cons_succ] <;> rfl) (by decide +kernel) (by decide +kernel) (by kernel_rfl) (by rfl) (by exact fun _ _ _ _ h => h) (Nat.le_refl _) ?_ | refine wpG_skip 7 (by simp only [List.getElem?_toArray, List.getElem?_cons_zero, List.getElem?_cons_succ] <;> rfl) (by decide +kernel) (by decide +kernel) (by kernel_rfl) (by rfl) (by exact fun _ _ _ _ h => h) (Nat.le_refl _) ?_ | refine wpG_skip 8 (by simp only [List.getElem?_toArray, List.getElem?_cons_zero, List.getElem?_cons_succ] <;> rfl) (by decide +kernel) (by decide +kernel) (by kernel_rfl) (by rfl) (by exact fun _ _ _ _ h => h) (Nat.le_refl _) ?_ | refine wpG_skip 9 (by simp only [List.getElem?_toArray, List.getElem?_cons_zero, List.getElem?_cons_succ] <;> rfl) (by decide +kernel) (by decide +kernel) (by kernel_rfl) (by rfl) (by exact fun _ _ _ _ h => h) (Nat.le_refl _) ?_ | refine wpG_skip 10 (by simp only [List.getElem?_toArray, List.getElem?_cons_zero, List.getElem?_cons_succ] <;> rfl) (by decide +kernel) (by decide +kernel) (by kernel_rfl) (by rfl) (by exact fun _ _ _ _ h => h) (Nat.le_refl _) ?_); simp only [Act.put, Act.eval, List.setIfInBounds_toArray, List.set_cons_zero, List.set_cons_succ, Array.getD_eq_getD_getElem?, List.getElem?_toArray, List.getElem?_cons_zero, List.getElem?_cons_succ, Option.getD_some])))
  (refine wpG_one 11 (by decide +kernel) ?_; intro w3 hw3; refine op_wanted (by simp only [List.getElem?_toArray, List.getElem?_cons_zero, List.getElem?_cons_succ] <;> rfl) rfl ?_)
  refine wp_new _ rfl j0 hj0 _ gz0 ⟨Below.alloc (Below.refl _ _) hw3.size _, ?_⟩
  simp only [Act.put, Act.eval, List.setIfInBounds_toArray, List.set_cons_zero, List.set_cons_succ, Array.getD_eq_getD_getElem?, List.getElem?_toArray, List.getElem?_cons_zero, List.getElem?_cons_succ, Option.getD_some]
  (refine wpG_one 12 (by decide +kernel) ?_; intro w4 hw4; refine op_wanted (by simp only [List.getElem?_toArray, List.getElem?_cons_zero, List.getElem?_cons_succ] <;> rfl) rfl ?_)
  have hbx := hw4.box (Box.new w3 #[.int .i64 0, .int .i64 0, .int .i64 0] 63)
  refine wp_storeB TOp' _ _ rfl rfl rfl rfl hbx rfl (evv_all o) ⟨below_setRow' (Below.refl _ _) _ _ hw3.size, ?_⟩
  simp only [Act.put, Act.eval, List.setIfInBounds_toArray, List.set_cons_zero, List.set_cons_succ, Array.getD_eq_getD_getElem?, List.getElem?_toArray, List.getElem?_cons_zero, List.getElem?_cons_succ, Option.getD_some]
  (refine wpG_done (by decide +kernel) ?_ _; intro w5 hw5; try simp only [Act.put, Act.eval, List.setIfInBounds_toArray, List.set_cons_zero, List.set_cons_succ, Array.getD_eq_getD_getElem?, List.getElem?_toArray, List.getElem?_cons_zero, List.getElem?_cons_succ, Option.getD_some])
  have hX5 := hw5.box (hbx.setRow (evv o))
  have hD := ((Bel.refl w2).trans hw3)
  have hB25 := ((Bel.of (below_setRow' ((hD.alloc (.cells #[.int .i64 0, .int .i64 0, .int .i64 0] 63)).trans hw4).out w3.heap.size (evv o) hw3.size)).trans hw5)
  have HB25 := Lib.hid hB25
  have HW5 := Lib.hid (HW2.out.trans hB25)
  have HG5 := HG2.out.bel hB25
  have HR5 := Lib.hid (hB25.box HR2.out)
  have hx3 : w.heap.size + 2 ≤ w3.heap.size := by rw [← HSZ.out]; exact hw3.size
  generalize w3.heap.size = x3 at *
  have g_at := HG5.at_ hu6
  have g_fz := HG5.box.frozen (1 + u)
  have hHG5 := Lib.hid HG5
  have HX5 := Lib.hid hX5
  have hwa : IntKind.i64.wrap ((s.a u : Int) + 1) = (s.a u : Int) + 1 := IntWalk.i64_in _ (by have := HM.out; have := hmo; have := hco; unfold maxLen at this; omega)
  clear hw4 hbx hw3 hD hw5 hX5 F HROW hrg hrow hops hbl hbb hB25 HG5 hac gz0 gz1 gz2 hj0 HGB huc HG2 HR2 HSZ HW2
  go_upto_region 3 with fail
  rw [show ((s.a u : Int) + 1) = ((s.a u + 1 : Nat) : Int) by omega]
  have HG6 := hHG5.out.setA (x := s.a u + 1) hu6
  have HX6 := Lib.hid (HX5.out.set_ne ⟨w.heap.size, 1 + u, none⟩ (.int .i64 ((s.a u + 1 : Nat) : Int)) (by dsimp only; omega))
  have HR6 := Lib.hid (HR5.out.set_ne ⟨w.heap.size, 1 + u, none⟩ (.int .i64 ((s.a u + 1 : Nat) : Int)) (by dsimp only; omega))
  have HW6 := Lib.hid (HW5.out.setCell ⟨w.heap.size, 1 + u, none⟩ (Nat.le_refl _) (.int .i64 ((s.a u + 1 : Nat) : Int)))
  have HG6 := Lib.hid HG6
  clear hHG5 HX5 HR5 HW5 g_at g_fz hwa HP2 HB25
  generalize w5.setCell ⟨w.heap.size, 1 + u, none⟩ (.int .i64 ((s.a u + 1 : Nat) : Int)) = w6 at *
  have HK := Lib.hid (isOp_obj HOP.out)
  have hmm := @run_makeMap Try.prog
  obtain ⟨U0', U1, U2, U3, U4, U5, U6, U7⟩ := kup w6
  unfold KUp at U0' U1 U2 U3 U4 U5 U6 U7
  have U0 : (Instr.mapUpdate 67 (.map (some w6.heap.size)) (.int .i64 1) (.int .i64 1)).run Try.prog (w6.alloc (.map #[] 0)) = .ok () (w6.alloc (.map (kEt 1) 1)) := U0'
  have UL := klook (w6.alloc (.map (kEt 8) 8)) w6.heap.size (heap_alloc_new w6 _) HK.out.1 HK.out.2.1
  have c0 := ((Bel.refl w6).alloc (.map (kEt 8) 8)).cell (HX6.out.cell 0 (v := .int .i64 o.k) rfl)
  clear U0'
  go_upto_block 0 with fail
  have HG7 := Lib.hid (HG6.out.bel ((Bel.refl w6).alloc (.map (kEt 8) 8)))
  have HX7 := Lib.hid (((Bel.refl w6).alloc (.map (kEt 8) 8)).box HX6.out)
  have HR7 := Lib.hid (((Bel.refl w6).alloc (.map (kEt 8) 8)).box HR6.out)
  have HW7 := Lib.hid (HW6.out.alloc (.map (kEt 8) 8))
  clear U0 U1 U2 U3 U4 U5 U6 U7 UL hmm c0 HG6 HX6 HR6 HW6
  skip
  generalize w6.alloc (.map (kEt 8) 8) = w7 at *
  go_cut [6] (fun q wx => q = .int .i64 (kindO P s u o) ∧ StC w x3 (some ⟨b, off, none⟩) n c s u o (.slice B m e) QV d k wx)
  case first =>
    obtain ⟨v, hv⟩ : ∃ v : Nat, o.t = v := ⟨o.t.toNat, by have := HK.out.2.2.1; omega⟩
    have HV := Lib.hid hv
    have c0 := HX7.out.cell 0 (v := .int .i64 o.k) rfl
    have c1 := HX7.out.cell 1 (v := .int .i64 o.t) rfl
    have c2 := HX7.out.cell 2 (v := .int .i64 o.o) rfl
    rw [hv] at c1
    have g_has := HG7.out.has hu6
    have z_has := HG7.out.box.frozen (20 + u)
    have g_p := HG7.out.p
    have g_l := HG7.out.l
    skip
    clear hv
    rcases (show o.k = 1 ∨ o.k = 2 ∨ o.k = 3 ∨ o.k = 4 ∨ o.k = 5 ∨ o.k = 6 ∨ o.k = 7 ∨ o.k = 8 ∨ o.k = 9 by have := HK.out; omega) with hj | hj | hj | hj | hj | hj | hj | hj | hj
    · have HJ := Lib.hid hj
      clear hj
      have t1 : (o.k == 1) = true := by have := HJ.out; simp [this]
      have hv8 : v < 8 := by have := HK.out.2.2.2.1 (.inl HJ.out); have := HV.out; omega
      have hv8' : (v : Int) < 8 := by omega
      have g_mem := HG7.out.mem hv8
      go_wp2_with fail
      go_meet
      case rel => exact ⟨by rw [kind_of (by have := HJ.out; omega) (by have := HJ.out; omega)], ⟨(HG7.out.setHas (x := s.mem (v : Nat)) hu6).ps rfl (memO_no (by have := HJ.out; omega)) (volO_no (by have := HJ.out; omega)) (show hasO s u o = upF s.has u (s.mem (v : Nat)) by rw [hasO_1 HJ.out, HV.out]), HX7.out.set_ne ⟨w.heap.size, 20 + u, none⟩ _ (by dsimp only; omega), HR7.out.set_ne ⟨w.heap.size, 20 + u, none⟩ _ (by dsimp only; omega), HW7.out.setCell ⟨w.heap.size, 20 + u, none⟩ (Nat.le_refl _) _⟩⟩
    · have HJ := Lib.hid hj
      clear hj
      have t1 : (o.k == 1) = false := by have := HJ.out; simp [this]
      have t2 : (o.k == 2) = true := by have := HJ.out; simp [this]
      have hv8 : v < 8 := by have := HK.out.2.2.2.1 (.inr HJ.out); have := HV.out; omega
      have hv8' : (v : Int) < 8 := by omega
      have g_mem := HG7.out.mem hv8
      have z_mem := HG7.out.box.frozen (8 + v)
      go_wp2_with fail
      (refine wp_region_still_tail 10 (by kernel_rfl) (by kernel_rfl) ?_; simp only [List.take_succ_cons, List.take_zero, List.drop_succ_cons, List.drop_zero]; (repeat (first | ((with_reducible refine s_skip ?_ ?_); exact rfl; simp only [Act.put, Act.eval, List.setIfInBounds_toArray, List.set_cons_zero, List.set_cons_succ, Array.getD_eq_getD_getElem?, List.getElem?_toArray, List.getElem?_cons_zero, List.getElem?_cons_succ, Option.getD_some]) | ((with_reducible refine wpStill_step ?_); intro K hK; go_simp; (with_reducible refine hK _ ?_); clear hK K))); (with_reducible refine wpStill_nil ?_))
      change wpList _ _ _ _ _ w7.drew
      go_wp2_with fail
      go_meet
      case rel => exact ⟨by rw [kind_of (by have := HJ.out; omega) (by have := HJ.out; omega)], ⟨((HG7.out.setMem (x := s.has u) hv8).drew).ps rfl (show memO s u o = updI s.mem (v : Nat) (s.has u) by rw [memO_at HJ.out, HV.out]) (volO_no (by have := HJ.out; omega)) (hasO_no (by have := HJ.out; omega) (by have := HJ.out; omega) (by have := HJ.out; omega)), (HX7.out.set_ne ⟨w.heap.size, 8 + v, none⟩ _ (by dsimp only; omega)).drew, (HR7.out.set_ne ⟨w.heap.size, 8 + v, none⟩ _ (by dsimp only; omega)).drew, (HW7.out.setCell ⟨w.heap.size, 8 + v, none⟩ (Nat.le_refl _) _).drew⟩⟩
    · have HJ := Lib.hid hj
      clear hj
      have t1 : (o.k == 1) = false := by have := HJ.out; simp [this]
      have t2 : (o.k == 2) = false := by have := HJ.out; simp [this]
      have t3 : (o.k == 3) = true := by have := HJ.out; simp [this]
      have hwh : IntKind.i64.wrap (s.has u + o.o) = s.has u + o.o := IntWalk.i64_in _ (by have := (HLM.out.1.has u).1; have := (HLM.out.1.has u).2; have := HLM.out.2; have := (isOp_num HOP.out).1; have := (isOp_num HOP.out).2; omega)
      go_wp2_with fail
      (refine wp_region_still_tail 11 (by kernel_rfl) (by kernel_rfl) ?_; simp only [List.take_succ_cons, List.take_zero, List.drop_succ_cons, List.drop_zero]; (repeat (first | ((with_reducible refine s_skip ?_ ?_); exact rfl; simp only [Act.put, Act.eval, List.setIfInBounds_toArray, List.set_cons_zero, List.set_cons_succ, Array.getD_eq_getD_getElem?, List.getElem?_toArray, List.getElem?_cons_zero, List.getElem?_cons_succ, Option.getD_some]) | ((with_reducible refine wpStill_step ?_); intro K hK; go_simp; (with_reducible refine hK _ ?_); clear hK K))); (with_reducible refine wpStill_nil ?_))
      change wpList _ _ _ _ _ w7.drew
      go_wp2_with fail
      go_meet
      case rel => exact ⟨by rw [kind_of (by have := HJ.out; omega) (by have := HJ.out; omega)], ⟨((HG7.out.setHas (x := s.has u + o.o) hu6).drew).ps rfl (memO_no (by have := HJ.out; omega)) (volO_no (by have := HJ.out; omega)) (show hasO s u o = upF s.has u (s.has u + o.o) from hasO_3 HJ.out), (HX7.out.set_ne ⟨w.heap.size, 20 + u, none⟩ _ (by dsimp only; omega)).drew, (HR7.out.set_ne ⟨w.heap.size, 20 + u, none⟩ _ (by dsimp only; omega)).drew, (HW7.out.setCell ⟨w.heap.size, 20 + u, none⟩ (Nat.le_refl _) _).drew⟩⟩
    · have HJ := Lib.hid hj
      clear hj
      have t1 : (o.k == 1) = false := by have := HJ.out; simp [this]
      have t2 : (o.k == 2) = false := by have := HJ.out; simp [this]
      have t3 : (o.k == 3) = false := by have := HJ.out; simp [this]
      have t5 : (o.k == 5) = false := by have := HJ.out; simp [this]
      have t6 : (o.k == 6) = false := by have := HJ.out; simp [this]
      have t8 : (o.k == 8) = false := by have := HJ.out; simp [this]
      have t9 : (o.k == 9) = false := by have := HJ.out; simp [this]
      go_wp2_with fail
      go_meet
      case rel => exact ⟨by rw [kind_of (by have := HJ.out; omega) (by have := HJ.out; omega)], ⟨(HG7.out).ps rfl (memO_no (by have := HJ.out; omega)) (volO_no (by have := HJ.out; omega)) (hasO_no (by have := HJ.out; omega) (by have := HJ.out; omega) (by have := HJ.out; omega)), HX7.out, HR7.out, HW7.out⟩⟩
    · have HJ := Lib.hid hj
      clear hj
      have t1 : (o.k == 1) = false := by have := HJ.out; simp [this]
      have t2 : (o.k == 2) = false := by have := HJ.out; simp [this]
      have t3 : (o.k == 3) = false := by have := HJ.out; simp [this]
      have t5 : (o.k == 5) = true := by have := HJ.out; simp [this]
      go_wp2_with fail
      refine (owner_any B m e s.L v _ (HS0.out.bel HW7.out.out) hm63).mono ?_
      rintro e8 w8 ⟨rfl, hb8⟩
      have H8 := Lib.hid (Bel.of hb8)
      clear hb8 g_has z_has g_p g_l c0 c1 c2
      by_cases hw : owner s.L (v : Nat) = (u : Nat)
      · have KD := Lib.hid (show kindO P s u o = 4 by unfold kindO; rw [if_neg (by have := HJ.out; omega), if_neg (by have := HJ.out; omega), if_neg (by have := HJ.out; omega), if_pos HJ.out, HV.out, if_pos hw])
        have KO := Lib.hid (show kOf o.k = 4 by rw [HJ.out]; rfl)
        have hw2 : (owner s.L (v : Nat) != (u : Int)) = false := by simp [hw]
        clear hw
        go_wp2_with fail
        go_meet
        case rel => exact ⟨by rw [KD.out, KO.out], ⟨(HG7.out.bel H8.out).ps rfl (memO_no (by have := HJ.out; omega)) (volO_no (by have := HJ.out; omega)) (hasO_no (by have := HJ.out; omega) (by have := HJ.out; omega) (by have := HJ.out; omega)), H8.out.box HX7.out, H8.out.box HR7.out, HW7.out.trans H8.out⟩⟩
      · have KD := Lib.hid (show kindO P s u o = 0 by unfold kindO; rw [if_neg (by have := HJ.out; omega), if_neg (by have := HJ.out; omega), if_neg (by have := HJ.out; omega), if_pos HJ.out, HV.out, if_neg hw])
        have hw2 : (owner s.L (v : Nat) != (u : Int)) = true := by simpa using hw
        clear hw
        go_wp2_with fail
        go_meet
        case rel => exact ⟨by rw [KD.out], ⟨(HG7.out.bel H8.out).ps rfl (memO_no (by have := HJ.out; omega)) (volO_no (by have := HJ.out; omega)) (hasO_no (by have := HJ.out; omega) (by have := HJ.out; omega) (by have := HJ.out; omega)), H8.out.box HX7.out, H8.out.box HR7.out, HW7.out.trans H8.out⟩⟩
    · have HJ := Lib.hid hj
      clear hj
      have t1 : (o.k == 1) = false := by have := HJ.out; simp [this]
      have t2 : (o.k == 2) = false := by have := HJ.out; simp [this]
      have t3 : (o.k == 3) = false := by have := HJ.out; simp [this]
      have t5 : (o.k == 5) = false := by have := HJ.out; simp [this]
      have t6 : (o.k == 6) = true := by have := HJ.out; simp [this]
      by_cases hvn : v < n
      · have hvn' : ¬ (n : Int) ≤ v := by omega
        go_wp2_with fail
        refine (begun_any B m e s.L v _ (HS0.out.bel HW7.out.out) hm63).mono ?_
        rintro e8 w8 ⟨rfl, hb8⟩
        have H8 := Lib.hid (Bel.of hb8)
        clear hb8 g_has z_has g_p g_l c0 c1 c2
        cases hw : begun s.L (v : Nat)
        · have KD := Lib.hid (show kindO P s u o = 5 by unfold kindO; rw [if_neg (by have := HJ.out; omega), if_neg (by have := HJ.out; omega), if_neg (by have := HJ.out; omega), if_neg (by have := HJ.out; omega), if_pos HJ.out, HV.out, HLN.out]; rw [if_pos ⟨by omega, hw⟩])
          have KO := Lib.hid (show kOf o.k = 5 by rw [HJ.out]; rfl)
          clear hw
          go_wp2_with fail
          go_meet
          case rel => exact ⟨by rw [KD.out, KO.out], ⟨(HG7.out.bel H8.out).ps rfl (memO_no (by have := HJ.out; omega)) (volO_no (by have := HJ.out; omega)) (hasO_no (by have := HJ.out; omega) (by have := HJ.out; omega) (by have := HJ.out; omega)), H8.out.box HX7.out, H8.out.box HR7.out, HW7.out.trans H8.out⟩⟩
        · have KD := Lib.hid (show kindO P s u o = 0 by unfold kindO; rw [if_neg (by have := HJ.out; omega), if_neg (by have := HJ.out; omega), if_neg (by have := HJ.out; omega), if_neg (by have := HJ.out; omega), if_pos HJ.out, HV.out, HLN.out]; rw [if_neg (by rw [hw]; simp)])
          clear hw
          go_wp2_with fail
          go_meet
          case rel => exact ⟨by rw [KD.out], ⟨(HG7.out.bel H8.out).ps rfl (memO_no (by have := HJ.out; omega)) (volO_no (by have := HJ.out; omega)) (hasO_no (by have := HJ.out; omega) (by have := HJ.out; omega) (by have := HJ.out; omega)), H8.out.box HX7.out, H8.out.box HR7.out, HW7.out.trans H8.out⟩⟩
      · have hvn' : (n : Int) ≤ v := by omega
        have KD := Lib.hid (show kindO P s u o = 0 by unfold kindO; rw [if_neg (by have := HJ.out; omega), if_neg (by have := HJ.out; omega), if_neg (by have := HJ.out; omega), if_neg (by have := HJ.out; omega), if_pos HJ.out, HV.out, HLN.out]; rw [if_neg (by omega)])
        go_wp2_with fail
        go_meet
        case rel => exact ⟨by rw [KD.out], ⟨(HG7.out).ps rfl (memO_no (by have := HJ.out; omega)) (volO_no (by have := HJ.out; omega)) (hasO_no (by have := HJ.out; omega) (by have := HJ.out; omega) (by have := HJ.out; omega)), HX7.out, HR7.out, HW7.out⟩⟩
    · have HJ := Lib.hid hj
      clear hj
      have t1 : (o.k == 1) = false := by have := HJ.out; simp [this]
      have t2 : (o.k == 2) = false := by have := HJ.out; simp [this]
      have t3 : (o.k == 3) = false := by have := HJ.out; simp [this]
      have t5 : (o.k == 5) = false := by have := HJ.out; simp [this]
      have t6 : (o.k == 6) = false := by have := HJ.out; simp [this]
      have t8 : (o.k == 8) = false := by have := HJ.out; simp [this]
      have t9 : (o.k == 9) = false := by have := HJ.out; simp [this]
      go_wp2_with fail
      go_meet
      case rel => exact ⟨by rw [kind_of (by have := HJ.out; omega) (by have := HJ.out; omega)], ⟨(HG7.out).ps rfl (memO_no (by have := HJ.out; omega)) (volO_no (by have := HJ.out; omega)) (hasO_no (by have := HJ.out; omega) (by have := HJ.out; omega) (by have := HJ.out; omega)), HX7.out, HR7.out, HW7.out⟩⟩
    · have HJ := Lib.hid hj
      clear hj
      have t1 : (o.k == 1) = false := by have := HJ.out; simp [this]
      have t2 : (o.k == 2) = false := by have := HJ.out; simp [this]
      have t3 : (o.k == 3) = false := by have := HJ.out; simp [this]
      have t5 : (o.k == 5) = false := by have := HJ.out; simp [this]
      have t6 : (o.k == 6) = false := by have := HJ.out; simp [this]
      have t8 : (o.k == 8) = true := by have := HJ.out; simp [this]
      have hv8 : v < 4 := by have := HK.out.2.2.2.2.2.2 (.inl HJ.out); have := HV.out; omega
      have hv8' : (v : Int) < 4 := by omega
      have g_vol := HG7.out.vol hv8
      go_wp2_with fail
      go_meet
      case rel => exact ⟨by rw [kind_of (by have := HJ.out; omega) (by have := HJ.out; omega)], ⟨(HG7.out.setHas (x := s.vol (v : Nat)) hu6).ps rfl (memO_no (by have := HJ.out; omega)) (volO_no (by have := HJ.out; omega)) (show hasO s u o = upF s.has u (s.vol (v : Nat)) by rw [hasO_8 HJ.out, HV.out]), HX7.out.set_ne ⟨w.heap.size, 20 + u, none⟩ _ (by dsimp only; omega), HR7.out.set_ne ⟨w.heap.size, 20 + u, none⟩ _ (by dsimp only; omega), HW7.out.setCell ⟨w.heap.size, 20 + u, none⟩ (Nat.le_refl _) _⟩⟩
    · have HJ := Lib.hid hj
      clear hj
      have t1 : (o.k == 1) = false := by have := HJ.out; simp [this]
      have t2 : (o.k == 2) = false := by have := HJ.out; simp [this]
      have t3 : (o.k == 3) = false := by have := HJ.out; simp [this]
      have t5 : (o.k == 5) = false := by have := HJ.out; simp [this]
      have t6 : (o.k == 6) = false := by have := HJ.out; simp [this]
      have t8 : (o.k == 8) = false := by have := HJ.out; simp [this]
      have t9 : (o.k == 9) = true := by have := HJ.out; simp [this]
      have hv8 : v < 4 := by have := HK.out.2.2.2.2.2.2 (.inr HJ.out); have := HV.out; omega
      have hv8' : (v : Int) < 4 := by omega
      have g_vol := HG7.out.vol hv8
      have z_vol := HG7.out.box.frozen (16 + v)
      go_wp2_with fail
      (refine wp_region_still_tail 10 (by kernel_rfl) (by kernel_rfl) ?_; simp only [List.take_succ_cons, List.take_zero, List.drop_succ_cons, List.drop_zero]; (repeat (first | ((with_reducible refine s_skip ?_ ?_); exact rfl; simp only [Act.put, Act.eval, List.setIfInBounds_toArray, List.set_cons_zero, List.set_cons_succ, Array.getD_eq_getD_getElem?, List.getElem?_toArray, List.getElem?_cons_zero, List.getElem?_cons_succ, Option.getD_some]) | ((with_reducible refine wpStill_step ?_); intro K hK; go_simp; (with_reducible refine hK _ ?_); clear hK K))); (with_reducible refine wpStill_nil ?_))
      change wpList _ _ _ _ _ w7.drew
      go_wp2_with fail
      go_meet
      case rel => exact ⟨by rw [kind_of (by have := HJ.out; omega) (by have := HJ.out; omega)], ⟨((HG7.out.setVol (x := s.has u) hv8).drew).ps rfl (memO_no (by have := HJ.out; omega)) (show volO s u o = updI s.vol (v : Nat) (s.has u) by rw [volO_at HJ.out, HV.out]) (hasO_no (by have := HJ.out; omega) (by have := HJ.out; omega) (by have := HJ.out; omega)), (HX7.out.set_ne ⟨w.heap.size, 16 + v, none⟩ _ (by dsimp only; omega)).drew, (HR7.out.set_ne ⟨w.heap.size, 16 + v, none⟩ _ (by dsimp only; omega)).drew, (HW7.out.setCell ⟨w.heap.size, 16 + v, none⟩ (Nat.le_refl _) _).drew⟩⟩
  case rest =>
    obtain ⟨rfl, hC⟩ := hcut
    clear HG7 HX7 HR7 HW7
    have hkp : 0 ≤ kindO P s u o := by rcases kind_cases P s u o with g | ⟨g, _⟩ | ⟨g, _⟩ | ⟨g, _⟩ | ⟨g, _⟩ | ⟨g, _⟩ | ⟨g, _⟩ | ⟨g, _⟩ | ⟨g, _⟩ <;> omega
    have HKD := Lib.hid (show evO P s u o = if kindO P s u o = 0 then [] else [⟨kindO P s u o, u, o.t⟩] from rfl)
    obtain ⟨v, hv⟩ : ∃ v : Nat, o.t = v := ⟨o.t.toNat, by have := HK.out.2.2.1; omega⟩
    have HV := Lib.hid hv
    have HC := Lib.hid hC
    clear hv hC
    generalize kindO P s u o = kd at *
    go_upto_if 118 with fail
    go_cut [] (fun wx => ∃ B' m' e', SlX wx w.heap.size (w.heap.size + 1) B' m' (s.L ++ evO P s u o) ∧ m' ≤ e' ∧ e' ≤ maxLen ∧ GBx wx w.heap.size (some ⟨b, off, none⟩) n c (stE s u o) (.slice B' m' e') QV d k ∧ Box wx (w.heap.size + 1) z29 95 ∧ Bel w wx ∧ (∀ X, X < w.heap.size → apartV X (.slice B m e) → apartV X (.slice B' m' e')) ∧ (∀ base, base ≤ w.heap.size → w.ownsRow base 54 3 (.slice B m e) s.L.length (evc s.L) → OwnX wx w.heap.size (w.heap.size + 1) base (.slice B' m' e') (s.L ++ evO P s u o)))
    case first =>
      by_cases h0 : kd = 0
      · have hd : ¬ (0 < kd) := by omega
        have HE := Lib.hid (show evO P s u o = [] by rw [HKD.out, if_pos h0])
        clear h0
        go_wp2_with fail
        go_meet
        case rel => exact ⟨B, m, e, by rw [HE.out, List.append_nil]; exact (SlX.old HS0.out).bel HC.out.b, HD.out.1.1, HD.out.1.2, HC.out.g, HC.out.r, HC.out.b, fun _ _ h => h, fun base _ h => ⟨by rw [HE.out, List.append_nil]; exact own_bel h HC.out.b, fun g hg => by have := (own_lt h hg).2; omega⟩⟩
      · have hd : 0 < kd := by omega
        have HE := Lib.hid (show evO P s u o = [⟨kd, u, v⟩] by rw [HKD.out, if_neg h0, HV.out])
        clear h0
        obtain ⟨i0, hi0, hz0, hz1, hz2⟩ := info_parts ev_info
        have HSC := Lib.hid (HS0.out.bel HC.out.b.out)
        have F := fun (w1 : World) (h1 : Below wc.heap.size wc w1) => And.intro (HC.out.g.bel (Bel.of h1)).l ((Bel.of h1).cell ((HC.out.x.cell 1 (v := .int .i64 o.t) rfl).trans (by rw [HV.out])))
        go_wp2_with fail
        refine region_growT 11 (by kernel_rfl) ?_
        (repeat (first | ((first | refine wpT_goN 0 (by simp only [List.getElem?_toArray, List.getElem?_cons_zero, List.getElem?_cons_succ] <;> rfl) (by decide +kernel) (by decide +kernel) (by kernel_rfl) (by rfl) (by exact fun _ _ _ _ h => h) (Nat.le_refl _) ?_ | refine wpT_goN 1 (by simp only [List.getElem?_toArray, List.getElem?_cons_zero, List.getElem?_cons_succ] <;> rfl) (by decide +kernel) (by decide +kernel) (by kernel_rfl) (by rfl) (by exact fun _ _ _ _ h => h) (Nat.le_refl _) ?_ | refine wpT_goN 3 (by simp only [List.getElem?_toArray, List.getElem?_cons_zero, List.getElem?_cons_succ] <;> rfl) (by decide +kernel) (by decide +kernel) (by kernel_rfl) (by rfl) (by exact fun _ _ _ _ h => h) (Nat.le_refl _) ?_ | refine wpT_goN 4 (by simp only [List.getElem?_toArray, List.getElem?_cons_zero, List.getElem?_cons_succ] <;> rfl) (by decide +kernel) (by decide +kernel) (by kernel_rfl) (by rfl) (by exact fun _ _ _ _ h => h) (Nat.le_refl _) ?_ | refine wpT_goN 5 (by simp only [List.getElem?_toArray, List.getElem?_cons_zero, List.getElem?_cons_succ] <;> rfl) (by decide +kernel) (by decide +kernel) (by kernel_rfl) (by rfl) (by exact fun _ _ _ _ h => h) (Nat.le_refl _) ?_ | refine wpT_goN 6 (by simp only [List.getElem?_toArray, List.getElem?_cons_zero, List.getElem?_cons_succ] <;> rfl) (by decide +kernel) (by decide +kernel) (by kernel_rfl) (by rfl) (by exact fun _ _ _ _ h => h) (Nat.le_refl _) ?_ | refine wpT_goN 7 (by simp only [List.getElem?_toArray, List.getElem?_cons_zero, List.getElem?_cons_succ] <;> rfl) (by decide +kernel) (by decide +kernel) (by kernel_rfl) (by rfl) (by exact fun _ _ _ _ h => h) (Nat.le_refl _) ?_); apply Exists.intro; refine ⟨fun w1 h1 => ?_, ?_⟩; (first | exact g_move _ rfl | exact g_assign _ rfl | (have fct0 := F w1 h1; go_simp; first | exact ⟨rfl, rfl⟩ | rfl)); simp only [Act.put, Act.eval, List.setIfInBounds_toArray, List.set_cons_zero, List.set_cons_succ, Array.getD_eq_getD_getElem?, List.getElem?_toArray, List.getElem?_cons_zero, List.getElem?_cons_succ, Option.getD_some]) | ((first | refine wpT_skip 0 (by simp only [List.getElem?_toArray, List.getElem?_cons_zero, List.getElem?_cons_succ] <;> rfl) (by decide +kernel) (by decide +kernel) (by kernel_rfl) (by rfl) (by exact fun _ _ _ _ h => h) (Nat.le_refl _) ?_ | refine wpT_skip 1 (by simp only [List.getElem?_toArray, List.getElem?_cons_zero, List.getElem?_cons_succ] <;> rfl) (by decide +kernel) (by decide +kernel) (by kernel_rfl) (by rfl) (by exact fun _ _ _ _ h => h) (Nat.le_refl _) ?_ | refine wpT_skip 3 (by simp only [List.getElem?_toArray, List.getElem?_cons_zero, List.getElem?_cons_succ] <;> rfl) (by decide +kernel) (by decide +kernel) (by kernel_rfl) (by rfl) (by exact fun _ _ _ _ h => h) (Nat.le_refl _) ?_ | refine wpT_skip 4 (by simp only [List.getElem?_toArray, List.getElem?_cons_zero, List.getElem?_cons_succ] <;> rfl) (by decide +kernel) (by decide +kernel) (by kernel_rfl) (by rfl) (by exact fun _ _ _ _ h => h) (Nat.le_refl _) ?_ | refine wpT_skip 5 (by simp only [List.getElem?_toArray, List.getElem?_cons_zero, List.getElem?_cons_succ] <;> rfl) (by decide +kernel) (by decide +kernel) (by kernel_rfl) (by rfl) (by exact fun _ _ _ _ h => h) (Nat.le_refl _) ?_ | refine wpT_skip 6 (by simp only [List.getElem?_toArray, List.getElem?_cons_zero, List.getElem?_cons_succ] <;> rfl) (by decide +kernel) (by decide +kernel) (by kernel_rfl) (by rfl) (by exact fun _ _ _ _ h => h) (Nat.le_refl _) ?_ | refine wpT_skip 7 (by simp only [List.getElem?_toArray, List.getElem?_cons_zero, List.getElem?_cons_succ] <;> rfl) (by decide +kernel) (by decide +kernel) (by kernel_rfl) (by rfl) (by exact fun _ _ _ _ h => h) (Nat.le_refl _) ?_); simp only [Act.put, Act.eval, List.setIfInBounds_toArray, List.set_cons_zero, List.set_cons_succ, Array.getD_eq_getD_getElem?, List.getElem?_toArray, List.getElem?_cons_zero, List.getElem?_cons_succ, Option.getD_some]) | ((first | refine wpT_goA 0 (by simp only [List.getElem?_toArray, List.getElem?_cons_zero, List.getElem?_cons_succ] <;> rfl) (by decide +kernel) (by decide +kernel) (by kernel_rfl) (by rfl) (by exact fun _ _ _ _ h => h) ?_ | refine wpT_goA 1 (by simp only [List.getElem?_toArray, List.getElem?_cons_zero, List.getElem?_cons_succ] <;> rfl) (by decide +kernel) (by decide +kernel) (by kernel_rfl) (by rfl) (by exact fun _ _ _ _ h => h) ?_ | refine wpT_goA 3 (by simp only [List.getElem?_toArray, List.getElem?_cons_zero, List.getElem?_cons_succ] <;> rfl) (by decide +kernel) (by decide +kernel) (by kernel_rfl) (by rfl) (by exact fun _ _ _ _ h => h) ?_ | refine wpT_goA 4 (by simp only [List.getElem?_toArray, List.getElem?_cons_zero, List.getElem?_cons_succ] <;> rfl) (by decide +kernel) (by decide +kernel) (by kernel_rfl) (by rfl) (by exact fun _ _ _ _ h => h) ?_ | refine wpT_goA 5 (by simp only [List.getElem?_toArray, List.getElem?_cons_zero, List.getElem?_cons_succ] <;> rfl) (by decide +kernel) (by decide +kernel) (by kernel_rfl) (by rfl) (by exact fun _ _ _ _ h => h) ?_ | refine wpT_goA 6 (by simp only [List.getElem?_toArray, List.getElem?_cons_zero, List.getElem?_cons_succ] <;> rfl) (by decide +kernel) (by decide +kernel) (by kernel_rfl) (by rfl) (by exact fun _ _ _ _ h => h) ?_ | refine wpT_goA 7 (by simp only [List.getElem?_toArray, List.getElem?_cons_zero, List.getElem?_cons_succ] <;> rfl) (by decide +kernel) (by decide +kernel) (by kernel_rfl) (by rfl) (by exact fun _ _ _ _ h => h) ?_); apply Exists.intro; refine ⟨fun w1 => ?_, ?_⟩; (first | exact a_move _ rfl | exact a_assign _ rfl | (go_simp; first | exact ⟨rfl, rfl⟩ | rfl)); simp only [Act.put, Act.eval, List.setIfInBounds_toArray, List.set_cons_zero, List.set_cons_succ, Array.getD_eq_getD_getElem?, List.getElem?_toArray, List.getElem?_cons_zero, List.getElem?_cons_succ, Option.getD_some])))
        clear F
        refine wpT_two 2 8 (by decide +kernel) ?_ ?_
        · intro y1 hy1
          refine op_wanted (by simp only [List.getElem?_toArray, List.getElem?_cons_zero, List.getElem?_cons_succ] <;> rfl) rfl ?_
          go_simp
          refine (copyev_any B m e s.L y1 (HSC.out.bel hy1.out) (by have := HLL.out.1; have := HSC.out.1; omega)).mono ?_
          rintro e3 z1 ⟨vc, rfl, hoc, hbc⟩
          refine ⟨hbc.mono hy1.size, ?_⟩
          have hC1 := hy1.trans (Bel.of hbc)
          have hoc := own_drop_alloc hoc hy1.size
          (refine wpT_one 8 (by decide +kernel) ?_; intro y2 hy2; refine op_wanted (by simp only [List.getElem?_toArray, List.getElem?_cons_zero, List.getElem?_cons_succ] <;> rfl) rfl ?_)
          have hE2 := hC1.trans hy2
          refine wp_build1 22 _ rfl 54 i0 Try.underlying22 hi0 hz0 hz1 ⟨kd, u, v⟩ rfl ?_
          refine ⟨Below.alloc (Below.refl _ _) hE2.size _, ?_⟩
          simp only [Act.put, Act.eval, List.setIfInBounds_toArray, List.set_cons_zero, List.set_cons_succ, Array.getD_eq_getD_getElem?, List.getElem?_toArray, List.getElem?_cons_zero, List.getElem?_cons_succ, Option.getD_some]
          have hbx := Box.new y2 (evv ⟨kd, u, v⟩) 54
          have hE3 := hE2.alloc (.cells (evv ⟨kd, u, v⟩) 54)
          have hoc := own_bel (own_bel hoc hy2) ((Bel.refl y2).alloc (.cells (evv ⟨kd, u, v⟩) 54))
          generalize y2.heap.size = yb at *
          generalize y2.alloc (.cells (evv ⟨kd, u, v⟩) 54) = y3 at *
          (refine wpT_one 9 (by decide +kernel) ?_; intro y5 hy5; refine op_wanted (by simp only [List.getElem?_toArray, List.getElem?_cons_zero, List.getElem?_cons_succ] <;> rfl) rfl ?_)
          have hE5 := hE3.trans hy5
          have hoc := own_bel hoc hy5
          have hbx := hy5.box hbx
          refine wp_append_src (.tmp 121) (.tmp 127) _ rfl wc.heap.size 54 i0 _ 3 24 Try.underlying22 hi0 hz0 hz1 hz2 rfl (by omega) vc m (evc s.L) rfl hoc (some ⟨yb, 0, none⟩) 1 1 (evl ⟨kd, u, v⟩) rfl rfl (Src.box (show Box y5 yb (evl ⟨kd, u, v⟩).toArray 54 from hbx) 1) (by simp [evl, Value.oneCell']) (by have := HLL.out.1; have := HSC.out.1; unfold maxLen; omega) (by have := HLL.out.1; have := HSC.out.1; omega) hE5.size ?_
          intro v3 u3 ho3 hg3 hat3
          have hG3 := grown_below hg3 hoc (Nat.le_refl _) hE5.size
          refine ⟨hG3, ?_⟩
          simp only [Act.put, Act.eval, List.setIfInBounds_toArray, List.set_cons_zero, List.set_cons_succ, Array.getD_eq_getD_getElem?, List.getElem?_toArray, List.getElem?_cons_zero, List.getElem?_cons_succ, Option.getD_some]
          have hC3 := Bel.of (hE5.out.trans hG3)
          rw [show evc s.L ++ evl ⟨kd, u, v⟩ = evc (s.L ++ [⟨kd, u, v⟩]) by rw [evc_append]; rfl] at ho3
          (repeat (first | ((first | refine wpT_goN 10 (by simp only [List.getElem?_toArray, List.getElem?_cons_zero, List.getElem?_cons_succ] <;> rfl) (by decide +kernel) (by decide +kernel) (by kernel_rfl) (by rfl) (by exact fun _ _ _ _ h => h) hC3.size ?_); apply Exists.intro; refine ⟨fun w1 h1 => ?_, ?_⟩; (first | exact g_move _ rfl | exact g_assign _ rfl | (go_simp; first | exact ⟨rfl, rfl⟩ | rfl)); simp only [Act.put, Act.eval, List.setIfInBounds_toArray, List.set_cons_zero, List.set_cons_succ, Array.getD_eq_getD_getElem?, List.getElem?_toArray, List.getElem?_cons_zero, List.getElem?_cons_succ, Option.getD_some]) | ((first | refine wpT_skip 10 (by simp only [List.getElem?_toArray, List.getElem?_cons_zero, List.getElem?_cons_succ] <;> rfl) (by decide +kernel) (by decide +kernel) (by kernel_rfl) (by rfl) (by exact fun _ _ _ _ h => h) hC3.size ?_); simp only [Act.put, Act.eval, List.setIfInBounds_toArray, List.set_cons_zero, List.set_cons_succ, Array.getD_eq_getD_getElem?, List.getElem?_toArray, List.getElem?_cons_zero, List.getElem?_cons_succ, Option.getD_some]) | ((first | refine wpT_goA 10 (by simp only [List.getElem?_toArray, List.getElem?_cons_zero, List.getElem?_cons_succ] <;> rfl) (by decide +kernel) (by decide +kernel) (by kernel_rfl) (by rfl) (by exact fun _ _ _ _ h => h) ?_); apply Exists.intro; refine ⟨fun w1 => ?_, ?_⟩; (first | exact a_move _ rfl | exact a_assign _ rfl | (go_simp; first | exact ⟨rfl, rfl⟩ | rfl)); simp only [Act.put, Act.eval, List.setIfInBounds_toArray, List.set_cons_zero, List.set_cons_succ, Array.getD_eq_getD_getElem?, List.getElem?_toArray, List.getElem?_cons_zero, List.getElem?_cons_succ, Option.getD_some])))
          refine wpT_last (by decide +kernel) (by decide +kernel) (by simp only [List.getElem?_toArray, List.getElem?_cons_zero, List.getElem?_cons_succ] <;> rfl) rfl ?_
          intro y6 hy6
          have hE6 := hC3.trans hy6
          refine wp_cell1 22 _ _ rfl rfl rfl (by kernel_rfl) (own_one ho3) (by rw [(HC.out.g.bel hE6).l]; rfl) ((HC.out.g.bel hE6).box.frozen 7) ?_
          intro y7 hy7
          have ho6 := own_bel ho3 hy6
          have hlt0 := HC.out.g.box.lt
          have ho7 := own_bel (own_keep ho6 (fun g hg _ => heap_setCell_other y6 ⟨w.heap.size, 7, none⟩ g v3 (by have := (own_lt ho6 hg).1; dsimp only; omega))) hy7
          obtain ⟨B', e', rfl, hs', hn', hm'⟩ := Sl.own ho7
          have hG7 := ((HC.out.g.bel hE6).setL (LV' := .slice B' (m + 1) e')).bel hy7
          have hR7 := hy7.box ((hE6.box HC.out.r).set_ne ⟨w.heap.size, 7, none⟩ (.slice B' (m + 1) e') (by dsimp only; omega))
          have hB7 := ((HC.out.b.trans hE6).setCell ⟨w.heap.size, 7, none⟩ (Nat.le_refl _) (.slice B' (m + 1) e')).trans hy7
          have hap : ∀ X, X < w.heap.size → apartV X (.slice B m e) → apartV X (.slice B' (m + 1) e') := fun X hX _ => apart_own ho7 (by omega)
          have hlr0 := HC.out.r.lt
          have how : ∀ base, base ≤ w.heap.size → OwnX y7 w.heap.size (w.heap.size + 1) base (.slice B' (m + 1) e') (s.L ++ [⟨kd, u, v⟩]) := fun base hbs => ⟨by rw [List.length_append, HS0.out.1]; exact own_drop_alloc ho7 (by omega), fun g hg => by have := (own_lt ho7 hg).1; omega⟩
          have hsx := SlX.own (X := w.heap.size) (Y := w.heap.size + 1) ho7 hs' hlt0 HC.out.r.lt
          have HFN := Lib.hid (And.intro hsx (And.intro hn' (And.intro hm' (And.intro hG7 (And.intro hR7 (And.intro hB7 (And.intro hap how)))))))
          clear how hap hsx hs' hn' hm' hG7 hR7 hB7 ho7 ho6 hlt0 hlr0 hy7 hE6 hy6 ho3 hg3 hat3 hG3 hC3 hE5 hoc hbx hi0 hz0 hz1 hz2
          simp only [Act.put, Act.eval, List.setIfInBounds_toArray, List.set_cons_zero, List.set_cons_succ, Array.getD_eq_getD_getElem?, List.getElem?_toArray, List.getElem?_cons_zero, List.getElem?_cons_succ, Option.getD_some]
          go_wp2_with fail
          go_meet
          case rel => exact ⟨B', m + 1, e', by rw [HE.out]; exact HFN.out.1, HFN.out.2.1, HFN.out.2.2.1, HFN.out.2.2.2.1, HFN.out.2.2.2.2.1, HFN.out.2.2.2.2.2.1, HFN.out.2.2.2.2.2.2.1, fun base hbs _ => by rw [HE.out]; exact HFN.out.2.2.2.2.2.2.2 base hbs⟩
        · intro y1 hy1
          refine op_wanted (by simp only [List.getElem?_toArray, List.getElem?_cons_zero, List.getElem?_cons_succ] <;> rfl) rfl ?_
          refine wp_build1 22 _ rfl 54 i0 Try.underlying22 hi0 hz0 hz1 ⟨kd, u, v⟩ rfl ?_
          refine ⟨Below.alloc (Below.refl _ _) hy1.size _, ?_⟩
          simp only [Act.put, Act.eval, List.setIfInBounds_toArray, List.set_cons_zero, List.set_cons_succ, Array.getD_eq_getD_getElem?, List.getElem?_toArray, List.getElem?_cons_zero, List.getElem?_cons_succ, Option.getD_some]
          have hbx0 := Box.new y1 (evv ⟨kd, u, v⟩) 54
          have hE1 := hy1.alloc (.cells (evv ⟨kd, u, v⟩) 54)
          generalize y1.heap.size = yb at *
          generalize y1.alloc (.cells (evv ⟨kd, u, v⟩) 54) = y2 at *
          (refine wpT_one 2 (by decide +kernel) ?_; intro y4 hy4; refine op_wanted (by simp only [List.getElem?_toArray, List.getElem?_cons_zero, List.getElem?_cons_succ] <;> rfl) rfl ?_)
          have hE2 := hE1.trans hy4
          go_simp
          refine (copyev_any B m e s.L y4 (HSC.out.bel hE2.out) (by have := HLL.out.1; have := HSC.out.1; omega)).mono ?_
          rintro e3 z1 ⟨vc, rfl, hoc, hbc⟩
          refine ⟨hbc.mono hE2.size, ?_⟩
          have hE3 := hE2.trans (Bel.of hbc)
          have hoc := own_drop_alloc hoc hE2.size
          have hbx := (hy4.trans (Bel.of hbc)).box hbx0
          generalize z1 = y3 at *
          (refine wpT_one 9 (by decide +kernel) ?_; intro y5 hy5; refine op_wanted (by simp only [List.getElem?_toArray, List.getElem?_cons_zero, List.getElem?_cons_succ] <;> rfl) rfl ?_)
          have hE5 := hE3.trans hy5
          have hoc := own_bel hoc hy5
          have hbx := hy5.box hbx
          refine wp_append_src (.tmp 121) (.tmp 127) _ rfl wc.heap.size 54 i0 _ 3 24 Try.underlying22 hi0 hz0 hz1 hz2 rfl (by omega) vc m (evc s.L) rfl hoc (some ⟨yb, 0, none⟩) 1 1 (evl ⟨kd, u, v⟩) rfl rfl (Src.box (show Box y5 yb (evl ⟨kd, u, v⟩).toArray 54 from hbx) 1) (by simp [evl, Value.oneCell']) (by have := HLL.out.1; have := HSC.out.1; unfold maxLen; omega) (by have := HLL.out.1; have := HSC.out.1; omega) hE5.size ?_
          intro v3 u3 ho3 hg3 hat3
          have hG3 := grown_below hg3 hoc (Nat.le_refl _) hE5.size
          refine ⟨hG3, ?_⟩
          simp only [Act.put, Act.eval, List.setIfInBounds_toArray, List.set_cons_zero, List.set_cons_succ, Array.getD_eq_getD_getElem?, List.getElem?_toArray, List.getElem?_cons_zero, List.getElem?_cons_succ, Option.getD_some]
          have hC3 := Bel.of (hE5.out.trans hG3)
          rw [show evc s.L ++ evl ⟨kd, u, v⟩ = evc (s.L ++ [⟨kd, u, v⟩]) by rw [evc_append]; rfl] at ho3
          (repeat (first | ((first | refine wpT_goN 10 (by simp only [List.getElem?_toArray, List.getElem?_cons_zero, List.getElem?_cons_succ] <;> rfl) (by decide +kernel) (by decide +kernel) (by kernel_rfl) (by rfl) (by exact fun _ _ _ _ h => h) hC3.size ?_); apply Exists.intro; refine ⟨fun w1 h1 => ?_, ?_⟩; (first | exact g_move _ rfl | exact g_assign _ rfl | (go_simp; first | exact ⟨rfl, rfl⟩ | rfl)); simp only [Act.put, Act.eval, List.setIfInBounds_toArray, List.set_cons_zero, List.set_cons_succ, Array.getD_eq_getD_getElem?, List.getElem?_toArray, List.getElem?_cons_zero, List.getElem?_cons_succ, Option.getD_some]) | ((first | refine wpT_skip 10 (by simp only [List.getElem?_toArray, List.getElem?_cons_zero, List.getElem?_cons_succ] <;> rfl) (by decide +kernel) (by decide +kernel) (by kernel_rfl) (by rfl) (by exact fun _ _ _ _ h => h) hC3.size ?_); simp only [Act.put, Act.eval, List.setIfInBounds_toArray, List.set_cons_zero, List.set_cons_succ, Array.getD_eq_getD_getElem?, List.getElem?_toArray, List.getElem?_cons_zero, List.getElem?_cons_succ, Option.getD_some]) | ((first | refine wpT_goA 10 (by simp only [List.getElem?_toArray, List.getElem?_cons_zero, List.getElem?_cons_succ] <;> rfl) (by decide +kernel) (by decide +kernel) (by kernel_rfl) (by rfl) (by exact fun _ _ _ _ h => h) ?_); apply Exists.intro; refine ⟨fun w1 => ?_, ?_⟩; (first | exact a_move _ rfl | exact a_assign _ rfl | (go_simp; first | exact ⟨rfl, rfl⟩ | rfl)); simp only [Act.put, Act.eval, List.setIfInBounds_toArray, List.set_cons_zero, List.set_cons_succ, Array.getD_eq_getD_getElem?, List.getElem?_toArray, List.getElem?_cons_zero, List.getElem?_cons_succ, Option.getD_some])))
          refine wpT_last (by decide +kernel) (by decide +kernel) (by simp only [List.getElem?_toArray, List.getElem?_cons_zero, List.getElem?_cons_succ] <;> rfl) rfl ?_
          intro y6 hy6
          have hE6 := hC3.trans hy6
          refine wp_cell1 22 _ _ rfl rfl rfl (by kernel_rfl) (own_one ho3) (by rw [(HC.out.g.bel hE6).l]; rfl) ((HC.out.g.bel hE6).box.frozen 7) ?_
          intro y7 hy7
          have ho6 := own_bel ho3 hy6
          have hlt0 := HC.out.g.box.lt
          have ho7 := own_bel (own_keep ho6 (fun g hg _ => heap_setCell_other y6 ⟨w.heap.size, 7, none⟩ g v3 (by have := (own_lt ho6 hg).1; dsimp only; omega))) hy7
          obtain ⟨B', e', rfl, hs', hn', hm'⟩ := Sl.own ho7
          have hG7 := ((HC.out.g.bel hE6).setL (LV' := .slice B' (m + 1) e')).bel hy7
          have hR7 := hy7.box ((hE6.box HC.out.r).set_ne ⟨w.heap.size, 7, none⟩ (.slice B' (m + 1) e') (by dsimp only; omega))
          have hB7 := ((HC.out.b.trans hE6).setCell ⟨w.heap.size, 7, none⟩ (Nat.le_refl _) (.slice B' (m + 1) e')).trans hy7
          have hap : ∀ X, X < w.heap.size → apartV X (.slice B m e) → apartV X (.slice B' (m + 1) e') := fun X hX _ => apart_own ho7 (by omega)
          have hlr0 := HC.out.r.lt
          have how : ∀ base, base ≤ w.heap.size → OwnX y7 w.heap.size (w.heap.size + 1) base (.slice B' (m + 1) e') (s.L ++ [⟨kd, u, v⟩]) := fun base hbs => ⟨by rw [List.length_append, HS0.out.1]; exact own_drop_alloc ho7 (by omega), fun g hg => by have := (own_lt ho7 hg).1; omega⟩
          have hsx := SlX.own (X := w.heap.size) (Y := w.heap.size + 1) ho7 hs' hlt0 HC.out.r.lt
          have HFN := Lib.hid (And.intro hsx (And.intro hn' (And.intro hm' (And.intro hG7 (And.intro hR7 (And.intro hB7 (And.intro hap how)))))))
          clear how hap hsx hs' hn' hm' hG7 hR7 hB7 ho7 ho6 hlt0 hlr0 hy7 hE6 hy6 ho3 hg3 hat3 hG3 hC3 hE5 hoc hbx hi0 hz0 hz1 hz2
          simp only [Act.put, Act.eval, List.setIfInBounds_toArray, List.set_cons_zero, List.set_cons_succ, Array.getD_eq_getD_getElem?, List.getElem?_toArray, List.getElem?_cons_zero, List.getElem?_cons_succ, Option.getD_some]
          go_wp2_with fail
          go_meet
          case rel => exact ⟨B', m + 1, e', by rw [HE.out]; exact HFN.out.1, HFN.out.2.1, HFN.out.2.2.1, HFN.out.2.2.2.1, HFN.out.2.2.2.2.1, HFN.out.2.2.2.2.2.1, HFN.out.2.2.2.2.2.2.1, fun base hbs _ => by rw [HE.out]; exact HFN.out.2.2.2.2.2.2.2 base hbs⟩
    case rest =>
      obtain ⟨B', m', e', hs', hn', hm', hg', hr', hb', hap, how⟩ := hcut
      have HFN := Lib.hid (And.intro hs' (And.intro hn' (And.intro hm' (And.intro hr' (And.intro hb' (And.intro hap how))))))
      have HGF := Lib.hid hg'
      have g28 := hg'.q
      have HQ8 := Lib.hid (SlI.bel HQ0.out hb')
      clear hs' hn' hm' hg' hr' hb' hap how HC
      obtain ⟨i0, hi0, hz0, hz1, hz2⟩ := info_parts qint_info
      go_wp2_with fail
      refine (copyint_any _ Q _ HQ8.out (by have := HLL.out.2; omega)).mono ?_
      rintro e9 w9 ⟨v9, rfl, ho9, hb9⟩
      have HO9 := Lib.hid ho9
      have HB9 := Lib.hid (Bel.of hb9)
      clear ho9 hb9 g28
      go_wp2_with (first | (refine wpList_build_int 23 _ rfl rfl 3 i0 Try.underlying23 hi0 hz0 hz1 (u : Int) rfl ?_) | (at_builtin; refine wpList_append_src rfl (.tmp 132) (.tmp 134) _ rfl wc.heap.size 3 i0 _ 1 8 Try.underlying23 hi0 hz0 hz1 hz2 rfl (by omega) v9 Q.length (intq Q) rfl (own_bel HO9.out ((Bel.refl w9).alloc (.cells #[.int .i64 (u : Int)] 3))) (some ⟨w9.heap.size, 0, none⟩) 1 1 [.int .i64 (u : Int)] rfl rfl (Src.box (show Box _ w9.heap.size [Value.int .i64 (u : Int)].toArray 3 from Box.new w9 _ _) 1) (by simp [Value.oneCell']) (by have := HLL.out.2; unfold maxLen; omega) (by have := HLL.out.2; omega) (HB9.out.alloc (.cells #[.int .i64 (u : Int)] 3)).size ?_; intro v5 w5 ho5 hg5 hat5; have hG5 := grown_below hg5 (own_bel HO9.out ((Bel.refl w9).alloc (.cells #[.int .i64 (u : Int)] 3))) (Nat.le_refl _) (HB9.out.alloc (.cells #[.int .i64 (u : Int)] 3)).size; have hB5 : Bel wc w5 := Bel.of ((HB9.out.alloc (.cells #[.int .i64 (u : Int)] 3)).out.trans hG5); have hGQ := (HGF.out.bel hB5).setQ (QV' := v5)) | (refine l_cell1 23 _ _ rfl rfl rfl rfl (by kernel_rfl) (own_one ho5) (by rw [(HGF.out.bel hB5).q]; rfl) ((HGF.out.bel hB5).box.frozen 28) ?_) | (refine loadB 95 _ rfl rfl rfl hGQ.box (TGv _) ?_) | (refine storeB 95 _ _ rfl rfl rfl rfl ((hB5.box HFN.out.2.2.2.1).set_ne ⟨w.heap.size, 28, none⟩ v5 (by dsimp only; omega)) (by rw [vs_size]; rfl) (TGv _) (vs_all (gP_one rfl (own_one ho5))) ?_))
      have hZ : ∀ z : World, z = (w5.setCell ⟨w.heap.size, 28, none⟩ v5).setRow (w.heap.size + 1) (vs 29 (gP (some ⟨b, off, none⟩) n c (stE s u o) (.slice B' m' e') v5 d k)) → Box z (w.heap.size + 1) (vs 29 (gP (some ⟨b, off, none⟩) n c (stE s u o) (.slice B' m' e') v5 d k)) 95 ∧ StPost w (some ⟨b, off, none⟩) n c P s (.slice B m e) o u Q d k (.returned (.agg (vs 29 (gP (some ⟨b, off, none⟩) n c (stE s u o) (.slice B' m' e') v5 d k)))) z := by
        intro z hz
        have hkeep : ∀ g, g ≠ w.heap.size → g ≠ w.heap.size + 1 → z.heap[g]? = w5.heap[g]? := fun g h1 h2 => by rw [hz]; exact (setRow_other _ _ _ _ h2).trans (heap_setCell_other w5 ⟨w.heap.size, 28, none⟩ g v5 h1)
        have hsz : w5.heap.size ≤ z.heap.size := by rw [hz]; simp
        have hy := HFN.out.2.2.2.1.lt
        have hsl := (HFN.out.1.bel hB5).keep hsz hkeep
        have ho6 := own_keep (w' := z) ho5 (fun g hg _ => hkeep g (by have := (own_lt ho5 hg).1; omega) (by have := (own_lt ho5 hg).1; omega))
        rw [show intq Q ++ [Value.int .i64 (u : Int)] = intq (Q ++ [(u : Int)]) from (intq_app Q [(u : Int)]).symm] at ho6
        refine ⟨by rw [hz]; exact ((hB5.box HFN.out.2.2.2.1).set_ne ⟨w.heap.size, 28, none⟩ v5 (by dsimp only; omega)).setRow _, .slice B' m' e', v5, rfl, ⟨B', m', e', rfl, hsl.sl, HFN.out.2.1, HFN.out.2.2.1⟩, (sli_own ho6).1, ?_, fun X hX => ⟨apart_own ho6 (by omega), HFN.out.2.2.2.2.2.1 X hX⟩, fun base hbs hown => by have h := HFN.out.2.2.2.2.2.2 base hbs hown; exact own_keep (own_bel h.1 hB5) (fun g hg _ => hkeep g (h.2 g hg).1 (h.2 g hg).2)⟩
        rw [hz]
        exact (((HFN.out.2.2.2.2.1.trans hB5).setCell ⟨w.heap.size, 28, none⟩ (Nat.le_refl _) v5).setRow (w.heap.size + 1) (by omega) _).out
      obtain ⟨hz1', hz2'⟩ := hZ _ rfl
      exact bodyPost_ret (res_c Try.results42 rfl (B := w.heap.size + 1) (c := vs 29 (gP (some ⟨b, off, none⟩) n c (stE s u o) (.slice B' m' e') v5 d k)) (t := 95) hz1' (TGv _)) rfl hz2'
end Go.Proofs.Ytjddahidkodieaa
namespace Go.Proofs.Ytjddahidkodieaa
open Go Go.RowKit

theorem pck_large {P : List (List Ev)} (h : ¬ (1 ≤ P.length ∧ P.length ≤ 6)) : chkP P = 2 := by unfold chkP; rw [if_neg]; exact fun g => h ⟨g.1, g.2.1⟩
theorem pck_long {P : List (List Ev)} {t : Nat} (ht : t < P.length) (h : 12 < (opsP P t).length) : chkP P = 2 := by
  unfold chkP
  rw [if_neg]
  exact fun g => by have := g.2.2 _ (opsP_mem ht); omega
def ShortTo (P : List (List Ev)) (i : Nat) : Prop := ∀ t, t < i → (opsP P t).length ≤ 12
theorem ShortTo.all {P : List (List Ev)} (h : ShortTo P P.length) : ∀ ops ∈ P, ops.length ≤ 12 := fun ops ho => by obtain ⟨t, ht, rfl⟩ := mem_opsP ho; exact h t ht
theorem ShortTo.succ {P : List (List Ev)} {i : Nat} (h : ShortTo P i) (hi : (opsP P i).length ≤ 12) : ShortTo P (i + 1) := fun t ht => by
  rcases Nat.lt_succ_iff_lt_or_eq.1 ht with h' | rfl
  · exact h t h'
  · exact hi
structure Long (P : List (List Ev)) : Prop where
  one : 1 ≤ P.length
  six : P.length ≤ 6
  len : ShortTo P P.length
theorem pck_bad {P : List (List Ev)} (h : Long P) {t : Nat} {o : Ev} (ht : t < P.length) (ho : o ∈ opsP P t) (hb : isOp o = false) : chkP P = 1 := by
  unfold chkP
  rw [if_pos ⟨h.one, h.six, h.len.all⟩, if_neg]
  exact fun g => by rw [g _ (opsP_mem ht) o ho] at hb; cases hb
def GoodTo (P : List (List Ev)) (i : Nat) : Prop := ∀ t, t < i → ∀ o ∈ opsP P t, isOp o = true
theorem pck_good {P : List (List Ev)} (h : Long P) (hg : GoodTo P P.length) : chkP P = 0 := by
  unfold chkP
  rw [if_pos ⟨h.one, h.six, h.len.all⟩, if_pos fun ops ho o hm => by obtain ⟨t, ht, rfl⟩ := mem_opsP ho; exact hg t ht o hm]
def GoodIn (l : List Ev) (j : Nat) : Prop := ∀ o ∈ l.take j, isOp o = true
theorem GoodIn.succ {l : List Ev} {j : Nat} {o : Ev} (h : GoodIn l j) (ho : l[j]? = some o) (hi : isOp o = true) : GoodIn l (j + 1) := fun x hx => by
  rw [take_snoc ho] at hx
  rcases List.mem_append.1 hx with hx | hx
  · exact h x hx
  · simp at hx; subst hx; exact hi
theorem GoodTo.succ {P : List (List Ev)} {i : Nat} (h : GoodTo P i) (hi : GoodIn (opsP P i) (opsP P i).length) : GoodTo P (i + 1) := fun t ht => by
  rcases Nat.lt_succ_iff_lt_or_eq.1 ht with h' | rfl
  · exact h t h'
  · intro o ho; exact hi o (by rw [List.take_length]; exact ho)
/-- The largest Obj of a kind, from the reference's table. -/
def topO : Nat → Int
  | 0 => 7 | 1 => 7 | 2 => 0 | 3 => 4 | 4 => 4 | 5 => 5 | 6 => 5 | _ => 3
def tabO : Array Value := #[.int .i64 7, .int .i64 7, .int .i64 0, .int .i64 4, .int .i64 4, .int .i64 5, .int .i64 5, .int .i64 3, .int .i64 3]
theorem tab_at {j : Nat} (h : j < 9) : tabO[j]? = some (.int .i64 (topO j)) := by
  match j, h with
  | 0, _ => rfl | 1, _ => rfl | 2, _ => rfl | 3, _ => rfl | 4, _ => rfl | 5, _ => rfl | 6, _ => rfl | 7, _ => rfl | 8, _ => rfl
def badO (o : Ev) (j : Nat) : Bool := outs o.t 0 (topO j) || (o.k != 3 && o.o != 0) || outs o.o (-1000) 1000
theorem isOp_out {o : Ev} (h : outs o.k 1 9 = true) : isOp o = false := by
  unfold outs at h; unfold isOp
  simp only [Bool.or_eq_true, decide_eq_true_iff] at h
  rw [decide_eq_false (p := 1 ≤ o.k ∧ o.k ≤ 9) (by omega)]
  rfl
theorem isOp_at {o : Ev} {j : Nat} (hj : j < 9) (h : o.k = j + 1) : isOp o = !badO o j := by
  have e : (if o.k = 3 then (0 : Int) else if o.k = 1 ∨ o.k = 2 then 7 else if o.k = 4 ∨ o.k = 5 then 4 else if o.k = 6 ∨ o.k = 7 then 5 else 3) = topO j := by
    have hc : j = 0 ∨ j = 1 ∨ j = 2 ∨ j = 3 ∨ j = 4 ∨ j = 5 ∨ j = 6 ∨ j = 7 ∨ j = 8 := by omega
    rw [h]
    rcases hc with rfl | rfl | rfl | rfl | rfl | rfl | rfl | rfl | rfl <;> simp [topO]
  unfold isOp badO outs
  rw [e, decide_eq_true (p := 1 ≤ o.k ∧ o.k ≤ 9) (by omega), Bool.true_and, Bool.eq_iff_iff]
  simp only [Bool.and_eq_true, decide_eq_true_iff, Bool.not_eq_true', Bool.or_eq_false_iff, decide_eq_false_iff_not, Bool.and_eq_false_iff, bne_eq_false_iff_eq]
  omega
theorem TOp : RowTy Try.prog 63 3 := ⟨_, Try.underlying63, rfl, by kernel_rfl⟩
theorem outv_any (t a b : Int) (v : Bool) (h : outs t a b = v) (w : World) : Calls Try.prog 66 #[.int .i64 t, .int .i64 a, .int .i64 b] w fun e w' => e = .returned (.bool v) ∧ Below w.heap.size w w' :=
  (outside_any t a b w).mono fun e w' ⟨h1, h2⟩ => ⟨h ▸ h1, h2 ▸ Below.refl _ _⟩
set_option maxHeartbeats 16000000 in
theorem pchk_any (A : Option Addr) (n c : Nat) (P : List (List Ev)) (w : World) (h : Prg w A n P) (hnc : n ≤ c) (hcm : c ≤ maxLen) : Calls Try.prog 40 #[.slice A n c] w fun e w' => e = .returned (.int .i64 (chkP P)) ∧ Below w.heap.size w w' := by
  have HP := Lib.hid h
  have HLN := Lib.hid h.1
  have HM := Lib.hid (And.intro hnc hcm)
  have hn63 : n ≤ 9223372036854775807 := by unfold maxLen at hcm; omega
  clear h hnc hcm
  go_enter Try.func40, Try.ntmps40
  cases ho : outs n 1 6
  · have HO := Lib.hid (show 1 ≤ P.length ∧ P.length ≤ 6 by unfold outs at ho; have := of_decide_eq_false ho; rw [HLN.out]; omega)
    have hn6 : n ≤ 6 := by have := HO.out.2; rw [HLN.out] at this; exact this
    go_wp2_with (first | (go_at_call 66; (with_reducible refine (outside_any _ _ _ _).mono ?_); rintro e w' ⟨rfl, rfl⟩))
    go_loopw [14] (fun t wr => ∃ i : Nat, i ≤ n ∧ t = .int .i64 i ∧ ShortTo P i ∧ w = wr) (fun t _ => n - (intOf t).toNat)
    case atStart => exact ⟨0, by omega, rfl, fun t ht => absurd ht (Nat.not_lt_zero t), rfl⟩
    case round =>
      obtain ⟨i, hi, rfl, hs, rfl⟩ := hrel
      have HS := Lib.hid hs
      clear hs
      by_cases hlt : i < n
      · obtain ⟨b, off, B, m, d, rfl, hb, hc, hsl, hm, hd⟩ := HP.out.at_ hlt
        have hlt' : (i : Int) < n := by omega
        have hSL := Lib.hid hsl
        clear hsl
        by_cases hl : 12 < m
        · have hl' : (12 : Int) < m := by omega
          go_wp2
          go_ret
          exact ⟨by rw [pck_long (P := P) (t := i) (by rw [HLN.out]; exact hlt) (by rw [hSL.out.1]; exact hl)]; rfl, Below.refl _ _⟩
        · have hl' : ¬ (12 : Int) < m := by omega
          have HS1 := Lib.hid (HS.out.succ (i := i) (by rw [hSL.out.1]; omega))
          go_wp2
          go_roundw
          case rel => exact ⟨i + 1, by omega, by go_num, HS1.out, trivial⟩
          case measure => simp [intOf]; omega
      · obtain rfl : n = i := by omega
        have HLG := Lib.hid (show Long P from ⟨HO.out.1, HO.out.2, by have h := HS.out; rwa [← HLN.out] at h⟩)
        clear HO HS
        go_wp2
        go_loopw [24] (fun t wr => ∃ i : Nat, i ≤ n ∧ t = .int .i64 i ∧ GoodTo P i ∧ Bel w wr) (fun t _ => n - (intOf t).toNat)
        case atStart => exact ⟨0, by omega, rfl, fun t ht => absurd ht (Nat.not_lt_zero t), Bel.refl _⟩
        case round =>
          obtain ⟨i, hi, rfl, hs, hbr⟩ := hrel
          have HS := Lib.hid hs
          have HB := Lib.hid hbr
          clear hs hbr
          by_cases hlt : i < n
          · obtain ⟨b, off, B, m, d, rfl, hb, hc, hsl, hm, hd⟩ := (HP.out.bel HB.out).at_ hlt
            have hlt' : (i : Int) < n := by omega
            have HSL := Lib.hid hsl
            have HD := Lib.hid (And.intro hm hd)
            have hm12 : m ≤ 12 := by have := HLG.out.len i (by rw [HLN.out]; exact hlt); rw [HSL.out.1] at this; exact this
            clear hsl
            go_wp2
            go_loopw [30] (fun t wi => ∃ j : Nat, j ≤ m ∧ t = .int .i64 j ∧ GoodIn (opsP P i) j ∧ Bel wr wi) (fun t _ => m - (intOf t).toNat)
            case atStart => exact ⟨0, by omega, rfl, fun o ho => by simp at ho, Bel.refl _⟩
            case round =>
              obtain ⟨j, hj, rfl, hg, hbi⟩ := hrel
              have HG := Lib.hid hg
              have HBI := Lib.hid hbi
              clear hg hbi
              by_cases hjm : j < m
              · obtain ⟨bb, oo, e, rfl, hbb, he, hrg⟩ := (HSL.out.bel HBI.out).at_ hjm
                have hjm' : (j : Int) < m := by omega
                have hjd : (j : Int) ≤ d := by have := HD.out.1; omega
                have hR := Lib.hid hrg
                have HE := Lib.hid he
                have HME := Lib.hid (show e ∈ opsP P i from List.mem_of_getElem? he)
                have HB1 := Lib.hid ((HB.out.trans HBI.out).trans (ewld_below wr e 63))
                obtain ⟨c0, c1, c2⟩ := ewld_cells wr e 63
                have G0 := fun (w' : World) (h : Bel (ewld wr e 63) w') => h.cell c0
                have G1 := fun (w' : World) (h : Bel (ewld wr e 63) w') => h.cell c1
                have G2 := fun (w' : World) (h : Bel (ewld wr e 63) w') => h.cell c2
                have HGS := Lib.hid (And.intro G0 (And.intro G1 G2))
                clear hrg he hbb c0 c1 c2 G0 G1 G2
                cases o1 : outs e.k 1 9
                · obtain ⟨jj, hjj, hk⟩ : ∃ jj : Nat, jj < 9 ∧ e.k = jj + 1 := ⟨(e.k - 1).toNat, by unfold outs at o1; have := of_decide_eq_false o1; omega, by unfold outs at o1; have := of_decide_eq_false o1; omega⟩
                  have HK := Lib.hid hk
                  have hwk : IntKind.i64.wrap (e.k - 1) = (jj : Int) := by rw [hk, IntWalk.i64_in _ (by omega)]; omega
                  have hjj' : (jj : Int) < 9 := by omega
                  have F := fun (w' : World) (h : Bel (ewld wr e 63) w') => And.intro (HGS.out.1 w' h) (And.intro (HGS.out.2.1 w' h) (HGS.out.2.2 w' h))
                  have HI := Lib.hid (isOp_at hjj hk)
                  clear hk
                  have HBI2 := Lib.hid (HBI.out.trans (ewld_below wr e 63))
                  go_wp2_with (first | (refine load_ev TOp _ rfl rfl rfl hR.out ?_) | (refine ewld_store TOp _ _ rfl rfl _ rfl rfl rfl ?_))
                  refine region_grow (by kernel_rfl) ?_
                  (repeat (first | ((first | refine wpG_go 0 (by simp only [List.getElem?_toArray, List.getElem?_cons_zero, List.getElem?_cons_succ] <;> rfl) (by decide +kernel) (by decide +kernel) (by kernel_rfl) (by rfl) (by exact fun _ _ _ _ h => h) (Nat.le_refl _) ?_ | refine wpG_go 1 (by simp only [List.getElem?_toArray, List.getElem?_cons_zero, List.getElem?_cons_succ] <;> rfl) (by decide +kernel) (by decide +kernel) (by kernel_rfl) (by rfl) (by exact fun _ _ _ _ h => h) (Nat.le_refl _) ?_ | refine wpG_go 2 (by simp only [List.getElem?_toArray, List.getElem?_cons_zero, List.getElem?_cons_succ] <;> rfl) (by decide +kernel) (by decide +kernel) (by kernel_rfl) (by rfl) (by exact fun _ _ _ _ h => h) (Nat.le_refl _) ?_ | refine wpG_go 3 (by simp only [List.getElem?_toArray, List.getElem?_cons_zero, List.getElem?_cons_succ] <;> rfl) (by decide +kernel) (by decide +kernel) (by kernel_rfl) (by rfl) (by exact fun _ _ _ _ h => h) (Nat.le_refl _) ?_ | refine wpG_go 4 (by simp only [List.getElem?_toArray, List.getElem?_cons_zero, List.getElem?_cons_succ] <;> rfl) (by decide +kernel) (by decide +kernel) (by kernel_rfl) (by rfl) (by exact fun _ _ _ _ h => h) (Nat.le_refl _) ?_ | refine wpG_go 5 (by simp only [List.getElem?_toArray, List.getElem?_cons_zero, List.getElem?_cons_succ] <;> rfl) (by decide +kernel) (by decide +kernel) (by kernel_rfl) (by rfl) (by exact fun _ _ _ _ h => h) (Nat.le_refl _) ?_ | refine wpG_go 7 (by simp only [List.getElem?_toArray, List.getElem?_cons_zero, List.getElem?_cons_succ] <;> rfl) (by decide +kernel) (by decide +kernel) (by kernel_rfl) (by rfl) (by exact fun _ _ _ _ h => h) (Nat.le_refl _) ?_ | refine wpG_go 8 (by simp only [List.getElem?_toArray, List.getElem?_cons_zero, List.getElem?_cons_succ] <;> rfl) (by decide +kernel) (by decide +kernel) (by kernel_rfl) (by rfl) (by exact fun _ _ _ _ h => h) (Nat.le_refl _) ?_ | refine wpG_go 9 (by simp only [List.getElem?_toArray, List.getElem?_cons_zero, List.getElem?_cons_succ] <;> rfl) (by decide +kernel) (by decide +kernel) (by kernel_rfl) (by rfl) (by exact fun _ _ _ _ h => h) (Nat.le_refl _) ?_); apply Exists.intro; refine ⟨fun w1 h1 => ?_, ?_⟩; (first | exact g_move _ rfl | exact g_assign _ rfl | (have fct0 := F w1 h1; go_simp; first | exact ⟨rfl, rfl⟩ | rfl | (go_at_call 66; (with_reducible refine (outv_any _ _ _ _ o1 _).mono ?_); rintro e w' ⟨rfl, hb⟩; first | exact ⟨rfl, hb⟩ | exact ⟨rfl, hb ▸ Bel.refl _⟩))); simp only [Act.put, Act.eval, List.setIfInBounds_toArray, List.set_cons_zero, List.set_cons_succ, Array.getD_eq_getD_getElem?, List.getElem?_toArray, List.getElem?_cons_zero, List.getElem?_cons_succ, Option.getD_some]) | ((first | refine wpG_skip 0 (by simp only [List.getElem?_toArray, List.getElem?_cons_zero, List.getElem?_cons_succ] <;> rfl) (by decide +kernel) (by decide +kernel) (by kernel_rfl) (by rfl) (by exact fun _ _ _ _ h => h) (Nat.le_refl _) ?_ | refine wpG_skip 1 (by simp only [List.getElem?_toArray, List.getElem?_cons_zero, List.getElem?_cons_succ] <;> rfl) (by decide +kernel) (by decide +kernel) (by kernel_rfl) (by rfl) (by exact fun _ _ _ _ h => h) (Nat.le_refl _) ?_ | refine wpG_skip 2 (by simp only [List.getElem?_toArray, List.getElem?_cons_zero, List.getElem?_cons_succ] <;> rfl) (by decide +kernel) (by decide +kernel) (by kernel_rfl) (by rfl) (by exact fun _ _ _ _ h => h) (Nat.le_refl _) ?_ | refine wpG_skip 3 (by simp only [List.getElem?_toArray, List.getElem?_cons_zero, List.getElem?_cons_succ] <;> rfl) (by decide +kernel) (by decide +kernel) (by kernel_rfl) (by rfl) (by exact fun _ _ _ _ h => h) (Nat.le_refl _) ?_ | refine wpG_skip 4 (by simp only [List.getElem?_toArray, List.getElem?_cons_zero, List.getElem?_cons_succ] <;> rfl) (by decide +kernel) (by decide +kernel) (by kernel_rfl) (by rfl) (by exact fun _ _ _ _ h => h) (Nat.le_refl _) ?_ | refine wpG_skip 5 (by simp only [List.getElem?_toArray, List.getElem?_cons_zero, List.getElem?_cons_succ] <;> rfl) (by decide +kernel) (by decide +kernel) (by kernel_rfl) (by rfl) (by exact fun _ _ _ _ h => h) (Nat.le_refl _) ?_ | refine wpG_skip 7 (by simp only [List.getElem?_toArray, List.getElem?_cons_zero, List.getElem?_cons_succ] <;> rfl) (by decide +kernel) (by decide +kernel) (by kernel_rfl) (by rfl) (by exact fun _ _ _ _ h => h) (Nat.le_refl _) ?_ | refine wpG_skip 8 (by simp only [List.getElem?_toArray, List.getElem?_cons_zero, List.getElem?_cons_succ] <;> rfl) (by decide +kernel) (by decide +kernel) (by kernel_rfl) (by rfl) (by exact fun _ _ _ _ h => h) (Nat.le_refl _) ?_ | refine wpG_skip 9 (by simp only [List.getElem?_toArray, List.getElem?_cons_zero, List.getElem?_cons_succ] <;> rfl) (by decide +kernel) (by decide +kernel) (by kernel_rfl) (by rfl) (by exact fun _ _ _ _ h => h) (Nat.le_refl _) ?_); simp only [Act.put, Act.eval, List.setIfInBounds_toArray, List.set_cons_zero, List.set_cons_succ, Array.getD_eq_getD_getElem?, List.getElem?_toArray, List.getElem?_cons_zero, List.getElem?_cons_succ, Option.getD_some])))
                  (refine wpG_one 6 (by decide +kernel) ?_; intro w1 hw1; refine op_wanted (by simp only [List.getElem?_toArray, List.getElem?_cons_zero, List.getElem?_cons_succ] <;> rfl) rfl ?_)
                  go_simp
                  refine ⟨Below.alloc (Below.refl _ _) hw1.size _, ?_⟩
                  refine wpG_raise (M := w1.heap.size + 1) (Nat.le_succ_of_le hw1.size) _ _ _ _ ?_
                  have HW := Lib.hid (Bel.trans HB1.out hw1)
                  have HW2 := Lib.hid hw1
                  have hz : (ewld wr e 63).heap.size ≤ w1.heap.size := hw1.size
                  have F' := fun (w2 : World) (h : Below (w1.heap.size + 1) (w1.alloc (.cells tabO 3)) w2) => F w2 (Bel.trans (Bel.alloc HW2.out _) (Below.mono h (by simp)))
                  clear hw1
                  have bn := fun (w2 : World) (h : Below (w1.heap.size + 1) (w1.alloc (.cells tabO 3)) w2) => (h.cell (p := ⟨w1.heap.size, jj, none⟩) (Nat.lt_succ_self _)).trans ((Box.new w1 tabO _).cell (v := .int .i64 (topO jj)) jj (tab_at hjj))
                  (repeat (first | ((first | refine wpG_go 10 (by simp only [List.getElem?_toArray, List.getElem?_cons_zero, List.getElem?_cons_succ] <;> rfl) (by decide +kernel) (by decide +kernel) (by kernel_rfl) (by rfl) (by exact fun _ _ _ _ h => h) (by simp) ?_ | refine wpG_go 11 (by simp only [List.getElem?_toArray, List.getElem?_cons_zero, List.getElem?_cons_succ] <;> rfl) (by decide +kernel) (by decide +kernel) (by kernel_rfl) (by rfl) (by exact fun _ _ _ _ h => h) (by simp) ?_); apply Exists.intro; refine ⟨fun w1 h1 => ?_, ?_⟩; (first | exact g_move _ rfl | exact g_assign _ rfl | (have fct0 := bn w1 h1; go_simp; first | exact ⟨rfl, rfl⟩ | rfl)); simp only [Act.put, Act.eval, List.setIfInBounds_toArray, List.set_cons_zero, List.set_cons_succ, Array.getD_eq_getD_getElem?, List.getElem?_toArray, List.getElem?_cons_zero, List.getElem?_cons_succ, Option.getD_some]) | ((first | refine wpG_skip 10 (by simp only [List.getElem?_toArray, List.getElem?_cons_zero, List.getElem?_cons_succ] <;> rfl) (by decide +kernel) (by decide +kernel) (by kernel_rfl) (by rfl) (by exact fun _ _ _ _ h => h) (by simp) ?_ | refine wpG_skip 11 (by simp only [List.getElem?_toArray, List.getElem?_cons_zero, List.getElem?_cons_succ] <;> rfl) (by decide +kernel) (by decide +kernel) (by kernel_rfl) (by rfl) (by exact fun _ _ _ _ h => h) (by simp) ?_); simp only [Act.put, Act.eval, List.setIfInBounds_toArray, List.set_cons_zero, List.set_cons_succ, Array.getD_eq_getD_getElem?, List.getElem?_toArray, List.getElem?_cons_zero, List.getElem?_cons_succ, Option.getD_some])))
                  clear bn F
                  cases o2 : outs e.t 0 (topO jj)
                  · (repeat (first | ((first | refine wpG_go 12 (by simp only [List.getElem?_toArray, List.getElem?_cons_zero, List.getElem?_cons_succ] <;> rfl) (by decide +kernel) (by decide +kernel) (by kernel_rfl) (by rfl) (by exact fun _ _ _ _ h => h) (by simp) ?_ | refine wpG_go 13 (by simp only [List.getElem?_toArray, List.getElem?_cons_zero, List.getElem?_cons_succ] <;> rfl) (by decide +kernel) (by decide +kernel) (by kernel_rfl) (by rfl) (by exact fun _ _ _ _ h => h) (by simp) ?_ | refine wpG_go 14 (by simp only [List.getElem?_toArray, List.getElem?_cons_zero, List.getElem?_cons_succ] <;> rfl) (by decide +kernel) (by decide +kernel) (by kernel_rfl) (by rfl) (by exact fun _ _ _ _ h => h) (by simp) ?_); apply Exists.intro; refine ⟨fun w1 h1 => ?_, ?_⟩; (first | exact g_move _ rfl | exact g_assign _ rfl | (have fct0 := F' w1 h1; go_simp; first | exact ⟨rfl, rfl⟩ | rfl | (go_at_call 66; (with_reducible refine (outv_any _ _ _ _ o2 _).mono ?_); rintro e w' ⟨rfl, hb⟩; first | exact ⟨rfl, hb⟩ | exact ⟨rfl, hb ▸ Bel.refl _⟩))); simp only [Act.put, Act.eval, List.setIfInBounds_toArray, List.set_cons_zero, List.set_cons_succ, Array.getD_eq_getD_getElem?, List.getElem?_toArray, List.getElem?_cons_zero, List.getElem?_cons_succ, Option.getD_some]) | ((first | refine wpG_skip 12 (by simp only [List.getElem?_toArray, List.getElem?_cons_zero, List.getElem?_cons_succ] <;> rfl) (by decide +kernel) (by decide +kernel) (by kernel_rfl) (by rfl) (by exact fun _ _ _ _ h => h) (by simp) ?_ | refine wpG_skip 13 (by simp only [List.getElem?_toArray, List.getElem?_cons_zero, List.getElem?_cons_succ] <;> rfl) (by decide +kernel) (by decide +kernel) (by kernel_rfl) (by rfl) (by exact fun _ _ _ _ h => h) (by simp) ?_ | refine wpG_skip 14 (by simp only [List.getElem?_toArray, List.getElem?_cons_zero, List.getElem?_cons_succ] <;> rfl) (by decide +kernel) (by decide +kernel) (by kernel_rfl) (by rfl) (by exact fun _ _ _ _ h => h) (by simp) ?_); simp only [Act.put, Act.eval, List.setIfInBounds_toArray, List.set_cons_zero, List.set_cons_succ, Array.getD_eq_getD_getElem?, List.getElem?_toArray, List.getElem?_cons_zero, List.getElem?_cons_succ, Option.getD_some])))
                    cases o3 : (e.k != 3)
                    · (repeat (first | ((first | refine wpG_go 15 (by simp only [List.getElem?_toArray, List.getElem?_cons_zero, List.getElem?_cons_succ] <;> rfl) (by decide +kernel) (by decide +kernel) (by kernel_rfl) (by rfl) (by exact fun _ _ _ _ h => h) (by simp) ?_ | refine wpG_go 16 (by simp only [List.getElem?_toArray, List.getElem?_cons_zero, List.getElem?_cons_succ] <;> rfl) (by decide +kernel) (by decide +kernel) (by kernel_rfl) (by rfl) (by exact fun _ _ _ _ h => h) (by simp) ?_ | refine wpG_go 17 (by simp only [List.getElem?_toArray, List.getElem?_cons_zero, List.getElem?_cons_succ] <;> rfl) (by decide +kernel) (by decide +kernel) (by kernel_rfl) (by rfl) (by exact fun _ _ _ _ h => h) (by simp) ?_ | refine wpG_go 18 (by simp only [List.getElem?_toArray, List.getElem?_cons_zero, List.getElem?_cons_succ] <;> rfl) (by decide +kernel) (by decide +kernel) (by kernel_rfl) (by rfl) (by exact fun _ _ _ _ h => h) (by simp) ?_); apply Exists.intro; refine ⟨fun w1 h1 => ?_, ?_⟩; (first | exact g_move _ rfl | exact g_assign _ rfl | (have fct0 := F' w1 h1; go_simp; first | exact ⟨rfl, rfl⟩ | rfl)); simp only [Act.put, Act.eval, List.setIfInBounds_toArray, List.set_cons_zero, List.set_cons_succ, Array.getD_eq_getD_getElem?, List.getElem?_toArray, List.getElem?_cons_zero, List.getElem?_cons_succ, Option.getD_some]) | ((first | refine wpG_skip 15 (by simp only [List.getElem?_toArray, List.getElem?_cons_zero, List.getElem?_cons_succ] <;> rfl) (by decide +kernel) (by decide +kernel) (by kernel_rfl) (by rfl) (by exact fun _ _ _ _ h => h) (by simp) ?_ | refine wpG_skip 16 (by simp only [List.getElem?_toArray, List.getElem?_cons_zero, List.getElem?_cons_succ] <;> rfl) (by decide +kernel) (by decide +kernel) (by kernel_rfl) (by rfl) (by exact fun _ _ _ _ h => h) (by simp) ?_ | refine wpG_skip 17 (by simp only [List.getElem?_toArray, List.getElem?_cons_zero, List.getElem?_cons_succ] <;> rfl) (by decide +kernel) (by decide +kernel) (by kernel_rfl) (by rfl) (by exact fun _ _ _ _ h => h) (by simp) ?_ | refine wpG_skip 18 (by simp only [List.getElem?_toArray, List.getElem?_cons_zero, List.getElem?_cons_succ] <;> rfl) (by decide +kernel) (by decide +kernel) (by kernel_rfl) (by rfl) (by exact fun _ _ _ _ h => h) (by simp) ?_); simp only [Act.put, Act.eval, List.setIfInBounds_toArray, List.set_cons_zero, List.set_cons_succ, Array.getD_eq_getD_getElem?, List.getElem?_toArray, List.getElem?_cons_zero, List.getElem?_cons_succ, Option.getD_some])))
                      (repeat (first | ((first | refine wpG_go 19 (by simp only [List.getElem?_toArray, List.getElem?_cons_zero, List.getElem?_cons_succ] <;> rfl) (by decide +kernel) (by decide +kernel) (by kernel_rfl) (by rfl) (by exact fun _ _ _ _ h => h) (by simp) ?_ | refine wpG_go 20 (by simp only [List.getElem?_toArray, List.getElem?_cons_zero, List.getElem?_cons_succ] <;> rfl) (by decide +kernel) (by decide +kernel) (by kernel_rfl) (by rfl) (by exact fun _ _ _ _ h => h) (by simp) ?_ | refine wpG_go 21 (by simp only [List.getElem?_toArray, List.getElem?_cons_zero, List.getElem?_cons_succ] <;> rfl) (by decide +kernel) (by decide +kernel) (by kernel_rfl) (by rfl) (by exact fun _ _ _ _ h => h) (by simp) ?_ | refine wpG_go 22 (by simp only [List.getElem?_toArray, List.getElem?_cons_zero, List.getElem?_cons_succ] <;> rfl) (by decide +kernel) (by decide +kernel) (by kernel_rfl) (by rfl) (by exact fun _ _ _ _ h => h) (by simp) ?_ | refine wpG_go 23 (by simp only [List.getElem?_toArray, List.getElem?_cons_zero, List.getElem?_cons_succ] <;> rfl) (by decide +kernel) (by decide +kernel) (by kernel_rfl) (by rfl) (by exact fun _ _ _ _ h => h) (by simp) ?_); apply Exists.intro; refine ⟨fun w1 h1 => ?_, ?_⟩; (first | exact g_move _ rfl | exact g_assign _ rfl | (have fct0 := F' w1 h1; go_simp; first | exact ⟨rfl, rfl⟩ | rfl)); simp only [Act.put, Act.eval, List.setIfInBounds_toArray, List.set_cons_zero, List.set_cons_succ, Array.getD_eq_getD_getElem?, List.getElem?_toArray, List.getElem?_cons_zero, List.getElem?_cons_succ, Option.getD_some]) | ((first | refine wpG_skip 19 (by simp only [List.getElem?_toArray, List.getElem?_cons_zero, List.getElem?_cons_succ] <;> rfl) (by decide +kernel) (by decide +kernel) (by kernel_rfl) (by rfl) (by exact fun _ _ _ _ h => h) (by simp) ?_ | refine wpG_skip 20 (by simp only [List.getElem?_toArray, List.getElem?_cons_zero, List.getElem?_cons_succ] <;> rfl) (by decide +kernel) (by decide +kernel) (by kernel_rfl) (by rfl) (by exact fun _ _ _ _ h => h) (by simp) ?_ | refine wpG_skip 21 (by simp only [List.getElem?_toArray, List.getElem?_cons_zero, List.getElem?_cons_succ] <;> rfl) (by decide +kernel) (by decide +kernel) (by kernel_rfl) (by rfl) (by exact fun _ _ _ _ h => h) (by simp) ?_ | refine wpG_skip 22 (by simp only [List.getElem?_toArray, List.getElem?_cons_zero, List.getElem?_cons_succ] <;> rfl) (by decide +kernel) (by decide +kernel) (by kernel_rfl) (by rfl) (by exact fun _ _ _ _ h => h) (by simp) ?_ | refine wpG_skip 23 (by simp only [List.getElem?_toArray, List.getElem?_cons_zero, List.getElem?_cons_succ] <;> rfl) (by decide +kernel) (by decide +kernel) (by kernel_rfl) (by rfl) (by exact fun _ _ _ _ h => h) (by simp) ?_); simp only [Act.put, Act.eval, List.setIfInBounds_toArray, List.set_cons_zero, List.set_cons_succ, Array.getD_eq_getD_getElem?, List.getElem?_toArray, List.getElem?_cons_zero, List.getElem?_cons_succ, Option.getD_some])))
                      cases o5 : outs e.o (-1000) 1000
                      · have HGN := Lib.hid (HG.out.succ HE.out (by rw [HI.out]; unfold badO; rw [o2, o3, o5]; rfl))
                        (repeat (first | ((first | refine wpG_go 24 (by simp only [List.getElem?_toArray, List.getElem?_cons_zero, List.getElem?_cons_succ] <;> rfl) (by decide +kernel) (by decide +kernel) (by kernel_rfl) (by rfl) (by exact fun _ _ _ _ h => h) (by simp) ?_ | refine wpG_go 25 (by simp only [List.getElem?_toArray, List.getElem?_cons_zero, List.getElem?_cons_succ] <;> rfl) (by decide +kernel) (by decide +kernel) (by kernel_rfl) (by rfl) (by exact fun _ _ _ _ h => h) (by simp) ?_ | refine wpG_go 26 (by simp only [List.getElem?_toArray, List.getElem?_cons_zero, List.getElem?_cons_succ] <;> rfl) (by decide +kernel) (by decide +kernel) (by kernel_rfl) (by rfl) (by exact fun _ _ _ _ h => h) (by simp) ?_ | refine wpG_go 27 (by simp only [List.getElem?_toArray, List.getElem?_cons_zero, List.getElem?_cons_succ] <;> rfl) (by decide +kernel) (by decide +kernel) (by kernel_rfl) (by rfl) (by exact fun _ _ _ _ h => h) (by simp) ?_ | refine wpG_go 28 (by simp only [List.getElem?_toArray, List.getElem?_cons_zero, List.getElem?_cons_succ] <;> rfl) (by decide +kernel) (by decide +kernel) (by kernel_rfl) (by rfl) (by exact fun _ _ _ _ h => h) (by simp) ?_); apply Exists.intro; refine ⟨fun w1 h1 => ?_, ?_⟩; (first | exact g_move _ rfl | exact g_assign _ rfl | (have fct0 := F' w1 h1; go_simp; first | exact ⟨rfl, rfl⟩ | rfl | (go_at_call 66; (with_reducible refine (outv_any _ _ _ _ o5 _).mono ?_); rintro e w' ⟨rfl, hb⟩; first | exact ⟨rfl, hb⟩ | exact ⟨rfl, hb ▸ Bel.refl _⟩))); simp only [Act.put, Act.eval, List.setIfInBounds_toArray, List.set_cons_zero, List.set_cons_succ, Array.getD_eq_getD_getElem?, List.getElem?_toArray, List.getElem?_cons_zero, List.getElem?_cons_succ, Option.getD_some]) | ((first | refine wpG_skip 24 (by simp only [List.getElem?_toArray, List.getElem?_cons_zero, List.getElem?_cons_succ] <;> rfl) (by decide +kernel) (by decide +kernel) (by kernel_rfl) (by rfl) (by exact fun _ _ _ _ h => h) (by simp) ?_ | refine wpG_skip 25 (by simp only [List.getElem?_toArray, List.getElem?_cons_zero, List.getElem?_cons_succ] <;> rfl) (by decide +kernel) (by decide +kernel) (by kernel_rfl) (by rfl) (by exact fun _ _ _ _ h => h) (by simp) ?_ | refine wpG_skip 26 (by simp only [List.getElem?_toArray, List.getElem?_cons_zero, List.getElem?_cons_succ] <;> rfl) (by decide +kernel) (by decide +kernel) (by kernel_rfl) (by rfl) (by exact fun _ _ _ _ h => h) (by simp) ?_ | refine wpG_skip 27 (by simp only [List.getElem?_toArray, List.getElem?_cons_zero, List.getElem?_cons_succ] <;> rfl) (by decide +kernel) (by decide +kernel) (by kernel_rfl) (by rfl) (by exact fun _ _ _ _ h => h) (by simp) ?_ | refine wpG_skip 28 (by simp only [List.getElem?_toArray, List.getElem?_cons_zero, List.getElem?_cons_succ] <;> rfl) (by decide +kernel) (by decide +kernel) (by kernel_rfl) (by rfl) (by exact fun _ _ _ _ h => h) (by simp) ?_); simp only [Act.put, Act.eval, List.setIfInBounds_toArray, List.set_cons_zero, List.set_cons_succ, Array.getD_eq_getD_getElem?, List.getElem?_toArray, List.getElem?_cons_zero, List.getElem?_cons_succ, Option.getD_some])))
                        (refine wpG_done (by decide +kernel) ?_ _; intro w2 hw2; try simp only [Act.put, Act.eval, List.setIfInBounds_toArray, List.set_cons_zero, List.set_cons_succ, Array.getD_eq_getD_getElem?, List.getElem?_toArray, List.getElem?_cons_zero, List.getElem?_cons_succ, Option.getD_some])
                        clear o1
                        have HX := Lib.hid (HBI2.out.trans (Bel.trans (Bel.alloc HW2.out _) hw2))
                        go_wp2
                        go_roundw
                        case rel => exact ⟨j + 1, by omega, by go_num, HGN.out, HX.out⟩
                        case measure => simp [intOf]; omega
                      · have HC := Lib.hid (pck_bad HLG.out (by rw [HLN.out]; exact hlt) HME.out (by rw [HI.out]; unfold badO; rw [o2, o3, o5]; rfl))
                        (repeat (first | ((first | refine wpG_go 24 (by simp only [List.getElem?_toArray, List.getElem?_cons_zero, List.getElem?_cons_succ] <;> rfl) (by decide +kernel) (by decide +kernel) (by kernel_rfl) (by rfl) (by exact fun _ _ _ _ h => h) (by simp) ?_ | refine wpG_go 25 (by simp only [List.getElem?_toArray, List.getElem?_cons_zero, List.getElem?_cons_succ] <;> rfl) (by decide +kernel) (by decide +kernel) (by kernel_rfl) (by rfl) (by exact fun _ _ _ _ h => h) (by simp) ?_ | refine wpG_go 26 (by simp only [List.getElem?_toArray, List.getElem?_cons_zero, List.getElem?_cons_succ] <;> rfl) (by decide +kernel) (by decide +kernel) (by kernel_rfl) (by rfl) (by exact fun _ _ _ _ h => h) (by simp) ?_ | refine wpG_go 27 (by simp only [List.getElem?_toArray, List.getElem?_cons_zero, List.getElem?_cons_succ] <;> rfl) (by decide +kernel) (by decide +kernel) (by kernel_rfl) (by rfl) (by exact fun _ _ _ _ h => h) (by simp) ?_ | refine wpG_go 28 (by simp only [List.getElem?_toArray, List.getElem?_cons_zero, List.getElem?_cons_succ] <;> rfl) (by decide +kernel) (by decide +kernel) (by kernel_rfl) (by rfl) (by exact fun _ _ _ _ h => h) (by simp) ?_); apply Exists.intro; refine ⟨fun w1 h1 => ?_, ?_⟩; (first | exact g_move _ rfl | exact g_assign _ rfl | (have fct0 := F' w1 h1; go_simp; first | exact ⟨rfl, rfl⟩ | rfl | (go_at_call 66; (with_reducible refine (outv_any _ _ _ _ o5 _).mono ?_); rintro e w' ⟨rfl, hb⟩; first | exact ⟨rfl, hb⟩ | exact ⟨rfl, hb ▸ Bel.refl _⟩))); simp only [Act.put, Act.eval, List.setIfInBounds_toArray, List.set_cons_zero, List.set_cons_succ, Array.getD_eq_getD_getElem?, List.getElem?_toArray, List.getElem?_cons_zero, List.getElem?_cons_succ, Option.getD_some]) | ((first | refine wpG_skip 24 (by simp only [List.getElem?_toArray, List.getElem?_cons_zero, List.getElem?_cons_succ] <;> rfl) (by decide +kernel) (by decide +kernel) (by kernel_rfl) (by rfl) (by exact fun _ _ _ _ h => h) (by simp) ?_ | refine wpG_skip 25 (by simp only [List.getElem?_toArray, List.getElem?_cons_zero, List.getElem?_cons_succ] <;> rfl) (by decide +kernel) (by decide +kernel) (by kernel_rfl) (by rfl) (by exact fun _ _ _ _ h => h) (by simp) ?_ | refine wpG_skip 26 (by simp only [List.getElem?_toArray, List.getElem?_cons_zero, List.getElem?_cons_succ] <;> rfl) (by decide +kernel) (by decide +kernel) (by kernel_rfl) (by rfl) (by exact fun _ _ _ _ h => h) (by simp) ?_ | refine wpG_skip 27 (by simp only [List.getElem?_toArray, List.getElem?_cons_zero, List.getElem?_cons_succ] <;> rfl) (by decide +kernel) (by decide +kernel) (by kernel_rfl) (by rfl) (by exact fun _ _ _ _ h => h) (by simp) ?_ | refine wpG_skip 28 (by simp only [List.getElem?_toArray, List.getElem?_cons_zero, List.getElem?_cons_succ] <;> rfl) (by decide +kernel) (by decide +kernel) (by kernel_rfl) (by rfl) (by exact fun _ _ _ _ h => h) (by simp) ?_); simp only [Act.put, Act.eval, List.setIfInBounds_toArray, List.set_cons_zero, List.set_cons_succ, Array.getD_eq_getD_getElem?, List.getElem?_toArray, List.getElem?_cons_zero, List.getElem?_cons_succ, Option.getD_some])))
                        (refine wpG_done (by decide +kernel) ?_ _; intro w2 hw2; try simp only [Act.put, Act.eval, List.setIfInBounds_toArray, List.set_cons_zero, List.set_cons_succ, Array.getD_eq_getD_getElem?, List.getElem?_toArray, List.getElem?_cons_zero, List.getElem?_cons_succ, Option.getD_some])
                        clear o1
                        go_wp2
                        go_ret
                        exact ⟨by rw [HC.out]; rfl, ((HW.out.alloc _).trans hw2).out⟩
                    · (repeat (first | ((first | refine wpG_go 15 (by simp only [List.getElem?_toArray, List.getElem?_cons_zero, List.getElem?_cons_succ] <;> rfl) (by decide +kernel) (by decide +kernel) (by kernel_rfl) (by rfl) (by exact fun _ _ _ _ h => h) (by simp) ?_ | refine wpG_go 16 (by simp only [List.getElem?_toArray, List.getElem?_cons_zero, List.getElem?_cons_succ] <;> rfl) (by decide +kernel) (by decide +kernel) (by kernel_rfl) (by rfl) (by exact fun _ _ _ _ h => h) (by simp) ?_ | refine wpG_go 17 (by simp only [List.getElem?_toArray, List.getElem?_cons_zero, List.getElem?_cons_succ] <;> rfl) (by decide +kernel) (by decide +kernel) (by kernel_rfl) (by rfl) (by exact fun _ _ _ _ h => h) (by simp) ?_ | refine wpG_go 18 (by simp only [List.getElem?_toArray, List.getElem?_cons_zero, List.getElem?_cons_succ] <;> rfl) (by decide +kernel) (by decide +kernel) (by kernel_rfl) (by rfl) (by exact fun _ _ _ _ h => h) (by simp) ?_); apply Exists.intro; refine ⟨fun w1 h1 => ?_, ?_⟩; (first | exact g_move _ rfl | exact g_assign _ rfl | (have fct0 := F' w1 h1; go_simp; first | exact ⟨rfl, rfl⟩ | rfl)); simp only [Act.put, Act.eval, List.setIfInBounds_toArray, List.set_cons_zero, List.set_cons_succ, Array.getD_eq_getD_getElem?, List.getElem?_toArray, List.getElem?_cons_zero, List.getElem?_cons_succ, Option.getD_some]) | ((first | refine wpG_skip 15 (by simp only [List.getElem?_toArray, List.getElem?_cons_zero, List.getElem?_cons_succ] <;> rfl) (by decide +kernel) (by decide +kernel) (by kernel_rfl) (by rfl) (by exact fun _ _ _ _ h => h) (by simp) ?_ | refine wpG_skip 16 (by simp only [List.getElem?_toArray, List.getElem?_cons_zero, List.getElem?_cons_succ] <;> rfl) (by decide +kernel) (by decide +kernel) (by kernel_rfl) (by rfl) (by exact fun _ _ _ _ h => h) (by simp) ?_ | refine wpG_skip 17 (by simp only [List.getElem?_toArray, List.getElem?_cons_zero, List.getElem?_cons_succ] <;> rfl) (by decide +kernel) (by decide +kernel) (by kernel_rfl) (by rfl) (by exact fun _ _ _ _ h => h) (by simp) ?_ | refine wpG_skip 18 (by simp only [List.getElem?_toArray, List.getElem?_cons_zero, List.getElem?_cons_succ] <;> rfl) (by decide +kernel) (by decide +kernel) (by kernel_rfl) (by rfl) (by exact fun _ _ _ _ h => h) (by simp) ?_); simp only [Act.put, Act.eval, List.setIfInBounds_toArray, List.set_cons_zero, List.set_cons_succ, Array.getD_eq_getD_getElem?, List.getElem?_toArray, List.getElem?_cons_zero, List.getElem?_cons_succ, Option.getD_some])))
                      cases o4 : (e.o != 0)
                      · have o5 : outs e.o (-1000) 1000 = false := by rw [show e.o = 0 from by simpa using o4]; rfl
                        have HGN := Lib.hid (HG.out.succ HE.out (by rw [HI.out]; unfold badO; rw [o2, o3, o4, o5]; rfl))
                        (repeat (first | ((first | refine wpG_go 19 (by simp only [List.getElem?_toArray, List.getElem?_cons_zero, List.getElem?_cons_succ] <;> rfl) (by decide +kernel) (by decide +kernel) (by kernel_rfl) (by rfl) (by exact fun _ _ _ _ h => h) (by simp) ?_ | refine wpG_go 20 (by simp only [List.getElem?_toArray, List.getElem?_cons_zero, List.getElem?_cons_succ] <;> rfl) (by decide +kernel) (by decide +kernel) (by kernel_rfl) (by rfl) (by exact fun _ _ _ _ h => h) (by simp) ?_ | refine wpG_go 21 (by simp only [List.getElem?_toArray, List.getElem?_cons_zero, List.getElem?_cons_succ] <;> rfl) (by decide +kernel) (by decide +kernel) (by kernel_rfl) (by rfl) (by exact fun _ _ _ _ h => h) (by simp) ?_ | refine wpG_go 22 (by simp only [List.getElem?_toArray, List.getElem?_cons_zero, List.getElem?_cons_succ] <;> rfl) (by decide +kernel) (by decide +kernel) (by kernel_rfl) (by rfl) (by exact fun _ _ _ _ h => h) (by simp) ?_ | refine wpG_go 23 (by simp only [List.getElem?_toArray, List.getElem?_cons_zero, List.getElem?_cons_succ] <;> rfl) (by decide +kernel) (by decide +kernel) (by kernel_rfl) (by rfl) (by exact fun _ _ _ _ h => h) (by simp) ?_); apply Exists.intro; refine ⟨fun w1 h1 => ?_, ?_⟩; (first | exact g_move _ rfl | exact g_assign _ rfl | (have fct0 := F' w1 h1; go_simp; first | exact ⟨rfl, rfl⟩ | rfl)); simp only [Act.put, Act.eval, List.setIfInBounds_toArray, List.set_cons_zero, List.set_cons_succ, Array.getD_eq_getD_getElem?, List.getElem?_toArray, List.getElem?_cons_zero, List.getElem?_cons_succ, Option.getD_some]) | ((first | refine wpG_skip 19 (by simp only [List.getElem?_toArray, List.getElem?_cons_zero, List.getElem?_cons_succ] <;> rfl) (by decide +kernel) (by decide +kernel) (by kernel_rfl) (by rfl) (by exact fun _ _ _ _ h => h) (by simp) ?_ | refine wpG_skip 20 (by simp only [List.getElem?_toArray, List.getElem?_cons_zero, List.getElem?_cons_succ] <;> rfl) (by decide +kernel) (by decide +kernel) (by kernel_rfl) (by rfl) (by exact fun _ _ _ _ h => h) (by simp) ?_ | refine wpG_skip 21 (by simp only [List.getElem?_toArray, List.getElem?_cons_zero, List.getElem?_cons_succ] <;> rfl) (by decide +kernel) (by decide +kernel) (by kernel_rfl) (by rfl) (by exact fun _ _ _ _ h => h) (by simp) ?_ | refine wpG_skip 22 (by simp only [List.getElem?_toArray, List.getElem?_cons_zero, List.getElem?_cons_succ] <;> rfl) (by decide +kernel) (by decide +kernel) (by kernel_rfl) (by rfl) (by exact fun _ _ _ _ h => h) (by simp) ?_ | refine wpG_skip 23 (by simp only [List.getElem?_toArray, List.getElem?_cons_zero, List.getElem?_cons_succ] <;> rfl) (by decide +kernel) (by decide +kernel) (by kernel_rfl) (by rfl) (by exact fun _ _ _ _ h => h) (by simp) ?_); simp only [Act.put, Act.eval, List.setIfInBounds_toArray, List.set_cons_zero, List.set_cons_succ, Array.getD_eq_getD_getElem?, List.getElem?_toArray, List.getElem?_cons_zero, List.getElem?_cons_succ, Option.getD_some])))
                        (repeat (first | ((first | refine wpG_go 24 (by simp only [List.getElem?_toArray, List.getElem?_cons_zero, List.getElem?_cons_succ] <;> rfl) (by decide +kernel) (by decide +kernel) (by kernel_rfl) (by rfl) (by exact fun _ _ _ _ h => h) (by simp) ?_ | refine wpG_go 25 (by simp only [List.getElem?_toArray, List.getElem?_cons_zero, List.getElem?_cons_succ] <;> rfl) (by decide +kernel) (by decide +kernel) (by kernel_rfl) (by rfl) (by exact fun _ _ _ _ h => h) (by simp) ?_ | refine wpG_go 26 (by simp only [List.getElem?_toArray, List.getElem?_cons_zero, List.getElem?_cons_succ] <;> rfl) (by decide +kernel) (by decide +kernel) (by kernel_rfl) (by rfl) (by exact fun _ _ _ _ h => h) (by simp) ?_ | refine wpG_go 27 (by simp only [List.getElem?_toArray, List.getElem?_cons_zero, List.getElem?_cons_succ] <;> rfl) (by decide +kernel) (by decide +kernel) (by kernel_rfl) (by rfl) (by exact fun _ _ _ _ h => h) (by simp) ?_ | refine wpG_go 28 (by simp only [List.getElem?_toArray, List.getElem?_cons_zero, List.getElem?_cons_succ] <;> rfl) (by decide +kernel) (by decide +kernel) (by kernel_rfl) (by rfl) (by exact fun _ _ _ _ h => h) (by simp) ?_); apply Exists.intro; refine ⟨fun w1 h1 => ?_, ?_⟩; (first | exact g_move _ rfl | exact g_assign _ rfl | (have fct0 := F' w1 h1; go_simp; first | exact ⟨rfl, rfl⟩ | rfl | (go_at_call 66; (with_reducible refine (outv_any _ _ _ _ o5 _).mono ?_); rintro e w' ⟨rfl, hb⟩; first | exact ⟨rfl, hb⟩ | exact ⟨rfl, hb ▸ Bel.refl _⟩))); simp only [Act.put, Act.eval, List.setIfInBounds_toArray, List.set_cons_zero, List.set_cons_succ, Array.getD_eq_getD_getElem?, List.getElem?_toArray, List.getElem?_cons_zero, List.getElem?_cons_succ, Option.getD_some]) | ((first | refine wpG_skip 24 (by simp only [List.getElem?_toArray, List.getElem?_cons_zero, List.getElem?_cons_succ] <;> rfl) (by decide +kernel) (by decide +kernel) (by kernel_rfl) (by rfl) (by exact fun _ _ _ _ h => h) (by simp) ?_ | refine wpG_skip 25 (by simp only [List.getElem?_toArray, List.getElem?_cons_zero, List.getElem?_cons_succ] <;> rfl) (by decide +kernel) (by decide +kernel) (by kernel_rfl) (by rfl) (by exact fun _ _ _ _ h => h) (by simp) ?_ | refine wpG_skip 26 (by simp only [List.getElem?_toArray, List.getElem?_cons_zero, List.getElem?_cons_succ] <;> rfl) (by decide +kernel) (by decide +kernel) (by kernel_rfl) (by rfl) (by exact fun _ _ _ _ h => h) (by simp) ?_ | refine wpG_skip 27 (by simp only [List.getElem?_toArray, List.getElem?_cons_zero, List.getElem?_cons_succ] <;> rfl) (by decide +kernel) (by decide +kernel) (by kernel_rfl) (by rfl) (by exact fun _ _ _ _ h => h) (by simp) ?_ | refine wpG_skip 28 (by simp only [List.getElem?_toArray, List.getElem?_cons_zero, List.getElem?_cons_succ] <;> rfl) (by decide +kernel) (by decide +kernel) (by kernel_rfl) (by rfl) (by exact fun _ _ _ _ h => h) (by simp) ?_); simp only [Act.put, Act.eval, List.setIfInBounds_toArray, List.set_cons_zero, List.set_cons_succ, Array.getD_eq_getD_getElem?, List.getElem?_toArray, List.getElem?_cons_zero, List.getElem?_cons_succ, Option.getD_some])))
                        (refine wpG_done (by decide +kernel) ?_ _; intro w2 hw2; try simp only [Act.put, Act.eval, List.setIfInBounds_toArray, List.set_cons_zero, List.set_cons_succ, Array.getD_eq_getD_getElem?, List.getElem?_toArray, List.getElem?_cons_zero, List.getElem?_cons_succ, Option.getD_some])
                        clear o1
                        have HX := Lib.hid (HBI2.out.trans (Bel.trans (Bel.alloc HW2.out _) hw2))
                        go_wp2
                        go_roundw
                        case rel => exact ⟨j + 1, by omega, by go_num, HGN.out, HX.out⟩
                        case measure => simp [intOf]; omega
                      · have HC := Lib.hid (pck_bad HLG.out (by rw [HLN.out]; exact hlt) HME.out (by rw [HI.out]; unfold badO; rw [o2, o3, o4]; rfl))
                        (repeat (first | ((first | refine wpG_go 19 (by simp only [List.getElem?_toArray, List.getElem?_cons_zero, List.getElem?_cons_succ] <;> rfl) (by decide +kernel) (by decide +kernel) (by kernel_rfl) (by rfl) (by exact fun _ _ _ _ h => h) (by simp) ?_ | refine wpG_go 20 (by simp only [List.getElem?_toArray, List.getElem?_cons_zero, List.getElem?_cons_succ] <;> rfl) (by decide +kernel) (by decide +kernel) (by kernel_rfl) (by rfl) (by exact fun _ _ _ _ h => h) (by simp) ?_ | refine wpG_go 21 (by simp only [List.getElem?_toArray, List.getElem?_cons_zero, List.getElem?_cons_succ] <;> rfl) (by decide +kernel) (by decide +kernel) (by kernel_rfl) (by rfl) (by exact fun _ _ _ _ h => h) (by simp) ?_ | refine wpG_go 22 (by simp only [List.getElem?_toArray, List.getElem?_cons_zero, List.getElem?_cons_succ] <;> rfl) (by decide +kernel) (by decide +kernel) (by kernel_rfl) (by rfl) (by exact fun _ _ _ _ h => h) (by simp) ?_ | refine wpG_go 23 (by simp only [List.getElem?_toArray, List.getElem?_cons_zero, List.getElem?_cons_succ] <;> rfl) (by decide +kernel) (by decide +kernel) (by kernel_rfl) (by rfl) (by exact fun _ _ _ _ h => h) (by simp) ?_); apply Exists.intro; refine ⟨fun w1 h1 => ?_, ?_⟩; (first | exact g_move _ rfl | exact g_assign _ rfl | (have fct0 := F' w1 h1; go_simp; first | exact ⟨rfl, rfl⟩ | rfl)); simp only [Act.put, Act.eval, List.setIfInBounds_toArray, List.set_cons_zero, List.set_cons_succ, Array.getD_eq_getD_getElem?, List.getElem?_toArray, List.getElem?_cons_zero, List.getElem?_cons_succ, Option.getD_some]) | ((first | refine wpG_skip 19 (by simp only [List.getElem?_toArray, List.getElem?_cons_zero, List.getElem?_cons_succ] <;> rfl) (by decide +kernel) (by decide +kernel) (by kernel_rfl) (by rfl) (by exact fun _ _ _ _ h => h) (by simp) ?_ | refine wpG_skip 20 (by simp only [List.getElem?_toArray, List.getElem?_cons_zero, List.getElem?_cons_succ] <;> rfl) (by decide +kernel) (by decide +kernel) (by kernel_rfl) (by rfl) (by exact fun _ _ _ _ h => h) (by simp) ?_ | refine wpG_skip 21 (by simp only [List.getElem?_toArray, List.getElem?_cons_zero, List.getElem?_cons_succ] <;> rfl) (by decide +kernel) (by decide +kernel) (by kernel_rfl) (by rfl) (by exact fun _ _ _ _ h => h) (by simp) ?_ | refine wpG_skip 22 (by simp only [List.getElem?_toArray, List.getElem?_cons_zero, List.getElem?_cons_succ] <;> rfl) (by decide +kernel) (by decide +kernel) (by kernel_rfl) (by rfl) (by exact fun _ _ _ _ h => h) (by simp) ?_ | refine wpG_skip 23 (by simp only [List.getElem?_toArray, List.getElem?_cons_zero, List.getElem?_cons_succ] <;> rfl) (by decide +kernel) (by decide +kernel) (by kernel_rfl) (by rfl) (by exact fun _ _ _ _ h => h) (by simp) ?_); simp only [Act.put, Act.eval, List.setIfInBounds_toArray, List.set_cons_zero, List.set_cons_succ, Array.getD_eq_getD_getElem?, List.getElem?_toArray, List.getElem?_cons_zero, List.getElem?_cons_succ, Option.getD_some])))
                        (repeat (first | ((first | refine wpG_go 24 (by simp only [List.getElem?_toArray, List.getElem?_cons_zero, List.getElem?_cons_succ] <;> rfl) (by decide +kernel) (by decide +kernel) (by kernel_rfl) (by rfl) (by exact fun _ _ _ _ h => h) (by simp) ?_ | refine wpG_go 25 (by simp only [List.getElem?_toArray, List.getElem?_cons_zero, List.getElem?_cons_succ] <;> rfl) (by decide +kernel) (by decide +kernel) (by kernel_rfl) (by rfl) (by exact fun _ _ _ _ h => h) (by simp) ?_ | refine wpG_go 26 (by simp only [List.getElem?_toArray, List.getElem?_cons_zero, List.getElem?_cons_succ] <;> rfl) (by decide +kernel) (by decide +kernel) (by kernel_rfl) (by rfl) (by exact fun _ _ _ _ h => h) (by simp) ?_ | refine wpG_go 27 (by simp only [List.getElem?_toArray, List.getElem?_cons_zero, List.getElem?_cons_succ] <;> rfl) (by decide +kernel) (by decide +kernel) (by kernel_rfl) (by rfl) (by exact fun _ _ _ _ h => h) (by simp) ?_ | refine wpG_go 28 (by simp only [List.getElem?_toArray, List.getElem?_cons_zero, List.getElem?_cons_succ] <;> rfl) (by decide +kernel) (by decide +kernel) (by kernel_rfl) (by rfl) (by exact fun _ _ _ _ h => h) (by simp) ?_); apply Exists.intro; refine ⟨fun w1 h1 => ?_, ?_⟩; (first | exact g_move _ rfl | exact g_assign _ rfl | (have fct0 := F' w1 h1; go_simp; first | exact ⟨rfl, rfl⟩ | rfl)); simp only [Act.put, Act.eval, List.setIfInBounds_toArray, List.set_cons_zero, List.set_cons_succ, Array.getD_eq_getD_getElem?, List.getElem?_toArray, List.getElem?_cons_zero, List.getElem?_cons_succ, Option.getD_some]) | ((first | refine wpG_skip 24 (by simp only [List.getElem?_toArray, List.getElem?_cons_zero, List.getElem?_cons_succ] <;> rfl) (by decide +kernel) (by decide +kernel) (by kernel_rfl) (by rfl) (by exact fun _ _ _ _ h => h) (by simp) ?_ | refine wpG_skip 25 (by simp only [List.getElem?_toArray, List.getElem?_cons_zero, List.getElem?_cons_succ] <;> rfl) (by decide +kernel) (by decide +kernel) (by kernel_rfl) (by rfl) (by exact fun _ _ _ _ h => h) (by simp) ?_ | refine wpG_skip 26 (by simp only [List.getElem?_toArray, List.getElem?_cons_zero, List.getElem?_cons_succ] <;> rfl) (by decide +kernel) (by decide +kernel) (by kernel_rfl) (by rfl) (by exact fun _ _ _ _ h => h) (by simp) ?_ | refine wpG_skip 27 (by simp only [List.getElem?_toArray, List.getElem?_cons_zero, List.getElem?_cons_succ] <;> rfl) (by decide +kernel) (by decide +kernel) (by kernel_rfl) (by rfl) (by exact fun _ _ _ _ h => h) (by simp) ?_ | refine wpG_skip 28 (by simp only [List.getElem?_toArray, List.getElem?_cons_zero, List.getElem?_cons_succ] <;> rfl) (by decide +kernel) (by decide +kernel) (by kernel_rfl) (by rfl) (by exact fun _ _ _ _ h => h) (by simp) ?_); simp only [Act.put, Act.eval, List.setIfInBounds_toArray, List.set_cons_zero, List.set_cons_succ, Array.getD_eq_getD_getElem?, List.getElem?_toArray, List.getElem?_cons_zero, List.getElem?_cons_succ, Option.getD_some])))
                        (refine wpG_done (by decide +kernel) ?_ _; intro w2 hw2; try simp only [Act.put, Act.eval, List.setIfInBounds_toArray, List.set_cons_zero, List.set_cons_succ, Array.getD_eq_getD_getElem?, List.getElem?_toArray, List.getElem?_cons_zero, List.getElem?_cons_succ, Option.getD_some])
                        clear o1
                        go_wp2
                        go_ret
                        exact ⟨by rw [HC.out]; rfl, ((HW.out.alloc _).trans hw2).out⟩
                  · have HC := Lib.hid (pck_bad HLG.out (by rw [HLN.out]; exact hlt) HME.out (by rw [HI.out]; unfold badO; rw [o2]; rfl))
                    (repeat (first | ((first | refine wpG_go 12 (by simp only [List.getElem?_toArray, List.getElem?_cons_zero, List.getElem?_cons_succ] <;> rfl) (by decide +kernel) (by decide +kernel) (by kernel_rfl) (by rfl) (by exact fun _ _ _ _ h => h) (by simp) ?_ | refine wpG_go 13 (by simp only [List.getElem?_toArray, List.getElem?_cons_zero, List.getElem?_cons_succ] <;> rfl) (by decide +kernel) (by decide +kernel) (by kernel_rfl) (by rfl) (by exact fun _ _ _ _ h => h) (by simp) ?_ | refine wpG_go 14 (by simp only [List.getElem?_toArray, List.getElem?_cons_zero, List.getElem?_cons_succ] <;> rfl) (by decide +kernel) (by decide +kernel) (by kernel_rfl) (by rfl) (by exact fun _ _ _ _ h => h) (by simp) ?_); apply Exists.intro; refine ⟨fun w1 h1 => ?_, ?_⟩; (first | exact g_move _ rfl | exact g_assign _ rfl | (have fct0 := F' w1 h1; go_simp; first | exact ⟨rfl, rfl⟩ | rfl | (go_at_call 66; (with_reducible refine (outv_any _ _ _ _ o2 _).mono ?_); rintro e w' ⟨rfl, hb⟩; first | exact ⟨rfl, hb⟩ | exact ⟨rfl, hb ▸ Bel.refl _⟩))); simp only [Act.put, Act.eval, List.setIfInBounds_toArray, List.set_cons_zero, List.set_cons_succ, Array.getD_eq_getD_getElem?, List.getElem?_toArray, List.getElem?_cons_zero, List.getElem?_cons_succ, Option.getD_some]) | ((first | refine wpG_skip 12 (by simp only [List.getElem?_toArray, List.getElem?_cons_zero, List.getElem?_cons_succ] <;> rfl) (by decide +kernel) (by decide +kernel) (by kernel_rfl) (by rfl) (by exact fun _ _ _ _ h => h) (by simp) ?_ | refine wpG_skip 13 (by simp only [List.getElem?_toArray, List.getElem?_cons_zero, List.getElem?_cons_succ] <;> rfl) (by decide +kernel) (by decide +kernel) (by kernel_rfl) (by rfl) (by exact fun _ _ _ _ h => h) (by simp) ?_ | refine wpG_skip 14 (by simp only [List.getElem?_toArray, List.getElem?_cons_zero, List.getElem?_cons_succ] <;> rfl) (by decide +kernel) (by decide +kernel) (by kernel_rfl) (by rfl) (by exact fun _ _ _ _ h => h) (by simp) ?_); simp only [Act.put, Act.eval, List.setIfInBounds_toArray, List.set_cons_zero, List.set_cons_succ, Array.getD_eq_getD_getElem?, List.getElem?_toArray, List.getElem?_cons_zero, List.getElem?_cons_succ, Option.getD_some])))
                    (repeat (first | ((first | refine wpG_go 15 (by simp only [List.getElem?_toArray, List.getElem?_cons_zero, List.getElem?_cons_succ] <;> rfl) (by decide +kernel) (by decide +kernel) (by kernel_rfl) (by rfl) (by exact fun _ _ _ _ h => h) (by simp) ?_ | refine wpG_go 16 (by simp only [List.getElem?_toArray, List.getElem?_cons_zero, List.getElem?_cons_succ] <;> rfl) (by decide +kernel) (by decide +kernel) (by kernel_rfl) (by rfl) (by exact fun _ _ _ _ h => h) (by simp) ?_ | refine wpG_go 17 (by simp only [List.getElem?_toArray, List.getElem?_cons_zero, List.getElem?_cons_succ] <;> rfl) (by decide +kernel) (by decide +kernel) (by kernel_rfl) (by rfl) (by exact fun _ _ _ _ h => h) (by simp) ?_ | refine wpG_go 18 (by simp only [List.getElem?_toArray, List.getElem?_cons_zero, List.getElem?_cons_succ] <;> rfl) (by decide +kernel) (by decide +kernel) (by kernel_rfl) (by rfl) (by exact fun _ _ _ _ h => h) (by simp) ?_); apply Exists.intro; refine ⟨fun w1 h1 => ?_, ?_⟩; (first | exact g_move _ rfl | exact g_assign _ rfl | (have fct0 := F' w1 h1; go_simp; first | exact ⟨rfl, rfl⟩ | rfl)); simp only [Act.put, Act.eval, List.setIfInBounds_toArray, List.set_cons_zero, List.set_cons_succ, Array.getD_eq_getD_getElem?, List.getElem?_toArray, List.getElem?_cons_zero, List.getElem?_cons_succ, Option.getD_some]) | ((first | refine wpG_skip 15 (by simp only [List.getElem?_toArray, List.getElem?_cons_zero, List.getElem?_cons_succ] <;> rfl) (by decide +kernel) (by decide +kernel) (by kernel_rfl) (by rfl) (by exact fun _ _ _ _ h => h) (by simp) ?_ | refine wpG_skip 16 (by simp only [List.getElem?_toArray, List.getElem?_cons_zero, List.getElem?_cons_succ] <;> rfl) (by decide +kernel) (by decide +kernel) (by kernel_rfl) (by rfl) (by exact fun _ _ _ _ h => h) (by simp) ?_ | refine wpG_skip 17 (by simp only [List.getElem?_toArray, List.getElem?_cons_zero, List.getElem?_cons_succ] <;> rfl) (by decide +kernel) (by decide +kernel) (by kernel_rfl) (by rfl) (by exact fun _ _ _ _ h => h) (by simp) ?_ | refine wpG_skip 18 (by simp only [List.getElem?_toArray, List.getElem?_cons_zero, List.getElem?_cons_succ] <;> rfl) (by decide +kernel) (by decide +kernel) (by kernel_rfl) (by rfl) (by exact fun _ _ _ _ h => h) (by simp) ?_); simp only [Act.put, Act.eval, List.setIfInBounds_toArray, List.set_cons_zero, List.set_cons_succ, Array.getD_eq_getD_getElem?, List.getElem?_toArray, List.getElem?_cons_zero, List.getElem?_cons_succ, Option.getD_some])))
                    (repeat (first | ((first | refine wpG_go 19 (by simp only [List.getElem?_toArray, List.getElem?_cons_zero, List.getElem?_cons_succ] <;> rfl) (by decide +kernel) (by decide +kernel) (by kernel_rfl) (by rfl) (by exact fun _ _ _ _ h => h) (by simp) ?_ | refine wpG_go 20 (by simp only [List.getElem?_toArray, List.getElem?_cons_zero, List.getElem?_cons_succ] <;> rfl) (by decide +kernel) (by decide +kernel) (by kernel_rfl) (by rfl) (by exact fun _ _ _ _ h => h) (by simp) ?_ | refine wpG_go 21 (by simp only [List.getElem?_toArray, List.getElem?_cons_zero, List.getElem?_cons_succ] <;> rfl) (by decide +kernel) (by decide +kernel) (by kernel_rfl) (by rfl) (by exact fun _ _ _ _ h => h) (by simp) ?_ | refine wpG_go 22 (by simp only [List.getElem?_toArray, List.getElem?_cons_zero, List.getElem?_cons_succ] <;> rfl) (by decide +kernel) (by decide +kernel) (by kernel_rfl) (by rfl) (by exact fun _ _ _ _ h => h) (by simp) ?_ | refine wpG_go 23 (by simp only [List.getElem?_toArray, List.getElem?_cons_zero, List.getElem?_cons_succ] <;> rfl) (by decide +kernel) (by decide +kernel) (by kernel_rfl) (by rfl) (by exact fun _ _ _ _ h => h) (by simp) ?_); apply Exists.intro; refine ⟨fun w1 h1 => ?_, ?_⟩; (first | exact g_move _ rfl | exact g_assign _ rfl | (have fct0 := F' w1 h1; go_simp; first | exact ⟨rfl, rfl⟩ | rfl)); simp only [Act.put, Act.eval, List.setIfInBounds_toArray, List.set_cons_zero, List.set_cons_succ, Array.getD_eq_getD_getElem?, List.getElem?_toArray, List.getElem?_cons_zero, List.getElem?_cons_succ, Option.getD_some]) | ((first | refine wpG_skip 19 (by simp only [List.getElem?_toArray, List.getElem?_cons_zero, List.getElem?_cons_succ] <;> rfl) (by decide +kernel) (by decide +kernel) (by kernel_rfl) (by rfl) (by exact fun _ _ _ _ h => h) (by simp) ?_ | refine wpG_skip 20 (by simp only [List.getElem?_toArray, List.getElem?_cons_zero, List.getElem?_cons_succ] <;> rfl) (by decide +kernel) (by decide +kernel) (by kernel_rfl) (by rfl) (by exact fun _ _ _ _ h => h) (by simp) ?_ | refine wpG_skip 21 (by simp only [List.getElem?_toArray, List.getElem?_cons_zero, List.getElem?_cons_succ] <;> rfl) (by decide +kernel) (by decide +kernel) (by kernel_rfl) (by rfl) (by exact fun _ _ _ _ h => h) (by simp) ?_ | refine wpG_skip 22 (by simp only [List.getElem?_toArray, List.getElem?_cons_zero, List.getElem?_cons_succ] <;> rfl) (by decide +kernel) (by decide +kernel) (by kernel_rfl) (by rfl) (by exact fun _ _ _ _ h => h) (by simp) ?_ | refine wpG_skip 23 (by simp only [List.getElem?_toArray, List.getElem?_cons_zero, List.getElem?_cons_succ] <;> rfl) (by decide +kernel) (by decide +kernel) (by kernel_rfl) (by rfl) (by exact fun _ _ _ _ h => h) (by simp) ?_); simp only [Act.put, Act.eval, List.setIfInBounds_toArray, List.set_cons_zero, List.set_cons_succ, Array.getD_eq_getD_getElem?, List.getElem?_toArray, List.getElem?_cons_zero, List.getElem?_cons_succ, Option.getD_some])))
                    (repeat (first | ((first | refine wpG_go 24 (by simp only [List.getElem?_toArray, List.getElem?_cons_zero, List.getElem?_cons_succ] <;> rfl) (by decide +kernel) (by decide +kernel) (by kernel_rfl) (by rfl) (by exact fun _ _ _ _ h => h) (by simp) ?_ | refine wpG_go 25 (by simp only [List.getElem?_toArray, List.getElem?_cons_zero, List.getElem?_cons_succ] <;> rfl) (by decide +kernel) (by decide +kernel) (by kernel_rfl) (by rfl) (by exact fun _ _ _ _ h => h) (by simp) ?_ | refine wpG_go 26 (by simp only [List.getElem?_toArray, List.getElem?_cons_zero, List.getElem?_cons_succ] <;> rfl) (by decide +kernel) (by decide +kernel) (by kernel_rfl) (by rfl) (by exact fun _ _ _ _ h => h) (by simp) ?_ | refine wpG_go 27 (by simp only [List.getElem?_toArray, List.getElem?_cons_zero, List.getElem?_cons_succ] <;> rfl) (by decide +kernel) (by decide +kernel) (by kernel_rfl) (by rfl) (by exact fun _ _ _ _ h => h) (by simp) ?_ | refine wpG_go 28 (by simp only [List.getElem?_toArray, List.getElem?_cons_zero, List.getElem?_cons_succ] <;> rfl) (by decide +kernel) (by decide +kernel) (by kernel_rfl) (by rfl) (by exact fun _ _ _ _ h => h) (by simp) ?_); apply Exists.intro; refine ⟨fun w1 h1 => ?_, ?_⟩; (first | exact g_move _ rfl | exact g_assign _ rfl | (have fct0 := F' w1 h1; go_simp; first | exact ⟨rfl, rfl⟩ | rfl)); simp only [Act.put, Act.eval, List.setIfInBounds_toArray, List.set_cons_zero, List.set_cons_succ, Array.getD_eq_getD_getElem?, List.getElem?_toArray, List.getElem?_cons_zero, List.getElem?_cons_succ, Option.getD_some]) | ((first | refine wpG_skip 24 (by simp only [List.getElem?_toArray, List.getElem?_cons_zero, List.getElem?_cons_succ] <;> rfl) (by decide +kernel) (by decide +kernel) (by kernel_rfl) (by rfl) (by exact fun _ _ _ _ h => h) (by simp) ?_ | refine wpG_skip 25 (by simp only [List.getElem?_toArray, List.getElem?_cons_zero, List.getElem?_cons_succ] <;> rfl) (by decide +kernel) (by decide +kernel) (by kernel_rfl) (by rfl) (by exact fun _ _ _ _ h => h) (by simp) ?_ | refine wpG_skip 26 (by simp only [List.getElem?_toArray, List.getElem?_cons_zero, List.getElem?_cons_succ] <;> rfl) (by decide +kernel) (by decide +kernel) (by kernel_rfl) (by rfl) (by exact fun _ _ _ _ h => h) (by simp) ?_ | refine wpG_skip 27 (by simp only [List.getElem?_toArray, List.getElem?_cons_zero, List.getElem?_cons_succ] <;> rfl) (by decide +kernel) (by decide +kernel) (by kernel_rfl) (by rfl) (by exact fun _ _ _ _ h => h) (by simp) ?_ | refine wpG_skip 28 (by simp only [List.getElem?_toArray, List.getElem?_cons_zero, List.getElem?_cons_succ] <;> rfl) (by decide +kernel) (by decide +kernel) (by kernel_rfl) (by rfl) (by exact fun _ _ _ _ h => h) (by simp) ?_); simp only [Act.put, Act.eval, List.setIfInBounds_toArray, List.set_cons_zero, List.set_cons_succ, Array.getD_eq_getD_getElem?, List.getElem?_toArray, List.getElem?_cons_zero, List.getElem?_cons_succ, Option.getD_some])))
                    (refine wpG_done (by decide +kernel) ?_ _; intro w2 hw2; try simp only [Act.put, Act.eval, List.setIfInBounds_toArray, List.set_cons_zero, List.set_cons_succ, Array.getD_eq_getD_getElem?, List.getElem?_toArray, List.getElem?_cons_zero, List.getElem?_cons_succ, Option.getD_some])
                    clear o1
                    go_wp2
                    go_ret
                    exact ⟨by rw [HC.out]; rfl, ((HW.out.alloc _).trans hw2).out⟩
                · have HC := Lib.hid (pck_bad HLG.out (by rw [HLN.out]; exact hlt) HME.out (isOp_out o1))
                  go_wp2_with (first | (refine load_ev TOp _ rfl rfl rfl hR.out ?_) | (refine ewld_store TOp _ _ rfl rfl _ rfl rfl rfl ?_))
                  (refine region_bel (by kernel_rfl) (by kernel_rfl) ?_; (repeat (first | ((with_reducible refine BigFrame.wpQuiet_skip ?_ ?_); exact rfl; simp only [Act.put, Act.eval, List.setIfInBounds_toArray, List.set_cons_zero, List.set_cons_succ, Array.getD_eq_getD_getElem?, List.getElem?_toArray, List.getElem?_cons_zero, List.getElem?_cons_succ, Option.getD_some]) | (refine q_move _ rfl rfl ?_; simp only [Act.put, Act.eval, List.setIfInBounds_toArray, List.set_cons_zero, List.set_cons_succ, Array.getD_eq_getD_getElem?, List.getElem?_toArray, List.getElem?_cons_zero, List.getElem?_cons_succ, Option.getD_some]) | (refine q_assign _ rfl rfl ?_; simp only [Act.put, Act.eval, List.setIfInBounds_toArray, List.set_cons_zero, List.set_cons_succ, Array.getD_eq_getD_getElem?, List.getElem?_toArray, List.getElem?_cons_zero, List.getElem?_cons_succ, Option.getD_some]) | (refine q_any rfl ?_; apply Exists.intro; refine ⟨fun w hw => ?_, ?_⟩; (have fct0 := HGS.out.1 w hw; go_simp; first | exact ⟨rfl, rfl⟩ | rfl | (go_at_call 66; (with_reducible refine (outv_any _ _ _ _ o1 _).mono ?_); rintro e w' ⟨rfl, hb⟩; exact ⟨rfl, hw.call hb⟩)); simp only [Act.put, Act.eval, List.setIfInBounds_toArray, List.set_cons_zero, List.set_cons_succ, Array.getD_eq_getD_getElem?, List.getElem?_toArray, List.getElem?_cons_zero, List.getElem?_cons_succ, Option.getD_some]))); refine wpQuiet_nil ?_; intro w2 hw2)
                  clear o1
                  go_wp2
                  go_ret
                  exact ⟨by rw [HC.out]; rfl, (HB1.out.trans hw2).out⟩
              · obtain rfl : m = j := by omega
                have HN := Lib.hid (HS.out.succ (by have h := HG.out; rwa [← HSL.out.1] at h))
                have HBB := Lib.hid (HB.out.trans HBI.out)
                go_wp2
                go_roundw
                case rel => exact ⟨i + 1, by omega, by go_num, HN.out, HBB.out⟩
                case measure => simp [intOf]; omega
          · obtain rfl : n = i := by omega
            have HC := Lib.hid (pck_good HLG.out (by have h := HS.out; rwa [← HLN.out] at h))
            go_wp2
            go_ret
            exact ⟨by rw [HC.out]; rfl, HB.out.out⟩
  · have HC := Lib.hid (show chkP P = 2 from pck_large (by unfold outs at ho; have := of_decide_eq_true ho; rw [HLN.out]; omega))
    go_wp2_with (first | (go_at_call 66; (with_reducible refine (outside_any _ _ _ _).mono ?_); rintro e w' ⟨rfl, rfl⟩))
    go_ret
    exact ⟨by rw [HC.out]; rfl, Below.refl _ _⟩
end Go.Proofs.Ytjddahidkodieaa
namespace Go.Proofs.Ytjddahidkodieaa
open Go Go.RowKit

theorem LVal.row {w : World} {LV : Value} {l : List Ev} {G : Nat} (h : LVal w LV l) (ha : apartV G LV) (c : Array Value) : LVal (w.setRow G c) LV l := by
  obtain ⟨B, m, e, rfl, hs, h3, h4⟩ := h.ex
  refine ⟨B, m, e, rfl, ⟨hs.1, fun h0 => ?_⟩, h3, h4⟩
  obtain ⟨b, off, hA, hlt, hr⟩ := hs.2 h0
  have hne := ha b off m e (by rw [hA])
  exact ⟨b, off, hA, by simpa using hlt, fun j v hj => (World.cell?_of_block (a := ⟨b, off + j, none⟩) (setRow_other w G b c hne)).trans (hr j v hj)⟩
theorem sli_row {w : World} {v : Value} {l : List Int} {G : Nat} (h : SlI w v l) (ha : apartV G v) (c : Array Value) : SlI (w.setRow G c) v l := by
  rcases h with ⟨rfl, rfl⟩ | ⟨b, o, n, d, rfl, hl, hm, hc⟩
  · exact .inl ⟨rfl, rfl⟩
  · refine .inr ⟨b, o, n, d, rfl, hl, hm, fun i hi => ?_⟩
    have hne := ha b o n d rfl
    exact (World.cell?_of_block (a := ⟨b, o + i, none⟩) (setRow_other w G b c hne)).trans (hc i hi)
theorem own_row {w : World} {v : Value} {l : List Ev} {G base : Nat} (h : w.ownsRow base 54 3 v l.length (evc l)) (ha : apartV G v) (c : Array Value) : (w.setRow G c).ownsRow base 54 3 v l.length (evc l) :=
  own_keep h (fun g hg _ => setRow_other w G g c (by
    rcases h.2 with ⟨rfl, _⟩ | ⟨g', cap, cur, rfl, _⟩
    · cases hg
    · exact ha g 0 _ cap (by simp [Value.ownBlock] at hg; rw [hg])))
theorem take_one {ts : List Int} {i : Nat} (h : i < ts.length) : ts.take (i + 1) = ts.take i ++ [ts[i]?.getD 0] := by
  rw [List.take_succ_eq_append_getElem h, List.getElem?_eq_getElem h]
  rfl
theorem end0_vs : end0 = z20 := rfl
theorem z20_all : z20.all (·.oneCell') = true := by simp [z20, Value.oneCell']
/-- A Prog between two picks. -/
structure RnR (w : World) (E G : Nat) (A : Option Addr) (n c : Nat) (P : List (List Ev)) (ts : List Int) (i : Nat) (wr : World) : Prop where
  ex : ∃ LV QV Q, GBx wr G A n c (runP P (ts.take i)) LV QV false false ∧ LVal wr LV (runP P (ts.take i)).L ∧ SlI wr QV Q ∧ Q.length ≤ i ∧ apartV G LV ∧ apartV G QV ∧ apartV E LV ∧ wr.ownsRow w.heap.size 54 3 LV (runP P (ts.take i)).L.length (evc (runP P (ts.take i)).L)
  res : Box wr E z20 49
  below : Bel w wr
set_option maxHeartbeats 16000000 in
theorem prun_any (A : Option Addr) (n c : Nat) (P : List (List Ev)) (B : Option Addr) (m e : Nat) (ts : List Int) (w : World) (h : Prg w A n P) (hnc : n ≤ c) (hcm : c ≤ maxLen) (hs : SI w B m ts) (hme : m ≤ e) (hem : e ≤ maxLen) (h64 : ∀ t ∈ ts, In64 t) :
    Calls Try.prog 18 #[.slice A n c, .slice B m e] w (PRunPost w P ts) := by
  have HP := Lib.hid h
  have HS := Lib.hid hs
  have HM := Lib.hid (And.intro hnc hcm)
  have HE := Lib.hid (And.intro hme hem)
  have H64 := Lib.hid h64
  have hme' : (m : Int) ≤ e := by omega
  clear h hs hnc hcm hem h64 hme
  go_enter Try.func18, Try.ntmps18
  go_wp2_with fail
  refine (pchk_any A n c P _ (HP.out.bel ((Bel.refl w).alloc _)) HM.out.1 HM.out.2).mono ?_
  rintro e1 w1 ⟨rfl, hb1⟩
  have HW1 := Lib.hid (((Bel.refl w).alloc (.cells z20 49)).call hb1)
  have HR1 := Lib.hid ((Bel.of hb1).box (Box.new w z20 49))
  have HPW := Lib.hid (HP.out.bel HW1.out)
  have HSW := Lib.hid (HS.out.keep HW1.out)
  clear hb1
  have HNIL := Lib.hid (fun w' : World => World.ownsRow_nil w' w.heap.size 54 3)
  cases h1 : (chkP P != 0)
  · have HC := Lib.hid (show chkP P = 0 by simpa using h1)
    have hok := chk_ok.1 HC.out
    by_cases h2 : 100 < m
    · have h2' : (100 : Int) < m := by omega
      go_wp2_with (refine storeB 49 _ _ rfl rfl rfl rfl HR1.out rfl (by exact TEnd) z20_all ?_)
      refine bodyPost_ret (res_ctt Try.results18 rfl (B := w.heap.size) (c := z20) (t := 49) (HR1.out.setRow _) TEnd) rfl ?_
      exact ⟨_, _, [], 2, rfl, .inr (.inl ⟨HC.out, by rw [HS.out.1]; exact h2, rfl, rfl, rfl⟩), HNIL.out _, (HW1.out.setRow w.heap.size (Nat.le_refl _) _).out⟩
    · have h2' : ¬ (100 : Int) < m := by omega
      have hm100 : m ≤ 100 := by omega
      skip
      go_upto_region 7 with (first | (refine storeB 95 _ _ rfl rfl (c' := (vs 29 (gP A n c ps0 (.slice none 0 0) (.slice none 0 0) false false))) rfl (by exact rfl) (Box.new w1 z29 95) rfl (TGv _) (vs_all (gP_one rfl rfl)) ?_))
      change Code.wp _ _ _ _ ((w1.alloc (.cells z29 95)).setRow w1.heap.size (vs 29 (gP A n c ps0 (.slice none 0 0) (.slice none 0 0) false false)))
      have HB2 := Lib.hid (show Bel w1 ((w1.alloc (.cells z29 95)).setRow w1.heap.size (vs 29 (gP A n c ps0 (.slice none 0 0) (.slice none 0 0) false false))) from ((Bel.refl w1).alloc (.cells z29 95)).setRow w1.heap.size (Nat.le_refl _) _)
      have HG2 := Lib.hid (show GBx ((w1.alloc (.cells z29 95)).setRow w1.heap.size (vs 29 (gP A n c ps0 (.slice none 0 0) (.slice none 0 0) false false))) w1.heap.size A n c ps0 (.slice none 0 0) (.slice none 0 0) false false from ⟨(Box.new w1 z29 95).setRow _⟩)
      have HR2 := Lib.hid (HB2.out.box HR1.out)
      have HW2 := Lib.hid (HW1.out.trans HB2.out)
      have hEG : w.heap.size < w1.heap.size := HR1.out.lt
      clear HB2 HR1 HW1 HPW HSW h1 h2 h2'
      simp only [Act.put, Act.eval, List.setIfInBounds_toArray, List.set_cons_zero, List.set_cons_succ, Array.getD_eq_getD_getElem?, List.getElem?_toArray, List.getElem?_cons_zero, List.getElem?_cons_succ, Option.getD_some]
      generalize ((w1.alloc (.cells z29 95)).setRow w1.heap.size (vs 29 (gP A n c ps0 (.slice none 0 0) (.slice none 0 0) false false))) = w2 at *
      generalize w1.heap.size = G at *
      have H0 := Lib.hid (show RnR w w.heap.size G A n c P ts 0 w2 from ⟨⟨.slice none 0 0, .slice none 0 0, [], HG2.out, ⟨none, 0, 0, rfl, ⟨rfl, fun h => absurd h (Nat.lt_irrefl 0)⟩, Nat.le_refl _, Nat.zero_le _⟩, .inl ⟨rfl, rfl⟩, Nat.le_refl _, (fun b off n c h => by cases h), (fun b off n c h => by cases h), (fun b off n c h => by cases h), World.ownsRow_nil _ _ _ _⟩, HR2.out, HW2.out⟩)
      clear HG2 HR2 HW2
      go_wp2
      go_loopw [25] (fun t wr => ∃ i : Nat, i ≤ m ∧ t = .int .i64 i ∧ RnR w w.heap.size G A n c P ts i wr) (fun t _ => m - (intOf t).toNat)
      case atStart => exact ⟨0, by omega, rfl, H0.out⟩
      case round =>
        obtain ⟨i, hi, rfl, hr⟩ := hrel
        obtain ⟨LV, QV, Q, hg, hlv, hq, hql, hal, haq, hae, how⟩ := hr.ex
        have HRS := Lib.hid hr.res
        have HBL := Lib.hid hr.below
        have HGB := Lib.hid hg
        have HLV := Lib.hid hlv
        have HQV := Lib.hid hq
        have HAP := Lib.hid (And.intro hal (And.intro haq (And.intro hae how)))
        have HPw := Lib.hid (HP.out.bel HBL.out)
        have HBX := Lib.hid hg.box
        have HPR := Lib.hid (runP_ok hok (ts.take i))
        clear hr hg hlv hq hal haq hae how H0
        by_cases hlt : i < m
        · have hlt' : (i : Int) < m := by omega
          obtain ⟨b, o, rfl, hc⟩ := HS.out.2 (by omega)
          have hci := HBL.out.cell (hc i hlt)
          have htl : i < ts.length := by rw [HS.out.1]; exact hlt
          have HT64 := Lib.hid (show In64 (ts[i]?.getD 0) from H64.out _ (by rw [List.getElem?_eq_getElem htl]; exact List.getElem_mem htl))
          have HSN := Lib.hid (show runP P (ts.take (i + 1)) = pickP P (runP P (ts.take i)) (ts[i]?.getD 0) by rw [take_one htl, runP_snoc])
          have hic : (i : Int) ≤ e := by have := HE.out.1; omega
          clear hc htl
          generalize ts[i]?.getD 0 = t at *
          have HLL := Lib.hid (show (runP P (ts.take i)).L.length ≤ 900 by have := (picks_len P (ts.take i) ps0).1; rw [List.length_take] at this; have h0 : ps0.L.length = 0 := rfl; unfold runP; omega)
          have HLM := Lib.hid (run_lim hok (ts.take i))
          have HLK := Lib.hid (show (1000 : Int) * ((ts.take i).length : Int) ≤ 1000000 by rw [List.length_take]; omega)
          go_wp2_with (first | (refine loadB 95 _ rfl rfl rfl HBX.out (TGv _) ?_))
          refine (canr_any t HPw.out HM.out.1 HM.out.2 hok HPR.out HLV.out HT64.out).mono ?_
          rintro e3 w3 ⟨rfl, hb3⟩
          have HB3 := Lib.hid (Bel.of hb3)
          have HG3 := Lib.hid (HGB.out.bel (Bel.of hb3))
          have HX3 := Lib.hid HG3.out.box
          have HL3 := Lib.hid (HLV.out.bel (Bel.of hb3))
          have HQ3 := Lib.hid (SlI.bel HQV.out (Bel.of hb3))
          have HR3 := Lib.hid ((Bel.of hb3).box HRS.out)
          have HP3 := Lib.hid (HPw.out.bel (Bel.of hb3))
          clear hb3 hci
          cases hcn : (decide (0 ≤ t) && canP P (runP P (ts.take i)) t.toNat)
          · have HSM := Lib.hid (show runP P (ts.take (i + 1)) = runP P (ts.take i) by rw [HSN.out]; unfold pickP; rw [if_neg]; rintro ⟨h1, h2⟩; rw [decide_eq_true h1, h2] at hcn; cases hcn)
            go_wp2
            go_roundw
            case rel => exact ⟨i + 1, by omega, by go_num, ⟨⟨LV, QV, Q, by rw [HSM.out]; exact HG3.out, by rw [HSM.out]; exact HL3.out, HQ3.out, by omega, HAP.out.1, HAP.out.2.1, HAP.out.2.2.1, by rw [HSM.out]; exact own_bel HAP.out.2.2.2 HB3.out⟩, HR3.out, HBL.out.trans HB3.out⟩⟩
            case measure => simp [intOf]; omega
          · simp only [Bool.and_eq_true, decide_eq_true_iff] at hcn
            obtain ⟨u, rfl⟩ : ∃ u : Nat, t = u := ⟨t.toNat, by omega⟩
            rw [Int.toNat_natCast] at hcn
            obtain ⟨hun, _, oo, hoo, hco⟩ := can_op hcn.2
            have HU := Lib.hid (show u < n by rw [← HPw.out.1]; exact hun)
            have HOO := Lib.hid hoo
            have HSM := Lib.hid (show runP P (ts.take (i + 1)) = stepO P (runP P (ts.take i)) u oo by rw [HSN.out]; unfold pickP; rw [if_pos ⟨by omega, by rw [Int.toNat_natCast]; exact hcn.2⟩, Int.toNat_natCast, step_op hoo])
            have hb0 : (decide ((0 : Int) ≤ (u : Int)) && canP P (runP P (ts.take i)) u) = true := by rw [hcn.2]; simp
            clear hun hoo hco
            have hcv := hcn.2
            clear hcn
            go_wp2_with (first | (refine loadB 95 _ rfl rfl rfl HX3.out (TGv _) ?_))
            refine (stepr_any u (o := oo) HP3.out HM.out.1 HM.out.2 hok HL3.out HQ3.out HU.out HOO.out HLL.out (by omega) HLM.out HLK.out).mono ?_
            rintro e4 w4 ⟨LV4, QV4, rfl, hl4, hq4, hb4, ha4, how4⟩
            have hGw3 := HX3.out.lt
            have ha5 := ha4 G hGw3
            have ha6 := (ha4 w.heap.size HR3.out.lt).2 HAP.out.2.2.1
            have HF6 := Lib.hid ha6
            have HF4 := Lib.hid (And.intro hl4 (And.intro hq4 (And.intro (ha5.2 HAP.out.1) (And.intro ha5.1 (how4 w.heap.size (HBL.out.trans HB3.out).size (own_bel HAP.out.2.2.2 HB3.out))))))
            have HX4 := Lib.hid ((Bel.of hb4).box HX3.out)
            have HR4 := Lib.hid ((Bel.of hb4).box HR3.out)
            have HB4 := Lib.hid ((HBL.out.trans HB3.out).trans (Bel.of hb4))
            have hLO := hl4.ex
            have h1c : LV4.oneCell' = true := by obtain ⟨B9, m9, e9, rfl, _⟩ := hLO; rfl
            have h2c : QV4.oneCell' = true := by rcases hq4 with ⟨rfl, _⟩ | ⟨b9, o9, n9, c9, rfl, _⟩ <;> rfl
            clear hl4 hq4 hb4 ha4 how4 ha5 ha6 hLO hGw3 hcv hb0
            go_wp2_with (first | (refine storeB 95 _ _ rfl rfl rfl rfl HX4.out (by rw [vs_size, vs_size]) (TGv _) (vs_all (gP_one h1c h2c)) ?_))
            go_roundw
            case rel => exact ⟨i + 1, by omega, by go_num, ⟨⟨LV4, QV4, Q ++ [(u : Int)], by rw [HSM.out]; exact ⟨HX4.out.setRow _⟩, by rw [HSM.out]; exact HF4.out.1.row HF4.out.2.2.1 _, sli_row HF4.out.2.1 HF4.out.2.2.2.1 _, by simp; omega, HF4.out.2.2.1, HF4.out.2.2.2.1, HF6.out, by rw [HSM.out]; exact own_row HF4.out.2.2.2.2 HF4.out.2.2.1 _⟩, HR4.out.setRow_ne _ _ (by omega), HB4.out.setRow G (by omega) _⟩⟩
            case measure => simp [intOf]; omega
        · obtain rfl : m = i := by omega
          have htk : ts.take m = ts := by rw [← HS.out.1, List.take_length]
          rw [htk] at HGB HLV HPR HBX HAP
          have HSL := Lib.hid HLV.out.ex
          have hL1 := HGB.out.l
          have HBF := fun (w9 : World) (h9 : Below wr.heap.size wr w9) => (HGB.out.bel (Bel.of h9)).box
          have FL := fun (w9 : World) (h9 : Below wr.heap.size wr w9) => (HGB.out.bel (Bel.of h9)).l
          have HEN := Lib.hid (fun (w9 : World) (h9 : Below wr.heap.size wr w9) => endr_any (d := false) (k := false) (QV := QV) (HPw.out.bel (Bel.of h9)) HM.out.1 HM.out.2 hok HPR.out (HLV.out.bel (Bel.of h9)))
          clear htk hL1
          go_wp2_with fail
          refine region_growT 4 (by kernel_rfl) ?_
          (repeat (first | ((first | refine wpT_goN 0 (by simp only [List.getElem?_toArray, List.getElem?_cons_zero, List.getElem?_cons_succ] <;> rfl) (by decide +kernel) (by decide +kernel) (by kernel_rfl) (by rfl) (by exact fun _ _ _ _ h => h) (Nat.le_refl _) ?_ | refine wpT_goN 1 (by simp only [List.getElem?_toArray, List.getElem?_cons_zero, List.getElem?_cons_succ] <;> rfl) (by decide +kernel) (by decide +kernel) (by kernel_rfl) (by rfl) (by exact fun _ _ _ _ h => h) (Nat.le_refl _) ?_ | refine wpT_goN 2 (by simp only [List.getElem?_toArray, List.getElem?_cons_zero, List.getElem?_cons_succ] <;> rfl) (by decide +kernel) (by decide +kernel) (by kernel_rfl) (by rfl) (by exact fun _ _ _ _ h => h) (Nat.le_refl _) ?_); apply Exists.intro; refine ⟨fun w1 h1 => ?_, ?_⟩; (first | exact g_move _ rfl | exact g_assign _ rfl | exact g_load _ _ rfl (TGv _) rfl (HBF w1 h1) | (go_simp; first | exact ⟨rfl, rfl⟩ | rfl | (go_at_call 43; (with_reducible refine (HEN.out _ h1).mono ?_); rintro e w' ⟨rfl, hb⟩; first | exact ⟨rfl, hb⟩ | exact ⟨rfl, hb ▸ Bel.refl _⟩))); simp only [Act.put, Act.eval, List.setIfInBounds_toArray, List.set_cons_zero, List.set_cons_succ, Array.getD_eq_getD_getElem?, List.getElem?_toArray, List.getElem?_cons_zero, List.getElem?_cons_succ, Option.getD_some]) | ((first | refine wpT_skip 0 (by simp only [List.getElem?_toArray, List.getElem?_cons_zero, List.getElem?_cons_succ] <;> rfl) (by decide +kernel) (by decide +kernel) (by kernel_rfl) (by rfl) (by exact fun _ _ _ _ h => h) (Nat.le_refl _) ?_ | refine wpT_skip 1 (by simp only [List.getElem?_toArray, List.getElem?_cons_zero, List.getElem?_cons_succ] <;> rfl) (by decide +kernel) (by decide +kernel) (by kernel_rfl) (by rfl) (by exact fun _ _ _ _ h => h) (Nat.le_refl _) ?_ | refine wpT_skip 2 (by simp only [List.getElem?_toArray, List.getElem?_cons_zero, List.getElem?_cons_succ] <;> rfl) (by decide +kernel) (by decide +kernel) (by kernel_rfl) (by rfl) (by exact fun _ _ _ _ h => h) (Nat.le_refl _) ?_); simp only [Act.put, Act.eval, List.setIfInBounds_toArray, List.set_cons_zero, List.set_cons_succ, Array.getD_eq_getD_getElem?, List.getElem?_toArray, List.getElem?_cons_zero, List.getElem?_cons_succ, Option.getD_some]) | ((first | refine wpT_goA 0 (by simp only [List.getElem?_toArray, List.getElem?_cons_zero, List.getElem?_cons_succ] <;> rfl) (by decide +kernel) (by decide +kernel) (by kernel_rfl) (by rfl) (by exact fun _ _ _ _ h => h) ?_ | refine wpT_goA 1 (by simp only [List.getElem?_toArray, List.getElem?_cons_zero, List.getElem?_cons_succ] <;> rfl) (by decide +kernel) (by decide +kernel) (by kernel_rfl) (by rfl) (by exact fun _ _ _ _ h => h) ?_ | refine wpT_goA 2 (by simp only [List.getElem?_toArray, List.getElem?_cons_zero, List.getElem?_cons_succ] <;> rfl) (by decide +kernel) (by decide +kernel) (by kernel_rfl) (by rfl) (by exact fun _ _ _ _ h => h) ?_); apply Exists.intro; refine ⟨fun w1 => ?_, ?_⟩; (first | exact a_move _ rfl | exact a_assign _ rfl | (go_simp; first | exact ⟨rfl, rfl⟩ | rfl)); simp only [Act.put, Act.eval, List.setIfInBounds_toArray, List.set_cons_zero, List.set_cons_succ, Array.getD_eq_getD_getElem?, List.getElem?_toArray, List.getElem?_cons_zero, List.getElem?_cons_succ, Option.getD_some])))
          refine wpT_orL 3 (by decide +kernel) ?_ ?_
          · intro y1 hy1
            refine op_wanted (by simp only [List.getElem?_toArray, List.getElem?_cons_zero, List.getElem?_cons_succ] <;> rfl) rfl ?_
            have c7 := (HGB.out.bel hy1).l
            go_simp
            refine ⟨Below.refl _ _, ?_⟩
            refine wpT_now (by decide +kernel) ?_
            intro y2 hy2
            refine op_wanted (by simp only [List.getElem?_toArray, List.getElem?_cons_zero, List.getElem?_cons_succ] <;> rfl) rfl ?_
            have hE2 := hy1.trans hy2
            refine wp_storeB TEnd _ _ rfl rfl (by rfl) rfl (hE2.box HRS.out) rfl (by unfold endP; rw [← end_vs]; exact vs_all endF_one) ?_
            simp only [Act.put, Act.eval, List.setIfInBounds_toArray, List.set_cons_zero, List.set_cons_succ, Array.getD_eq_getD_getElem?, List.getElem?_toArray, List.getElem?_cons_zero, List.getElem?_cons_succ, Option.getD_some]
            (repeat (first | ((first | refine wpT_goN 5 (by simp only [List.getElem?_toArray, List.getElem?_cons_zero, List.getElem?_cons_succ] <;> rfl) (by decide +kernel) (by decide +kernel) (by kernel_rfl) (by rfl) (by exact fun _ _ _ _ h => h) (Nat.le_trans hE2.size (by simp)) ?_ | refine wpT_goN 6 (by simp only [List.getElem?_toArray, List.getElem?_cons_zero, List.getElem?_cons_succ] <;> rfl) (by decide +kernel) (by decide +kernel) (by kernel_rfl) (by rfl) (by exact fun _ _ _ _ h => h) (Nat.le_trans hE2.size (by simp)) ?_); apply Exists.intro; refine ⟨fun w1 h1 => ?_, ?_⟩; (first | exact g_move _ rfl | exact g_assign _ rfl | (go_simp; first | exact ⟨rfl, rfl⟩ | rfl)); simp only [Act.put, Act.eval, List.setIfInBounds_toArray, List.set_cons_zero, List.set_cons_succ, Array.getD_eq_getD_getElem?, List.getElem?_toArray, List.getElem?_cons_zero, List.getElem?_cons_succ, Option.getD_some]) | ((first | refine wpT_skip 5 (by simp only [List.getElem?_toArray, List.getElem?_cons_zero, List.getElem?_cons_succ] <;> rfl) (by decide +kernel) (by decide +kernel) (by kernel_rfl) (by rfl) (by exact fun _ _ _ _ h => h) (Nat.le_trans hE2.size (by simp)) ?_ | refine wpT_skip 6 (by simp only [List.getElem?_toArray, List.getElem?_cons_zero, List.getElem?_cons_succ] <;> rfl) (by decide +kernel) (by decide +kernel) (by kernel_rfl) (by rfl) (by exact fun _ _ _ _ h => h) (Nat.le_trans hE2.size (by simp)) ?_); simp only [Act.put, Act.eval, List.setIfInBounds_toArray, List.set_cons_zero, List.set_cons_succ, Array.getD_eq_getD_getElem?, List.getElem?_toArray, List.getElem?_cons_zero, List.getElem?_cons_succ, Option.getD_some]) | ((first | refine wpT_goA 5 (by simp only [List.getElem?_toArray, List.getElem?_cons_zero, List.getElem?_cons_succ] <;> rfl) (by decide +kernel) (by decide +kernel) (by kernel_rfl) (by rfl) (by exact fun _ _ _ _ h => h) ?_ | refine wpT_goA 6 (by simp only [List.getElem?_toArray, List.getElem?_cons_zero, List.getElem?_cons_succ] <;> rfl) (by decide +kernel) (by decide +kernel) (by kernel_rfl) (by rfl) (by exact fun _ _ _ _ h => h) ?_); apply Exists.intro; refine ⟨fun w1 => ?_, ?_⟩; (first | exact a_move _ rfl | exact a_assign _ rfl | (go_simp; first | exact ⟨rfl, rfl⟩ | rfl)); simp only [Act.put, Act.eval, List.setIfInBounds_toArray, List.set_cons_zero, List.set_cons_succ, Array.getD_eq_getD_getElem?, List.getElem?_toArray, List.getElem?_cons_zero, List.getElem?_cons_succ, Option.getD_some])))
            refine wpT_done (by decide +kernel) ?_ _
            intro y3 hy3
            have hRy := hy3.box ((hE2.box HRS.out).setRow (endP P (runP P ts)))
            have hOy := own_bel ((own_row (own_bel HAP.out.2.2.2 hE2) HAP.out.2.2.1 (endP P (runP P ts)))) hy3
            have hBy := ((HBL.out.trans hE2).setRow w.heap.size (Nat.le_refl _) (endP P (runP P ts))).trans hy3
            go_wp2_with fail
            refine bodyPost_ret (res_ctt Try.results18 rfl (B := w.heap.size) (c := endP P (runP P ts)) (t := 49) hRy TEnd) rfl ?_
            exact ⟨_, _, _, 0, rfl, .inr (.inr ⟨HC.out, by rw [HS.out.1]; exact hm100, rfl, rfl, rfl⟩), hOy, hBy⟩
          · intro y1 hy1
            refine op_wanted (by simp only [List.getElem?_toArray, List.getElem?_cons_zero, List.getElem?_cons_succ] <;> rfl) rfl ?_
            refine wp_storeB TEnd _ _ rfl rfl (by rfl) rfl (hy1.box HRS.out) rfl (by unfold endP; rw [← end_vs]; exact vs_all endF_one) ?_
            simp only [Act.put, Act.eval, List.setIfInBounds_toArray, List.set_cons_zero, List.set_cons_succ, Array.getD_eq_getD_getElem?, List.getElem?_toArray, List.getElem?_cons_zero, List.getElem?_cons_succ, Option.getD_some]
            refine wpT_one 3 (by decide +kernel) ?_
            intro y2 hy2
            refine op_wanted (by simp only [List.getElem?_toArray, List.getElem?_cons_zero, List.getElem?_cons_succ] <;> rfl) rfl ?_
            have c7 := hy2.cell (((HGB.out.bel hy1).box.setRow_ne w.heap.size (endP P (runP P ts)) (by omega)).cell 7 (v := LV) (vs_get _ (by omega)))
            go_simp
            refine ⟨Below.refl _ _, ?_⟩
            (repeat (first | ((first | refine wpT_goN 5 (by simp only [List.getElem?_toArray, List.getElem?_cons_zero, List.getElem?_cons_succ] <;> rfl) (by decide +kernel) (by decide +kernel) (by kernel_rfl) (by rfl) (by exact fun _ _ _ _ h => h) (Nat.le_trans hy1.size (Nat.le_trans (by simp) hy2.size)) ?_ | refine wpT_goN 6 (by simp only [List.getElem?_toArray, List.getElem?_cons_zero, List.getElem?_cons_succ] <;> rfl) (by decide +kernel) (by decide +kernel) (by kernel_rfl) (by rfl) (by exact fun _ _ _ _ h => h) (Nat.le_trans hy1.size (Nat.le_trans (by simp) hy2.size)) ?_); apply Exists.intro; refine ⟨fun w1 h1 => ?_, ?_⟩; (first | exact g_move _ rfl | exact g_assign _ rfl | (go_simp; first | exact ⟨rfl, rfl⟩ | rfl)); simp only [Act.put, Act.eval, List.setIfInBounds_toArray, List.set_cons_zero, List.set_cons_succ, Array.getD_eq_getD_getElem?, List.getElem?_toArray, List.getElem?_cons_zero, List.getElem?_cons_succ, Option.getD_some]) | ((first | refine wpT_skip 5 (by simp only [List.getElem?_toArray, List.getElem?_cons_zero, List.getElem?_cons_succ] <;> rfl) (by decide +kernel) (by decide +kernel) (by kernel_rfl) (by rfl) (by exact fun _ _ _ _ h => h) (Nat.le_trans hy1.size (Nat.le_trans (by simp) hy2.size)) ?_ | refine wpT_skip 6 (by simp only [List.getElem?_toArray, List.getElem?_cons_zero, List.getElem?_cons_succ] <;> rfl) (by decide +kernel) (by decide +kernel) (by kernel_rfl) (by rfl) (by exact fun _ _ _ _ h => h) (Nat.le_trans hy1.size (Nat.le_trans (by simp) hy2.size)) ?_); simp only [Act.put, Act.eval, List.setIfInBounds_toArray, List.set_cons_zero, List.set_cons_succ, Array.getD_eq_getD_getElem?, List.getElem?_toArray, List.getElem?_cons_zero, List.getElem?_cons_succ, Option.getD_some]) | ((first | refine wpT_goA 5 (by simp only [List.getElem?_toArray, List.getElem?_cons_zero, List.getElem?_cons_succ] <;> rfl) (by decide +kernel) (by decide +kernel) (by kernel_rfl) (by rfl) (by exact fun _ _ _ _ h => h) ?_ | refine wpT_goA 6 (by simp only [List.getElem?_toArray, List.getElem?_cons_zero, List.getElem?_cons_succ] <;> rfl) (by decide +kernel) (by decide +kernel) (by kernel_rfl) (by rfl) (by exact fun _ _ _ _ h => h) ?_); apply Exists.intro; refine ⟨fun w1 => ?_, ?_⟩; (first | exact a_move _ rfl | exact a_assign _ rfl | (go_simp; first | exact ⟨rfl, rfl⟩ | rfl)); simp only [Act.put, Act.eval, List.setIfInBounds_toArray, List.set_cons_zero, List.set_cons_succ, Array.getD_eq_getD_getElem?, List.getElem?_toArray, List.getElem?_cons_zero, List.getElem?_cons_succ, Option.getD_some])))
            refine wpT_done (by decide +kernel) ?_ _
            intro y3 hy3
            have hRy := hy3.box (hy2.box ((hy1.box HRS.out).setRow (endP P (runP P ts))))
            have hOy := own_bel ((fun z => own_bel z hy2) (own_row (own_bel HAP.out.2.2.2 hy1) HAP.out.2.2.1 (endP P (runP P ts)))) hy3
            have hBy := ((HBL.out.trans hy1).setRow w.heap.size (Nat.le_refl _) (endP P (runP P ts))).trans (hy2.trans hy3)
            go_wp2_with fail
            refine bodyPost_ret (res_ctt Try.results18 rfl (B := w.heap.size) (c := endP P (runP P ts)) (t := 49) hRy TEnd) rfl ?_
            exact ⟨_, _, _, 0, rfl, .inr (.inr ⟨HC.out, by rw [HS.out.1]; exact hm100, rfl, rfl, rfl⟩), hOy, hBy⟩
  · have HC := Lib.hid (show chkP P ≠ 0 by simpa using h1)
    go_wp2_with (refine storeB 49 _ _ rfl rfl rfl rfl HR1.out rfl (by exact TEnd) z20_all ?_)
    refine bodyPost_ret (res_ctt Try.results18 rfl (B := w.heap.size) (c := z20) (t := 49) (HR1.out.setRow _) TEnd) rfl ?_
    exact ⟨_, _, [], chkP P, rfl, .inl ⟨HC.out, rfl, rfl, rfl⟩, HNIL.out _, (HW1.out.setRow w.heap.size (Nat.le_refl _) _).out⟩
end Go.Proofs.Ytjddahidkodieaa

import Derived.Test.YtnklpifnknmdgaaGreatDoorZDkU
import Derived.Test.YtnklpifnknmdgaaGreatDoorZNota
import Derived.Defers
import Derived.Recover
import Derived.Laws.Pointers
set_option linter.all false
set_option maxRecDepth 100000
namespace Go.Proofs.YtnklpifnknmdgaaGreatDoor
open Go Go.RowKit

theorem beq_bytes (a b : List UInt8) : (str a == str b) = decide (b = a) := by
  show (a.toArray == b.toArray) = _
  rw [Bool.eq_iff_iff, beq_iff_eq, decide_eq_true_eq]
  exact ⟨fun h => by simpa using h.symm, fun h => by rw [h]⟩
section
variable {P : Program} {T K E : TypeId}
theorem checkKey_s (hK : P.underlying K = some .string) (b : Bool) (k : ByteArray) (w : World) : (Instr.checkKey b 10000 K (.string k)).run P w = .ok () w := by
  show (Instr.checkKey b (9999 + 1) K (.string k)).run P w = .ok () w
  unfold Instr.checkKey
  simp [Sem.run_bind, run_underlying hK]
theorem upd_new_s (hT : P.underlying T = some (.map K E)) (hK : P.underlying K = some .string) (es : Array MapEntry) (c : Nat) (k : ByteArray) (v : Value) (w : World)
    (hn : Instr.findNow .string (.string k) es.toList 0 = some none) :
    (Instr.mapUpdate T (.map (some w.heap.size)) (.string k) v).run P (w.alloc (.map es c)) = .ok () (w.alloc (.map (es.push ⟨.string k, v, c⟩) (c + 1))) := by
  have hb : (w.alloc (.map es c)).heap[w.heap.size]? = some (.map es c) := heap_alloc_new w _
  unfold Instr.mapUpdate
  simp only [Sem.run_bind, run_underlying hT, MapKept.run_getObj_map hb, Result.andThen_ok, checkKey_s hK, Instr.findKey, run_underlying hK, hn, Sem.run_pure, MapKept.run_setObj_map _ hb]
  exact congrArg _ (set_last w _ _)
theorem insNewS {ops : Array Oper} {rest : List Oper} {o : Oper} {a : Act} {w : World} {Q : Exit → Act → World → Prop} (hT : P.underlying T = some (.map K E)) (hK : P.underlying K = some .string) (m k v : Operand) (ho : o.op = .insert T m k v) (hgd : o.guard = none) {es : Array MapEntry} {c : Nat} {kk : ByteArray} {vv : Value}
    (hm : a.eval m = .map (some w.heap.size)) (hk : a.eval k = .string kk) (hv : a.eval v = vv) (hn : Instr.findNow .string (.string kk) es.toList 0 = some none)
    (h : wpList P ops Q rest (a.put o.dst undef) (w.alloc (.map (es.push ⟨.string kk, vv, c⟩) (c + 1)))) : wpList P ops Q (o :: rest) a (w.alloc (.map es c)) := by
  refine wpList_plain hgd fun _ hK' => ?_
  unfold Oper.wp execOp
  simp only [ho, hm, hk, hv, Sem.run_bind, upd_new_s hT hK es c kk vv w hn, Result.andThen_ok, Sem.run_pure]
  exact hK' _ _ h
theorem look_s (hT : P.underlying T = some (.map K E)) (hK : P.underlying K = some .string) (es : Array MapEntry) (c : Nat) (k : ByteArray) (v : Value) (r i : Nat) (w : World) (hw : w.heap[r]? = some (.map es c))
    (hn : Instr.findNow .string (.string k) es.toList 0 = some (some (i, v))) : (Instr.lookup T (.map (some r)) (.string k) true).run P w = .ok (.tuple #[v, .bool true]) w := by
  unfold Instr.lookup
  simp [Sem.run_bind, run_underlying hT, MapKept.run_getObj_map hw, checkKey_s hK, Instr.findKey, run_underlying hK, hn]
theorem look_no_s (hT : P.underlying T = some (.map K E)) (hK : P.underlying K = some .string) (es : Array MapEntry) (c : Nat) (k : ByteArray) (z : Value) (r : Nat) (w : World) (hw : w.heap[r]? = some (.map es c))
    (hz : (Go.zeroValue E).run P w = .ok z w) (hn : Instr.findNow .string (.string k) es.toList 0 = some none) : (Instr.lookup T (.map (some r)) (.string k) true).run P w = .ok (.tuple #[z, .bool false]) w := by
  unfold Instr.lookup
  simp [Sem.run_bind, run_underlying hT, MapKept.run_getObj_map hw, checkKey_s hK, Instr.findKey, run_underlying hK, hn, hz]
end
def fnT : List Nat := [63, 64, 65, 66, 67, 68, 69, 70, 71, 72, 73, 74]
def fnAt (i : Nat) : Nat := fnT.getD i 0
def cmdC (k i : Nat) : Array Value := #[.int .i64 k, .func (.func (fnAt i)) #[] #[]]
def cmE (n : Wd) (k i b : Nat) : MapEntry := ⟨.string (str n), .agg (cmdC k i), b⟩
def entsOf : List (Wd × Nat × Nat) → Nat → List MapEntry
  | [], _ => []
  | (n, k, i) :: r, b => cmE n k i b :: entsOf r (b + 1)
def cmA : Array MapEntry := (entsOf cmdT 0).toArray
theorem find_ents (n : Wd) : ∀ (L : List (Wd × Nat × Nat)) (b j : Nat),
    (∀ c, L.find? (fun c => decide (c.1 = n)) = some c → ∃ q, Instr.findNow .string (.string (str n)) (entsOf L b) j = some (some (q, .agg (cmdC c.2.1 c.2.2)))) ∧
    (L.find? (fun c => decide (c.1 = n)) = none → Instr.findNow .string (.string (str n)) (entsOf L b) j = some none)
  | [], _, _ => ⟨fun c h => (by cases h), fun _ => rfl⟩
  | (x, k, i) :: r, b, j => by
    have ih := find_ents n r (b + 1) (j + 1)
    have hs : Instr.sameNow .string (.string (str n)) (cmE x k i b).key = some (decide (x = n)) := by
      show some (str n == str x) = _
      rw [beq_bytes]
    simp only [List.find?_cons, entsOf, Instr.findNow, hs]
    by_cases hx : x = n
    · rw [decide_eq_true hx]
      exact ⟨fun c h => (by cases h; exact ⟨j, rfl⟩), fun h => (by cases h)⟩
    · rw [decide_eq_false hx]
      exact ih
theorem TCm : RowTy Tryz.prog 84 2 := ⟨_, Tryz.underlying84, rfl, by kernel_rfl⟩
set_option maxHeartbeats 4000000 in
theorem commands_any (w : World) : Calls Tryz.prog 40 #[] w fun e w' => e = .returned (.map (some w.heap.size)) ∧ w' = w.alloc (.map cmA 12) := by
  have hmm := @run_makeMap Tryz.prog
  go_enter Tryz.func40, Tryz.ntmps40
  go_wp2_with (refine insNewS Tryz.underlying86 Tryz.underlying9 _ _ _ rfl rfl rfl rfl rfl rfl ?_)
  go_ret
  exact ⟨rfl, rfl⟩
theorem look_cmd (n : Wd) {w : World} {B : Nat} (hb : w.heap[B]? = some (.map cmA 12)) :
    (∀ k i, cmdOf n = some (k, i) → (Instr.lookup 86 (.map (some B)) (.string (str n)) true).run Tryz.prog w = .ok (.tuple #[.agg (cmdC k i), .bool true]) w) ∧
    (cmdOf n = none → (Instr.lookup 86 (.map (some B)) (.string (str n)) true).run Tryz.prog w = .ok (.tuple #[.agg #[.int .i64 0, .nilFunc], .bool false]) w) := by
  obtain ⟨h1, h2⟩ := find_ents n cmdT 0 0
  refine ⟨fun k i h => ?_, fun h => ?_⟩
  · unfold cmdOf at h
    cases hf : cmdT.find? (fun c => decide (c.1 = n)) with
    | none => rw [hf] at h; cases h
    | some c =>
      rw [hf] at h
      simp only [Option.map_some, Option.some.injEq] at h
      obtain ⟨q, hq⟩ := h1 c hf
      rw [h] at hq
      exact look_s Tryz.underlying86 Tryz.underlying9 cmA 12 _ _ B q w hb hq
  · have hf : cmdT.find? (fun c => decide (c.1 = n)) = none := by
      unfold cmdOf at h
      exact Option.map_eq_none_iff.1 h
    exact look_no_s Tryz.underlying86 Tryz.underlying9 cmA 12 _ _ B w hb (by kernel_rfl) (h2 hf)
set_option maxHeartbeats 4000000 in
theorem nameOf_any (A : Option Addr) (n c : Nat) (ws : List Wd) (w : World) (h : WS w A n ws) (hs : ∀ x ∈ ws, x.length ≤ 1000) : Calls Tryz.prog 41 #[.slice A n c] w fun e w' => e = .returned (.string (str (nameW ws))) ∧ w = w' := by
  cases ws with
  | nil =>
    obtain rfl : n = 0 := h.1.symm
    clear h hs
    go_enter Tryz.func41, Tryz.ntmps41
    go_wp2
    go_ret
    exact ⟨rfl, rfl⟩
  | cons x r =>
    have hn0 : ¬ (n : Int) = 0 := by have := h.1; simp only [List.length_cons] at this; omega
    have hnp : (0 : Int) < n := by have := h.1; simp only [List.length_cons] at this; omega
    have hb0 : ((n : Int) == 0) = false := by simpa using hn0
    obtain ⟨b, off, rfl, hlt, hr⟩ := h.2 (by omega)
    have c0 := hr 0 x rfl
    have hz := str_sz x
    have hx := hs x (List.mem_cons_self ..)
    rw [Nat.add_zero] at c0
    clear hr h hs hn0
    by_cases h2 : x.length = 2
    · match x, h2 with
      | [p, q], _ =>
        have hz2 : (str [p, q]).size = 2 := hz
        by_cases hp : p = 116
        · subst hp
          have HV := Lib.hid (show nameW ([116, q] :: r) = [116, 63] by show (if [116, q].length = 2 ∧ [116, q].head? = some 116 then [116, 63] else [116, q]) = _; rw [if_pos ⟨rfl, rfl⟩])
          have hq0 : ((((str [116, q])[0]'(by rw [hz2]; omega)).toNat : Int) == 116) = true := rfl
          clear hz
          go_enter Tryz.func41, Tryz.ntmps41
          go_wp2
          go_ret
          exact ⟨by rw [HV.out]; rfl, rfl⟩
        · have HV := Lib.hid (show nameW ([p, q] :: r) = [p, q] by show (if [p, q].length = 2 ∧ [p, q].head? = some 116 then [116, 63] else [p, q]) = _; rw [if_neg (fun h => hp (by simpa using h.2))])
          have hpb : ((p.toNat : Int) == 116) = false := by
            rw [beq_eq_false_iff_ne]
            intro hh
            apply hp
            apply UInt8.toNat_inj.1
            show p.toNat = 116
            omega
          have hq0 : ((((str [p, q])[0]'(by rw [hz2]; omega)).toNat : Int) == 116) = false := hpb
          clear hz
          go_enter Tryz.func41, Tryz.ntmps41
          go_wp2
          go_ret
          exact ⟨by rw [HV.out]; rfl, rfl⟩
    · have HV := Lib.hid (show nameW (x :: r) = x by show (if x.length = 2 ∧ x.head? = some 116 then [116, 63] else x) = _; rw [if_neg (fun h => h2 h.1)])
      have hzb : (((str x).size : Nat) : Int) ≠ 2 := by rw [hz]; omega
      have hzc : ((((str x).size : Nat) : Int) == 2) = false := by simpa using hzb
      clear hz
      go_enter Tryz.func41, Tryz.ntmps41
      go_wp2
      go_ret
      exact ⟨by rw [HV.out]; rfl, rfl⟩
theorem isSpace_any (x : Nat) (hx : x ≤ 1114111) (w : World) : Calls Tryz.prog 43 #[.int .i32 x] w fun e w' => e = .returned (.bool (x == 32)) ∧ w = w' := by
  have hb : ((x : Int) == 32) = (x == 32) := by
    rw [Bool.eq_iff_iff, beq_iff_eq, beq_iff_eq]; omega
  go_enter Tryz.func43, Tryz.ntmps43
  go_wp2
  go_ret
  exact ⟨by rw [← hb]; rfl, rfl⟩
def DkWdsPost (w : World) (s : Wd) (e : Ending) (w' : World) : Prop :=
  ∃ B, e = .returned (.slice (some ⟨B, 0, none⟩) (wordsL s).length (wordsL s).length) ∧ Wds w' (some ⟨B, 0, none⟩) (wordsL s).length (wordsL s).length (wordsL s) ∧ Below w.heap.size w w'
set_option maxHeartbeats 4000000 in
theorem wordsOf_any (s : Wd) (hs : s.length ≤ 1000) (w : World) : Calls Tryz.prog 20 #[.string (str s)] w (DkWdsPost w s) := by
  have hF := Tryz.strings_FieldsFunc_runes 43 #[] (enters_of Tryz.func43 (by kernel_rfl) rfl) (fun n => n == 32) (str s) w (by rw [str_sz]; omega) (fun W x hx _ => (isSpace_any x hx W).mono fun e w' ⟨h1, h2⟩ => ⟨h1, 0, h2.symm⟩)
  have hl : (Lib.goFieldsP (fun n => n == 32) (str s)).length = (wordsL s).length := by unfold wordsL; rw [List.length_map]
  have hm : (Lib.goFieldsP (fun n => n == 32) (str s)).map Value.string = (wordsL s).map fun x => Value.string (str x) := by
    unfold wordsL
    rw [List.map_map]
    exact List.map_congr_left fun b _ => rfl
  rw [hl, hm] at hF
  have HSH := Lib.hid (show ∀ x ∈ wordsL s, x.length ≤ 1000 from fun x hx => Nat.le_trans (wordsL_len hx) hs)
  clear hl hm
  go_enter Tryz.func20, Tryz.ntmps20
  go_wp2_with fail
  refine hF.mono ?_
  rintro e1 w1 ⟨B, rfl, hB, ho, hb⟩
  have HW := Lib.hid (show Wds w1 (some ⟨B, 0, none⟩) (wordsL s).length (wordsL s).length (wordsL s) from ⟨WS.own ho rfl, Nat.le_refl _, HSH.out⟩)
  have HB := Lib.hid hb
  clear ho hb hF
  go_wp2
  go_ret
  exact ⟨B, rfl, HW.out, HB.out⟩
end Go.Proofs.YtnklpifnknmdgaaGreatDoor
set_option linter.all false
set_option maxRecDepth 100000
namespace Go.Proofs.YtnklpifnknmdgaaGreatDoor
open Go Go.RowKit

theorem chk_low : ∀ (r p : List Ev), 0 ≤ (chk p r).2 ∧ (chk p r).2 ≤ 11
  | [], _ => ⟨Int.le_refl _, by show (0 : Int) ≤ 11; omega⟩
  | e :: r, p => by
    unfold chk
    split
    · exact wrong_range p e
    · exact chk_low r _
theorem check_low (l : List Ev) : 0 ≤ (check l).2 ∧ (check l).2 ≤ 11 := by
  unfold check
  split
  · exact ⟨by show (0 : Int) ≤ 2; omega, by show (2 : Int) ≤ 11; omega⟩
  · exact chk_low _ _
theorem evOf_low (s : List UInt8) : 0 ≤ (evOf s).2 ∧ (evOf s).2 ≤ 11 := by
  unfold evOf
  split
  · exact ⟨by show (0 : Int) ≤ 0; omega, by show (0 : Int) ≤ 11; omega⟩
  · exact ⟨by show (0 : Int) ≤ 3; omega, by show (3 : Int) ≤ 11; omega⟩
theorem leadE_low (l : List Ev) (i j : Int) : 0 ≤ leadE l i j ∧ leadE l i j ≤ 11 := by
  unfold leadE
  split
  · exact check_low l
  · split <;> omega
theorem ans_low {l : List Ev} {ws : List Wd} {n : Int} (h : ans l ws = .err n) : 0 ≤ n ∧ n < 100 := by
  have key : ∀ (m : Int), Ans.err m = .err n → (0 ≤ m ∧ m ≤ 11) → 0 ≤ n ∧ n < 100 := fun m e hm => by cases e; omega
  unfold ans at h
  split at h
  · split at h
    · unfold cmdR at h
      split at h <;> try (cases h; done)
      · unfold tellR at h
        split at h
        · exact key _ h (evOf_low _)
        · split at h
          · exact key _ h (check_low _)
          · cases h
      · unfold leadsR at h
        split at h
        · split at h
          · exact key _ h (leadE_low _ _ _)
          · cases h
        · exact key _ h (by omega)
      · unfold stampR at h
        split at h
        · split at h
          · cases h
          · exact key _ h (by omega)
        · exact key _ h (by omega)
      · unfold dropR at h
        split at h
        · split at h
          · split at h
            · cases h
            · exact key _ h (by omega)
          · exact key _ h (by omega)
        · exact key _ h (by omega)
      · unfold minR at h
        split at h
        · exact key _ h (by omega)
        · cases h
    · exact key _ h (by omega)
  · exact key _ h (by omega)
def Met (N D f i n : Nat) (AW : Option Addr) (cW : Nat) (ws : List Wd) : Prop := ∀ (v : Value) (l : List Ev) (w : World), Dk w N D v l → N ≤ w.heap.size → Wds w AW n cW ws → Tabs w →
  Calls Tryz.prog f #[.pointer (some ⟨D, 0, none⟩), .slice AW n cW] w (MetP N D v l (cmdR i l ws) w)
theorem met_all (N D n : Nat) (AW : Option Addr) (cW : Nat) (ws : List Wd) (i : Nat) (h : cmdOf (nameW ws) = some (n, i)) : Met N D (fnAt i) i n AW cW ws ∧ ∀ args w, (callFunc (fnAt i) args).run Tryz.prog w = .ok (.enter (fnAt i) args) w := by
  have hm : (n, i) ∈ [(3, 0), (1, 1), (1, 2), (1, 3), (1, 4), (3, 5), (2, 6), (1, 7), (2, 8), (1, 9), (1, 10), (1, 11)] := by
    unfold cmdOf at h
    obtain ⟨c, hc, he⟩ := Option.map_eq_some_iff.1 h
    have := List.mem_map.2 ⟨c, List.mem_of_find?_eq_some hc, he⟩
    exact this
  clear h
  simp only [List.mem_cons, Prod.mk.injEq, List.not_mem_nil, or_false] at hm
  rcases hm with ⟨rfl, rfl⟩ | ⟨rfl, rfl⟩ | ⟨rfl, rfl⟩ | ⟨rfl, rfl⟩ | ⟨rfl, rfl⟩ | ⟨rfl, rfl⟩ | ⟨rfl, rfl⟩ | ⟨rfl, rfl⟩ | ⟨rfl, rfl⟩ | ⟨rfl, rfl⟩ | ⟨rfl, rfl⟩ | ⟨rfl, rfl⟩
  · exact ⟨fun v l w h hN hW ht => tell_met N D v l ws AW cW w h hN hW ht, enters_of Tryz.func63 (by kernel_rfl) rfl⟩
  · exact ⟨fun v l w h hN hW ht => races_met N D v _ l ws w h, enters_of Tryz.func64 (by kernel_rfl) rfl⟩
  · exact ⟨fun v l w h hN hW ht => full_met N D v _ l ws w h, enters_of Tryz.func65 (by kernel_rfl) rfl⟩
  · exact ⟨fun v l w h hN hW ht => fast_met N D v _ l ws w h, enters_of Tryz.func66 (by kernel_rfl) rfl⟩
  · exact ⟨fun v l w h hN hW ht => warns_met N D v _ l ws w h, enters_of Tryz.func67 (by kernel_rfl) rfl⟩
  · exact ⟨fun v l w h hN hW ht => leads_met N D v l ws AW cW w h hN hW ht, enters_of Tryz.func68 (by kernel_rfl) rfl⟩
  · exact ⟨fun v l w h hN hW ht => stamp_met N D v l ws AW cW w h hN hW ht, enters_of Tryz.func69 (by kernel_rfl) rfl⟩
  · exact ⟨fun v l w h hN hW ht => ring_met N D v _ l ws w h, enters_of Tryz.func70 (by kernel_rfl) rfl⟩
  · exact ⟨fun v l w h hN hW ht => drop_met N D v l ws AW cW w h hN hW ht, enters_of Tryz.func71 (by kernel_rfl) rfl⟩
  · exact ⟨fun v l w h hN hW ht => min_met N D v _ l ws w h, enters_of Tryz.func72 (by kernel_rfl) rfl⟩
  · exact ⟨fun v l w h hN hW ht => size_met N D v _ l ws w h, enters_of Tryz.func73 (by kernel_rfl) rfl⟩
  · exact ⟨fun v l w h hN hW ht => clear_met N D v _ l ws w h, enters_of Tryz.func74 (by kernel_rfl) rfl⟩
theorem MetP.later {N D : Nat} {v : Value} {l : List Ev} {a : Ans} {w w1 : World} {e : Ending} {w' : World} (h : MetP N D v l a w1 e w') (hb : Bel w w1) : MetP N D v l a w e w' := by
  obtain ⟨h1, v', h2, h3, h4⟩ := h
  refine ⟨h1, v', h2, (DkG.of hb D v).trans h3 (.inl rfl), h4.imp id fun h k hk => Nat.le_trans hb.size (h k hk)⟩
set_option maxHeartbeats 8000000 in
theorem execute_any (N D n : Nat) (v : Value) (l : List Ev) (ws : List Wd) (AW : Option Addr) (cW : Nat) (w : World) (h : Dk w N D v l) (hN : N ≤ w.heap.size) (hW : Wds w AW n cW ws) (ht : Tabs w) :
    Calls Tryz.prog 19 #[.pointer (some ⟨D, 0, none⟩), .slice AW n cW] w (MetP N D v l (ans l ws) w) := by
  have HD := Lib.hid h
  have HW := Lib.hid hW
  have HT := Lib.hid ht
  have HNL := Lib.hid hW.cells.1
  have H1 := Lib.hid ((Bel.refl w).alloc (.map cmA 12))
  have hsz1 : (w.alloc (.map cmA 12)).heap.size = w.heap.size + 1 := by simp
  obtain ⟨k1, k2⟩ := look_cmd (nameW ws) (heap_alloc_new w (.map cmA 12))
  have HN1 := Lib.hid (show N ≤ (w.alloc (.map cmA 12)).heap.size by rw [hsz1]; omega)
  clear h hN hW ht
  cases hc : cmdOf (nameW ws) with
  | none =>
    have HV := Lib.hid (show ans l ws = .err 3 by unfold ans; rw [hc])
    have L := k2 hc
    have HX := Lib.hid (show Box ((w.alloc (.map cmA 12)).alloc (.cells #[.int .i64 0, .nilFunc] 84)) (w.heap.size + 1) #[.int .i64 0, .nilFunc] 84 by have := Box.new (w.alloc (.map cmA 12)) #[.int .i64 0, .nilFunc] 84; rwa [hsz1] at this)
    have HB := Lib.hid (H1.out.alloc (.cells #[.int .i64 0, .nilFunc] 84))
    clear k1 k2 hc
    go_enter Tryz.func19, Tryz.ntmps19
    go_wp2_with fail
    refine (commands_any _).mono ?_
    rintro _ _ ⟨rfl, rfl⟩
    go_wp2_with fail
    refine (nameOf_any AW n cW ws _ (HW.out.cells.bel H1.out) HW.out.short).mono ?_
    rintro _ _ ⟨rfl, rfl⟩
    go_wp2_with (refine storeB _ _ _ rfl rfl rfl rfl HX.out rfl TCm (by simp [Value.oneCell', cmdC]) ?_)
    exact ⟨rfl, met_look HD.out (Bel.of (below_setRow' HB.out.out _ _ (by omega))) (by rw [HV.out]; rfl) (by rw [HV.out]; rfl)⟩
  | some c =>
    obtain ⟨k, i⟩ := c
    have L := k1 k i hc
    have HX := Lib.hid (show Box ((w.alloc (.map cmA 12)).alloc (.cells #[.int .i64 0, .nilFunc] 84)) (w.heap.size + 1) #[.int .i64 0, .nilFunc] 84 by have := Box.new (w.alloc (.map cmA 12)) #[.int .i64 0, .nilFunc] 84; rwa [hsz1] at this)
    have HY := Lib.hid (HX.out.setRow (cmdC k i))
    have HB := Lib.hid (Bel.of (below_setRow' (H1.out.alloc (.cells #[.int .i64 0, .nilFunc] 84)).out (w.heap.size + 1) (cmdC k i) (by omega)))
    have HKL := Lib.hid (show k ≤ 3 by
      unfold cmdOf at hc
      obtain ⟨c, hc, he⟩ := Option.map_eq_some_iff.1 hc
      have := List.mem_of_find?_eq_some hc
      have h3 : ∀ c ∈ cmdT, c.2.1 ≤ 3 := by decide
      have := h3 c this
      rw [he] at this
      exact this)
    by_cases hk : n = k
    · subst hk
      have HV := Lib.hid (show ans l ws = cmdR i l ws by unfold ans; rw [hc]; simp only; rw [if_pos HNL.out])
      obtain ⟨hM, EF⟩ := met_all N D n AW cW ws i hc
      have HM := Lib.hid hM
      have hne : ((n : Int) != (n : Int)) = false := by simp
      clear k1 k2 hc hM
      have HZ := Lib.hid (show (cmdC n i).size = 2 from rfl)
      have cf := HY.out.cell 1 (v := .func (.func (fnAt i)) #[] #[]) rfl
      have ck := HY.out.cell 0 (v := .int .i64 n) rfl
      generalize fnAt i = fi at *
      go_enter Tryz.func19, Tryz.ntmps19
      go_wp2_with fail
      refine (commands_any _).mono ?_
      rintro _ _ ⟨rfl, rfl⟩
      go_wp2_with fail
      refine (nameOf_any AW n cW ws _ (HW.out.cells.bel H1.out) HW.out.short).mono ?_
      rintro _ _ ⟨rfl, rfl⟩
      go_wp2_with (refine storeB _ _ _ rfl rfl rfl rfl HX.out rfl TCm (by simp [Value.oneCell', cmdC]) ?_)
      refine (HM.out v l _ (HD.out.bel HB.out) (Nat.le_trans HN1.out (by rw [hsz1]; have := HB.out.size; simp at this ⊢)) (HW.out.bel HB.out) (HT.out.bel HB.out)).mono ?_
      rintro e2 w2 hm
      rw [HV.out]
      obtain ⟨he, hr⟩ := hm.later HB.out
      have HR := Lib.hid hr
      clear hm hr
      cases ha : cmdR i l ws with
      | err m =>
        rw [ha] at he HR
        subst he
        have HA := Lib.hid ha
        clear ha
        unfold Ans.fin dkPan
        exact ⟨rfl, rfl, HR.out⟩
      | ok t m =>
        rw [ha] at he HR
        subst he
        have HA := Lib.hid ha
        clear ha
        unfold Ans.fin
        go_wp2
        go_ret
        exact ⟨by rw [HV.out, HA.out]; rfl, by rw [HV.out, HA.out]; exact HR.out⟩
    · have HV := Lib.hid (show ans l ws = .err 3 by unfold ans; rw [hc]; simp only; rw [if_neg (fun h => hk (HNL.out.symm.trans h))])
      have hne : ((n : Int) != (k : Int)) = true := by simpa using (fun e : (n : Int) = k => hk (by omega))
      have ck := HY.out.cell 0 (v := .int .i64 k) rfl
      clear k1 k2 hc
      go_enter Tryz.func19, Tryz.ntmps19
      go_wp2_with fail
      refine (commands_any _).mono ?_
      rintro _ _ ⟨rfl, rfl⟩
      go_wp2_with fail
      refine (nameOf_any AW n cW ws _ (HW.out.cells.bel H1.out) HW.out.short).mono ?_
      rintro _ _ ⟨rfl, rfl⟩
      go_wp2_with (refine storeB _ _ _ rfl rfl rfl rfl HX.out rfl TCm (by simp [Value.oneCell', cmdC]) ?_)
      exact ⟨rfl, met_look HD.out HB.out (by rw [HV.out]; rfl) (by rw [HV.out]; rfl)⟩
theorem ta_nil (w : World) : (Instr.typeAssert .nilIface 20 23 true).run Tryz.prog w = .ok (.tuple #[.int .i64 0, .bool false]) w := by kernel_rfl
theorem ta_err (n : Int) (w : World) : (Instr.typeAssert (.iface 23 (.int .i64 n)) 20 23 true).run Tryz.prog w = .ok (.tuple #[.int .i64 n, .bool true]) w := by kernel_rfl
abbrev dk11 (R : Nat) : Array Value := #[.pointer (some ⟨R, 0, none⟩), undef, undef, undef, undef, undef, undef, undef, undef, undef, undef, undef]
theorem catch_idle (R : Nat) (w : World) : CallsD Tryz.prog 17 #[.pointer (some ⟨R, 0, none⟩)] .returning w fun e u' w' => e = .returned (.tuple #[]) ∧ u' = .returning ∧ w' = w := by
  refine callsD_of_wpS Tryz.func17 rfl fun c₀ cs hu => ?_
  have ha : #[Value.pointer (some ⟨R, 0, none⟩)] ++ Array.replicate (Tryz.f17.ntmps - (#[Value.pointer (some ⟨R, 0, none⟩)] : Array Value).size) undef = dk11 R := rfl
  rw [ha]
  have h1 := ta_nil w
  apply wpS_seq
  apply wpS_region
  simp [wpOpsS, go_sem, recoverD, hu, Exit.thenS, h1]
  refine wpS_of_wp ?_
  go_wp2
  cases c₀
  simp_all [bodyPostS, results, Tryz.results17]
theorem catch_pan (R : Nat) (n : Int) (h : 0 ≤ n ∧ n < 100) (older : List PanicEntry) (w : World) (c : Array Value) (hb : Box w R c 9) (hc : c.size = 1) :
    CallsD Tryz.prog 17 #[.pointer (some ⟨R, 0, none⟩)] (.panicking ({ v := .iface 23 (.int .i64 n), recovered := false } :: older)) w fun e u' w' =>
      e = .returned (.tuple #[]) ∧ u' = .panicking ({ v := .iface 23 (.int .i64 n), recovered := true } :: older) ∧ ∃ w1, Below w.heap.size w w1 ∧ w' = w1.setCell ⟨R, 0, none⟩ (.string (str ([101, 114, 114, 111, 114, 32] ++ Lib.itoa n))) := by
  refine callsD_of_wpS Tryz.func17 rfl fun c₀ cs hu => ?_
  have ha : #[Value.pointer (some ⟨R, 0, none⟩)] ++ Array.replicate (Tryz.f17.ntmps - (#[Value.pointer (some ⟨R, 0, none⟩)] : Array Value).size) undef = dk11 R := rfl
  rw [ha]
  have h1 := ta_err n w
  apply wpS_seq
  apply wpS_region
  simp [wpOpsS, go_sem, recoverD, hu, Exit.thenS, h1]
  have f0 := hb.frozen 0
  obtain ⟨c0v, hc0⟩ : ∃ v, c[0]? = some v := ⟨c[0]'(by omega), by rw [Array.getElem?_eq_getElem]⟩
  have y1 : (str (Lib.itoa n)).size ≤ 21 := by rw [str_sz]; exact itoa_len n h
  have z1 : ¬ 9223372036854775807 < 6 + (str (Lib.itoa n)).size := by omega
  have HB := Lib.hid hb
  have HC := Lib.hid hc0
  have HQ := Lib.hid hu
  clear ha h1 hu f0 hc0
  refine wpS_of_wp ?_
  go_wp2_with fail
  refine (itoa_s n h _).mono ?_
  rintro e1 w1 ⟨rfl, hb1⟩
  have HX := (Bel.of hb1).box HB.out
  have c1 := HX.cell 0 HC.out
  have f1 := HX.frozen 0
  have HB1 := Lib.hid hb1
  have HXX := Lib.hid HX
  clear HX hb1
  go_wp2
  have hq := HQ.out
  have hs : ({ data := #[101, 114, 114, 111, 114, 32] } : ByteArray) ++ str (Lib.itoa n) = str (101 :: 114 :: 114 :: 111 :: 114 :: 32 :: Lib.itoa n) := str_app [101, 114, 114, 111, 114, 32] (Lib.itoa n)
  have hb9 := HB1.out
  cases c₀
  simp_all [bodyPostS, results, Tryz.results17]
  exact ⟨w1, hb9, rfl⟩
end Go.Proofs.YtnklpifnknmdgaaGreatDoor
set_option linter.all false
set_option maxRecDepth 100000
namespace Go.Proofs.YtnklpifnknmdgaaGreatDoor
open Go Go.RowKit

theorem Dk.other {w : World} {N D : Nat} {v : Value} {l : List Ev} (h : Dk w N D v l) {R : Nat} (x : Value) (hR : R ≠ D) (hv : v.ownBlock ≠ some R) : Dk (w.setCell ⟨R, 0, none⟩ x) N D v l :=
  ⟨h.box.set_ne ⟨R, 0, none⟩ x (Ne.symm hR), own_keep h.own fun g hg _ => heap_setCell_other w ⟨R, 0, none⟩ g x (show g ≠ R from fun e => hv (e ▸ hg)), h.ne, h.ok⟩
theorem DkG.put {w w' : World} {D : Nat} {v : Value} (h : DkG w w' D v) {R : Nat} (x : Value) (hR : w.heap.size ≤ R) : DkG w (w'.setCell ⟨R, 0, none⟩ x) D v :=
  ⟨h.os, h.tape, h.output, by have := h.size; simpa using this, fun k hk h1 h2 => (heap_setCell_other w' ⟨R, 0, none⟩ k x (show k ≠ R by omega)).trans (h.block k hk h1 h2)⟩
def AnsP (N D : Nat) (v : Value) (l : List Ev) (ws : List Wd) (w : World) (e : Ending) (w' : World) : Prop :=
  e = .returned (.string (str (ans l ws).out)) ∧ ∃ v', Dk w' N D v' ((ans l ws).next l) ∧ DkG w w' D v ∧ (v'.ownBlock = v.ownBlock ∨ ∀ k, v'.ownBlock = some k → w.heap.size ≤ k)
set_option maxHeartbeats 8000000 in
theorem answer_any (N D : Nat) (v : Value) (l : List Ev) (s : Wd) (w : World) (h : Dk w N D v l) (hN : N ≤ w.heap.size) (hs : s.length ≤ 1000) (ht : Tabs w) :
    Calls Tryz.prog 12 #[.pointer (some ⟨D, 0, none⟩), .string (str s)] w (AnsP N D v l (wordsL s) w) := by
  have HD := Lib.hid h
  have HN := Lib.hid hN
  have HS := Lib.hid hs
  have HT := Lib.hid ht
  have HX := Lib.hid (Box.new w #[.string ⟨#[]⟩] 9)
  have H0 := Lib.hid ((Bel.refl w).alloc (.cells #[.string ⟨#[]⟩] 9))
  have hsz0 : (w.alloc (.cells #[.string ⟨#[]⟩] 9)).heap.size = w.heap.size + 1 := by simp
  have hDlt := h.box.lt
  have HDR := Lib.hid (show w.heap.size ≠ D by omega)
  have HVR := Lib.hid (show ∀ g, v.ownBlock = some g → g < w.heap.size from fun g hg => (own_lt h.own hg).2)
  have hmf : ∀ (fn : Fn) (first cap : Array Value) (w : World), (Instr.makeFunc fn first cap).run Tryz.prog w = .ok (.func fn first cap) w := fun _ _ _ _ => rfl
  clear h hN hs ht hDlt
  go_enter_defers Tryz.func12, Tryz.ntmps12
  go_wp2_with (go_at_call 20; fail)
  refine (wordsOf_any s HS.out _).mono ?_
  rintro e1 w1 ⟨B, rfl, hW, hb1⟩
  have H1 := Lib.hid (H0.out.call hb1)
  have HW := Lib.hid hW
  have HX1 := Lib.hid ((Bel.of hb1).box HX.out)
  have hsz1 := hb1.size
  rw [hsz0] at hsz1
  have HSZ := Lib.hid hsz1
  clear hb1 hW hsz1 hsz0
  go_wp2_with fail
  refine (execute_any N D _ v l (wordsL s) _ _ _ (HD.out.bel H1.out) (Nat.le_trans HN.out H1.out.size) HW.out (HT.out.bel H1.out)).mono ?_
  rintro e2 w2 ⟨he, v', hd', hg', hv'⟩
  have HX2 := Lib.hid (hg'.box HX1.out HDR.out (fun e => Nat.lt_irrefl _ (HVR.out _ e)))
  have HG2 := Lib.hid ((DkG.of H1.out D v).trans hg' (.inl rfl))
  have HVN := Lib.hid (show v'.ownBlock ≠ some w.heap.size from fun e => by
    rcases hv' with h | h
    · rw [h] at e; exact Nat.lt_irrefl _ (HVR.out _ e)
    · have := h _ e; have := HSZ.out; omega)
  have HV2 := Lib.hid (show v'.ownBlock = v.ownBlock ∨ ∀ k, v'.ownBlock = some k → w.heap.size ≤ k from hv'.imp id fun h k hk => Nat.le_trans H1.out.size (h k hk))
  have HD2 := Lib.hid hd'
  clear hd' hg' hv'
  unfold AnsP
  cases ha : ans l (wordsL s) with
  | err m =>
    rw [ha] at he HD2
    subst he
    have HSM := Lib.hid (ans_low ha)
    have HA := Lib.hid ha
    clear ha
    unfold Ans.fin dkPan
    go_wp2
    refine leaves_cons (f := 17) (args := #[.pointer (some ⟨w.heap.size, 0, none⟩)]) (by simp) (by simp [go_sem]) ?_
    refine (catch_pan w.heap.size m HSM.out [] w2 _ HX2.out rfl).mono ?_
    rintro e3 u3 w3 ⟨rfl, rfl, w4, hb4, rfl⟩
    generalize hE : ([101, 114, 114, 111, 114, 32] ++ Lib.itoa m : List UInt8) = E
    have HX4 := (Bel.of hb4).box HX2.out
    have cR := (HX4.set 0 (.string (str E))).cell 0 rfl
    have HP := Lib.hid (show AnsP N D v l (wordsL s) w (.returned (.string (str E))) (w4.setCell ⟨w.heap.size, 0, none⟩ (.string (str E))) from
      ⟨by rw [HA.out, ← hE]; rfl, v', by rw [HA.out]; exact (HD2.out.bel (Bel.of hb4)).other _ HDR.out HVN.out, (HG2.out.trans (v' := v') (.of (Bel.of hb4) D v') HV2.out).put _ (Nat.le_refl _), HV2.out⟩)
    simp [Leaves, settle, results, Tryz.results12, go_sem, cR]
    exact ⟨by rw [← hE]; rfl, by have h9 := HP.out.2; rw [HA.out] at h9; exact h9⟩
  | ok t m =>
    rw [ha] at he HD2
    subst he
    have HA := Lib.hid ha
    clear ha
    unfold Ans.fin
    have f2 := HX2.out.frozen 0
    have c2 := HX2.out.cell 0 rfl
    go_wp2
    refine leaves_cons (f := 17) (args := #[.pointer (some ⟨w.heap.size, 0, none⟩)]) (by simp) (by simp [go_sem]) ?_
    refine (catch_idle w.heap.size _).mono ?_
    rintro e3 u3 w3 ⟨rfl, rfl, rfl⟩
    have cR := (HX2.out.set 0 (.string (str t))).cell 0 rfl
    have HP := Lib.hid (show AnsP N D v l (wordsL s) w (.returned (.string (str t))) (w2.setCell ⟨w.heap.size, 0, none⟩ (.string (str t))) from
      ⟨by rw [HA.out]; rfl, v', by rw [HA.out]; exact HD2.out.other _ HDR.out HVN.out, HG2.out.put _ (Nat.le_refl _), HV2.out⟩)
    simp [Leaves, settle, results, Tryz.results12, go_sem, cR]
    exact HP.out
end Go.Proofs.YtnklpifnknmdgaaGreatDoor

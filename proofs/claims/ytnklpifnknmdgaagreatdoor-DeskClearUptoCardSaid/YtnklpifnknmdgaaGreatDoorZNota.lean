import Derived.WalkKit
import Derived.WalkSpells
import Derived.Maps.RangeRun
import Derived.Maps.Range
import Derived.Maps.RangeWalk
import Derived.Test.YtnklpifnknmdgaaGreatDoorZTr
import Derived.Test.YtnklpifnknmdgaaGreatDoorRows
import Derived.WalkLawsBesides
import Derived.BigQuiet
import Derived.Laws.BytesString
import Derived.IntWalk
import Derived.Lib.Hide
import Derived.Test.YtnklpifnknmdgaaGreatDoorZCut
import Derived.Test.YtnklpifnknmdgaaGreatDoorZGrow
import Derived.Test.YtnklpifnknmdgaaGreatDoorZTrace4
set_option linter.all false
set_option maxRecDepth 100000
namespace Go.Proofs.YtnklpifnknmdgaaGreatDoor
open Go Go.RowKit
section
variable {P : Program} {T K E : TypeId}
theorem set_last (w : World) (o o' : Obj) : ({ w.alloc o with heap := (w.alloc o).heap.setIfInBounds w.heap.size o' } : World) = w.alloc o' := by
  show ({ w with heap := (w.heap.push o).setIfInBounds w.heap.size o' } : World) = { w with heap := w.heap.push o' }
  congr 1
  apply Array.ext_getElem?
  intro i
  rw [Array.getElem?_setIfInBounds, Array.getElem?_push, Array.getElem?_push, Array.size_push]
  by_cases h : w.heap.size = i
  · subst h; simp
  · have h' : ¬ i = w.heap.size := fun e => h e.symm
    simp [h, h']
theorem run_checkKey_int (hK : P.underlying K = some (.int .i64)) (b : Bool) (k : Int) (w : World) : (Instr.checkKey b 10000 K (.int .i64 k)).run P w = .ok () w := by
  show (Instr.checkKey b (9999 + 1) K (.int .i64 k)).run P w = .ok () w
  unfold Instr.checkKey
  simp [Sem.run_bind, run_underlying hK]
theorem upd_new (hT : P.underlying T = some (.map K E)) (hK : P.underlying K = some (.int .i64)) (es : Array MapEntry) (c : Nat) (k : Int) (v : Value) (w : World)
    (hn : Instr.findNow (.int .i64) (.int .i64 k) es.toList 0 = some none) :
    (Instr.mapUpdate T (.map (some w.heap.size)) (.int .i64 k) v).run P (w.alloc (.map es c)) = .ok () (w.alloc (.map (es.push ⟨.int .i64 k, v, c⟩) (c + 1))) := by
  have hb : (w.alloc (.map es c)).heap[w.heap.size]? = some (.map es c) := heap_alloc_new w _
  unfold Instr.mapUpdate
  simp only [Sem.run_bind, run_underlying hT, MapKept.run_getObj_map hb, Result.andThen_ok, run_checkKey_int hK, Instr.findKey, run_underlying hK, hn, Sem.run_pure, MapKept.run_setObj_map _ hb]
  exact congrArg _ (set_last w _ _)
theorem look_in (hT : P.underlying T = some (.map K E)) (hK : P.underlying K = some (.int .i64)) (es : Array MapEntry) (c : Nat) (k : Int) (v : Value) (r i : Nat) (w : World) (hw : w.heap[r]? = some (.map es c))
    (hn : Instr.findNow (.int .i64) (.int .i64 k) es.toList 0 = some (some (i, v))) :
    (Instr.lookup T (.map (some r)) (.int .i64 k) false).run P w = .ok v w := by
  unfold Instr.lookup
  simp [Sem.run_bind, run_underlying hT, MapKept.run_getObj_map hw, run_checkKey_int hK, Instr.findKey, run_underlying hK, hn]
end
end Go.Proofs.YtnklpifnknmdgaaGreatDoor
namespace Go.Proofs.YtnklpifnknmdgaaGreatDoor
open Go Go.RowKit

section
variable {P : Program} {ops : Array Oper} {rest : List Oper} {o : Oper} {a : Act} {w : World} {Q : Exit → Act → World → Prop}
theorem rangeNew {T K E : TypeId} (hT : P.underlying T = some (.map K E)) (m : Operand) (ho : o.op = .range T m) (hgd : o.guard = none) {es : Array MapEntry} {c b : Nat} (hm : a.eval m = .map (some b)) (hb : w.heap[b]? = some (.map es c))
    (h : wpList P ops Q rest (a.put o.dst (.pointer (some ⟨w.heap.size, 0, none⟩))) (w.alloc (.mapIter (some b) c #[] c))) : wpList P ops Q (o :: rest) a w := by
  refine wpList_plain hgd fun _ hK' => ?_
  unfold Oper.wp execOp
  simp only [ho, hm, Sem.run_bind, run_range_map w T K E b es c hT hb, Result.andThen_ok, Sem.run_pure]
  exact hK' _ _ h
def AllSeen (es : Array MapEntry) (seen : Array Nat) : Prop := ∀ x ∈ es.toList, seen.contains x.born = true
def InM (es : Array MapEntry) (e : MapEntry) : Prop := e ∈ es.toList
structure Itr (w : World) (r b : Nat) (es : Array MapEntry) (c : Nat) (seen : Array Nat) : Prop where
  it : w.heap[r]? = some (.mapIter (some b) c seen c)
  mp : w.heap[b]? = some (.map es c)
theorem nextMap (it : Operand) (ho : o.op = .next it false) (hgd : o.guard = none) {r b c : Nat} {es : Array MapEntry} {seen : Array Nat} (hit : a.eval it = .pointer (some ⟨r, 0, none⟩)) (hI : Itr w r b es c seen) (hold : ∀ x ∈ es.toList, x.born < c)
    (hDone : AllSeen es seen → wpList P ops Q rest (a.put o.dst (.tuple #[.bool false])) w)
    (hMore : ∀ e kv vv w', InM es e → e.key = kv → e.val = vv → Itr w' r b es c (seen.push e.born) → w.grownBy w' (some r) → (leftOf es (seen.push e.born)).size < (leftOf es seen).size → wpList P ops Q rest (a.put o.dst (.tuple #[.bool true, kv, vv])) w') : wpList P ops Q (o :: rest) a w := by
  refine wpList_plain hgd fun _ hK' => ?_
  unfold Oper.wp execOp
  have hne : b ≠ r := fun e => by have h1 := hI.it; rw [← e, hI.mp] at h1; cases h1
  rcases run_next_at (P := P) w o.type r b c c seen es c hI.it hI.mp hold (Nat.le_refl _) with ⟨h0, hrun⟩ | ⟨e, he, w1, hal, hrun⟩
  · simp only [ho, hit, Sem.run_bind, hrun, Result.andThen_ok, Sem.run_pure]
    exact hK' _ _ (hDone (all_seen es seen h0))
  · obtain ⟨hem, hes⟩ := mem_left he
    have hr1 : w1.heap[r]? = some (.mapIter (some b) c seen c) := by rcases hal with rfl | rfl <;> exact hI.it
    have hb1 : w1.heap[b]? = some (.map es c) := by rcases hal with rfl | rfl <;> exact hI.mp
    have hset := MapKept.heap_set (o' := .mapIter (some b) c (seen.push e.born) c) hr1
    simp only [ho, hit, Sem.run_bind, hrun, Result.andThen_ok, Sem.run_pure]
    refine hK' _ _ (hMore e _ _ _ hem rfl rfl ⟨hset.1, (hset.2 b hne).trans hb1⟩ ?_ (left_shrinks es seen e he))
    rcases hal with rfl | rfl <;> exact ⟨rfl, rfl, rfl, by simp [ChangeMaps.setBlock], fun i _ hi => hset.2 i (fun e1 => hi (by rw [e1]))⟩
theorem entryMap (it : Operand) (ho : o.op = .entry it) (hgd : o.guard = none) {r b c : Nat} {es : Array MapEntry} {seen : Array Nat} {e : MapEntry} (hit : a.eval it = .pointer (some ⟨r, 0, none⟩)) (hI : Itr w r b es c (seen.push e.born)) (he : e ∈ es.toList) (hn : (es.toList.map (·.born)).Nodup) {kv vv : Value} (hkv : e.key = kv) (hvv : e.val = vv)
    (h : wpList P ops Q rest (a.put o.dst (.tuple #[kv, vv])) w) : wpList P ops Q (o :: rest) a w := by
  refine wpList_plain hgd fun _ hK' => ?_
  unfold Oper.wp execOp
  subst hkv hvv
  simp only [ho, hit, Sem.run_bind, run_entry_at (P := P) w r b c seen es c e hI.it hI.mp he hn, Result.andThen_ok, Sem.run_pure]
  exact hK' _ _ h
end
theorem Itr.grown {w w' : World} {r b : Nat} {es : Array MapEntry} {c : Nat} {seen : Array Nat} (h : Itr w r b es c seen) (hb : Bel w w') : Itr w' r b es c seen := by
  have l1 : r < w.heap.size := (Array.getElem?_eq_some_iff.1 h.it).1
  have l2 : b < w.heap.size := (Array.getElem?_eq_some_iff.1 h.mp).1
  exact ⟨(hb.out.block r l1).trans h.it, (hb.out.block b l2).trans h.mp⟩
theorem Itr.left {w : World} {r b : Nat} {es : Array MapEntry} {c : Nat} {seen : Array Nat} (h : Itr w r b es c seen) : w.rangeLeft b r = (leftOf es seen).size := by simp only [World.rangeLeft, h.it, h.mp]
end Go.Proofs.YtnklpifnknmdgaaGreatDoor
set_option linter.all false
set_option maxRecDepth 100000
namespace Go.Proofs.YtnklpifnknmdgaaGreatDoor
open Go Go.RowKit

end Go.Proofs.YtnklpifnknmdgaaGreatDoor
set_option linter.all false
set_option maxRecDepth 100000
namespace Go.Proofs.YtnklpifnknmdgaaGreatDoor
open Go Go.RowKit

end Go.Proofs.YtnklpifnknmdgaaGreatDoor
namespace Go.Proofs.YtnklpifnknmdgaaGreatDoor
open Go.RowKit

def lineOf (e : Ev) : List UInt8 := if isEv e = true then lineL e else []
def lineErr (e : Ev) : Int := if isEv e = true then 0 else 1
end Go.Proofs.YtnklpifnknmdgaaGreatDoor
namespace Go.Proofs.YtnklpifnknmdgaaGreatDoor
open Go.RowKit

end Go.Proofs.YtnklpifnknmdgaaGreatDoor
set_option linter.all false
set_option maxRecDepth 100000
namespace Go.Proofs.YtnklpifnknmdgaaGreatDoor
open Go Go.RowKit

section
variable {P : Program} {ops : Array Oper} {rest : List Oper} {o : Oper} {a : Act} {w : World} {Q : Exit → Act → World → Prop}
theorem insNew {T K E : TypeId} (hT : P.underlying T = some (.map K E)) (hK : P.underlying K = some (.int .i64)) (m k v : Operand) (ho : o.op = .insert T m k v) (hgd : o.guard = none) {es : Array MapEntry} {c : Nat} {kk : Int} {vv : Value}
    (hm : a.eval m = .map (some w.heap.size)) (hk : a.eval k = .int .i64 kk) (hv : a.eval v = vv) (hn : Instr.findNow (.int .i64) (.int .i64 kk) es.toList 0 = some none)
    (h : wpList P ops Q rest (a.put o.dst undef) (w.alloc (.map (es.push ⟨.int .i64 kk, vv, c⟩) (c + 1)))) : wpList P ops Q (o :: rest) a (w.alloc (.map es c)) := by
  refine wpList_plain hgd fun _ hK' => ?_
  unfold Oper.wp execOp
  simp only [ho, hm, hk, hv, Sem.run_bind, upd_new hT hK es c kk vv w hn, Result.andThen_ok, Sem.run_pure]
  exact hK' _ _ h
end
def notV (wd x : List UInt8) : Array Value := #[.string (str wd), .string (str x)]
def notE (k : Int) (wd x : List UInt8) (b : Nat) : MapEntry := ⟨.int .i64 k, .agg (notV wd x), b⟩
def notA : Array MapEntry := #[notE 1 [114, 101, 97, 100] [120] 0, notE 2 [119, 114, 105, 116, 101] [120] 1, notE 3 [97, 99, 113, 117, 105, 114, 101] [109] 2, notE 4 [114, 101, 108, 101, 97, 115, 101] [109] 3,
  notE 5 [102, 111, 114, 107] [116] 4, notE 6 [106, 111, 105, 110] [116] 5, notE 7 [115, 101, 101] [118] 6, notE 8 [115, 104, 111, 119] [118] 7]
theorem notA_mem {e : MapEntry} (h : e ∈ notA.toList) : ∃ k wd x b, e = notE k wd x b ∧ kindW wd = k ∧ 1 ≤ k ∧ k ≤ 8 := by
  simp only [notA, List.mem_cons, List.not_mem_nil, or_false] at h
  rcases h with rfl | rfl | rfl | rfl | rfl | rfl | rfl | rfl <;> exact ⟨_, _, _, _, rfl, by decide, by omega, by omega⟩
theorem notA_born : (notA.toList.map (·.born)).Nodup := by decide
theorem notA_old : ∀ x ∈ notA.toList, x.born < 8 := by
  intro x h
  simp only [notA, List.mem_cons, List.not_mem_nil, or_false] at h
  rcases h with rfl | rfl | rfl | rfl | rfl | rfl | rfl | rfl <;> (simp only [notE]; omega)
def NotYet (word : List UInt8) (seen : Array Nat) : Prop := ∀ k wd x b, notE k wd x b ∈ notA.toList → seen.contains b = true → wd ≠ word
theorem NotYet.none (word : List UInt8) : NotYet word #[] := fun _ _ _ _ _ h => by simp at h
theorem NotYet.push {word : List UInt8} {seen : Array Nat} (h : NotYet word seen) {k : Int} {wd x : List UInt8} {b : Nat} (he : notE k wd x b ∈ notA.toList) (hne : wd ≠ word) : NotYet word (seen.push b) := fun k' wd' x' b' he' hs => by
  rw [contains_push, Bool.or_eq_true] at hs
  rcases hs with h1 | h1
  · exact h k' wd' x' b' he' h1
  · have hb : b' = b := by simpa using h1
    subst hb
    have : notE k' wd' x' b' = notE k wd x b' := born_inj notA_born he' he rfl
    simp only [notE, notV, MapEntry.mk.injEq, Value.agg.injEq] at this
    have h2 := this.2.1
    simp only [Array.mk.injEq, List.cons.injEq, Value.string.injEq] at h2
    rw [str_inj h2.1]
    exact hne
theorem NotYet.all {word : List UInt8} {seen : Array Nat} (h : NotYet word seen) (hs : ∀ x ∈ notA.toList, seen.contains x.born = true) : kindW word = 0 := by
  have g : ∀ k wd x b, notE k wd x b ∈ notA.toList → wd ≠ word := fun k wd x b he => h k wd x b he (hs _ he)
  have g1 := g 1 [114, 101, 97, 100] [120] 0 (by simp [notA])
  have g2 := g 2 [119, 114, 105, 116, 101] [120] 1 (by simp [notA])
  have g3 := g 3 [97, 99, 113, 117, 105, 114, 101] [109] 2 (by simp [notA])
  have g4 := g 4 [114, 101, 108, 101, 97, 115, 101] [109] 3 (by simp [notA])
  have g5 := g 5 [102, 111, 114, 107] [116] 4 (by simp [notA])
  have g6 := g 6 [106, 111, 105, 110] [116] 5 (by simp [notA])
  have g7 := g 7 [115, 101, 101] [118] 6 (by simp [notA])
  have g8 := g 8 [115, 104, 111, 119] [118] 7 (by simp [notA])
  unfold kindW
  rw [if_neg (Ne.symm g1), if_neg (Ne.symm g2), if_neg (Ne.symm g3), if_neg (Ne.symm g4), if_neg (Ne.symm g5), if_neg (Ne.symm g6), if_neg (Ne.symm g7), if_neg (Ne.symm g8)]
theorem TNo : RowTy Tryz.prog 251 2 := ⟨_, Tryz.underlying251, rfl, by kernel_rfl⟩
set_option maxHeartbeats 2000000 in
theorem notations_any (w : World) : Calls Tryz.prog 182 #[] w fun e w' => e = .returned (.map (some w.heap.size)) ∧ w' = w.alloc (.map notA 8) := by
  have hmm := @run_makeMap Tryz.prog
  go_enter Tryz.func182, Tryz.ntmps182
  go_wp2_with (refine insNew Tryz.underlying248 Tryz.underlying3 _ _ _ rfl rfl rfl rfl rfl rfl ?_)
  go_ret
  exact ⟨rfl, rfl⟩
def KRel (word : List UInt8) (w : World) (wr : World) : Prop := ∃ seen, Itr wr (w.heap.size + 1) w.heap.size notA 8 seen ∧ NotYet word seen ∧ Below w.heap.size w wr
set_option maxHeartbeats 4000000 in
theorem kindOf_any (s : List UInt8) (w : World) : Calls Tryz.prog 157 #[.string (str s)] w fun e w' => e = .returned (.int .i64 (kindW s)) ∧ Below w.heap.size w w' := by
  have HI0 := Lib.hid (show Itr ((w.alloc (.map notA 8)).alloc (.mapIter (some w.heap.size) 8 #[] 8)) (w.heap.size + 1) w.heap.size notA 8 #[] from ⟨by simpa using heap_alloc_new (w.alloc (.map notA 8)) _, (heap_alloc_old _ _ (by simp)).trans (heap_alloc_new w _)⟩)
  have HB0 := Lib.hid (show Below w.heap.size w ((w.alloc (.map notA 8)).alloc (.mapIter (some w.heap.size) 8 #[] 8)) from ((Below.refl _ _).alloc (Nat.le_refl _) _).alloc (by simp) _)
  have HM := Lib.hid (show (w.alloc (.map notA 8)).heap[w.heap.size]? = some (.map notA 8) from heap_alloc_new w _)
  have hsz : (w.alloc (.map notA 8)).heap.size = w.heap.size + 1 := by simp
  have HS := Lib.hid hsz
  clear hsz
  go_enter Tryz.func157, Tryz.ntmps157
  go_wp2_with fail
  refine (notations_any _).mono ?_
  rintro e w1 ⟨rfl, rfl⟩
  go_wp2_with (refine rangeNew Tryz.underlying248 _ rfl rfl rfl HM.out ?_)
  go_frame
  rw [HS.out]
  go_loopw [7] (fun _ wr => KRel s w wr) (fun _ wr => wr.rangeLeft w.heap.size (w.heap.size + 1))
  case atStart => exact ⟨#[], HI0.out, NotYet.none s, HB0.out⟩
  case round =>
    obtain ⟨seen, hI, hN, hB⟩ := hrel
    have HI := Lib.hid hI
    have HN := Lib.hid hN
    have HB := Lib.hid hB
    clear hI hN hB
    go_wp2_with (refine nextMap _ rfl rfl rfl HI.out notA_old ?_ ?_)
    · intro hall
      have HK := Lib.hid (HN.out.all hall)
      clear hall
      go_wp2
      go_ret
      exact ⟨by rw [HK.out]; rfl, HB.out⟩
    · intro e kv vv w2 he hkv hvv hI2 hg hlt
      obtain ⟨k, wd, x, b, rfl, hk, _, _⟩ := notA_mem he
      obtain rfl : Value.int .i64 k = kv := hkv
      obtain rfl : Value.agg #[.string (str wd), .string (str x)] = vv := hvv
      have HE := Lib.hid he
      have HI2 := Lib.hid hI2
      have HL := Lib.hid hlt
      have HB2 := Lib.hid (HB.out.grown hg HB.out.size (by intro j hj; cases hj; omega))
      have HKW := Lib.hid hk
      have hbq := str_beq wd s
      clear he hI2 hlt hg hk
      cases hd : decide (wd = s)
      · rw [hd] at hbq
        have HNE := Lib.hid (of_decide_eq_false hd)
        clear hd
        go_wp2_with (first | (refine entryMap _ rfl rfl rfl HI2.out HE.out notA_born (kv := .int .i64 k) (vv := .agg #[.string (str wd), .string (str x)]) rfl rfl ?_) | (refine storeNew _ _ _ rfl rfl rfl rfl rfl TNo rfl ?_))
        go_roundw
        case rel => exact ⟨_, HI2.out.grown (Bel.alloc (Bel.refl _) _), HN.out.push HE.out HNE.out, HB2.out.alloc HB2.out.size _⟩
        case measure =>
          rw [(HI2.out.grown (Bel.alloc (Bel.refl _) _)).left, HI.out.left]; exact HL.out
      · rw [hd] at hbq
        have HEQ := Lib.hid (of_decide_eq_true hd)
        clear hd
        go_wp2_with (first | (refine entryMap _ rfl rfl rfl HI2.out HE.out notA_born (kv := .int .i64 k) (vv := .agg #[.string (str wd), .string (str x)]) rfl rfl ?_) | (refine storeNew _ _ _ rfl rfl rfl rfl rfl TNo rfl ?_))
        go_ret
        exact ⟨by rw [← HEQ.out, HKW.out]; rfl, HB2.out.alloc HB2.out.size _⟩
end Go.Proofs.YtnklpifnknmdgaaGreatDoor

/- Contracts of the words of kinds, kept in a map: notations, kindOf. -/
import Derived.Test.YtbkmkeaabcgifaaGreatDoorRows
import Derived.Test.YtbkmkeaabcgifaaGreatDoorMapInt
import Derived.Test.YtbkmkeaabcgifaaGreatDoorTx
import Derived.Test.YtbkmkeaabcgifaaGreatDoorRefTx
import Derived.WalkKit
import Derived.WalkSpells
import Derived.WalkLawsBesides
import Derived.Lib.Hide
import Derived.Maps.RangeRun
import Derived.Maps.Range
import Derived.Maps.RangeWalk
set_option linter.all false
set_option maxRecDepth 100000
namespace Go.Proofs.YtbkmkeaabcgifaaGreatDoor
open Go Go.RowKit

section
variable {P : Program} {ops : Array Oper} {rest : List Oper} {o : Oper} {a : Act} {w : World} {Q : Exit → Act → World → Prop}
/-- A new key of an int's kind, laid into the map that was made last. -/
theorem insNew {T K E : TypeId} (hT : P.underlying T = some (.map K E)) (hK : P.underlying K = some (.int .i64)) (m k v : Operand) (ho : o.op = .insert T m k v) (hgd : o.guard = none) {es : Array MapEntry} {c : Nat} {kk : Int} {vv : Value}
    (hm : a.eval m = .map (some w.heap.size)) (hk : a.eval k = .int .i64 kk) (hv : a.eval v = vv) (hn : Instr.findNow (.int .i64) (.int .i64 kk) es.toList 0 = some none)
    (h : wpList P ops Q rest (a.put o.dst undef) (w.alloc (.map (es.push ⟨.int .i64 kk, vv, c⟩) (c + 1)))) : wpList P ops Q (o :: rest) a (w.alloc (.map es c)) := by
  refine wpList_plain hgd fun _ hK' => ?_
  unfold Oper.wp execOp
  simp only [ho, hm, hk, hv, Sem.run_bind, upd_new hT hK es c kk vv w hn, Result.andThen_ok, Sem.run_pure]
  exact hK' _ _ h
end
def notV (wd x : List UInt8) : Array Value := #[.string (str wd), .string (str x)]
def notE (k : Int) (wd x : List UInt8) (b : Nat) : MapEntry := ⟨.int .i64 k, .agg (notV wd x), b⟩
def notA : Array MapEntry := #[notE 1 [114, 101, 97, 100] [120] 0, notE 2 [119, 114, 105, 116, 101] [120] 1, notE 3 [97, 99, 113, 117, 105, 114, 101] [109] 2, notE 4 [114, 101, 108, 101, 97, 115, 101] [109] 3,
  notE 5 [102, 111, 114, 107] [116] 4, notE 6 [106, 111, 105, 110] [116] 5, notE 7 [115, 101, 101] [118] 6, notE 8 [115, 104, 111, 119] [118] 7]
theorem notA_mem {e : MapEntry} (h : e ∈ notA.toList) : ∃ k wd x b, e = notE k wd x b ∧ kindW wd = k ∧ 1 ≤ k ∧ k ≤ 8 := by
  simp only [notA, List.mem_cons, List.not_mem_nil, or_false] at h
  rcases h with rfl | rfl | rfl | rfl | rfl | rfl | rfl | rfl <;> exact ⟨_, _, _, _, rfl, by decide, by omega, by omega⟩
theorem notA_born : (notA.toList.map (·.born)).Nodup := by decide
theorem notA_old : ∀ x ∈ notA.toList, x.born < 8 := by
  intro x h
  simp only [notA, List.mem_cons, List.not_mem_nil, or_false] at h
  rcases h with rfl | rfl | rfl | rfl | rfl | rfl | rfl | rfl <;> (simp only [notE]; omega)
/-- No word that came is this one. -/
def NotYet (word : List UInt8) (seen : Array Nat) : Prop := ∀ k wd x b, notE k wd x b ∈ notA.toList → seen.contains b = true → wd ≠ word
theorem NotYet.none (word : List UInt8) : NotYet word #[] := fun _ _ _ _ _ h => by simp at h
theorem NotYet.push {word : List UInt8} {seen : Array Nat} (h : NotYet word seen) {k : Int} {wd x : List UInt8} {b : Nat} (he : notE k wd x b ∈ notA.toList) (hne : wd ≠ word) : NotYet word (seen.push b) := fun k' wd' x' b' he' hs => by
  rw [contains_push, Bool.or_eq_true] at hs
  rcases hs with h1 | h1
  · exact h k' wd' x' b' he' h1
  · have hb : b' = b := by simpa using h1
    subst hb
    have : notE k' wd' x' b' = notE k wd x b' := born_inj notA_born he' he rfl
    simp only [notE, notV, MapEntry.mk.injEq, Value.agg.injEq] at this
    have h2 := this.2.1
    simp only [Array.mk.injEq, List.cons.injEq, Value.string.injEq] at h2
    rw [str_inj h2.1]
    exact hne
theorem NotYet.all {word : List UInt8} {seen : Array Nat} (h : NotYet word seen) (hs : ∀ x ∈ notA.toList, seen.contains x.born = true) : kindW word = 0 := by
  have g : ∀ k wd x b, notE k wd x b ∈ notA.toList → wd ≠ word := fun k wd x b he => h k wd x b he (hs _ he)
  have g1 := g 1 [114, 101, 97, 100] [120] 0 (by simp [notA])
  have g2 := g 2 [119, 114, 105, 116, 101] [120] 1 (by simp [notA])
  have g3 := g 3 [97, 99, 113, 117, 105, 114, 101] [109] 2 (by simp [notA])
  have g4 := g 4 [114, 101, 108, 101, 97, 115, 101] [109] 3 (by simp [notA])
  have g5 := g 5 [102, 111, 114, 107] [116] 4 (by simp [notA])
  have g6 := g 6 [106, 111, 105, 110] [116] 5 (by simp [notA])
  have g7 := g 7 [115, 101, 101] [118] 6 (by simp [notA])
  have g8 := g 8 [115, 104, 111, 119] [118] 7 (by simp [notA])
  unfold kindW
  rw [if_neg (Ne.symm g1), if_neg (Ne.symm g2), if_neg (Ne.symm g3), if_neg (Ne.symm g4), if_neg (Ne.symm g5), if_neg (Ne.symm g6), if_neg (Ne.symm g7), if_neg (Ne.symm g8)]
theorem TNo : RowTy Tryz.prog 85 2 := ⟨_, Tryz.underlying85, rfl, by kernel_rfl⟩
set_option maxHeartbeats 2000000 in
theorem notations_any (w : World) : Calls Tryz.prog 31 #[] w fun e w' => e = .returned (.map (some w.heap.size)) ∧ w' = w.alloc (.map notA 8) := by
  have hmm := @run_makeMap Tryz.prog
  go_enter Tryz.func31, Tryz.ntmps31
  go_wp2_with (refine insNew Tryz.underlying86 Tryz.underlying3 _ _ _ rfl rfl rfl rfl rfl rfl ?_)
  go_ret
  exact ⟨rfl, rfl⟩
def KRel (word : List UInt8) (w : World) (wr : World) : Prop := ∃ seen, Itr wr (w.heap.size + 1) w.heap.size notA 8 seen ∧ NotYet word seen ∧ Below w.heap.size w wr
set_option maxHeartbeats 4000000 in
theorem kindOf_any (s : List UInt8) (w : World) : Calls Tryz.prog 54 #[.string (str s)] w fun e w' => e = .returned (.int .i64 (kindW s)) ∧ Below w.heap.size w w' := by
  have HI0 := Lib.hid (show Itr ((w.alloc (.map notA 8)).alloc (.mapIter (some w.heap.size) 8 #[] 8)) (w.heap.size + 1) w.heap.size notA 8 #[] from ⟨by simpa using heap_alloc_new (w.alloc (.map notA 8)) _, (heap_alloc_old _ _ (by simp)).trans (heap_alloc_new w _)⟩)
  have HB0 := Lib.hid (show Below w.heap.size w ((w.alloc (.map notA 8)).alloc (.mapIter (some w.heap.size) 8 #[] 8)) from ((Below.refl _ _).alloc (Nat.le_refl _) _).alloc (by simp) _)
  have HM := Lib.hid (show (w.alloc (.map notA 8)).heap[w.heap.size]? = some (.map notA 8) from heap_alloc_new w _)
  have hsz : (w.alloc (.map notA 8)).heap.size = w.heap.size + 1 := by simp
  have HS := Lib.hid hsz
  clear hsz
  go_enter Tryz.func54, Tryz.ntmps54
  go_wp2_with fail
  refine (notations_any _).mono ?_
  rintro e w1 ⟨rfl, rfl⟩
  go_wp2_with (refine rangeNew Tryz.underlying86 _ rfl rfl rfl HM.out ?_)
  go_frame
  rw [HS.out]
  go_loopw [7] (fun _ wr => KRel s w wr) (fun _ wr => wr.rangeLeft w.heap.size (w.heap.size + 1))
  case atStart => exact ⟨#[], HI0.out, NotYet.none s, HB0.out⟩
  case round =>
    obtain ⟨seen, hI, hN, hB⟩ := hrel
    have HI := Lib.hid hI
    have HN := Lib.hid hN
    have HB := Lib.hid hB
    clear hI hN hB
    go_wp2_with (refine nextMap _ rfl rfl rfl HI.out notA_old ?_ ?_)
    · intro hall
      have HK := Lib.hid (HN.out.all hall)
      clear hall
      go_wp2
      go_ret
      exact ⟨by rw [HK.out]; rfl, HB.out⟩
    · intro e kv vv w2 he hkv hvv hI2 hg hlt
      obtain ⟨k, wd, x, b, rfl, hk, _, _⟩ := notA_mem he
      obtain rfl : Value.int .i64 k = kv := hkv
      obtain rfl : Value.agg #[.string (str wd), .string (str x)] = vv := hvv
      have HE := Lib.hid he
      have HI2 := Lib.hid hI2
      have HL := Lib.hid hlt
      have HB2 := Lib.hid (HB.out.grown hg HB.out.size (by intro j hj; cases hj; omega))
      have HKW := Lib.hid hk
      have hbq := str_beq wd s
      clear he hI2 hlt hg hk
      cases hd : decide (wd = s)
      · rw [hd] at hbq
        have HNE := Lib.hid (of_decide_eq_false hd)
        clear hd
        go_wp2_with (first | (refine entryMap _ rfl rfl rfl HI2.out HE.out notA_born (kv := .int .i64 k) (vv := .agg #[.string (str wd), .string (str x)]) rfl rfl ?_) | (refine storeNew _ _ _ rfl rfl rfl rfl rfl TNo rfl ?_))
        go_roundw
        case rel => exact ⟨_, HI2.out.grown (Bel.alloc (Bel.refl _) _), HN.out.push HE.out HNE.out, HB2.out.alloc HB2.out.size _⟩
        case measure =>
          rw [(HI2.out.grown (Bel.alloc (Bel.refl _) _)).left, HI.out.left]; exact HL.out
      · rw [hd] at hbq
        have HEQ := Lib.hid (of_decide_eq_true hd)
        clear hd
        go_wp2_with (first | (refine entryMap _ rfl rfl rfl HI2.out HE.out notA_born (kv := .int .i64 k) (vv := .agg #[.string (str wd), .string (str x)]) rfl rfl ?_) | (refine storeNew _ _ _ rfl rfl rfl rfl rfl TNo rfl ?_))
        go_ret
        exact ⟨by rw [← HEQ.out, HKW.out]; rfl, HB2.out.alloc HB2.out.size _⟩
end Go.Proofs.YtbkmkeaabcgifaaGreatDoor

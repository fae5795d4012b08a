/- A map from numbers to rows of numbers that the call makes: to each b the numbers told to come before it. -/
import Derived.Test.YtdgoeibaekkhmaaPr
import Derived.Test.YtdgoeibaekkhmaaMapInt
import Derived.Test.YtdgoeibaekkhmaaEqInt
import Derived.Test.YtdgoeibaekkhmaaAppend
set_option linter.all false
set_option maxRecDepth 100000
namespace Go.Proofs.Ytdgoeibaekkhmaa
open Go Go.RowKit

def il (l : List Nat) : List Value := l.map fun (x : Nat) => Value.int .i64 (x : Int)
theorem il_length (l : List Nat) : (il l).length = l.length := by simp [il]
theorem il_app (l m : List Nat) : il (l ++ m) = il l ++ il m := by simp [il]
def rE (vs : Nat → Value) (b k : Nat) : MapEntry := ⟨.int .i64 b, vs b, k⟩
def rEs (vs : Nat → Value) : Nat → List Nat → List MapEntry
  | _, [] => []
  | k, b :: ks => rE vs b k :: rEs vs (k + 1) ks
def rM (vs : Nat → Value) (ks : List Nat) : Array MapEntry := (rEs vs 0 ks).toArray
theorem rEs_len (vs : Nat → Value) : ∀ (ks : List Nat) (k : Nat), (rEs vs k ks).length = ks.length
  | [], _ => rfl
  | _ :: ks, k => by simp [rEs, rEs_len vs ks (k + 1)]
theorem rEs_snoc (vs : Nat → Value) (b : Nat) : ∀ (ks : List Nat) (k : Nat), rEs vs k (ks ++ [b]) = rEs vs k ks ++ [rE vs b (k + ks.length)]
  | [], k => rfl
  | c :: ks, k => by simp only [List.cons_append, rEs, rEs_snoc vs b ks (k + 1), List.length_cons]; rw [show k + 1 + ks.length = k + (ks.length + 1) by omega]
theorem rEs_congr {vs vs' : Nat → Value} : ∀ {ks : List Nat} {k : Nat}, (∀ b ∈ ks, vs b = vs' b) → rEs vs k ks = rEs vs' k ks
  | [], _, _ => rfl
  | c :: ks, k, h => by simp only [rEs, rE]; rw [h c (by simp), rEs_congr fun b hb => h b (by simp [hb])]
def updV (vs : Nat → Value) (b : Nat) (v : Value) : Nat → Value := fun x => if x = b then v else vs x
theorem findNow_cons (vs : Nat → Value) (b c : Nat) (ks : List Nat) (k i : Nat) : Instr.findNow (.int .i64) (.int .i64 b) (rEs vs k (c :: ks)) i = if b = c then some (some (i, vs c)) else Instr.findNow (.int .i64) (.int .i64 b) (rEs vs (k + 1) ks) (i + 1) := by
  show (match some ((b : Int) == (c : Int)) with | some true => some (some (i, vs c)) | some false => Instr.findNow (.int .i64) (.int .i64 b) (rEs vs (k + 1) ks) (i + 1) | none => none) = _
  by_cases h : b = c
  · subst h; simp
  · have h2 : ((b : Int) == (c : Int)) = false := by rw [beq_eq_false_iff_ne]; omega
    rw [h2, if_neg h]
theorem find_none (vs : Nat → Value) (b : Nat) : ∀ (ks : List Nat) (k i : Nat), b ∉ ks → Instr.findNow (.int .i64) (.int .i64 b) (rEs vs k ks) i = some none
  | [], _, _, _ => rfl
  | c :: ks, k, i, h => by
    have h1 : b ≠ c := fun e => h (by simp [e])
    rw [findNow_cons, if_neg h1]
    exact find_none vs b ks (k + 1) (i + 1) fun hh => h (by simp [hh])
theorem find_some (vs : Nat → Value) (b : Nat) : ∀ (ks : List Nat) (k i : Nat), b ∈ ks → ks.Nodup → ∃ j, Instr.findNow (.int .i64) (.int .i64 b) (rEs vs k ks) i = some (some (i + j, vs b)) ∧ (rEs vs k ks)[j]?.map (·.key) = some (.int .i64 b) ∧
    ∀ v : Value, (rEs vs k ks).modify j (fun e => { e with key := .int .i64 b, val := v }) = rEs (updV vs b v) k ks
  | [], _, _, h, _ => by cases h
  | c :: ks, k, i, h, hn => by
    have hn' := List.nodup_cons.1 hn
    by_cases h1 : b = c
    · subst h1
      refine ⟨0, by rw [findNow_cons, if_pos rfl]; rfl, rfl, fun v => ?_⟩
      simp only [rEs, rE, List.modify_zero_cons]
      have : updV vs b v b = v := by simp [updV]
      rw [this, rEs_congr (vs := vs) (vs' := updV vs b v)]
      intro x hx
      have : x ≠ b := fun e => hn'.1 (e ▸ hx)
      simp [updV, this]
    · obtain ⟨j, hj, hk, hm⟩ := find_some vs b ks (k + 1) (i + 1) (by simpa [h1] using h) hn'.2
      refine ⟨j + 1, ?_, ?_, fun v => ?_⟩
      · rw [findNow_cons, if_neg h1, hj, show i + 1 + j = i + (j + 1) by omega]
      · simpa [rEs] using hk
      · simp only [rEs, rE, List.modify_succ_cons, hm v]
        have : updV vs b v c = vs c := by simp [updV, Ne.symm h1]
        rw [this]
/-- Block M holds the map that has the keys ks, each with its value. -/
def MapR (w : World) (M : Nat) (ks : List Nat) (vs : Nat → Value) : Prop := w.heap[M]? = some (.map (rM vs ks) ks.length)
theorem MapR.lt {w : World} {M : Nat} {ks : List Nat} {vs : Nat → Value} (h : MapR w M ks vs) : M < w.heap.size := (Array.getElem?_eq_some_iff.1 h).1
theorem MapR.bel {w w' : World} {M : Nat} {ks : List Nat} {vs : Nat → Value} (h : MapR w M ks vs) (hb : Bel w w') : MapR w' M ks vs := (hb.out.block M h.lt).trans h
theorem zero_row (w : World) : (zeroValue 34).run Try.prog w = .ok (.slice none 0 0) w := by kernel_rfl
theorem run_look_row {w : World} {M : Nat} {ks : List Nat} {vs : Nat → Value} (h : MapR w M ks vs) (hn : ks.Nodup) (hz : ∀ b, b ∉ ks → vs b = .slice none 0 0) (b : Nat) :
    (Instr.lookup 56 (.map (some M)) (.int .i64 b) false).run Try.prog w = .ok (vs b) w := by
  have hl : (rM vs ks).toList = rEs vs 0 ks := by simp [rM]
  unfold Instr.lookup
  by_cases hb : b ∈ ks
  · obtain ⟨j, hj, _, _⟩ := find_some vs b ks 0 0 hb hn
    simp only [Sem.run_bind, run_underlying Try.underlying56, Result.andThen_ok, MapKept.run_getObj_map h, run_checkKey_int Try.underlying3, Instr.findKey, run_underlying Try.underlying3, hl, hj, Sem.run_pure]
    rfl
  · have hj := find_none vs b ks 0 0 hb
    rw [hz b hb]
    simp only [Sem.run_bind, run_underlying Try.underlying56, Result.andThen_ok, MapKept.run_getObj_map h, run_checkKey_int Try.underlying3, Instr.findKey, run_underlying Try.underlying3, hl, hj, Sem.run_pure, zero_row]
    rfl
def rset (w : World) (M : Nat) (ks : List Nat) (vs : Nat → Value) : World := { w with heap := w.heap.setIfInBounds M (.map (rM vs ks) ks.length) }
theorem rset_map {w : World} {M : Nat} (ks : List Nat) (vs : Nat → Value) (h : M < w.heap.size) : MapR (rset w M ks vs) M ks vs := by simp [MapR, rset, h]
theorem rset_other (w : World) (M : Nat) (ks : List Nat) (vs : Nat → Value) {k : Nat} (h : k ≠ M) : (rset w M ks vs).heap[k]? = w.heap[k]? := by simp [rset, Ne.symm h]
theorem rset_size (w : World) (M : Nat) (ks : List Nat) (vs : Nat → Value) : (rset w M ks vs).heap.size = w.heap.size := by simp [rset]
theorem below_rset {N : Nat} {w w' : World} (h : Below N w w') {M : Nat} (hM : N ≤ M) (ks : List Nat) (vs : Nat → Value) : Below N w (rset w' M ks vs) :=
  h.trans ⟨rfl, rfl, rfl, by simp [rset], fun k hk => rset_other w' M ks vs (by omega)⟩
/-- The keys behind a store. -/
def addK (ks : List Nat) (b : Nat) : List Nat := if b ∈ ks then ks else ks ++ [b]
theorem run_upd_row {w : World} {M : Nat} {ks : List Nat} {vs : Nat → Value} (h : MapR w M ks vs) (hn : ks.Nodup) (b : Nat) (v : Value) :
    (Instr.mapUpdate 56 (.map (some M)) (.int .i64 b) v).run Try.prog w = .ok () (rset w M (addK ks b) (updV vs b v)) := by
  have hl : (rM vs ks).toList = rEs vs 0 ks := by simp [rM]
  unfold Instr.mapUpdate
  by_cases hb : b ∈ ks
  · obtain ⟨j, hj, hkey, hm⟩ := find_some vs b ks 0 0 hb hn
    have hkey' : (rM vs ks)[j]?.map (·.key) = some (.int .i64 b) := by rw [← hkey]; simp [rM]
    have hst : ∀ w, (Instr.keyThatStays (.int .i64 b) (.int .i64 b)).run Try.prog w = .ok (.int .i64 b) w := fun w => by
      unfold Instr.keyThatStays
      rw [if_pos (by simp [Instr.sameBits])]
      rfl
    have e : (rM vs ks).modify j (fun e => { e with key := .int .i64 b, val := v }) = rM (updV vs b v) ks := by
      unfold rM; rw [List.modify_toArray, hm v]
    simp only [Sem.run_bind, run_underlying Try.underlying56, MapKept.run_getObj_map h, Result.andThen_ok, run_checkKey_int Try.underlying3, Instr.findKey, run_underlying Try.underlying3, hl, hj, Sem.run_pure, Nat.zero_add, hkey', Option.getD_some, hst]
    rw [show addK ks b = ks by unfold addK; rw [if_pos hb]]
    unfold rset
    rw [← e]
    exact MapKept.run_setObj_map _ h
  · have hj := find_none vs b ks 0 0 hb
    have e : (rM vs ks).push ⟨.int .i64 b, v, ks.length⟩ = rM (updV vs b v) (ks ++ [b]) := by
      unfold rM
      rw [rEs_snoc, rEs_congr (vs := updV vs b v) (vs' := vs) (fun x hx => by have : x ≠ b := fun e => hb (e ▸ hx); simp [updV, this])]
      simp [rE, updV]
    simp only [Sem.run_bind, run_underlying Try.underlying56, MapKept.run_getObj_map h, Result.andThen_ok, run_checkKey_int Try.underlying3, Instr.findKey, run_underlying Try.underlying3, hl, hj, Sem.run_pure, MapKept.run_setObj_map _ h]
    rw [show addK ks b = ks ++ [b] by unfold addK; rw [if_neg hb], e]
    unfold rset
    rw [List.length_append, List.length_singleton]
end Go.Proofs.Ytdgoeibaekkhmaa

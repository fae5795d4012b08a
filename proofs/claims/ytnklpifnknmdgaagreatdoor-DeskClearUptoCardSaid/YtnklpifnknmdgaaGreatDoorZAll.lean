import Derived.Test.YtnklpifnknmdgaaGreatDoorShelf
import Derived.Test.YtnklpifnknmdgaaGreatDoorZBs
import Derived.Test.YtnklpifnknmdgaaGreatDoorZNota
import Derived.Test.YtnklpifnknmdgaaGreatDoorZAcP
import Derived.Test.YtnklpifnknmdgaaGreatDoorZTr
import Derived.Test.YtnklpifnknmdgaaGreatDoorZRgS
import Derived.Test.YtnklpifnknmdgaaGreatDoorZGu
import Derived.Test.YtnklpifnknmdgaaGreatDoorZGrow
import Derived.Test.YtnklpifnknmdgaaGreatDoorZTrace4
set_option linter.all false
set_option maxRecDepth 100000
namespace Go.Proofs.YtnklpifnknmdgaaGreatDoor
open Go Go.RowKit

end Go.Proofs.YtnklpifnknmdgaaGreatDoor
namespace Go.Proofs.YtnklpifnknmdgaaGreatDoor
open Go Go.RowKit

theorem mem_bef (l : List Ev) (a b : Nat) : decide ((a, b) ∈ prsA (bef l) l.length) = bef l a b := by
  rw [Bool.eq_iff_iff, decide_eq_true_iff, mem_prsA]
  exact ⟨fun h => h.2.2, fun h => ⟨by have := bef_lt h; omega, (bef_lt h).2, h⟩⟩
end Go.Proofs.YtnklpifnknmdgaaGreatDoor
namespace Go.Proofs.YtnklpifnknmdgaaGreatDoor
open Go Go.RowKit

def il (l : List Nat) : List Value := l.map fun (x : Nat) => Value.int .i64 (x : Int)
theorem il_app (l m : List Nat) : il (l ++ m) = il l ++ il m := by simp [il]
def rE (vs : Nat → Value) (b k : Nat) : MapEntry := ⟨.int .i64 b, vs b, k⟩
def rEs (vs : Nat → Value) : Nat → List Nat → List MapEntry
  | _, [] => []
  | k, b :: ks => rE vs b k :: rEs vs (k + 1) ks
def rM (vs : Nat → Value) (ks : List Nat) : Array MapEntry := (rEs vs 0 ks).toArray
theorem rEs_snoc (vs : Nat → Value) (b : Nat) : ∀ (ks : List Nat) (k : Nat), rEs vs k (ks ++ [b]) = rEs vs k ks ++ [rE vs b (k + ks.length)]
  | [], k => rfl
  | c :: ks, k => by simp only [List.cons_append, rEs, rEs_snoc vs b ks (k + 1), List.length_cons]; rw [show k + 1 + ks.length = k + (ks.length + 1) by omega]
theorem rEs_congr {vs vs' : Nat → Value} : ∀ {ks : List Nat} {k : Nat}, (∀ b ∈ ks, vs b = vs' b) → rEs vs k ks = rEs vs' k ks
  | [], _, _ => rfl
  | c :: ks, k, h => by simp only [rEs, rE]; rw [h c (by simp), rEs_congr fun b hb => h b (by simp [hb])]
def updV (vs : Nat → Value) (b : Nat) (v : Value) : Nat → Value := fun x => if x = b then v else vs x
theorem findNow_cons (vs : Nat → Value) (b c : Nat) (ks : List Nat) (k i : Nat) : Instr.findNow (.int .i64) (.int .i64 b) (rEs vs k (c :: ks)) i = if b = c then some (some (i, vs c)) else Instr.findNow (.int .i64) (.int .i64 b) (rEs vs (k + 1) ks) (i + 1) := by
  show (match some ((b : Int) == (c : Int)) with | some true => some (some (i, vs c)) | some false => Instr.findNow (.int .i64) (.int .i64 b) (rEs vs (k + 1) ks) (i + 1) | none => none) = _
  by_cases h : b = c
  · subst h; simp
  · have h2 : ((b : Int) == (c : Int)) = false := by rw [beq_eq_false_iff_ne]; omega
    rw [h2, if_neg h]
theorem pfind_none (vs : Nat → Value) (b : Nat) : ∀ (ks : List Nat) (k i : Nat), b ∉ ks → Instr.findNow (.int .i64) (.int .i64 b) (rEs vs k ks) i = some none
  | [], _, _, _ => rfl
  | c :: ks, k, i, h => by
    have h1 : b ≠ c := fun e => h (by simp [e])
    rw [findNow_cons, if_neg h1]
    exact pfind_none vs b ks (k + 1) (i + 1) fun hh => h (by simp [hh])
theorem find_some (vs : Nat → Value) (b : Nat) : ∀ (ks : List Nat) (k i : Nat), b ∈ ks → ks.Nodup → ∃ j, Instr.findNow (.int .i64) (.int .i64 b) (rEs vs k ks) i = some (some (i + j, vs b)) ∧ (rEs vs k ks)[j]?.map (·.key) = some (.int .i64 b) ∧
    ∀ v : Value, (rEs vs k ks).modify j (fun e => { e with key := .int .i64 b, val := v }) = rEs (updV vs b v) k ks
  | [], _, _, h, _ => by cases h
  | c :: ks, k, i, h, hn => by
    have hn' := List.nodup_cons.1 hn
    by_cases h1 : b = c
    · subst h1
      refine ⟨0, by rw [findNow_cons, if_pos rfl]; rfl, rfl, fun v => ?_⟩
      simp only [rEs, rE, List.modify_zero_cons]
      have : updV vs b v b = v := by simp [updV]
      rw [this, rEs_congr (vs := vs) (vs' := updV vs b v)]
      intro x hx
      have : x ≠ b := fun e => hn'.1 (e ▸ hx)
      simp [updV, this]
    · obtain ⟨j, hj, hk, hm⟩ := find_some vs b ks (k + 1) (i + 1) (by simpa [h1] using h) hn'.2
      refine ⟨j + 1, ?_, ?_, fun v => ?_⟩
      · rw [findNow_cons, if_neg h1, hj, show i + 1 + j = i + (j + 1) by omega]
      · simpa [rEs] using hk
      · simp only [rEs, rE, List.modify_succ_cons, hm v]
        have : updV vs b v c = vs c := by simp [updV, Ne.symm h1]
        rw [this]
def MapR (w : World) (M : Nat) (ks : List Nat) (vs : Nat → Value) : Prop := w.heap[M]? = some (.map (rM vs ks) ks.length)
theorem MapR.lt {w : World} {M : Nat} {ks : List Nat} {vs : Nat → Value} (h : MapR w M ks vs) : M < w.heap.size := (Array.getElem?_eq_some_iff.1 h).1
theorem MapR.bel {w w' : World} {M : Nat} {ks : List Nat} {vs : Nat → Value} (h : MapR w M ks vs) (hb : Bel w w') : MapR w' M ks vs := (hb.out.block M h.lt).trans h
theorem zero_row (w : World) : (zeroValue 52).run Tryz.prog w = .ok (.slice none 0 0) w := by kernel_rfl
theorem run_look_row {w : World} {M : Nat} {ks : List Nat} {vs : Nat → Value} (h : MapR w M ks vs) (hn : ks.Nodup) (hz : ∀ b, b ∉ ks → vs b = .slice none 0 0) (b : Nat) :
    (Instr.lookup 184 (.map (some M)) (.int .i64 b) false).run Tryz.prog w = .ok (vs b) w := by
  have hl : (rM vs ks).toList = rEs vs 0 ks := by simp [rM]
  unfold Instr.lookup
  by_cases hb : b ∈ ks
  · obtain ⟨j, hj, _, _⟩ := find_some vs b ks 0 0 hb hn
    simp only [Sem.run_bind, run_underlying Tryz.underlying184, Result.andThen_ok, MapKept.run_getObj_map h, run_checkKey_int Tryz.underlying3, Instr.findKey, run_underlying Tryz.underlying3, hl, hj, Sem.run_pure]
    rfl
  · have hj := pfind_none vs b ks 0 0 hb
    rw [hz b hb]
    simp only [Sem.run_bind, run_underlying Tryz.underlying184, Result.andThen_ok, MapKept.run_getObj_map h, run_checkKey_int Tryz.underlying3, Instr.findKey, run_underlying Tryz.underlying3, hl, hj, Sem.run_pure, zero_row]
    rfl
def rset (w : World) (M : Nat) (ks : List Nat) (vs : Nat → Value) : World := { w with heap := w.heap.setIfInBounds M (.map (rM vs ks) ks.length) }
theorem rset_map {w : World} {M : Nat} (ks : List Nat) (vs : Nat → Value) (h : M < w.heap.size) : MapR (rset w M ks vs) M ks vs := by simp [MapR, rset, h]
theorem rset_other (w : World) (M : Nat) (ks : List Nat) (vs : Nat → Value) {k : Nat} (h : k ≠ M) : (rset w M ks vs).heap[k]? = w.heap[k]? := by simp [rset, Ne.symm h]
theorem rset_size (w : World) (M : Nat) (ks : List Nat) (vs : Nat → Value) : (rset w M ks vs).heap.size = w.heap.size := by simp [rset]
theorem below_rset {N : Nat} {w w' : World} (h : Below N w w') {M : Nat} (hM : N ≤ M) (ks : List Nat) (vs : Nat → Value) : Below N w (rset w' M ks vs) :=
  h.trans ⟨rfl, rfl, rfl, by simp [rset], fun k hk => rset_other w' M ks vs (by omega)⟩
def addK (ks : List Nat) (b : Nat) : List Nat := if b ∈ ks then ks else ks ++ [b]
theorem run_upd_row {w : World} {M : Nat} {ks : List Nat} {vs : Nat → Value} (h : MapR w M ks vs) (hn : ks.Nodup) (b : Nat) (v : Value) :
    (Instr.mapUpdate 184 (.map (some M)) (.int .i64 b) v).run Tryz.prog w = .ok () (rset w M (addK ks b) (updV vs b v)) := by
  have hl : (rM vs ks).toList = rEs vs 0 ks := by simp [rM]
  unfold Instr.mapUpdate
  by_cases hb : b ∈ ks
  · obtain ⟨j, hj, hkey, hm⟩ := find_some vs b ks 0 0 hb hn
    have hkey' : (rM vs ks)[j]?.map (·.key) = some (.int .i64 b) := by rw [← hkey]; simp [rM]
    have hst : ∀ w, (Instr.keyThatStays (.int .i64 b) (.int .i64 b)).run Tryz.prog w = .ok (.int .i64 b) w := fun w => by
      unfold Instr.keyThatStays
      rw [if_pos (by simp [Instr.sameBits])]
      rfl
    have e : (rM vs ks).modify j (fun e => { e with key := .int .i64 b, val := v }) = rM (updV vs b v) ks := by
      unfold rM; rw [List.modify_toArray, hm v]
    simp only [Sem.run_bind, run_underlying Tryz.underlying184, MapKept.run_getObj_map h, Result.andThen_ok, run_checkKey_int Tryz.underlying3, Instr.findKey, run_underlying Tryz.underlying3, hl, hj, Sem.run_pure, Nat.zero_add, hkey', Option.getD_some, hst]
    rw [show addK ks b = ks by unfold addK; rw [if_pos hb]]
    unfold rset
    rw [← e]
    exact MapKept.run_setObj_map _ h
  · have hj := pfind_none vs b ks 0 0 hb
    have e : (rM vs ks).push ⟨.int .i64 b, v, ks.length⟩ = rM (updV vs b v) (ks ++ [b]) := by
      unfold rM
      rw [rEs_snoc, rEs_congr (vs := updV vs b v) (vs' := vs) (fun x hx => by have : x ≠ b := fun e => hb (e ▸ hx); simp [updV, this])]
      simp [rE, updV]
    simp only [Sem.run_bind, run_underlying Tryz.underlying184, MapKept.run_getObj_map h, Result.andThen_ok, run_checkKey_int Tryz.underlying3, Instr.findKey, run_underlying Tryz.underlying3, hl, hj, Sem.run_pure, MapKept.run_setObj_map _ h]
    rw [show addK ks b = ks ++ [b] by unfold addK; rw [if_neg hb], e]
    unfold rset
    rw [List.length_append, List.length_singleton]
end Go.Proofs.YtnklpifnknmdgaaGreatDoor
namespace Go.Proofs.YtnklpifnknmdgaaGreatDoor
open Go Go.RowKit

def predOf (ps : List (Nat × Nat)) (b : Nat) : List Nat := (ps.filter fun p => p.2 == b).map (·.1)
theorem predOf_snoc (ps : List (Nat × Nat)) (p : Nat × Nat) (b : Nat) : predOf (ps ++ [p]) b = if b = p.2 then predOf ps b ++ [p.1] else predOf ps b := by
  unfold predOf
  rw [List.filter_append, List.map_append]
  by_cases h : b = p.2
  · subst h; simp
  · rw [if_neg h, List.filter_cons_of_neg (by simpa using Ne.symm h)]; simp
theorem predOf_len (ps : List (Nat × Nat)) (b : Nat) : (predOf ps b).length ≤ ps.length := by
  unfold predOf; rw [List.length_map]; exact List.length_filter_le _ _
theorem mem_predOf {ps : List (Nat × Nat)} {a b : Nat} : a ∈ predOf ps b ↔ (a, b) ∈ ps := by
  unfold predOf
  simp only [List.mem_map, List.mem_filter, beq_iff_eq]
  constructor
  · rintro ⟨⟨x, y⟩, ⟨h1, h2⟩, h3⟩; dsimp only at h2 h3; subst h2; subst h3; exact h1
  · intro h; exact ⟨(a, b), ⟨h, rfl⟩, rfl⟩
structure PreR (base : Nat) (M : Nat) (ps : List (Nat × Nat)) (ks : List Nat) (vs : Nat → Value) (wr : World) : Prop where
  map : MapR wr M ks vs
  nodup : ks.Nodup
  absent : ∀ b, b ∉ ks → vs b = .slice none 0 0
  row : ∀ b, wr.ownsRow base 3 1 (vs b) (predOf ps b).length (il (predOf ps b))
  apart : ∀ b c g, (vs b).ownBlock = some g → (vs c).ownBlock = some g → b = c
  notM : ∀ b, (vs b).ownBlock ≠ some M
theorem PreR.bel {base M : Nat} {ps : List (Nat × Nat)} {ks : List Nat} {vs : Nat → Value} {w w' : World} (h : PreR base M ps ks vs w) (hb : Bel w w') : PreR base M ps ks vs w' :=
  ⟨h.map.bel hb, h.nodup, h.absent, fun b => own_bel (h.row b) hb, h.apart, h.notM⟩
theorem PreR.start (base : Nat) {w : World} {M : Nat} (hM : MapR w M [] (fun _ => .slice none 0 0)) : PreR base M [] [] (fun _ => .slice none 0 0) w :=
  ⟨hM, List.nodup_nil, fun _ _ => rfl, fun _ => World.ownsRow_nil _ _ _ _, fun _ _ _ h => (by cases h), fun _ h => by cases h⟩
theorem PreR.look {base M : Nat} {ps : List (Nat × Nat)} {ks : List Nat} {vs : Nat → Value} {w : World} (h : PreR base M ps ks vs w) (b : Nat) :
    (Instr.lookup 184 (.map (some M)) (.int .i64 b) false).run Tryz.prog w = .ok (vs b) w := run_look_row h.map h.nodup h.absent b
theorem PreR.store {base M : Nat} {ps : List (Nat × Nat)} {ks : List Nat} {vs : Nat → Value} {w w1 : World} (h : PreR base M ps ks vs w) {a b : Nat} {v : Value} (hg : w.grownBy w1 (vs b).ownBlock) (hM : M < w.heap.size)
    (ho : w1.ownsRow base 3 1 v ((predOf ps b).length + 1) (il (predOf ps b) ++ [.int .i64 a])) (hv : v.ownBlock = (vs b).ownBlock ∨ v.ownBlock = some w.heap.size) {w2 : World} (hb : Bel w1 w2) :
    MapR w2 M ks vs ∧ PreR base M (ps ++ [(a, b)]) (addK ks b) (updV vs b v) (rset w2 M (addK ks b) (updV vs b v)) := by
  have hmap : MapR w2 M ks vs := (hb.block M (Nat.lt_of_lt_of_le hM hg.size)).trans ((hg.block M hM (fun e => h.notM b e.symm)).trans h.map)
  have hnM : ∀ c, (updV vs b v c).ownBlock ≠ some M := fun c e => by
    unfold updV at e
    split at e
    · rcases hv with hv | hv
      · exact h.notM b (hv.symm.trans e)
      · rw [hv] at e; have := Option.some.inj e; omega
    · exact h.notM c e
  have hltw : ∀ c g, (vs c).ownBlock = some g → g < w.heap.size := fun c g hc => (own_lt (h.row c) hc).2
  refine ⟨hmap, rset_map _ _ hmap.lt, ?_, ?_, ?_, ?_, hnM⟩
  · unfold addK
    split
    · exact h.nodup
    · rename_i hn
      refine List.nodup_append.2 ⟨h.nodup, by simp, fun x hx y hy e => ?_⟩
      simp at hy; subst hy; subst e; exact hn hx
  · intro c hc
    have h1 : c ≠ b := fun e => hc (by subst e; unfold addK; split <;> simp_all)
    have h2 : c ∉ ks := fun hk => hc (by unfold addK; split <;> simp_all)
    unfold updV
    rw [if_neg h1]
    exact h.absent c h2
  · intro c
    rw [predOf_snoc]
    by_cases hc : c = b
    · subst hc
      have e : updV vs c v c = v := by simp [updV]
      rw [if_pos rfl, List.length_append, il_app, e]
      refine own_keep (own_bel ho hb) fun g hg' hlt => rset_other _ _ _ _ ?_
      intro e2
      have := hnM c
      rw [e, hg', e2] at this
      exact this rfl
    · have e : updV vs b v c = vs c := by simp [updV, hc]
      rw [if_neg hc, e]
      refine own_keep (own_bel (own_keep (h.row c) fun g hg' hlt => hg.block g hlt ?_) hb) fun g hg' hlt => rset_other _ _ _ _ ?_
      · intro e2
        exact hc (h.apart c b g hg' e2.symm)
      · intro e2
        rw [e2] at hg'
        exact h.notM c hg'
  · intro c d g hc hd
    unfold updV at hc hd
    by_cases h1 : c = b <;> by_cases h2 : d = b
    · rw [h1, h2]
    · rw [if_pos h1] at hc; rw [if_neg h2] at hd
      rcases hv with hv | hv
      · rw [hv] at hc; rw [h1]; exact h.apart b d g hc hd
      · rw [hv] at hc; have := hltw d g hd; have := Option.some.inj hc; omega
    · rw [if_neg h1] at hc; rw [if_pos h2] at hd
      rcases hv with hv | hv
      · rw [hv] at hd; rw [h2]; exact h.apart c b g hc hd
      · rw [hv] at hd; have := hltw c g hc; have := Option.some.inj hd; omega
    · rw [if_neg h1] at hc; rw [if_neg h2] at hd; exact h.apart c d g hc hd
section
variable {ops : Array Oper} {o : Oper} {a : Act} {w : World} {K : Act → World → Prop} {Q : Exit → Act → World → Prop}
theorem wp_look_row (m k : Operand) (ho : o.op = .lookup 184 m k false) {base M : Nat} {ps : List (Nat × Nat)} {ks : List Nat} {vs : Nat → Value} (hR : PreR base M ps ks vs w) {b : Nat} (hm : a.eval m = .map (some M)) (hk : a.eval k = .int .i64 b)
    (h : K (a.put o.dst (vs b)) w) : o.wp Tryz.prog a w K Q := by
  unfold Oper.wp execOp
  simp only [ho, hm, hk, Sem.run_bind, hR.look b, Result.andThen_ok, Sem.run_pure]
  exact h
theorem wp_upd_row (m k v : Operand) (ho : o.op = .mapUpdate 184 m k v) {M : Nat} {ks : List Nat} {vs : Nat → Value} {u : Value} (hR : MapR w M ks vs) (hn : ks.Nodup) {b : Nat} (hm : a.eval m = .map (some M)) (hk : a.eval k = .int .i64 b) (hv : a.eval v = u)
    (h : K (a.put o.dst undef) (rset w M (addK ks b) (updV vs b u))) : o.wp Tryz.prog a w K Q := by
  unfold Oper.wp execOp
  simp only [ho, hm, hk, hv, Sem.run_bind, run_upd_row hR hn b u, Result.andThen_ok, Sem.run_pure]
  exact h
end
end Go.Proofs.YtnklpifnknmdgaaGreatDoor
namespace Go.Proofs.YtnklpifnknmdgaaGreatDoor
open Go Go.RowKit

def PredPost (w : World) (ps : List (Nat × Nat)) (e : Ending) (w' : World) : Prop :=
  ∃ M ks vs, e = .returned (.map (some M)) ∧ PreR w.heap.size M ps ks vs w' ∧ Below w.heap.size w w'
structure PredR (w : World) (ps : List (Nat × Nat)) (wr : World) : Prop where
  pre : ∃ ks vs, PreR w.heap.size w.heap.size ps ks vs wr
  below : Bel w wr
set_option maxHeartbeats 8000000 in
theorem pred_any (A : Option Addr) (n c : Nat) (ps : List (Nat × Nat)) (w : World) (hs : SlP w A n ps) (hn : n ≤ 6480) : Calls Tryz.prog 136 #[.slice A n c] w (PredPost w ps) := by
  have HS := Lib.hid hs
  have hmm := @run_makeMap Tryz.prog
  obtain ⟨i0, hi0, hz0, hz1, hz2⟩ := info_parts int_info
  have J := Lib.hid (And.intro hi0 (And.intro hz0 (And.intro hz1 hz2)))
  clear hi0 hz0 hz1 hz2 hs
  have H0 := Lib.hid (PredR.mk ⟨_, _, PreR.start w.heap.size (M := w.heap.size) (show MapR (w.alloc (.map #[] 0)) w.heap.size [] (fun _ => .slice none 0 0) from heap_alloc_new w _)⟩ ((Bel.refl w).alloc _) : PredR w (ps.take 0) (w.alloc (.map #[] 0)))
  go_enter Tryz.func136, Tryz.ntmps136
  go_wp2
  go_loopw [9] (fun t9 wr => ∃ i : Nat, i ≤ n ∧ t9 = .int .i64 i ∧ PredR w (ps.take i) wr) (fun t9 _ => n - (intOf t9).toNat)
  case atStart => exact ⟨0, by omega, rfl, H0.out⟩
  case round =>
    obtain ⟨i, hi, rfl, hr⟩ := hrel
    have HR := Lib.hid hr
    clear hr H0
    by_cases hlt : i < n
    · have hlt' : (i : Int) < n := by omega
      obtain ⟨bb, off, p, rfl, hbb, hp, hrg⟩ := HS.out.at_ hlt
      have hR := Lib.hid (rangeAt_below HR.out.below.out hbb hrg)
      have HE := Lib.hid (ptake_snoc hp)
      have HX := Lib.hid (pwld_box wr p 112)
      have HBW := Lib.hid (HR.out.below.trans (pwld_below wr p 112))
      obtain ⟨ks, vs, hpre⟩ := HR.out.pre
      have HP := Lib.hid (hpre.bel (pwld_below wr p 112))
      have hnB : ∀ b, (vs b).ownBlock ≠ some wr.heap.size := fun b e => by have := (own_lt (hpre.row b) e).2; omega
      have HNB := Lib.hid hnB
      have hMB : wr.heap.size ≠ w.heap.size := by have := hpre.map.lt; omega
      have HMB := Lib.hid hMB
      have HL := Lib.hid (Nat.le_trans (predOf_len (ps.take i) p.2) (by rw [List.length_take]; omega : (ps.take i).length ≤ 6480))
      clear hp hrg hpre hnB hMB
      go_wp2_with (first | (refine load_pr TPr _ rfl rfl rfl hR.out ?_) | (refine pwld_store TPr _ _ rfl rfl _ rfl rfl rfl ?_))
      generalize pwld wr p 112 = w3 at *
      generalize hX : wr.heap.size = X at *
      have F0 := fun (w1 : World) (h : Kp X w3 w1) => (h.box HX.out).cell 0 (v := .int .i64 p.1) rfl
      have F1 := fun (w1 : World) (h : Kp X w3 w1) => (h.box HX.out).cell 1 (v := .int .i64 p.2) rfl
      refine region_keep X (by kernel_rfl) ?_
      (repeat (first | ((first | refine wpK_go 0 (by simp only [List.getElem?_toArray, List.getElem?_cons_zero, List.getElem?_cons_succ] <;> rfl) (by decide +kernel) (by decide +kernel) (by kernel_rfl) (by rfl) (by exact fun _ _ _ _ h => h) ?_ | refine wpK_go 1 (by simp only [List.getElem?_toArray, List.getElem?_cons_zero, List.getElem?_cons_succ] <;> rfl) (by decide +kernel) (by decide +kernel) (by kernel_rfl) (by rfl) (by exact fun _ _ _ _ h => h) ?_ | refine wpK_go 2 (by simp only [List.getElem?_toArray, List.getElem?_cons_zero, List.getElem?_cons_succ] <;> rfl) (by decide +kernel) (by decide +kernel) (by kernel_rfl) (by rfl) (by exact fun _ _ _ _ h => h) ?_ | refine wpK_go 3 (by simp only [List.getElem?_toArray, List.getElem?_cons_zero, List.getElem?_cons_succ] <;> rfl) (by decide +kernel) (by decide +kernel) (by kernel_rfl) (by rfl) (by exact fun _ _ _ _ h => h) ?_ | refine wpK_go 4 (by simp only [List.getElem?_toArray, List.getElem?_cons_zero, List.getElem?_cons_succ] <;> rfl) (by decide +kernel) (by decide +kernel) (by kernel_rfl) (by rfl) (by exact fun _ _ _ _ h => h) ?_ | refine wpK_go 5 (by simp only [List.getElem?_toArray, List.getElem?_cons_zero, List.getElem?_cons_succ] <;> rfl) (by decide +kernel) (by decide +kernel) (by kernel_rfl) (by rfl) (by exact fun _ _ _ _ h => h) ?_ | refine wpK_go 7 (by simp only [List.getElem?_toArray, List.getElem?_cons_zero, List.getElem?_cons_succ] <;> rfl) (by decide +kernel) (by decide +kernel) (by kernel_rfl) (by rfl) (by exact fun _ _ _ _ h => h) ?_ | refine wpK_go 8 (by simp only [List.getElem?_toArray, List.getElem?_cons_zero, List.getElem?_cons_succ] <;> rfl) (by decide +kernel) (by decide +kernel) (by kernel_rfl) (by rfl) (by exact fun _ _ _ _ h => h) ?_); apply Exists.intro; refine ⟨fun w1 h1 => ?_, ?_⟩; (first | exact g_move _ rfl | exact g_assign _ rfl | (have fct0 := F0 w1 h1; have fct1 := F1 w1 h1; go_simp; first | exact ⟨rfl, rfl⟩ | rfl)); simp only [Act.put, Act.eval, List.setIfInBounds_toArray, List.set_cons_zero, List.set_cons_succ, Array.getD_eq_getD_getElem?, List.getElem?_toArray, List.getElem?_cons_zero, List.getElem?_cons_succ, Option.getD_some]) | ((first | refine wpK_skip 0 (by simp only [List.getElem?_toArray, List.getElem?_cons_zero, List.getElem?_cons_succ] <;> rfl) (by decide +kernel) (by decide +kernel) (by kernel_rfl) (by rfl) (by exact fun _ _ _ _ h => h) ?_ | refine wpK_skip 1 (by simp only [List.getElem?_toArray, List.getElem?_cons_zero, List.getElem?_cons_succ] <;> rfl) (by decide +kernel) (by decide +kernel) (by kernel_rfl) (by rfl) (by exact fun _ _ _ _ h => h) ?_ | refine wpK_skip 2 (by simp only [List.getElem?_toArray, List.getElem?_cons_zero, List.getElem?_cons_succ] <;> rfl) (by decide +kernel) (by decide +kernel) (by kernel_rfl) (by rfl) (by exact fun _ _ _ _ h => h) ?_ | refine wpK_skip 3 (by simp only [List.getElem?_toArray, List.getElem?_cons_zero, List.getElem?_cons_succ] <;> rfl) (by decide +kernel) (by decide +kernel) (by kernel_rfl) (by rfl) (by exact fun _ _ _ _ h => h) ?_ | refine wpK_skip 4 (by simp only [List.getElem?_toArray, List.getElem?_cons_zero, List.getElem?_cons_succ] <;> rfl) (by decide +kernel) (by decide +kernel) (by kernel_rfl) (by rfl) (by exact fun _ _ _ _ h => h) ?_ | refine wpK_skip 5 (by simp only [List.getElem?_toArray, List.getElem?_cons_zero, List.getElem?_cons_succ] <;> rfl) (by decide +kernel) (by decide +kernel) (by kernel_rfl) (by rfl) (by exact fun _ _ _ _ h => h) ?_ | refine wpK_skip 7 (by simp only [List.getElem?_toArray, List.getElem?_cons_zero, List.getElem?_cons_succ] <;> rfl) (by decide +kernel) (by decide +kernel) (by kernel_rfl) (by rfl) (by exact fun _ _ _ _ h => h) ?_ | refine wpK_skip 8 (by simp only [List.getElem?_toArray, List.getElem?_cons_zero, List.getElem?_cons_succ] <;> rfl) (by decide +kernel) (by decide +kernel) (by kernel_rfl) (by rfl) (by exact fun _ _ _ _ h => h) ?_); simp only [Act.put, Act.eval, List.setIfInBounds_toArray, List.set_cons_zero, List.set_cons_succ, Array.getD_eq_getD_getElem?, List.getElem?_toArray, List.getElem?_cons_zero, List.getElem?_cons_succ, Option.getD_some])))
      (refine wpK_two 6 9 (by decide +kernel) ?_ ?_ <;> (intro w4 hw4; refine op_wanted (by simp only [List.getElem?_toArray, List.getElem?_cons_zero, List.getElem?_cons_succ] <;> rfl) rfl ?_))
      · refine wp_look_row _ _ rfl (b := p.2) (HP.out.bel hw4) rfl rfl ?_
        refine ⟨Kp.of (Bel.refl _), ?_⟩
        simp only [Act.put, Act.eval, List.setIfInBounds_toArray, List.set_cons_zero, List.set_cons_succ, Array.getD_eq_getD_getElem?, List.getElem?_toArray, List.getElem?_cons_zero, List.getElem?_cons_succ, Option.getD_some]
        (refine wpK_one 9 (by decide +kernel) ?_; intro w5 hw5; refine op_wanted (by simp only [List.getElem?_toArray, List.getElem?_cons_zero, List.getElem?_cons_succ] <;> rfl) rfl ?_)
        refine wp_build_int 52 _ rfl 3 i0 Tryz.underlying52 J.out.1 J.out.2.1 J.out.2.2.1 p.1 rfl ?_
        refine ⟨Kp.of ((Bel.refl _).alloc _), ?_⟩
        simp only [Act.put, Act.eval, List.setIfInBounds_toArray, List.set_cons_zero, List.set_cons_succ, Array.getD_eq_getD_getElem?, List.getElem?_toArray, List.getElem?_cons_zero, List.getElem?_cons_succ, Option.getD_some]
        (refine wpK_one 10 (by decide +kernel) ?_; intro w6 hw6; refine op_wanted (by simp only [List.getElem?_toArray, List.getElem?_cons_zero, List.getElem?_cons_succ] <;> rfl) rfl ?_)
        have hpre6 := HP.out.bel ((hw4.trans (hw5.alloc (.cells #[.int .i64 p.1] 3))).trans hw6)
        have hsrc := Src.keep (Src.box (l := [.int .i64 p.1]) (Box.new w5 #[.int .i64 p.1] 3) 1) (hw6)
        have hsz6 : w.heap.size ≤ w6.heap.size := Nat.le_trans HBW.out.size ((hw4.trans (hw5.alloc (.cells #[.int .i64 p.1] 3))).trans hw6).size
        refine wp_append_src _ _ 52 rfl w.heap.size 3 i0 _ 1 8 Tryz.underlying52 J.out.1 J.out.2.1 J.out.2.2.1 J.out.2.2.2 rfl (by omega) (vs p.2) (predOf (ps.take i) p.2).length (il (predOf (ps.take i) p.2)) rfl (hpre6.row p.2) (some ⟨w5.heap.size, 0, none⟩) 1 1 [.int .i64 p.1] rfl rfl hsrc (by simp [Value.oneCell']) (by have := HL.out; unfold maxLen; omega) (by have := HL.out; omega) hsz6 ?_
        intro v7 w7 hown7 hg7 hat7
        have hX6 : X < w6.heap.size := Nat.lt_of_lt_of_le HX.out.lt ((hw4.trans (hw5.alloc (.cells #[.int .i64 p.1] 3))).trans hw6).size
        refine ⟨Kp.grown hg7 (fun e => HNB.out p.2 e.symm), ?_⟩
        simp only [Act.put, Act.eval, List.setIfInBounds_toArray, List.set_cons_zero, List.set_cons_succ, Array.getD_eq_getD_getElem?, List.getElem?_toArray, List.getElem?_cons_zero, List.getElem?_cons_succ, Option.getD_some]
        (refine wpK_one 11 (by decide +kernel) ?_; intro w8 hw8; refine op_wanted (by simp only [List.getElem?_toArray, List.getElem?_cons_zero, List.getElem?_cons_succ] <;> rfl) rfl ?_)
        have hst := hpre6.store (a := p.1) (b := p.2) (v := v7) hg7 hpre6.map.lt hown7 hat7 hw8
        refine wp_upd_row _ _ _ rfl hst.1 hpre6.nodup (b := p.2) rfl rfl rfl ?_
        refine ⟨⟨by rw [rset_size]; omega, fun _ => rset_other _ _ _ _ HMB.out⟩, ?_⟩
        simp only [Act.put, Act.eval, List.setIfInBounds_toArray, List.set_cons_zero, List.set_cons_succ, Array.getD_eq_getD_getElem?, List.getElem?_toArray, List.getElem?_cons_zero, List.getElem?_cons_succ, Option.getD_some]
        (refine wpK_done (by decide +kernel) ?_ _; intro w9 hw9; try simp only [Act.put, Act.eval, List.setIfInBounds_toArray, List.set_cons_zero, List.set_cons_succ, Array.getD_eq_getD_getElem?, List.getElem?_toArray, List.getElem?_cons_zero, List.getElem?_cons_succ, Option.getD_some])
        have HB9 := Lib.hid (Bel.trans (show Bel w (rset w8 w.heap.size (addK ks p.2) (updV vs p.2 v7)) from below_rset (((HBW.out.trans ((hw4.trans (hw5.alloc (.cells #[.int .i64 p.1] 3))).trans hw6)).out.trans (grown_below (N := w.heap.size) hg7 (hpre6.row p.2) (Nat.le_refl _) hsz6)).trans (Below.mono hw8 (Nat.le_trans hsz6 hg7.size))) (Nat.le_refl _) _ _) hw9)
        have HS9 := Lib.hid (hst.2.bel hw9)
        clear hst hpre6 hsrc hown7 hg7 hat7 hw4 hw5 hw6 hw8 hw9 F0 F1
        go_wp2
        go_roundw
        case rel => exact ⟨i + 1, by omega, by go_num, ⟨⟨_, _, by rw [HE.out]; exact HS9.out⟩, HB9.out⟩⟩
        case measure => simp [intOf]; omega
      · refine wp_build_int 52 _ rfl 3 i0 Tryz.underlying52 J.out.1 J.out.2.1 J.out.2.2.1 p.1 rfl ?_
        refine ⟨Kp.of ((Bel.refl _).alloc _), ?_⟩
        simp only [Act.put, Act.eval, List.setIfInBounds_toArray, List.set_cons_zero, List.set_cons_succ, Array.getD_eq_getD_getElem?, List.getElem?_toArray, List.getElem?_cons_zero, List.getElem?_cons_succ, Option.getD_some]
        (refine wpK_one 6 (by decide +kernel) ?_; intro w5 hw5; refine op_wanted (by simp only [List.getElem?_toArray, List.getElem?_cons_zero, List.getElem?_cons_succ] <;> rfl) rfl ?_)
        refine wp_look_row _ _ rfl (b := p.2) (HP.out.bel ((hw4.alloc (.cells #[.int .i64 p.1] 3)).trans hw5)) rfl rfl ?_
        refine ⟨Kp.of (Bel.refl _), ?_⟩
        simp only [Act.put, Act.eval, List.setIfInBounds_toArray, List.set_cons_zero, List.set_cons_succ, Array.getD_eq_getD_getElem?, List.getElem?_toArray, List.getElem?_cons_zero, List.getElem?_cons_succ, Option.getD_some]
        (refine wpK_one 10 (by decide +kernel) ?_; intro w6 hw6; refine op_wanted (by simp only [List.getElem?_toArray, List.getElem?_cons_zero, List.getElem?_cons_succ] <;> rfl) rfl ?_)
        have hpre6 := HP.out.bel (((hw4.alloc (.cells #[.int .i64 p.1] 3)).trans hw5).trans hw6)
        have hsrc := Src.keep (Src.box (l := [.int .i64 p.1]) (Box.new w4 #[.int .i64 p.1] 3) 1) (hw5.trans hw6)
        have hsz6 : w.heap.size ≤ w6.heap.size := Nat.le_trans HBW.out.size (((hw4.alloc (.cells #[.int .i64 p.1] 3)).trans hw5).trans hw6).size
        refine wp_append_src _ _ 52 rfl w.heap.size 3 i0 _ 1 8 Tryz.underlying52 J.out.1 J.out.2.1 J.out.2.2.1 J.out.2.2.2 rfl (by omega) (vs p.2) (predOf (ps.take i) p.2).length (il (predOf (ps.take i) p.2)) rfl (hpre6.row p.2) (some ⟨w4.heap.size, 0, none⟩) 1 1 [.int .i64 p.1] rfl rfl hsrc (by simp [Value.oneCell']) (by have := HL.out; unfold maxLen; omega) (by have := HL.out; omega) hsz6 ?_
        intro v7 w7 hown7 hg7 hat7
        have hX6 : X < w6.heap.size := Nat.lt_of_lt_of_le HX.out.lt (((hw4.alloc (.cells #[.int .i64 p.1] 3)).trans hw5).trans hw6).size
        refine ⟨Kp.grown hg7 (fun e => HNB.out p.2 e.symm), ?_⟩
        simp only [Act.put, Act.eval, List.setIfInBounds_toArray, List.set_cons_zero, List.set_cons_succ, Array.getD_eq_getD_getElem?, List.getElem?_toArray, List.getElem?_cons_zero, List.getElem?_cons_succ, Option.getD_some]
        (refine wpK_one 11 (by decide +kernel) ?_; intro w8 hw8; refine op_wanted (by simp only [List.getElem?_toArray, List.getElem?_cons_zero, List.getElem?_cons_succ] <;> rfl) rfl ?_)
        have hst := hpre6.store (a := p.1) (b := p.2) (v := v7) hg7 hpre6.map.lt hown7 hat7 hw8
        refine wp_upd_row _ _ _ rfl hst.1 hpre6.nodup (b := p.2) rfl rfl rfl ?_
        refine ⟨⟨by rw [rset_size]; omega, fun _ => rset_other _ _ _ _ HMB.out⟩, ?_⟩
        simp only [Act.put, Act.eval, List.setIfInBounds_toArray, List.set_cons_zero, List.set_cons_succ, Array.getD_eq_getD_getElem?, List.getElem?_toArray, List.getElem?_cons_zero, List.getElem?_cons_succ, Option.getD_some]
        (refine wpK_done (by decide +kernel) ?_ _; intro w9 hw9; try simp only [Act.put, Act.eval, List.setIfInBounds_toArray, List.set_cons_zero, List.set_cons_succ, Array.getD_eq_getD_getElem?, List.getElem?_toArray, List.getElem?_cons_zero, List.getElem?_cons_succ, Option.getD_some])
        have HB9 := Lib.hid (Bel.trans (show Bel w (rset w8 w.heap.size (addK ks p.2) (updV vs p.2 v7)) from below_rset (((HBW.out.trans (((hw4.alloc (.cells #[.int .i64 p.1] 3)).trans hw5).trans hw6)).out.trans (grown_below (N := w.heap.size) hg7 (hpre6.row p.2) (Nat.le_refl _) hsz6)).trans (Below.mono hw8 (Nat.le_trans hsz6 hg7.size))) (Nat.le_refl _) _ _) hw9)
        have HS9 := Lib.hid (hst.2.bel hw9)
        clear hst hpre6 hsrc hown7 hg7 hat7 hw4 hw5 hw6 hw8 hw9 F0 F1
        go_wp2
        go_roundw
        case rel => exact ⟨i + 1, by omega, by go_num, ⟨⟨_, _, by rw [HE.out]; exact HS9.out⟩, HB9.out⟩⟩
        case measure => simp [intOf]; omega
    · obtain rfl : i = n := by omega
      have HT := Lib.hid (ptake_all HS.out)
      obtain ⟨ks, vs, hpre⟩ := HR.out.pre
      have HP := Lib.hid hpre
      clear hpre
      go_wp2
      go_ret
      exact ⟨_, _, _, rfl, by have := HP.out; rw [HT.out] at this; exact this, HR.out.below⟩
end Go.Proofs.YtnklpifnknmdgaaGreatDoor
namespace Go.Proofs.YtnklpifnknmdgaaGreatDoor
open Go Go.RowKit

set_option maxHeartbeats 4000000 in
theorem conf_any (a b : Ev) (w : World) : Calls Tryz.prog 137 #[.agg (evv a), .agg (evv b)] w fun e w' => e = .returned (.int .i64 (conf a b)) ∧ Below w.heap.size w w' := by
  obtain ⟨b1, b2, hB, hs⟩ := boxes2 w (evv a) (evv b) 45 45
  generalize hW : ((w.alloc (.cells (evv a) 45)).alloc (.cells (evv b) 45)) = W at *
  have HB := Lib.hid hB
  clear hB hs
  have c0 := b1.cell 0 (v := .int .i64 a.k) rfl
  have c2 := b1.cell 2 (v := .int .i64 a.o) rfl
  have d0 := b2.cell 0 (v := .int .i64 b.k) rfl
  have d2 := b2.cell 2 (v := .int .i64 b.o) rfl
  clear b1 b2
  cases h1 : (a.o != b.o)
  · have ho : a.o = b.o := by simpa using h1
    cases h2 : (a.k == 2)
    · have k2 : ¬ a.k = 2 := by simpa using h2
      cases h3 : (a.k == 1)
      · have k3 : ¬ a.k = 1 := by simpa using h3
        have HV := Lib.hid (show conf a b = 0 by simp [conf, ho, k2, k3])
        clear ho k2 k3
        go_enter Tryz.func137, Tryz.ntmps137
        go_wp2
        go_ret
        exact ⟨by rw [HV.out]; rfl, HB.out⟩
      · have k3 : a.k = 1 := by simpa using h3
        cases h4 : (b.k == 2)
        · have k4 : ¬ b.k = 2 := by simpa using h4
          have HV := Lib.hid (show conf a b = 0 by simp [conf, ho, k3, k4])
          clear ho k2 k3 k4
          go_enter Tryz.func137, Tryz.ntmps137
          go_wp2
          go_ret
          exact ⟨by rw [HV.out]; rfl, HB.out⟩
        · have k4 : b.k = 2 := by simpa using h4
          have HV := Lib.hid (show conf a b = 3 by simp [conf, ho, k3, k4])
          clear ho k2 k3 k4
          go_enter Tryz.func137, Tryz.ntmps137
          go_wp2
          go_ret
          exact ⟨by rw [HV.out]; rfl, HB.out⟩
    · have k2 : a.k = 2 := by simpa using h2
      have h3 : (a.k == 1) = false := by rw [k2]; rfl
      cases h4 : (b.k == 2)
      · have k4 : ¬ b.k = 2 := by simpa using h4
        cases h5 : (b.k == 1)
        · have k5 : ¬ b.k = 1 := by simpa using h5
          have HV := Lib.hid (show conf a b = 0 by simp [conf, ho, k2, k4, k5])
          clear ho k2 k4 k5
          go_enter Tryz.func137, Tryz.ntmps137
          go_wp2
          go_ret
          exact ⟨by rw [HV.out]; rfl, HB.out⟩
        · have k5 : b.k = 1 := by simpa using h5
          have HV := Lib.hid (show conf a b = 2 by simp [conf, ho, k2, k5])
          clear ho k2 k4 k5
          go_enter Tryz.func137, Tryz.ntmps137
          go_wp2
          go_ret
          exact ⟨by rw [HV.out]; rfl, HB.out⟩
      · have k4 : b.k = 2 := by simpa using h4
        have HV := Lib.hid (show conf a b = 1 by simp [conf, ho, k2, k4])
        clear ho k2 k4
        go_enter Tryz.func137, Tryz.ntmps137
        go_wp2
        go_ret
        exact ⟨by rw [HV.out]; rfl, HB.out⟩
  · have ho : ¬ a.o = b.o := by simpa using h1
    have HV := Lib.hid (show conf a b = 0 by simp [conf, ho])
    clear ho
    go_enter Tryz.func137, Tryz.ntmps137
    go_wp2
    go_ret
    exact ⟨by rw [HV.out]; rfl, HB.out⟩
theorem contains_any (v : Value) (ns : List Nat) (a : Nat) (base : Nat) (w : World) (h : w.ownsRow base 3 1 v ns.length (il ns)) (hn : ns.length ≤ 1000000) :
    Calls Tryz.prog 138 #[v, .int .i64 a] w fun e w' => e = .returned (.bool (decide (a ∈ ns))) ∧ w = w' := by
  rcases h.2 with ⟨rfl, h0⟩ | ⟨g, cap, cur, rfl, hg, hh, hnc, hc, hs, ht⟩
  · have : ns = [] := List.eq_nil_of_length_eq_zero h0
    subst this
    refine (Tryz.slices_Contains_int_empty none 0 a w).mono ?_
    rintro e w' ⟨rfl, rfl⟩
    exact ⟨rfl, rfl⟩
  · have hb : Box w g cur 3 := hh
    refine (Tryz.slices_Contains_int g 0 ns.length cap (ns.map fun (x : Nat) => (x : Int)) a w (by simp) (by omega) ?_).mono ?_
    · intro j hj
      rw [List.length_map] at hj
      rw [Nat.zero_add]
      refine hb.cell j ?_
      have h1 : (il ns)[j]? = some (.int .i64 ((ns.map fun (x : Nat) => (x : Int)).getD j 0)) := by simp [il, hj]
      rw [← ht, List.getElem?_take] at h1
      split at h1
      · simpa using h1
      · cases h1
    · rintro e w' ⟨rfl, rfl⟩
      refine ⟨?_, rfl⟩
      congr 2
      rw [List.take_of_length_le (by simp), Bool.eq_iff_iff]
      simp only [List.contains_iff_mem, List.mem_map, decide_eq_true_eq]
      exact ⟨fun ⟨x, h1, h2⟩ => (by omega : x = a) ▸ h1, fun h => ⟨a, h, rfl⟩⟩
end Go.Proofs.YtnklpifnknmdgaaGreatDoor
namespace Go.Proofs.YtnklpifnknmdgaaGreatDoor
open Go Go.RowKit

def AllPost (w : World) (l : List Ev) (e : Ending) (w' : World) : Prop :=
  ∃ v, e = .returned (.tuple #[v, .int .i64 (may l)]) ∧ w'.ownsRow w.heap.size 58 4 v (rcs l).length (rcc (rcs l)) ∧ Below w.heap.size w w'
theorem pred_mem (l : List Ev) (a b : Nat) : decide (a ∈ predOf (prsA (bef l) l.length) b) = bef l a b := by
  rw [← mem_bef, Bool.eq_iff_iff, decide_eq_true_iff, decide_eq_true_iff, mem_predOf]
set_option maxHeartbeats 4000000 in
theorem all_bad (A : Option Addr) (n c : Nat) (l : List Ev) (w : World) (hl : Sl w A n l) (hm : may l ≠ 0) :
    Calls Tryz.prog 96 #[.slice A n c] w fun e w' => e = .returned (.tuple #[.slice none 0 0, .int .i64 (may l)]) ∧ Below w.heap.size w w' := by
  have hw0 := Bel.refl w
  have HL := Lib.hid hl
  have h1 : (may l != 0) = true := by simpa using hm
  clear hl
  go_enter Tryz.func96, Tryz.ntmps96
  go_wp2_with fail
  refine (before_any A n c l _ HL.out).mono ?_
  rintro e1 w1 ⟨v1, rfl, hown1, hb1⟩
  have hw1 := hw0.call hb1
  clear hb1
  clear hown1
  go_wp2
  go_ret2
  exact ⟨rfl, hw1⟩
set_option maxHeartbeats 16000000 in
theorem all_ok (A : Option Addr) (n c : Nat) (l : List Ev) (w : World) (hl : Sl w A n l) (hm : may l = 0) : Calls Tryz.prog 96 #[.slice A n c] w (AllPost w l) := by
  have hw0 := Bel.refl w
  have HL := Lib.hid hl
  have HM := Lib.hid hm
  have HN := Lib.hid hl.1
  have hn80 : n ≤ 80 := by rw [← hl.1]; exact ((may_iff l).1 hm).1
  have HP := Lib.hid (prOf_ok (R := bef) hm rfl)
  have hln : (prsA (bef l) l.length).length ≤ 6480 := prs_small ((may_iff l).1 hm).1 (Nat.le_refl _) (Nat.zero_le _)
  have HPM := Lib.hid (pred_mem l)
  obtain ⟨i0, hi0, hz0, hz1, hz2⟩ := info_parts rc_info
  have J := Lib.hid (And.intro hi0 (And.intro hz0 (And.intro hz1 hz2)))
  clear hi0 hz0 hz1 hz2 hl hm
  go_enter Tryz.func96, Tryz.ntmps96
  go_wp2_with fail
  refine (before_any A n c l _ HL.out).mono ?_
  rintro e1 w1 ⟨v1, rfl, hown1, hb1⟩
  have hw1 := hw0.call hb1
  clear hb1
  rw [HM.out]
  rw [HP.out] at hown1
  generalize prsA (bef l) l.length = ps at *
  obtain ⟨A1, c1, rfl, hs1, hn1, hm1⟩ := SlP.own hown1
  have HS1 := Lib.hid hs1
  clear hs1 hown1 hn1 hm1
  have HLN := Lib.hid hln
  clear hln
  go_wp2_with fail
  refine (pred_any A1 ps.length c1 ps _ HS1.out HLN.out).mono ?_
  rintro e2 wp ⟨M, ks, vs, rfl, hpre2, hb2⟩
  have HW2 := Lib.hid (hw1.call hb2)
  have HPR := Lib.hid hpre2
  have HQ := Lib.hid (fun (b : Nat) => Nat.le_trans (predOf_len ps b) (Nat.le_trans HLN.out (by decide : 6480 ≤ 1000000)))
  have H0 := Lib.hid (RcR.mk (World.ownsRow_nil _ _ _ _) (Bel.refl wp) : RcR wp l n 0 0 (.slice none 0 0) wp)
  clear hb2 hpre2 hw1 hw0
  go_wp2
  go_loopw [7, 23] (fun v t23 wr => ∃ i : Nat, i ≤ n ∧ t23 = .int .i64 i ∧ RcR wp l n i 0 v wr) (fun _ t23 _ => n - (intOf t23).toNat)
  case atStart => exact ⟨0, by omega, rfl, H0.out⟩
  case round =>
    obtain ⟨i, hi, rfl, hr⟩ := hrel
    have HR := Lib.hid hr
    clear hr H0
    by_cases hlt : i < n
    · have hlt' : (i : Int) < n := by omega
      obtain ⟨bb, off, ea, rfl, hbb, hea, hra⟩ := HL.out.at_ hlt
      have HEA := Lib.hid hea
      have HRA := Lib.hid (fun (w' : World) (h : Bel w w') => rangeAt_below h.out hbb hra)
      have H1 := Lib.hid (HR.out.to (rcTo_low (l := l) (n := n) (i := i) (j := i + 1) (Nat.le_refl _)))
      clear hea hra
      go_wp2
      go_loopw [7, 9] (fun v t9 wr => ∃ j : Nat, i < j ∧ j ≤ n ∧ t9 = .int .i64 j ∧ RcR wp l n i j v wr) (fun _ t9 _ => n - (intOf t9).toNat)
      case atStart => exact ⟨i + 1, by omega, by omega, by go_num, H1.out⟩
      case round =>
        obtain ⟨j, hij, hj, rfl, hr⟩ := hrel
        have HR2 := Lib.hid hr
        clear hr H1 HR
        by_cases hlj : j < n
        · have hlj' : (j : Int) < n := by omega
          obtain ⟨eb, heb⟩ := HL.out.get hlj
          have HRB := Lib.hid (fun (w' : World) (h : Bel w w') => rangeAt_below h.out hbb (HL.out.rng hlj heb).2)
          have HRC := Lib.hid (racB_at HEA.out heb hij)
          have HOF := Lib.hid (rcOf_at HEA.out heb)
          have hbw := HW2.out.trans HR2.out.below
          have HRA2 := Lib.hid (fun (w' : World) (h : Bel wr w') => HRA.out w' (hbw.trans h))
          have HRB2 := Lib.hid (fun (w' : World) (h : Bel wr w') => HRB.out w' (hbw.trans h))
          have hi0 : (0 : Int) ≤ (i : Int) := by omega
          have hj0 : (0 : Int) ≤ (j : Int) := by omega
          clear heb hbw
          go_wp2
          (refine region_bel (by kernel_rfl) (by kernel_rfl) ?_; (repeat (first | ((with_reducible refine BigFrame.wpQuiet_skip ?_ ?_); exact rfl; simp only [Act.put, Act.eval, List.setIfInBounds_toArray, List.set_cons_zero, List.set_cons_succ, Array.getD_eq_getD_getElem?, List.getElem?_toArray, List.getElem?_cons_zero, List.getElem?_cons_succ, Option.getD_some]) | (refine q_move _ rfl rfl ?_; simp only [Act.put, Act.eval, List.setIfInBounds_toArray, List.set_cons_zero, List.set_cons_succ, Array.getD_eq_getD_getElem?, List.getElem?_toArray, List.getElem?_cons_zero, List.getElem?_cons_succ, Option.getD_some]) | (refine q_assign _ rfl rfl ?_; simp only [Act.put, Act.eval, List.setIfInBounds_toArray, List.set_cons_zero, List.set_cons_succ, Array.getD_eq_getD_getElem?, List.getElem?_toArray, List.getElem?_cons_zero, List.getElem?_cons_succ, Option.getD_some]) | (refine q_load_mid _ _ rfl rfl rfl HRA2.out T36 (evv ea) rfl ?_; simp only [Act.put, Act.eval, List.setIfInBounds_toArray, List.set_cons_zero, List.set_cons_succ, Array.getD_eq_getD_getElem?, List.getElem?_toArray, List.getElem?_cons_zero, List.getElem?_cons_succ, Option.getD_some]) | (refine q_load_mid _ _ rfl rfl rfl HRB2.out T36 (evv eb) rfl ?_; simp only [Act.put, Act.eval, List.setIfInBounds_toArray, List.set_cons_zero, List.set_cons_succ, Array.getD_eq_getD_getElem?, List.getElem?_toArray, List.getElem?_cons_zero, List.getElem?_cons_succ, Option.getD_some]) | (refine q_any rfl ?_; apply Exists.intro; refine ⟨fun w hw => ?_, ?_⟩; (go_simp; first | exact ⟨rfl, rfl⟩ | rfl | (go_at_call 137; (with_reducible refine (conf_any ea eb _).mono ?_); rintro e w' ⟨rfl, hb⟩; exact ⟨rfl, hw.call hb⟩)); simp only [Act.put, Act.eval, List.setIfInBounds_toArray, List.set_cons_zero, List.set_cons_succ, Array.getD_eq_getD_getElem?, List.getElem?_toArray, List.getElem?_cons_zero, List.getElem?_cons_succ, Option.getD_some]))); refine wpQuiet_nil ?_; intro w2 hw2)
          have HR3 := Lib.hid (HR2.out.bel hw2)
          have HPR3 := Lib.hid (HPR.out.bel (HR2.out.below.trans hw2))
          have e1 : w2.cell? ⟨bb, off + i * 3 + 2, none⟩ = some (.int .i64 ea.o) := (HRA2.out w2 hw2) 2 _ rfl
          cases hk : (conf ea eb != 0)
          · have HS := Lib.hid (HR3.out.to (rcTo_no (l := l) (n := n) (i := i) (j := j) (by rw [HRC.out, decide_eq_false (by simpa using hk)]; rfl)))
            clear hw2 hi0 hj0
            go_wp2
            go_roundw
            case rel => exact ⟨j + 1, by omega, by omega, by go_num, HS.out⟩
            case measure => simp [intOf]; omega
          · have L := HPR3.out.look j
            have HCN := Lib.hid ((contains_any (vs j) (predOf ps j) i _ w2 (HPR3.out.row j) (HQ.out j)).mono fun e w' (h : e = .returned (.bool (decide (i ∈ predOf ps j))) ∧ w2 = w') => (show e = .returned (.bool (bef l i j)) ∧ w2 = w' from by rw [← HPM.out i j]; exact h))
            generalize vs j = vj at *
            cases hb : bef l i j
            · have hracB : racB l i j = true := by rw [HRC.out, hb, decide_eq_true (by simpa using hk)]; rfl
              have HYES := Lib.hid (rcTo_yes (n := n) hracB HOF.out)
              rw [hb] at HCN
              clear hracB hb hw2
              have HA := Lib.hid (own_alloc HR3.out.own (.cells (rcv ⟨i, j, ea.o, conf ea eb⟩) 58))
              have HNW := Lib.hid (Box.news (l := rcl ⟨i, j, ea.o, conf ea eb⟩) (Box.new w2 (rcv ⟨i, j, ea.o, conf ea eb⟩) 58))
              have HSZ := Lib.hid (HR3.out.below.alloc (.cells (rcv ⟨i, j, ea.o, conf ea eb⟩) 58)).size
              have HLE := Lib.hid (rcTo_small (l := l) hn80 hi hj)
              go_wp2_with (first | (go_at_call 138; (with_reducible refine HCN.out.mono ?_); rintro e w' ⟨rfl, rfl⟩) | (refine buildr 55 _ rfl rfl 58 i0 Tryz.underlying55 J.out.1 J.out.2.1 J.out.2.2.1 ⟨i, j, ea.o, conf ea eb⟩ rfl ?_) | (at_builtin; refine wpList_append_own_at _ rfl (.tmp 53) (.tmp 63) _ rfl wp.heap.size 58 i0 _ 4 32 Tryz.underlying55 J.out.1 J.out.2.1 J.out.2.2.1 J.out.2.2.2 rfl (by omega) _ (rcTo l n i j).length _ rfl HA.out ⟨w2.heap.size, 0, none⟩ 1 1 (rcl ⟨i, j, ea.o, conf ea eb⟩) rfl rfl HNW.out (rcl_one _) (by have := HLE.out; unfold maxLen; omega) (by have := HLE.out; omega) HSZ.out ?_; intro v7 w7 hown7 hg7 hn7 hat7))
              refine ⟨⟨j + 1, by omega, by omega, by go_num, ⟨?_, (HR3.out.below.alloc _).out.grown hg7 HSZ.out (own_block_ge HA.out)⟩⟩, by simp [intOf]; omega⟩
              rw [HYES.out, List.length_append, rcc_append]
              exact hown7
            · have HS := Lib.hid (HR3.out.to (rcTo_no (l := l) (n := n) (i := i) (j := j) (by rw [HRC.out, hb]; simp)))
              rw [hb] at HCN
              clear hw2 hb
              go_wp2_with (first | (go_at_call 138; (with_reducible refine HCN.out.mono ?_); rintro e w' ⟨rfl, rfl⟩))
              go_roundw
              case rel => exact ⟨j + 1, by omega, by omega, by go_num, HS.out⟩
              case measure => simp [intOf]; omega
        · obtain rfl : j = n := by omega
          have HS := Lib.hid (HR2.out.to (rcTo_next l j i))
          go_wp2
          go_roundw
          case rel => exact ⟨i + 1, by omega, by go_num, HS.out⟩
          case measure => simp [intOf]; omega
    · obtain rfl : i = n := by omega
      have HS := Lib.hid (HR.out.to (i' := i) (j' := 0) rfl)
      have HALL := Lib.hid (show rcTo l i i 0 = rcs l by rw [rcTo_all HN.out, rcs_ok HM.out])
      go_wp2
      go_ret2
      exact ⟨_, by rw [HM.out]; rfl, by rw [← HALL.out]; exact HW2.out.own HS.out.own, HW2.out.trans HS.out.below⟩
end Go.Proofs.YtnklpifnknmdgaaGreatDoor
namespace Go.Proofs.YtnklpifnknmdgaaGreatDoor
open Go Go.RowKit

theorem alle_any (A : Option Addr) (n c : Nat) (l : List Ev) (w : World) (hl : Sl w A n l) : Calls Tryz.prog 96 #[.slice A n c] w (AllPost w l) := by
  by_cases hm : may l = 0
  · exact all_ok A n c l w hl hm
  · refine (all_bad A n c l w hl hm).mono ?_
    rintro e w' ⟨rfl, hb⟩
    refine ⟨_, rfl, ?_, hb⟩
    rw [rcs_no hm]
    exact World.ownsRow_nil _ _ _ _
theorem rcs_small {l : List Ev} : (rcs l).length ≤ 6480 := by
  unfold rcs
  split
  · rename_i hm
    unfold rcsA; rw [List.length_map]; exact prs_small ((may_iff l).1 hm).1 (Nat.le_refl _) (Nat.zero_le _)
  · exact Nat.zero_le _
end Go.Proofs.YtnklpifnknmdgaaGreatDoor

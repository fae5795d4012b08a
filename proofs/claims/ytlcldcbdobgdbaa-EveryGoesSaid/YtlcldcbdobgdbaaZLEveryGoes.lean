import Derived.Deep.DeepCutAuto
import Derived.Test.YtlcldcbdobgdbaaZKeepPg
import Derived.Test.YtlcldcbdobgdbaaZEv
import Derived.Test.YtlcldcbdobgdbaaZVr
import Derived.Test.YtlcldcbdobgdbaaZHv
import Derived.Test.YtlcldcbdobgdbaaZRfG
import Derived.Test.YtlcldcbdobgdbaaZAln
import Derived.Test.YtlcldcbdobgdbaaZRgY
import Derived.Test.YtlcldcbdobgdbaaZRfK
import Derived.Test.YtlcldcbdobgdbaaZCp
set_option linter.all false
set_option maxRecDepth 100000
namespace Go.Proofs.Ytlcldcbdobgdbaa.LEveryGoes
open Go Go.ChangeShapes Go.WideShapes Go.ChangeAt Go.RowKit

def allP (P : List (List Ev)) (i : Nat) : List (Nat × Nat) := (List.range i).flatMap fun t => prsA (alB (opsP P t)) 5
theorem allP_succ (P : List (List Ev)) (i : Nat) : allP P (i + 1) = allP P i ++ prsA (alB (opsP P i)) 5 := by
  unfold allP
  rw [List.range_succ, List.flatMap_append]
  simp
theorem allP_len (P : List (List Ev)) : ∀ i, (allP P i).length ≤ 6480 * i
  | 0 => by simp [allP]
  | i + 1 => by
    rw [allP_succ, List.length_append]
    have := allP_len P i
    have : (prsA (alB (opsP P i)) 5).length ≤ 6480 := prs_small (by omega) (Nat.le_refl _) (Nat.zero_le _)
    omega
theorem mem_allP {P : List (List Ev)} {i : Nat} {p : Nat × Nat} : p ∈ allP P i ↔ ∃ t, t < i ∧ p ∈ prsA (alB (opsP P t)) 5 := by
  unfold allP
  simp [List.mem_flatMap]
theorem alP_alB {ops : List Ev} {a b : Nat} (h : alP ops a b) : alB ops a b = true := by
  obtain ⟨i, o, h1, h2, h3, h4, h5⟩ := h
  unfold alB
  rw [List.any_eq_true]
  refine ⟨i, List.mem_range.2 (List.getElem?_eq_some_iff.1 h1).1, ?_⟩
  simp [h1, h2, h3, h4, h5]
theorem prc_one (l : List (Nat × Nat)) : ∀ u ∈ prc l, u.oneCell' = true := by
  induction l with
  | nil => intro u hu; simp [prc] at hu
  | cons p l ih =>
    intro u hu
    simp only [prc, List.mem_cons] at hu
    rcases hu with rfl | rfl | hu
    · rfl
    · rfl
    · exact ih u hu
theorem slp_src {w : World} {A : Option Addr} {n : Nat} {l : List (Nat × Nat)} (h : SlP w A n l) : Src w A n (prc l) := by
  rcases Nat.eq_zero_or_pos n with h0 | h0
  · have hl : l = [] := List.eq_nil_of_length_eq_zero (by rw [h.1, h0])
    subst hl
    cases A with
    | none => exact .inl ⟨rfl, h0, rfl⟩
    | some ad => exact .inr ⟨ad, rfl, fun j u hu => by simp [prc] at hu⟩
  · obtain ⟨b, off, rfl, hlt, hr⟩ := h.2 h0
    refine .inr ⟨_, rfl, fun j u hu => ?_⟩
    have : (⟨b, off, none⟩ : Addr).add j = ⟨b, off + j, none⟩ := by unfold Addr.add; split <;> simp_all
    rw [this]
    exact hr j u hu
theorem hld_upd {l : List Ev} {i : Nat} {e : Ev} (h : l[i]? = some e) (hk : e.k = 4 ∨ e.k = 5) : hldL (l.take (i + 1)) = updM (hldL (l.take i)) e.t (decide (e.k = 4)) := by
  rw [take_snoc h, hldL_snoc]
  funext x
  unfold hldE updM
  by_cases hx : x = e.t
  · rw [if_pos ⟨hk, hx⟩, if_pos hx]
  · rw [if_neg (fun g => hx g.2), if_neg hx]
theorem hld_same {l : List Ev} {i : Nat} {e : Ev} (h : l[i]? = some e) (hk : ¬ (e.k = 4 ∨ e.k = 5)) : hldL (l.take (i + 1)) = hldL (l.take i) := by
  rw [take_snoc h, hldL_snoc]
  funext x
  unfold hldE
  rw [if_neg (fun g => hk g.1)]
theorem hld_who : ∀ (n : Nat) {l : List Ev} {a : Int}, l.length = n → hldL l a = true → ∃ o ∈ l, o.k = 4 ∧ o.t = a := by
  intro n
  induction n with
  | zero => intro l a h hh; rw [List.eq_nil_of_length_eq_zero h] at hh; cases hh
  | succ n ih =>
    intro l a h hh
    have hne : l ≠ [] := fun e => by rw [e] at h; simp at h
    have e : l = l.dropLast ++ [l.getLast hne] := (List.dropLast_concat_getLast hne).symm
    have hd : l.dropLast.length = n := by simp [h]
    generalize l.dropLast = m at *
    generalize l.getLast hne = o at *
    subst e
    rw [hldL_snoc] at hh
    unfold hldE at hh
    split at hh
    · rename_i g
      exact ⟨o, by simp, of_decide_eq_true hh, g.2.symm⟩
    · obtain ⟨o', h1, h2⟩ := ih hd hh
      exact ⟨o', List.mem_append_left _ h1, h2⟩
def NoJ (ops : List Ev) (j : Nat) : Prop := ∀ i o, i < j → ops[i]? = some o → o.k ≠ 7 ∧ (o.k = 4 → hldL (ops.take i) o.t = false)
theorem NoJ.next {ops : List Ev} {j : Nat} {o : Ev} (h : NoJ ops j) (ho : ops[j]? = some o) (h7 : o.k ≠ 7) (h4 : o.k = 4 → hldL (ops.take j) o.t = false) : NoJ ops (j + 1) := fun i x hi hx => by
  rcases Nat.lt_or_ge i j with g | g
  · exact h i x g hx
  · obtain rfl : i = j := by omega
    rw [ho] at hx; cases hx
    exact ⟨h7, h4⟩
def GoTo (P : List (List Ev)) (k : Nat) : Prop := ∀ t, t < k → NoJ (opsP P t) (opsP P t).length ∧ ∀ x, hldL (opsP P t) x = false
theorem GoTo.next {P : List (List Ev)} {k m : Nat} (h : GoTo P k) (hm : (opsP P k).length = m) (hn : NoJ (opsP P k) m) (hf : ∀ x, hldL ((opsP P k).take m) x = false) : GoTo P (k + 1) := fun t ht => by
  rcases Nat.lt_or_ge t k with g | g
  · exact h t g
  · obtain rfl : t = k := by omega
    subst hm
    refine ⟨hn, fun x => ?_⟩
    have := hf x
    rwa [List.take_length] at this
theorem pq_all (P : List (List Ev)) (i a b : Nat) : Pq ((allP P i).map intp) a b = true ↔ (a, b) ∈ allP P i := by
  unfold Pq
  rw [decide_eq_true_iff, List.mem_map]
  constructor
  · rintro ⟨p, hp, he⟩
    have h1 : (p.1 : Int) = a := congrArg Prod.fst he
    have h2 : (p.2 : Int) = b := congrArg Prod.snd he
    have : p = (a, b) := Prod.ext (by exact_mod_cast h1) (by exact_mod_cast h2)
    rwa [← this]
  · exact fun h => ⟨_, h, rfl⟩
theorem goes_all {P : List (List Ev)} (hP : OkP P) (hg : GoTo P P.length) {c : Int} (hr : RingB ((allP P P.length).map intp) [] c) (hc : c = 0) {ds : List En} (h : EndsOk P (ds.map enA)) : ∀ e ∈ ds, e.k = false := by
  have hcy : ∀ s, ¬ Cyc (Pq ((allP P P.length).map intp)) s := by
    rcases hr with ⟨_, _, h3⟩ | ⟨_, _, h3⟩
    · omega
    · rcases h3 with ⟨_, h4⟩ | ⟨h4, _⟩
      · exact h4
      · exact h4.elim
  have hout : ∀ t, P.length ≤ t → opsP P t = [] := fun t ht => opsP_out ht
  intro e he
  obtain ⟨ts, _, hq⟩ := (h.all _).1 (List.mem_map_of_mem he)
  have hs : stuckP P (runP P ts) = false := by
    refine goes_on hP (Q := Pq ((allP P P.length).map intp)) (fun a b hab => ?_) hcy (fun t o ho => ?_) (fun t i o ho h4 => ?_) (fun t k => ?_) (fun t a b ht hal => ?_) ts
    · obtain ⟨t, _, hp⟩ := mem_allP.1 ((pq_all P _ a b).1 hab)
      have := mem_prsA.1 hp
      exact ⟨this.1, this.2.1⟩
    · rcases Nat.lt_or_ge t P.length with g | g
      · obtain ⟨i, hi⟩ := List.getElem?_of_mem ho
        exact ((hg t g).1 i o (List.getElem?_eq_some_iff.1 hi).1 hi).1
      · rw [hout t g] at ho; cases ho
    · rcases Nat.lt_or_ge t P.length with g | g
      · exact ((hg t g).1 i o (List.getElem?_eq_some_iff.1 ho).1 ho).2 h4
      · rw [hout t g] at ho; simp at ho
    · rcases Nat.lt_or_ge t P.length with g | g
      · exact (hg t g).2 k
      · rw [hout t g]; rfl
    · rw [pq_all]
      have hal' := hal
      obtain ⟨i, o, h1, h2, h3, h4, _⟩ := hal
      have hob := isop_lock (hP.op t o (List.mem_of_getElem? h1)) h2
      obtain ⟨o', h5, h6, h7⟩ := hld_who _ rfl h4
      have hoa := isop_lock (hP.op t o' (List.mem_of_mem_take h5)) h6
      rw [h3] at hob
      rw [h7] at hoa
      refine mem_allP.2 ⟨t, ht, mem_prsA.2 ⟨by dsimp only; omega, by dsimp only; omega, alP_alB ?_⟩⟩
      rw [show ((a.toNat : Nat) : Int) = a by omega, show ((b.toNat : Nat) : Int) = b by omega]
      exact hal'
  have h2 : (enA e)[19]? = some (.bool e.k) := rfl
  rw [hq] at h2
  have e2 : (endP P (runP P ts))[19]? = some (.bool (stuckP P (runP P ts))) := rfl
  rw [e2, hs] at h2
  have h2 : false = e.k := by simpa using h2
  exact h2.symm
structure GsR (w : World) (P : List (List Ev)) (i : Nat) (v : Value) (wr : World) : Prop where
  own : wr.ownsRow w.heap.size 158 2 v (allP P i).length (prc (allP P i))
  bel : Bel w wr
  go : GoTo P i
theorem GsR.next {W wr w2 w3 : World} {P : List (List Ev)} {i : Nat} {v v' : Value} (h : GsR W P i v wr) (hb : Bel wr w2)
    (ho : w3.ownsRow W.heap.size 158 2 v' ((allP P i).length + (prsA (alB (opsP P i)) 5).length) (prc (allP P i) ++ prc (prsA (alB (opsP P i)) 5))) (hg : w2.grownBy w3 v.ownBlock) (hgo : GoTo P (i + 1)) : GsR W P (i + 1) v' w3 :=
  ⟨by rw [allP_succ, List.length_append, prc_append]; exact ho, by
    have h2 := h.bel.trans hb
    exact Bel.of (h2.out.trans (grown_below hg (own_bel h.own hb) (Nat.le_refl _) h2.size)), hgo⟩
structure HdR (w8 : World) (ops : List Ev) (M j : Nat) (wi : World) : Prop where
  bel : Bel w8 wi
  map : MapF wi M (hldL (ops.take j))
  no : NoJ ops j
theorem mapF_lenA {w : World} {B : Nat} {f : Int → Bool} (h : MapF w B f) :
    ∃ n : Nat, (∀ (ty : TypeId), (Builtin.len_ #[62] ty #[.map (some B)]).run Try.prog w = .ok (.int .i64 n) w) ∧ (n = 0 → ∀ k, f k = false) := by
  obtain ⟨es, c, h1, h2, h3, h4⟩ := h
  refine ⟨es.size, fun ty => ?_, fun h0 k => h4.2 k fun x hx => ?_⟩
  · simp [Builtin.len_, run_underlying Try.underlying62, MapKept.run_getObj_map h1, goInt, Result.andThen]
  · have : es = #[] := Array.size_eq_zero_iff.1 h0
    subst this
    simp at hx
theorem lenA_step {ops : Array Oper} {rest : List Oper} {o : Oper} {a : Act} {w : World} {Q : Exit → Act → World → Prop} (m : Operand) (ho : o.op = .call { callee := .builtin .len, args := #[m], argTypes := #[62] }) (hgd : o.guard = none) {B n : Nat} (hm : a.eval m = .map (some B))
    (hr : ∀ (ty : TypeId), (Builtin.len_ #[62] ty #[.map (some B)]).run Try.prog w = .ok (.int .i64 n) w)
    (h : wpList Try.prog ops Q rest (a.put o.dst (.int .i64 n)) w) : wpList Try.prog ops Q (o :: rest) a w := by
  refine wpList_plain hgd fun _ hK => ?_
  unfold Oper.wp
  simp [execOp, ho, resolve, invoke, builtin, hm, hr, Result.andThen]
  exact hK _ _ h
set_option maxHeartbeats 32000000 in
theorem walk (W : World) (A : Option Addr) (n c : Nat) (l : List (List Ev)) (s : Prg W A n l) (m : n ≤ c) (x : c ≤ maxLen) (_g : ∀ ops ∈ l, ∀ e ∈ ops, EvOk e) :
    Calls Try.prog 11 #[.slice A n c] W fun e w' => e = .returned (.bool true) ∧ Below W.heap.size W w' := by
  have HL := Lib.hid s
  have HLN := Lib.hid s.1
  have HM := Lib.hid (And.intro m x)
  have hn63 : n ≤ 9223372036854775807 := by unfold maxLen at x; omega
  clear s m x
  go_enter Try.func11, Try.ntmps11
  go_wp2_with fail
  refine (everied_any W).mono ?_
  rintro e0 w0 ⟨rfl, hb0⟩
  have HW0 := Lib.hid (Bel.of hb0)
  clear hb0
  obtain ⟨i0, hi0, hz0, hz1, hz2⟩ := info_parts pr_info
  have J := Lib.hid (And.intro hi0 (And.intro hz0 (And.intro hz1 hz2)))
  clear hi0 hz0 hz1 hz2
  have H0 := Lib.hid (GsR.mk (World.ownsRow_nil _ _ _ _) (Bel.refl w0) (fun t ht => absurd ht (Nat.not_lt_zero t)) : GsR w0 l 0 (.slice none 0 0) w0)
  go_wp2_with fail
  go_loopw [3, 21] (fun v t wr => ∃ i : Nat, i ≤ n ∧ t = .int .i64 i ∧ GsR w0 l i v wr) (fun _ t _ => n - (intOf t).toNat)
  case atStart => exact ⟨0, by omega, rfl, H0.out⟩
  case round =>
    obtain ⟨i, hi, rfl, hr⟩ := hrel
    have HR := Lib.hid hr
    clear hr H0
    generalize hws : wr = wS at *
    clear hws
    by_cases hlt : i < n
    · have HB := Lib.hid (HW0.out.trans HR.out.bel)
      obtain ⟨b, off, B, m, d, rfl, hb, hc, hsl, hm, hd⟩ := (HL.out.bel HB.out).at_ hlt
      have hlt' : (i : Int) < n := by omega
      have HLT := Lib.hid hlt
      have HSL := Lib.hid hsl
      have HD := Lib.hid (And.intro hm hd)
      have hm63 : m ≤ 9223372036854775807 := by unfold maxLen at hd; omega
      clear hsl
      have hmm := @run_makeMap Try.prog
      go_wp2_with fail
      clear hmm
      have H0 := Lib.hid (show HdR wS (opsP l i) wS.heap.size 0 (wS.alloc (.map #[] 0)) from ⟨(Bel.refl wS).alloc _, MapF.new wS, fun i o hi => absurd hi (Nat.not_lt_zero i)⟩)
      have HML := Lib.hid hc
      clear hc hb
      go_loopw [29] (fun t wi => ∃ j : Nat, j ≤ m ∧ t = .int .i64 j ∧ HdR wS (opsP l i) wS.heap.size j wi) (fun t _ => m - (intOf t).toNat)
      case atStart => exact ⟨0, by omega, rfl, H0.out⟩
      case round =>
        obtain ⟨j, hj, rfl, hg⟩ := hrel
        have HG := Lib.hid hg
        clear hg H0
        by_cases hjm : j < m
        · obtain ⟨bb, oo, e, rfl, hbb, he, hrg⟩ := (HSL.out.bel HG.out.bel.out).at_ hjm
          have hjm' : (j : Int) < m := by omega
          have hjd : (j : Int) ≤ d := by have := HD.out.1; omega
          have hS := Lib.hid hrg
          have HE := Lib.hid he
          have HB1 := Lib.hid (HG.out.bel.trans (ewld_below wr e 59))
          have HMF := Lib.hid (HG.out.map.bel (ewld_below wr e 59))
          have HBL := Lib.hid (show Below wS.heap.size wS (ewld wr e 59) from HB1.out.out)
          obtain ⟨c0, c1, c2⟩ := ewld_cells wr e 59
          have LK := mapF_look HMF.out e.t
          have HBX := Lib.hid (ewld_box wr e 59)
          have HNX := Lib.hid (show wr.heap.size ≠ wS.heap.size by have := HG.out.map.lt; omega)
          go_upto_region 11 with (first | (refine load_ev TOp _ rfl rfl rfl hS.out ?_) | (refine ewld_store TOp _ _ rfl rfl _ rfl rfl rfl ?_))
          generalize ewld wr e 59 = w4 at *
          generalize wr.heap.size = X at *
          obtain ⟨hb, hhb⟩ : ∃ hb, hldL ((opsP l i).take j) e.t = hb := ⟨_, rfl⟩
          rw [hhb] at LK
          have HHB := Lib.hid hhb
          clear hrg he hbb hhb
          cases k7 : (e.k == 7)
          · have K7 := Lib.hid (show e.k ≠ 7 by simpa using k7)
            cases k4 : (e.k == 4)
            · have K4 := Lib.hid (show e.k ≠ 4 by simpa using k4)
              cases k5 : (e.k == 5)
              · have K5 := Lib.hid (show e.k ≠ 5 by simpa using k5)
                have HFN := Lib.hid (show HdR wS (opsP l i) wS.heap.size (j + 1) w4 from ⟨HB1.out, by rw [hld_same HE.out (fun h => h.elim K4.out K5.out)]; exact HMF.out, HG.out.no.next HE.out K7.out (fun h => absurd h K4.out)⟩)
                clear LK
                go_wp2_with (first | ((with_reducible refine Go.wpList_skip ?_ ?_); exact rfl; simp only [Act.put, Act.eval, List.setIfInBounds_toArray, List.set_cons_zero, List.set_cons_succ, Array.getD_eq_getD_getElem?, List.getElem?_toArray, List.getElem?_cons_zero, List.getElem?_cons_succ, Option.getD_some]))
                go_roundw
                case rel => exact ⟨j + 1, by omega, by go_num, HFN.out⟩
                case measure => simp [intOf]; omega
              · have K5 := Lib.hid (show e.k = 5 by simpa using k5)
                clear LK
                go_wp2_with (first | ((with_reducible refine Go.wpList_skip ?_ ?_); exact rfl; simp only [Act.put, Act.eval, List.setIfInBounds_toArray, List.set_cons_zero, List.set_cons_succ, Array.getD_eq_getD_getElem?, List.getElem?_toArray, List.getElem?_cons_zero, List.getElem?_cons_succ, Option.getD_some]) | (refine delF_step _ _ rfl rfl rfl rfl HMF.out ?_; intro es1 cn1 hm1))
                have HFN := Lib.hid (show HdR wS (opsP l i) wS.heap.size (j + 1) (fset w4 wS.heap.size es1 cn1) from ⟨Bel.of (fset_below HBL.out (Nat.le_refl _) _ _), by rw [hld_upd HE.out (.inr K5.out), decide_eq_false K4.out]; exact hm1, HG.out.no.next HE.out K7.out (fun h => absurd h K4.out)⟩)
                clear hm1
                go_roundw
                case rel => exact ⟨j + 1, by omega, by go_num, HFN.out⟩
                case measure => simp [intOf]; omega
            · have K4 := Lib.hid (show e.k = 4 by simpa using k4)
              have k5 : (e.k == 5) = false := by rw [K4.out]; rfl
              cases hb
              · go_wp2_with (first | ((with_reducible refine Go.wpList_skip ?_ ?_); exact rfl; simp only [Act.put, Act.eval, List.setIfInBounds_toArray, List.set_cons_zero, List.set_cons_succ, Array.getD_eq_getD_getElem?, List.getElem?_toArray, List.getElem?_cons_zero, List.getElem?_cons_succ, Option.getD_some]) | (refine updF_step _ _ _ rfl rfl rfl rfl rfl HMF.out ?_; intro es1 cn1 hm1; have cc0 := (fset_box (es := es1) (c := cn1) HBX.out HNX.out).cell 0 (v := .int .i64 e.k) rfl))
                have HFN := Lib.hid (show HdR wS (opsP l i) wS.heap.size (j + 1) (fset w4 wS.heap.size es1 cn1) from ⟨Bel.of (fset_below HBL.out (Nat.le_refl _) _ _), by rw [hld_upd HE.out (.inl K4.out), decide_eq_true K4.out]; exact hm1, HG.out.no.next HE.out K7.out (fun _ => HHB.out)⟩)
                clear hm1
                go_roundw
                case rel => exact ⟨j + 1, by omega, by go_num, HFN.out⟩
                case measure => simp [intOf]; omega
              · go_wp2_with (first | ((with_reducible refine Go.wpList_skip ?_ ?_); exact rfl; simp only [Act.put, Act.eval, List.setIfInBounds_toArray, List.set_cons_zero, List.set_cons_succ, Array.getD_eq_getD_getElem?, List.getElem?_toArray, List.getElem?_cons_zero, List.getElem?_cons_succ, Option.getD_some]))
                go_ret
                exact ⟨rfl, (HB.out.trans HB1.out).out⟩
          · clear LK
            go_wp2_with (first | ((with_reducible refine Go.wpList_skip ?_ ?_); exact rfl; simp only [Act.put, Act.eval, List.setIfInBounds_toArray, List.set_cons_zero, List.set_cons_succ, Array.getD_eq_getD_getElem?, List.getElem?_toArray, List.getElem?_cons_zero, List.getElem?_cons_succ, Option.getD_some]))
            go_ret
            exact ⟨rfl, (HB.out.trans HB1.out).out⟩
        · obtain rfl : m = j := by omega
          have HIS := Lib.hid (show In64 (i : Int) by unfold In64; omega)
          go_wp2_with fail
          refine (pgalone_any _ n c l i _ (HL.out.bel (HB.out.trans HG.out.bel)) HM.out.1 HM.out.2 HIS.out).mono ?_
          rintro e3 w3 ⟨v3, q3, c3, rfl, hB3, ho3, hb3⟩
          have HB3 := Lib.hid hB3
          obtain ⟨A3, d3, rfl, hs3, hn3, hm3⟩ := SlP.own ho3
          have HS3 := Lib.hid (show Src w3 A3 _ (prc q3) from slp_src hs3)
          have HU3 := Lib.hid (HG.out.bel.trans (Bel.of hb3))
          have HO3 := Lib.hid (own_bel HR.out.own HU3.out)
          have HN3 := Lib.hid (prc_length q3)
          have HMF3 := HG.out.map.bel (Bel.of hb3)
          obtain ⟨nl, hlen, hnl⟩ := mapF_lenA HMF3
          have HLN3 := Lib.hid hlen
          have HBW := Lib.hid (HB.out.trans HU3.out)
          clear hB3 ho3 hs3 hn3 hm3 hb3 HMF3 hlen
          go_upto_region 19 with fail
          by_cases h0 : 0 < nl
          · have h0' : (0 : Int) < nl := by omega
            clear hnl h0
            go_wp2_with (first | ((with_reducible refine Go.wpList_skip ?_ ?_); exact rfl; simp only [Act.put, Act.eval, List.setIfInBounds_toArray, List.set_cons_zero, List.set_cons_succ, Array.getD_eq_getD_getElem?, List.getElem?_toArray, List.getElem?_cons_zero, List.getElem?_cons_succ, Option.getD_some]) | (refine lenA_step _ rfl rfl rfl HLN3.out ?_))
            go_ret
            exact ⟨rfl, HBW.out.out⟩
          · obtain rfl : nl = 0 := by omega
            have HNL := Lib.hid (hnl rfl)
            clear hnl h0
            cases hc3 : (c3 != 0)
            · obtain ⟨rfl, hck⟩ : q3 = prsA (alB (opsP l i)) 5 ∧ chkP l = 0 := by
                have hc3' : c3 = 0 := by simpa using hc3
                rcases HB3.out with ⟨h1, _, h3⟩ | ⟨_, h1, _, h3⟩ | ⟨h0, ⟨k, h1, _, h2⟩, h3⟩
                · exact absurd (h3.symm.trans hc3') h1
                · omega
                · obtain rfl : i = k := by omega
                  exact ⟨h2, h0⟩
              have hn6 : n ≤ 6 := by have := (chk_ok.1 hck).six; rw [HLN.out] at this; exact this
              have HAN := Lib.hid (allP_len l i)
              have HBN := Lib.hid (prs_small (R := alB (opsP l i)) (n := 5) (by omega) (Nat.le_refl 5) (Nat.zero_le _))
              have hi6 : i ≤ 6 := by omega
              have HGN := Lib.hid (show GoTo l (i + 1) from HR.out.go.next HSL.out.1 HG.out.no HNL.out)
              clear hck
              go_wp2_with (first | ((with_reducible refine Go.wpList_skip ?_ ?_); exact rfl; simp only [Act.put, Act.eval, List.setIfInBounds_toArray, List.set_cons_zero, List.set_cons_succ, Array.getD_eq_getD_getElem?, List.getElem?_toArray, List.getElem?_cons_zero, List.getElem?_cons_succ, Option.getD_some]) | (refine lenA_step _ rfl rfl rfl HLN3.out ?_) | (at_builtin; refine wpList_append_srcE rfl (.tmp 73) (.tmp 74) _ rfl w0.heap.size 158 i0 _ 2 16 Try.underlying61 J.out.1 J.out.2.1 J.out.2.2.1 J.out.2.2.2 rfl (by omega) _ _ _ rfl HO3.out A3 _ d3 _ rfl HN3.out HS3.out (prc_one _) (by have := HAN.out; have := HBN.out; unfold maxLen; unfold prsA; omega) (by have := HAN.out; have := HBN.out; unfold prsA; omega) (HR.out.bel.trans HU3.out).size ?_; intro v4 w4 hown4 hg4 hat4))
              have HX := Lib.hid (GsR.next HR.out HU3.out hown4 hg4 HGN.out)
              clear hown4 hg4 hat4
              go_roundw
              case rel => exact ⟨i + 1, by omega, by go_num, HX.out⟩
              case measure => simp [intOf]; omega
            · go_wp2_with (first | ((with_reducible refine Go.wpList_skip ?_ ?_); exact rfl; simp only [Act.put, Act.eval, List.setIfInBounds_toArray, List.set_cons_zero, List.set_cons_succ, Array.getD_eq_getD_getElem?, List.getElem?_toArray, List.getElem?_cons_zero, List.getElem?_cons_succ, Option.getD_some]) | (refine lenA_step _ rfl rfl rfl HLN3.out ?_))
              go_ret
              exact ⟨rfl, HBW.out.out⟩
    · obtain rfl : n = i := by omega
      obtain ⟨A5, d5, rfl, hs5, hn5, hm5⟩ := SlP.own HR.out.own
      have HS5 := Lib.hid (And.intro (SlP.q hs5) (And.intro hn5 hm5))
      have HB5 := Lib.hid (HW0.out.trans HR.out.bel)
      clear hs5 hn5 hm5
      go_wp2_with fail
      refine (ring_any A5 _ d5 _ _ HS5.out.1 HS5.out.2.1 HS5.out.2.2).mono ?_
      rintro e6 w6 ⟨v6, r6, c6, rfl, hB6, hsl6, hb6⟩
      obtain ⟨A6, n6, k6, rfl, hsi6, _⟩ := SlI.form hsl6
      have HB6 := Lib.hid hB6
      have HN6 := Lib.hid (show r6.length = n6 by have := hsi6.1; simpa [toI] using this)
      have HBW6 := Lib.hid (HB5.out.trans (Bel.of hb6))
      clear hB6 hsl6 hsi6 hb6
      go_wp2_with fail
      refine (eends_any A n c l _ (HL.out.bel HBW6.out) HM.out.1 HM.out.2).mono ?_
      rintro e7 w7 ⟨v7, xs, rfl, hno, hok, hown, hb7⟩
      have HBW7 := Lib.hid (HBW6.out.trans (Bel.of hb7))
      have HOK := Lib.hid hok
      have HOW := Lib.hid hown
      obtain ⟨A7, k7, rfl, _, _⟩ := row_slice hown
      clear hok hown hb7 hno
      cases hc6 : (c6 != 0)
      · by_cases hr6 : 0 < n6
        · have hr6' : (0 : Int) < n6 := by omega
          clear hr6
          go_wp2
          go_ret
          exact ⟨rfl, HBW7.out.out⟩
        · obtain rfl : n6 = 0 := by omega
          have HR6 := Lib.hid (show r6 = [] from List.eq_nil_of_length_eq_zero HN6.out)
          clear hr6
          cases hev : (evC l != 0)
          · have h0 : evC l = 0 := by simpa using hev
            have hEO := HOK.out h0
            obtain ⟨ds, rfl⟩ := en_list (s := xs) fun x hx => ((hEO.all x).1 hx).form
            have hown := HOW.out
            rw [List.length_map, ens_row] at hown
            have HSY := Lib.hid (goes_all (evC_ok h0) (by rw [HLN.out]; exact HR.out.go) (by have := HB6.out; rw [HR6.out] at this; rw [HLN.out]; exact this) (show c6 = 0 by simpa using hc6) hEO)
            have hpos : 0 < ds.length := by have := hEO.pos (evC_ok h0); simpa using this
            obtain ⟨g, cap, he7, _, hnc, hcm, _⟩ := row_cells hown hpos
            rw [List.length_map]
            cases he7
            have HO2 := Lib.hid hown
            obtain ⟨k9, hk9⟩ : ∃ k9, ds.length = k9 := ⟨_, rfl⟩
            have HK := Lib.hid hk9
            rw [hk9] at hnc ⊢
            have hncI : (k9 : Int) ≤ k7 := by omega
            have hnI : (k9 : Int) ≤ 9223372036854775807 := by unfold maxLen at hcm; omega
            have hposI : (0 : Int) < k9 := by omega
            have hposN : 0 < k9 := by omega
            clear hown hpos hk9 HOW HOK hEO h0 HB6
            go_wp2
            go_loopw [100] (fun t wr => ∃ k : Nat, k ≤ k9 ∧ t = .int .i64 k ∧ Bel w7 wr) (fun t _ => k9 - (intOf t).toNat)
            case atStart => exact ⟨0, by omega, rfl, Bel.refl _⟩
            case round =>
              obtain ⟨k, hk, rfl, hr⟩ := hrel
              have HRR := Lib.hid hr
              clear hr
              by_cases hlt : k < k9
              · have hlt' : (k : Int) < k9 := by omega
                have hl1 : k < ds.length := by rw [HK.out]; exact hlt
                have HRG := Lib.hid (own_range (own_bel HO2.out HRR.out) hl1)
                have HZK := Lib.hid (HSY.out ds[k] (List.getElem_mem hl1))
                generalize ds[k] = z at *
                have HY0 := Lib.hid (Box.new wr z20 33)
                have HY1 := Lib.hid (HY0.out.setRow (enA z))
                have hbw : Bel wr ((wr.alloc (.cells z20 33)).setRow wr.heap.size (enA z)) := ((Bel.refl wr).alloc _).setRow wr.heap.size (Nat.le_refl _) _
                have HBW := Lib.hid (HRR.out.trans hbw)
                clear hbw
                go_upto_region 30 with (first | (refine load_row (l := enE z) (TEndx z) _ rfl rfl rfl HRG.out ?_) | (refine storeB 33 _ _ rfl rfl rfl rfl HY0.out rfl (by exact TEnd) (enA_one z) ?_))
                change Code.wp _ _ _ _ ((wr.alloc (.cells z20 33)).setRow wr.heap.size (enA z))
                have c19 := HY1.out.cell 19 (v := .bool false) (by rw [← HZK.out]; rfl)
                clear HY0 HY1 HRG HRR
                generalize (wr.alloc (.cells z20 33)).setRow wr.heap.size (enA z) = W5 at *
                generalize wr.heap.size = B at *
                go_wp2
                go_roundw
                case rel => exact ⟨k + 1, by omega, by go_num, HBW.out⟩
                case measure => simp [intOf]; omega
              · obtain rfl : k = k9 := by omega
                go_wp2
                go_ret
                exact ⟨rfl, (HBW7.out.trans HRR.out).out⟩
          · go_wp2
            go_ret
            exact ⟨rfl, HBW7.out.out⟩
      · go_wp2
        go_ret
        exact ⟨rfl, HBW7.out.out⟩
set_option maxRecDepth 100000 in
theorem lifted (os : Os) (started : os.Started) (H : Type) (enc : TypeId × Value → H) :
    ReturnsInHanded {} Try.checked os 11 .any (Rows.everyGoesSpec.pre6 enc Try.prog Try.f11 Rows.everyGoesRow.domain false) (Rows.everyGoesSpec.post enc Try.prog Try.f11 false true false false) := by
  refine returnsInHanded_of_change_sized (C := Try.checked) own started (by kernel_rfl) Try.func11
    (ChangeSpec.witness6 (enc := enc) (C := Try.checked) false ⟨#[], #[.slice none 0 0], []⟩ 8 (by kernel_rfl) (by kernel_rfl) (by kernel_rfl) (by kernel_rfl)) ?_
  intro W base args ds gs before hval0 hW hcnd hsz0 _
  have hsz : (DataW.weightsEach Try.prog (Try.f11.params.toList ++ Rows.everyGoesSpec.plain.varTypes Try.prog) (ds ++ gs)).all (· ≤ reachBytes) = true := hsz0
  clear hsz0
  have hval : ∀ (j : Nat) t v, Try.f11.params[j]? = some t → args[j]? = some v → Value.okWide Try.prog W .any base t v := hval0
  have hW' := hW
  obtain ⟨p, q, hA0, hV, rfl, hfz, hnd⟩ := hW
  have hA : DataW.TrodAll enc Try.prog W 0 (fun _ => true) true Try.f11.params.toList args.toList ds p := hA0
  rw [Try.params11] at hA hval hsz
  obtain ⟨v0, vs0, d0, ds0, p0, q0, hargs, rfl, rfl, h0, r0⟩ := trodAll_cons hA
  obtain ⟨rfl, rfl, rfl⟩ := trodAll_nil r0
  obtain rfl : args = #[v0] := by cases args; simp_all
  obtain ⟨rfl, rfl⟩ := trodVars_none hV
  have t0 := h0
  have lt0 : ∀ x ∈ p0, x.block < W.heap.size := by obtain ⟨m, hm⟩ := t0; exact DataW.trod_lt m _ _ _ hm
  obtain ⟨A0, n0, c0, l0, rfl, s0, m0, x0, g0⟩ := open_ops Try.underlying22 (by kernel_rfl) Try.underlying57 Try.underlying59 ⟨rfl, rfl, rfl⟩ (by kernel_rfl) (by kernel_rfl) Try.underlying3 (hval 0 22 v0 rfl rfl) h0
  clear hA0 hval0
  refine (walk W A0 n0 c0 l0 s0 m0 x0 g0).mono fun e W' ⟨he, bel⟩ => ?_
  subst he
  exact ⟨_, rfl, _, _, _, [], _, [], hW', trodAll_mk1 (shut_bool Try.underlying4 _), (trodAll_cons_mk (Below.trod laidOut (by kernel_rfl) (of_decide_eq_true (by kernel_rfl)) t0 bel lt0) trodAll_mk0), rfl, bel.frame _, fun h => by cases h⟩

theorem over : Rows.everyGoesRow.holds Try.pinned (OpenSpec.ofChange Rows.everyGoesSpec) :=
  OpenClaim.holds_of_wide 11 Try.f11 rfl rfl rfl rfl rfl rfl rfl ⟨rfl, rfl, rfl, rfl, rfl⟩ rfl rfl rfl rfl rfl (by kernel_rfl) Try.func11 (by kernel_rfl)
    (of_decide_eq_true (by kernel_rfl)) (by unfold Func.isWrapper; first | (rw [if_pos (by decide +kernel)]; kernel_rfl) | (rw [if_neg (by decide +kernel)]; exact ⟨rfl, rfl⟩))
    (fun os started H enc _ => lifted os started H enc)

theorem proved : Rows.EveryGoesSaid := over
#print axioms proved
end Go.Proofs.Ytlcldcbdobgdbaa.LEveryGoes

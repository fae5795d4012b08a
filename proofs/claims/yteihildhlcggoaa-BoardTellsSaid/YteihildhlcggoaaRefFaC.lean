/- The reference's Fast. -/
import Derived.Test.YteihildhlcggoaaRefFa1
import Derived.Test.YteihildhlcggoaaAll
import Derived.Test.YteihildhlcggoaaVarP
import Derived.Test.YteihildhlcggoaaFs
set_option linter.all false
set_option maxRecDepth 100000
namespace Go.Proofs.Yteihildhlcggoaa
open Go Go.RowKit

def RFastPost (w : World) (l : List Ev) (e : Ending) (w' : World) : Prop :=
  ∃ v, e = .returned (.tuple #[v, .int .i64 (slT l l.length : Nat)]) ∧ w'.ownsRow w.heap.size 33 3 v (fflags l).length (evc (fflags l)) ∧ Below w.heap.size w w'
/-- Its memory: the flags so far; the Reads' places. -/
structure FaR (w : World) (L1 : List Ev) (rs : List Nat) (v1 v2 : Value) (wr : World) : Prop where
  own1 : wr.ownsRow w.heap.size 33 3 v1 L1.length (evc L1)
  own2 : wr.ownsRow w.heap.size 3 1 v2 rs.length (il rs)
  apart : ∀ g, v1.ownBlock = some g → v2.ownBlock ≠ some g
  below : Bel w wr
section
variable {w wr w' : World} {L1 : List Ev} {rs : List Nat} {v1 v2 v : Value}
theorem FaR.bel (h : FaR w L1 rs v1 v2 wr) (hb : Bel wr w') : FaR w L1 rs v1 v2 w' := ⟨own_bel h.own1 hb, own_bel h.own2 hb, h.apart, h.below.trans hb⟩
theorem FaR.add {e : Ev} (h : FaR w L1 rs v1 v2 wr) (hg : wr.grownBy w' v1.ownBlock) (hat : v.ownBlock = v1.ownBlock ∨ v.ownBlock = some wr.heap.size)
    (ho : w'.ownsRow w.heap.size 33 3 v (L1.length + 1) (evc L1 ++ evl e)) : FaR w (L1 ++ [e]) rs v v2 w' := by
  obtain ⟨h2, hap⟩ := vown_two h.own1 h.own2 h.apart hg hat
  exact ⟨by rw [List.length_append, evc_append]; exact ho, h2, hap, h.below.out.trans (grown_below hg h.own1 (Nat.le_refl _) h.below.size)⟩
/-- The Reads' places anew: a row that is younger than all this. -/
theorem FaR.put {w0 : World} {rs' : List Nat} {v' : Value} (h : FaR w L1 rs v1 v2 w0) (hb : Bel w0 w') (ho : w'.ownsRow w0.heap.size 3 1 v' rs'.length (il rs')) : FaR w L1 rs' v1 v' w' :=
  ⟨own_bel h.own1 hb, own_drop_alloc ho h.below.size, fun g h1 h2 => by have a := (own_lt h.own1 h1).2; have b := (own_lt ho h2).1; omega, h.below.trans hb⟩
theorem FaR.nil (h : FaR w L1 rs v1 v2 wr) : FaR w L1 [] v1 (.slice none 0 0) wr := ⟨h.own1, World.ownsRow_nil _ _ _ _, (fun g _ h2 => by cases h2), h.below⟩
end
theorem il_len (rs : List Nat) : (il rs).length = rs.length := by simp [il]
theorem il_own {w : World} {base : Nat} {t : TypeId} {v : Value} {rs : List Nat} (h : w.ownsRow base t 1 v rs.length (il rs)) :
    ∃ A c, v = .slice A rs.length c ∧ ∀ j x, rs[j]? = some x → ∃ g, A = some ⟨g, 0, none⟩ ∧ base ≤ g ∧ g < w.heap.size ∧ w.cell? ⟨g, j, none⟩ = some (.int .i64 (x : Nat)) := by
  rcases h.2 with ⟨rfl, h0⟩ | ⟨g, cap, cur, rfl, hg, hh, hn, hc, hs, ht⟩
  · exact ⟨none, 0, by rw [h0], fun j k hk => by have := (List.getElem?_eq_some_iff.1 hk).1; omega⟩
  · have hb : Box w g cur t := hh
    refine ⟨_, cap, rfl, fun j x hx => ⟨g, rfl, hg, hb.lt, ?_⟩⟩
    have h9 : (il rs)[j]? = some (.int .i64 (x : Nat)) := by unfold il; rw [List.getElem?_map, hx]; rfl
    rw [← ht, List.getElem?_take] at h9
    split at h9
    · exact hb.cell j (by simpa using h9)
    · cases h9
theorem TFl9 : RowTy Try.prog 33 3 := ⟨_, Try.underlying33, rfl, by kernel_rfl⟩
theorem isEv_k9 {e : Ev} (h : isEv e = true) : 1 ≤ e.k ∧ e.k ≤ 8 := by
  have := isEv_o h
  unfold nobj at this
  split at this
  · omega
  · split at this
    · omega
    · split at this
      · omega
      · split at this <;> omega
/-- The late ones among the first. -/
def ltT (l : List Ev) (rs : List Nat) (k i : Nat) : Bool := (rs.take i).any fun a => !(bef l a k)
theorem ltT_all (l : List Ev) (rs : List Nat) (k : Nat) : ltT l rs k rs.length = ltP l rs k := by unfold ltT ltP; rw [List.take_length]
theorem take_snoc9 {α : Type} {rs : List α} {i : Nat} {x : α} (h : rs[i]? = some x) : rs.take (i + 1) = rs.take i ++ [x] := by
  rw [List.take_add_one, h]; rfl
theorem ltT_next {l : List Ev} {rs : List Nat} {k i x : Nat} (h : rs[i]? = some x) : ltT l rs k (i + 1) = (ltT l rs k i || !(bef l x k)) := by unfold ltT; rw [take_snoc9 h, List.any_append]; simp
theorem knP_nat (l : List Ev) (i k : Nat) : knP l (i : Nat) k = bef l i k := by unfold knP; rw [decide_eq_false (by omega), Int.toNat_natCast, Bool.false_or]
/-- The Reads' places that stay. -/
def rsT (l : List Ev) (t : Nat) (rs : List Nat) (i : Nat) : List Nat := (rs.take i).filter fun a => decide (tZ l a ≠ t)
theorem rsT_yes {l : List Ev} {t : Nat} {rs : List Nat} {i x : Nat} (h : rs[i]? = some x) (hx : tZ l x ≠ t) : rsT l t rs (i + 1) = rsT l t rs i ++ [x] := by unfold rsT; rw [take_snoc9 h, List.filter_append]; simp [hx]
theorem rsT_no {l : List Ev} {t : Nat} {rs : List Nat} {i x : Nat} (h : rs[i]? = some x) (hx : ¬ tZ l x ≠ t) : rsT l t rs (i + 1) = rsT l t rs i := by unfold rsT; rw [take_snoc9 h, List.filter_append]; simp at hx; simp [hx]
theorem rsT_len (l : List Ev) (t : Nat) (rs : List Nat) (i : Nat) : (rsT l t rs i).length ≤ rs.length := Nat.le_trans (List.length_filter_le _ _) (by rw [List.length_take]; omega)
theorem rsT_all (l : List Ev) (t : Nat) (rs : List Nat) : rsT l t rs rs.length = rs.filter fun a => decide (tZ l a ≠ t) := by unfold rsT; rw [List.take_length]
section
variable {l : List Ev} {m k : Nat}
theorem kX_no (h : ¬ ((kZ l k = 1 ∨ kZ l k = 2) ∧ oZ l k = m)) : kX l m k = 0 ∧ plTo l m (k + 1) = plTo l m k ∧ slX l m (k + 1) = slX l m k := by
  by_cases ho : oZ l k = m
  · have h1 : kZ l k ≠ 1 := fun e => h ⟨.inl e, ho⟩
    have h2 : kZ l k ≠ 2 := fun e => h ⟨.inr e, ho⟩
    refine ⟨?_, ?_, ?_⟩
    · unfold kX; rw [if_pos ho]; exact Classical.byContradiction fun hn => (fkK_acc hn).elim h1 h2
    · rw [plTo, if_pos ho]; unfold plStep; rw [if_neg h1, if_neg h2]
    · rw [slX, if_pos ho]; unfold plSl; rw [if_neg h1, Nat.add_zero]
  · exact ⟨by unfold kX; rw [if_neg ho], by rw [plTo, if_neg ho], by rw [slX, if_neg ho, Nat.add_zero]⟩
theorem kX_yes (hm : may l = 0) (hk : k < l.length) (ho : oZ l k = m) {p : Pl} (hp : plTo l m k = p) : kX l m k = plK l p k ∧ plTo l m (k + 1) = plStep l p k ∧ slX l m (k + 1) = slX l m k + plSl l p k := by
  subst hp
  have h := plr_step hm hk (plr_all hm m k (Nat.le_of_lt hk)) ho
  refine ⟨?_, by rw [plTo, if_pos ho], by rw [slX, if_pos ho]⟩
  unfold kX fkK
  rw [if_pos ho, h.2.1, ho]
end
/-- One round of the loop over the events. -/
structure FnR (w W : World) (l : List Ev) (n m k : Nat) (v1 v2 t6 t8 t10 : Value) (wr : World) : Prop where
  far : FaR W (faT l n m k) (plTo l m k).rs v1 v2 wr
  s6 : t6 = .int .i64 ((slS l n m + slX l m k : Nat) : Int)
  s8 : t8 = .int .i64 (plTo l m k).w
  s10 : t10 = .bool (plTo l m k).many
section
variable {l : List Ev} {k : Nat} {pw : Int} {rs : List Nat} {my : Bool}
theorem rd_many (hk : kZ l k = 1) : plStep l ⟨pw, rs, true⟩ k = ⟨pw, (rs.filter fun a => decide (tZ l a ≠ tZ l k)) ++ [k], true⟩ ∧ plSl l ⟨pw, rs, true⟩ k = 0 ∧ plK l ⟨pw, rs, true⟩ k = if knP l pw k = true then 0 else 2 := by
  have hs : ¬ plSkR l ⟨pw, rs, true⟩ k = true := by unfold plSkR; simp
  refine ⟨?_, ?_, ?_⟩
  · unfold plStep plR; rw [if_pos hk, if_neg hs, if_neg (fun h => by cases h.1)]
  · unfold plSl; rw [if_pos hk, if_neg hs, if_pos rfl]
  · unfold plK; rw [if_pos hk, if_neg hs]
theorem rd_skip (hk : kZ l k = 1) (hs : plSkR l ⟨pw, rs, my⟩ k = true) : plStep l ⟨pw, rs, my⟩ k = ⟨pw, rs, my⟩ ∧ plSl l ⟨pw, rs, my⟩ k = 0 ∧ plK l ⟨pw, rs, my⟩ k = 0 := by
  refine ⟨?_, ?_, ?_⟩
  · unfold plStep plR; rw [if_pos hk, if_pos hs]
  · unfold plSl; rw [if_pos hk, if_pos hs]
  · unfold plK; rw [if_pos hk, if_pos hs]
theorem rd_one (hk : kZ l k = 1) (hs : plSkR l ⟨pw, rs, false⟩ k = false) (hl : ltP l rs k = false) : plStep l ⟨pw, rs, false⟩ k = ⟨pw, [k], false⟩ ∧ plSl l ⟨pw, rs, false⟩ k = 0 ∧ plK l ⟨pw, rs, false⟩ k = if knP l pw k = true then 0 else 2 := by
  have hs' : ¬ plSkR l ⟨pw, rs, false⟩ k = true := by rw [hs]; simp
  refine ⟨?_, ?_, ?_⟩
  · unfold plStep plR; rw [if_pos hk, if_neg hs', if_pos ⟨rfl, hl⟩]
  · unfold plSl; rw [if_pos hk, if_neg hs', if_neg (by simp), if_neg (by rw [hl]; simp)]
  · unfold plK; rw [if_pos hk, if_neg hs']
theorem rd_late (hk : kZ l k = 1) (hs : plSkR l ⟨pw, rs, false⟩ k = false) (hl : ltP l rs k = true) : plStep l ⟨pw, rs, false⟩ k = ⟨pw, (rs.filter fun a => decide (tZ l a ≠ tZ l k)) ++ [k], true⟩ ∧ plSl l ⟨pw, rs, false⟩ k = 1 ∧ plK l ⟨pw, rs, false⟩ k = if knP l pw k = true then 0 else 2 := by
  have hs' : ¬ plSkR l ⟨pw, rs, false⟩ k = true := by rw [hs]; simp
  refine ⟨?_, ?_, ?_⟩
  · unfold plStep plR; rw [if_pos hk, if_neg hs', if_neg (fun h => by have := h.2; rw [hl] at this; cases this)]
  · unfold plSl; rw [if_pos hk, if_neg hs', if_neg (by simp), if_pos hl]
  · unfold plK; rw [if_pos hk, if_neg hs']
theorem wt_skip (hk : kZ l k = 2) (hs : epP l pw k = true) : plStep l ⟨pw, rs, my⟩ k = ⟨pw, rs, my⟩ ∧ plSl l ⟨pw, rs, my⟩ k = 0 ∧ plK l ⟨pw, rs, my⟩ k = 0 := by
  have h1 : ¬ kZ l k = 1 := by omega
  refine ⟨?_, ?_, ?_⟩
  · unfold plStep plW; rw [if_neg h1, if_pos hk, if_pos hs]
  · unfold plSl; rw [if_neg h1]
  · unfold plK; rw [if_neg h1, if_pos hk, if_pos hs]
theorem wt_go (hk : kZ l k = 2) (hs : epP l pw k = false) : plStep l ⟨pw, rs, my⟩ k = ⟨(k : Nat), if my = true then [] else rs, false⟩ ∧ plSl l ⟨pw, rs, my⟩ k = 0 ∧ plK l ⟨pw, rs, my⟩ k = if knP l pw k = true then (if ltP l rs k = true then 3 else 0) else 1 := by
  have h1 : ¬ kZ l k = 1 := by omega
  have hs' : ¬ epP l pw k = true := by rw [hs]; simp
  refine ⟨?_, ?_, ?_⟩
  · unfold plStep plW; rw [if_neg h1, if_pos hk, if_neg hs']
  · unfold plSl; rw [if_neg h1]
  · unfold plK; rw [if_neg h1, if_pos hk, if_neg hs']
theorem skr_one {x : Nat} : plSkR l ⟨pw, [x], false⟩ k = epP l (x : Nat) k := by unfold plSkR; simp
theorem skr_nil : plSkR l ⟨pw, [], false⟩ k = false := by unfold plSkR; simp
end
/-- How a round changes what is kept. -/
structure Way (l : List Ev) (n m k : Nat) (add : List Ev) (p' : Pl) (d : Nat) : Prop where
  fa : faT l n m (k + 1) = faT l n m k ++ add
  pl : plTo l m (k + 1) = p'
  sl : slX l m (k + 1) = slX l m k + d
theorem way_no {l : List Ev} {n m k : Nat} {p p' : Pl} {d : Nat} (h : kX l m k = plK l p k ∧ plTo l m (k + 1) = plStep l p k ∧ slX l m (k + 1) = slX l m k + plSl l p k) (h1 : plStep l p k = p') (h2 : plSl l p k = d) (h3 : plK l p k = 0) : Way l n m k [] p' d :=
  ⟨by rw [faT_no (by rw [h.1, h3]), List.append_nil], by rw [h.2.1, h1], by rw [h.2.2, h2]⟩
theorem way_yes {l : List Ev} {n m k : Nat} {p p' : Pl} {d : Nat} {q : Int} (h : kX l m k = plK l p k ∧ plTo l m (k + 1) = plStep l p k ∧ slX l m (k + 1) = slX l m k + plSl l p k) (h1 : plStep l p k = p') (h2 : plSl l p k = d) (h3 : plK l p k = q) (hq : q ≠ 0) (ho : (eZ l k).o = (m : Nat)) : Way l n m k [⟨(k : Nat), (m : Nat), q⟩] p' d :=
  ⟨by rw [faT_yes (by rw [h.1, h3]; exact hq), h.1, h3, ho], by rw [h.2.1, h1], by rw [h.2.2, h2]⟩
theorem FaR.nochange {w wr : World} {L1 : List Ev} {rs : List Nat} {v1 v2 : Value} (h : FaR w L1 rs v1 v2 wr) : FaR w (L1 ++ []) rs v1 v2 wr := by rw [List.append_nil]; exact h
theorem Way.fin {w W : World} {l : List Ev} {n m k : Nat} {add : List Ev} {pw : Int} {rs : List Nat} {my : Bool} {d : Nat} (h : Way l n m k add ⟨pw, rs, my⟩ d) {v1 v2 : Value} {z : Int} (hz : z = ((slS l n m + slX l m k + d : Nat) : Int)) {wr : World} (hf : FaR W (faT l n m k ++ add) rs v1 v2 wr) : FnR w W l n m (k + 1) v1 v2 (.int .i64 z) (.int .i64 pw) (.bool my) wr :=
  ⟨by rw [h.fa, h.pl]; exact hf, by rw [h.sl, hz, Nat.add_assoc], by rw [h.pl], by rw [h.pl]⟩
set_option maxHeartbeats 64000000 in
theorem rfast_any (A : Option Addr) (n c : Nat) (l : List Ev) (w : World) (hl : Sl w A n l) (hm : may l = 0) : Calls Try.prog 16 #[.slice A n c] w (RFastPost w l) := by
  obtain ⟨i0, hi0, hz0, hz1, hz2⟩ := info_parts fl_info
  obtain ⟨j0, hj0, hy0, hy1, hy2⟩ := info_parts int_info
  have J := Lib.hid (And.intro hi0 (And.intro hz0 (And.intro hz1 hz2)))
  have JI := Lib.hid (And.intro hj0 (And.intro hy0 (And.intro hy1 hy2)))
  have HM := Lib.hid hm
  have HN := Lib.hid hl.1
  have hn80 : n ≤ 80 := by rw [← hl.1]; exact ((may_iff l).1 hm).1
  have HBl := Lib.hid (Box.new w #[.slice A n c] 22)
  have HB0 := Lib.hid ((Bel.refl w).alloc (.cells #[.slice A n c] 22))
  have HL := Lib.hid (hl.bel HB0.out)
  have c0 := HBl.out.cell 0 (v := .slice A n c) rfl
  clear hi0 hz0 hz1 hz2 hj0 hy0 hy1 hy2 hl hm
  go_enter Try.func16, Try.ntmps16
  go_wp2_with fail
  refine (ahead_any A n c l _ HL.out hn80).mono ?_
  rintro e w1 ⟨O, r, rfl, hM⟩
  have HX1 := Lib.hid (show Bel (w.alloc (.cells #[.slice A n c] 22)) (w1.alloc (.cells #[.slice (some ⟨O, 0, none⟩) n n] 60)) from (show Bel (w.alloc (.cells #[.slice A n c] 22)) w1 from hM.below).alloc (.cells #[.slice (some ⟨O, 0, none⟩) n n] 60))
  have HMT := Lib.hid (hM.grow ((Bel.refl w1).alloc (.cells #[.slice (some ⟨O, 0, none⟩) n n] 60)))
  have HBm := Lib.hid (Box.new w1 #[.slice (some ⟨O, 0, none⟩) n n] 60)
  clear c0 hM
  go_wp2
  generalize (w1.alloc (.cells #[.slice (some ⟨O, 0, none⟩) n n] 60)) = W at *
  generalize w1.heap.size = Bm at *
  have HBW := Lib.hid (HB0.out.trans HX1.out)
  have HLW := Lib.hid (HL.out.bel HX1.out)
  have HBL := Lib.hid (HX1.out.box HBl.out)
  have HW0 := Lib.hid HBW.out.size
  go_loopw [5, 6, 27] (fun v1 t6 t27 wr => ∃ m : Nat, m ≤ 8 ∧ t27 = .int .i64 m ∧ t6 = .int .i64 (slS l n m : Nat) ∧ FaR W (faT l n m 0) [] v1 (.slice none 0 0) wr) (fun _ _ t27 _ => 8 - (intOf t27).toNat)
  case atStart => exact ⟨0, by omega, rfl, rfl, ⟨World.ownsRow_nil _ _ _ _, World.ownsRow_nil _ _ _ _, (fun g h _ => by cases h), Bel.refl W⟩⟩
  case round =>
    obtain ⟨m, hm, rfl, rfl, hr⟩ := hrel
    have HR := Lib.hid hr
    clear hr
    by_cases hlt : m < 8
    · have hlt' : (m : Int) < 8 := by omega
      have cB := (HR.out.below.box HBL.out).cell 0 (v := .slice A n c) rfl
      go_wp2
      clear cB
      go_loopw [5, 6, 8, 9, 10, 34] (fun v1 t6 t8 v2 t10 t34 wr => ∃ k : Nat, k ≤ n ∧ t34 = .int .i64 k ∧ FnR w W l n m k v1 v2 t6 t8 t10 wr) (fun _ _ _ _ _ t34 _ => n - (intOf t34).toNat)
      case atStart => exact ⟨0, by omega, rfl, HR.out, rfl, rfl, rfl⟩
      case round =>
        obtain ⟨k, hk, rfl, ⟨hr, rfl, rfl, rfl⟩⟩ := hrel
        have HR2 := Lib.hid hr
        clear hr HR
        by_cases hltk : k < n
        · have hltk' : (k : Int) < n := by omega
          obtain ⟨bb, off, ⟨ek, et, eo⟩, rfl, hbb, he, hrg⟩ := HLW.out.at_ hltk
          have hev := wrong_isEv (wrong_at HM.out he)
          have het := isEv_t hev
          have heo := isEv_o hev
          have hekk : 1 ≤ ek ∧ ek ≤ 8 := isEv_k9 hev
          obtain ⟨t, rfl⟩ := Int.eq_ofNat_of_zero_le het.1
          obtain ⟨o, rfl⟩ := Int.eq_ofNat_of_zero_le heo.1
          have HEZ := Lib.hid (eZ_at he)
          have HTZ := Lib.hid (show tZ l k = t by unfold tZ; rw [eZ_at he]; rfl)
          have HOZ := Lib.hid (show oZ l k = o by unfold oZ; rw [eZ_at he]; rfl)
          have HKZ := Lib.hid (show kZ l k = ek by unfold kZ; rw [eZ_at he])
          have HKL := Lib.hid (show k < l.length by rw [HN.out]; exact hltk)
          have hR := Lib.hid (rangeAt_below HR2.out.below.out hbb hrg)
          have HX := Lib.hid (ewld_box wr ⟨ek, t, o⟩ 50)
          have HXB := Lib.hid (ewld_below wr ⟨ek, t, o⟩ 50)
          have HR3 := Lib.hid (HR2.out.bel HXB.out)
          have hSS : slS l n m + slX l m k ≤ 1000 := by have h1 := slS_le (l := l) n m; have h2 := slX_le (l := l) m k; have : m * n ≤ 8 * 80 := Nat.mul_le_mul (by omega) hn80; omega
          have HSS := Lib.hid hSS
          have HFL := Lib.hid (show (faT l n m k).length ≤ 1000 by have h1 := faT_len l n m k; have : m * n ≤ 8 * 80 := Nat.mul_le_mul (by omega) hn80; omega)
          clear he hrg hev het heo hSS
          by_cases hac : (ek = 1 ∨ ek = 2) ∧ o = m
          · obtain ⟨hk12, hom⟩ := hac
            obtain rfl : m = o := hom.symm
            have HP := plr_all HM.out m k (Nat.le_of_lt HKL.out)
            generalize hp : plTo l m k = p at *
            obtain ⟨pw, rs, my⟩ := p
            have HPX := Lib.hid (kX_yes HM.out HKL.out HOZ.out hp)
            have HRM := Lib.hid (show ∀ x ∈ rs, x < k from HP.mem)
            have HRL := Lib.hid (show rs.length ≤ k from HP.len)
            have hpwk : pw < (k : Int) := by rcases HP.w with ⟨h1, _⟩ | ⟨i, h0, h1, _⟩ <;> (dsimp only at h1; omega)
            have HPR := Lib.hid (show my = false → rs = [] ∨ ∃ x, rs = [x] from fun e => (HP.r (HP.my ▸ e)).imp (fun h => h.1) fun ⟨x, h, _⟩ => ⟨x, h⟩)
            have HEO := Lib.hid (show (eZ l k).o = (m : Nat) by rw [HEZ.out])
            clear HP hp hekk hom
            generalize hS : slS l n m + slX l m k = S at *
            have HS9 := Lib.hid hS
            clear hS
            obtain ⟨A2, c2', rfl, hI⟩ := il_own HR3.out.own2
            have HI := Lib.hid hI
            have HRF := Lib.hid HR3.out
            have HV1E := Lib.hid (fun g (e : u5.ownBlock = some g) => (own_lt HR2.out.own1 e).2)
            clear hI
            have hle2 : ¬ 2 < ek := by omega
            have c0 := HX.out.cell 0 (v := .int .i64 ek) rfl
            have c2 := HX.out.cell 2 (v := .int .i64 m) rfl
            go_wp2_with (first | (refine load_ev T36 _ rfl rfl rfl hR.out ?_) | (refine ewld_store T36 _ _ rfl rfl _ rfl rfl rfl ?_))
            have HX3 := Lib.hid HX.out
            have HXB3 := Lib.hid HXB.out
            generalize hw3 : ewld wr ⟨ek, t, m⟩ 50 = w3 at *
            clear c0 c2 hw3 hle2
            go_loopw [15, 50] (fun t15 t50 wr => ∃ i : Nat, i ≤ rs.length ∧ t50 = .int .i64 i ∧ t15 = .bool (ltT l rs k i) ∧ wr = w3) (fun _ t50 _ => rs.length - (intOf t50).toNat)
            case atStart => exact ⟨0, Nat.zero_le _, rfl, rfl, rfl⟩
            case round =>
              obtain ⟨i, hi, rfl, rfl, hwx⟩ := hrel
              obtain rfl := hwx.symm
              by_cases hli : i < rs.length
              · have hli' : (i : Int) < rs.length := by omega
                obtain ⟨x, hx⟩ : ∃ x, rs[i]? = some x := ⟨rs[i], List.getElem?_eq_getElem hli⟩
                have hxk := HRM.out x (List.mem_of_getElem? hx)
                obtain ⟨g, rfl, hg1, hg2, hgc⟩ := HI.out i x hx
                have kb := known_any Bm O n r l _ w3 (x : Nat) k (HRF.out.below.box HBm.out) (HMT.out.grow HRF.out.below) (by omega) (by omega)
                rw [knP_nat] at kb
                have HNT := Lib.hid (ltT_next (l := l) (k := k) hx)
                have HI9 := Lib.hid (And.intro hi hli)
                have hil : i < rs.length := hli
                have hrl := HRL.out
                clear hx hxk hg1 hg2
                cases hl9 : ltT l rs k i
                · cases hb9 : bef l x k
                  · rw [hb9] at kb
                    go_wp2_with (first | (first | (go_at_call 37; (with_reducible refine (kb).mono ?_); rintro e w' ⟨rfl, rfl⟩)))
                    go_roundw
                    case rel => exact ⟨i + 1, by omega, by go_num, by rw [HNT.out, hl9, hb9]; rfl, by first | trivial | rfl⟩
                    case measure => simp [intOf]; omega
                  · rw [hb9] at kb
                    go_wp2_with (first | (first | (go_at_call 37; (with_reducible refine (kb).mono ?_); rintro e w' ⟨rfl, rfl⟩)))
                    go_roundw
                    case rel => exact ⟨i + 1, by omega, by go_num, by rw [HNT.out, hl9, hb9]; rfl, by first | trivial | rfl⟩
                    case measure => simp [intOf]; omega
                · go_wp2_with (first | (first | (go_at_call 37; (with_reducible refine (kb).mono ?_); rintro e w' ⟨rfl, rfl⟩)))
                  go_roundw
                  case rel => exact ⟨i + 1, by omega, by go_num, by rw [HNT.out, hl9]; rfl, by first | trivial | rfl⟩
                  case measure => simp [intOf]; omega
              · obtain rfl : i = rs.length := by omega
                rw [ltT_all]
                have kb := known_any Bm O n r l _ w3 pw k (HRF.out.below.box HBm.out) (HMT.out.grow HRF.out.below) (by omega) (by omega)
                clear hi hli
                rcases hk12 with rfl | rfl
                · cases my
                  · rcases HPR.out rfl with hrs | ⟨x0, hrs⟩
                    · have HSK := Lib.hid (show plSkR l ⟨pw, rs, false⟩ k = false by rw [hrs]; exact skr_nil)
                      have HLT := Lib.hid (show ltP l rs k = false by rw [hrs]; rfl)
                      have HRSX := Lib.hid hrs
                      clear hrs
                      have c0 := HX3.out.cell 0 (v := .int .i64 1) rfl
                      rw [HLT.out]
                      have hl1 : ((rs.length : Int) == 1) = false := by rw [HRSX.out]; rfl
                      cases hkn : knP l pw k
                      · rw [hkn] at kb
                        have HWY := Lib.hid (way_yes (n := n) HPX.out (rd_one HKZ.out HSK.out HLT.out).1 (rd_one HKZ.out HSK.out HLT.out).2.1 (q := 2) (by rw [(rd_one HKZ.out HSK.out HLT.out).2.2, hkn]; rfl) (by decide) HEO.out)
                        clear hkn
                        have HDA := Lib.hid (HRF.out.bel ((Bel.refl w3).alloc (.cells (evv ⟨(k : Nat), (m : Nat), 2⟩) 33)))
                        have HNW := Lib.hid (Box.news (l := evl ⟨(k : Nat), (m : Nat), 2⟩) (Box.new w3 (evv ⟨(k : Nat), (m : Nat), 2⟩) 33))
                        go_wp2_with (first | (first | (go_at_call 37; (with_reducible refine (kb).mono ?_); rintro e w' ⟨rfl, rfl⟩)) | (refine build1 23 _ rfl rfl 33 i0 Try.underlying23 J.out.1 J.out.2.1 J.out.2.2.1 ⟨(k : Nat), (m : Nat), 2⟩ rfl ?_) | (at_builtin; refine wpList_append_own_at _ rfl (.tmp 107) (.tmp 111) _ rfl W.heap.size 33 i0 _ 3 24 Try.underlying23 J.out.1 J.out.2.1 J.out.2.2.1 J.out.2.2.2 rfl (by omega) _ (faT l n m k).length _ rfl HDA.out.own1 _ 1 1 (evl ⟨(k : Nat), (m : Nat), 2⟩) rfl rfl HNW.out (by simp [evl, Value.oneCell']) (by have := HFL.out; unfold maxLen; omega) (by have := HFL.out; omega) HDA.out.below.size ?_; intro v8 w8 hown8 hg8 hn8 hat8))
                        have HG := Lib.hid (HDA.out.add hg8 hat8 hown8)
                        have HXS := Lib.hid ((HX3.out.old (.cells (evv ⟨(k : Nat), (m : Nat), 2⟩) 33)).grown hg8 (fun e => Nat.lt_irrefl _ (HV1E.out _ e.symm)))
                        clear hown8 hg8 hn8 hat8
                        have HF9 := Lib.hid (HG.out.put (rs' := [k]) ((Bel.refl w8).alloc (.cells #[.int .i64 (k : Nat)] 3)) (World.ownsRow_lit (base := w8.heap.size) (e := 3) (size := 1) w8 #[.int .i64 (k : Nat)] 1 (Nat.le_refl _) (by unfold maxLen; omega) rfl))
                        refine ⟨⟨k + 1, by omega, by go_num, HWY.out.fin (by have := HS9.out; omega) HF9.out⟩, by simp [intOf]; omega⟩
                      · rw [hkn] at kb
                        have HWY := Lib.hid (way_no (n := n) HPX.out (rd_one HKZ.out HSK.out HLT.out).1 (rd_one HKZ.out HSK.out HLT.out).2.1 (by rw [(rd_one HKZ.out HSK.out HLT.out).2.2, hkn]; rfl))
                        clear hkn
                        go_wp2_with (first | (first | (go_at_call 37; (with_reducible refine (kb).mono ?_); rintro e w' ⟨rfl, rfl⟩)))
                        have HG := Lib.hid HRF.out.nochange
                        have HXS := Lib.hid HX3.out
                        have HF9 := Lib.hid (HG.out.put (rs' := [k]) ((Bel.refl w3).alloc (.cells #[.int .i64 (k : Nat)] 3)) (World.ownsRow_lit (base := w3.heap.size) (e := 3) (size := 1) w3 #[.int .i64 (k : Nat)] 1 (Nat.le_refl _) (by unfold maxLen; omega) rfl))
                        go_roundw
                        case rel => exact ⟨k + 1, by omega, by go_num, HWY.out.fin (by have := HS9.out; omega) HF9.out⟩
                        case measure => simp [intOf]; omega
                    · have HSK := Lib.hid (show plSkR l ⟨pw, rs, false⟩ k = epP l (x0 : Nat) k by rw [hrs]; exact skr_one)
                      have HRSX := Lib.hid hrs
                      have HXK := Lib.hid (HRM.out x0 (by rw [hrs]; exact List.mem_singleton.2 rfl))
                      have HRS0 := Lib.hid (show rs[0]? = some x0 by rw [hrs]; rfl)
                      clear hrs
                      have c0 := HX3.out.cell 0 (v := .int .i64 1) rfl
                      have hl1 : ((rs.length : Int) == 1) = true := by rw [HRSX.out]; rfl
                      have hl0 : (0 : Int) < rs.length := by rw [HRSX.out]; exact Int.zero_lt_one
                      obtain ⟨g, rfl, _, _, hgc⟩ := HI.out 0 x0 HRS0.out
                      have hxk0 := HXK.out
                      clear kb
                      go_wp2_with fail
                      refine (epoch_any w.heap.size n c _ l w3 (x0 : Nat) k (HLW.out.bel HRF.out.below) HM.out (HRF.out.below.box HBL.out) (by omega) (by omega)).mono ?_
                      rintro e4 w4 ⟨rfl, hb4⟩
                      have HRF4 := Lib.hid (HRF.out.bel (Bel.of hb4))
                      have HX4 := Lib.hid ((Bel.of hb4).box HX3.out)
                      clear hgc hb4 hl1 hl0 hxk0
                      cases hep : epP l (x0 : Nat) k
                      · have HSK2 := Lib.hid (show plSkR l ⟨pw, rs, false⟩ k = false by rw [HSK.out, hep])
                        clear hep
                        have kb := known_any Bm O n r l _ w4 pw k (HRF4.out.below.box HBm.out) (HMT.out.grow HRF4.out.below) (by omega) (by omega)
                        cases hlt9 : ltP l rs k
                        · have HLT := Lib.hid hlt9
                          clear hlt9
                          cases hkn : knP l pw k
                          · rw [hkn] at kb
                            have HWY := Lib.hid (way_yes (n := n) HPX.out (rd_one HKZ.out HSK2.out HLT.out).1 (rd_one HKZ.out HSK2.out HLT.out).2.1 (q := 2) (by rw [(rd_one HKZ.out HSK2.out HLT.out).2.2, hkn]; rfl) (by decide) HEO.out)
                            clear hkn
                            have HDA := Lib.hid (HRF4.out.bel ((Bel.refl w4).alloc (.cells (evv ⟨(k : Nat), (m : Nat), 2⟩) 33)))
                            have HNW := Lib.hid (Box.news (l := evl ⟨(k : Nat), (m : Nat), 2⟩) (Box.new w4 (evv ⟨(k : Nat), (m : Nat), 2⟩) 33))
                            go_wp2_with (first | (first | (go_at_call 37; (with_reducible refine (kb).mono ?_); rintro e w' ⟨rfl, rfl⟩)) | (refine build1 23 _ rfl rfl 33 i0 Try.underlying23 J.out.1 J.out.2.1 J.out.2.2.1 ⟨(k : Nat), (m : Nat), 2⟩ rfl ?_) | (at_builtin; refine wpList_append_own_at _ rfl (.tmp 107) (.tmp 111) _ rfl W.heap.size 33 i0 _ 3 24 Try.underlying23 J.out.1 J.out.2.1 J.out.2.2.1 J.out.2.2.2 rfl (by omega) _ (faT l n m k).length _ rfl HDA.out.own1 _ 1 1 (evl ⟨(k : Nat), (m : Nat), 2⟩) rfl rfl HNW.out (by simp [evl, Value.oneCell']) (by have := HFL.out; unfold maxLen; omega) (by have := HFL.out; omega) HDA.out.below.size ?_; intro v8 w8 hown8 hg8 hn8 hat8))
                            have HG := Lib.hid (HDA.out.add hg8 hat8 hown8)
                            have HXS := Lib.hid ((HX4.out.old (.cells (evv ⟨(k : Nat), (m : Nat), 2⟩) 33)).grown hg8 (fun e => Nat.lt_irrefl _ (HV1E.out _ e.symm)))
                            clear hown8 hg8 hn8 hat8
                            have HF9 := Lib.hid (HG.out.put (rs' := [k]) ((Bel.refl w8).alloc (.cells #[.int .i64 (k : Nat)] 3)) (World.ownsRow_lit (base := w8.heap.size) (e := 3) (size := 1) w8 #[.int .i64 (k : Nat)] 1 (Nat.le_refl _) (by unfold maxLen; omega) rfl))
                            refine ⟨⟨k + 1, by omega, by go_num, HWY.out.fin (by have := HS9.out; omega) HF9.out⟩, by simp [intOf]; omega⟩
                          · rw [hkn] at kb
                            have HWY := Lib.hid (way_no (n := n) HPX.out (rd_one HKZ.out HSK2.out HLT.out).1 (rd_one HKZ.out HSK2.out HLT.out).2.1 (by rw [(rd_one HKZ.out HSK2.out HLT.out).2.2, hkn]; rfl))
                            clear hkn
                            go_wp2_with (first | (first | (go_at_call 37; (with_reducible refine (kb).mono ?_); rintro e w' ⟨rfl, rfl⟩)))
                            have HG := Lib.hid HRF4.out.nochange
                            have HXS := Lib.hid HX4.out
                            have HF9 := Lib.hid (HG.out.put (rs' := [k]) ((Bel.refl w4).alloc (.cells #[.int .i64 (k : Nat)] 3)) (World.ownsRow_lit (base := w4.heap.size) (e := 3) (size := 1) w4 #[.int .i64 (k : Nat)] 1 (Nat.le_refl _) (by unfold maxLen; omega) rfl))
                            go_roundw
                            case rel => exact ⟨k + 1, by omega, by go_num, HWY.out.fin (by have := HS9.out; omega) HF9.out⟩
                            case measure => simp [intOf]; omega
                        · have HLT := Lib.hid hlt9
                          clear hlt9
                          have ws9 : IntKind.i64.wrap ((S : Nat) + 1 : Int) = (S : Nat) + 1 := IntWalk.i64_in _ (by have := HSS.out; omega)
                          cases hkn : knP l pw k
                          · rw [hkn] at kb
                            have HWY := Lib.hid (way_yes (n := n) HPX.out (rd_late HKZ.out HSK2.out HLT.out).1 (rd_late HKZ.out HSK2.out HLT.out).2.1 (q := 2) (by rw [(rd_late HKZ.out HSK2.out HLT.out).2.2, hkn]; rfl) (by decide) HEO.out)
                            clear hkn
                            have HDA := Lib.hid (HRF4.out.bel ((Bel.refl w4).alloc (.cells (evv ⟨(k : Nat), (m : Nat), 2⟩) 33)))
                            have HNW := Lib.hid (Box.news (l := evl ⟨(k : Nat), (m : Nat), 2⟩) (Box.new w4 (evv ⟨(k : Nat), (m : Nat), 2⟩) 33))
                            go_wp2_with (first | (first | (go_at_call 37; (with_reducible refine (kb).mono ?_); rintro e w' ⟨rfl, rfl⟩)) | (refine build1 23 _ rfl rfl 33 i0 Try.underlying23 J.out.1 J.out.2.1 J.out.2.2.1 ⟨(k : Nat), (m : Nat), 2⟩ rfl ?_) | (at_builtin; refine wpList_append_own_at _ rfl (.tmp 107) (.tmp 111) _ rfl W.heap.size 33 i0 _ 3 24 Try.underlying23 J.out.1 J.out.2.1 J.out.2.2.1 J.out.2.2.2 rfl (by omega) _ (faT l n m k).length _ rfl HDA.out.own1 _ 1 1 (evl ⟨(k : Nat), (m : Nat), 2⟩) rfl rfl HNW.out (by simp [evl, Value.oneCell']) (by have := HFL.out; unfold maxLen; omega) (by have := HFL.out; omega) HDA.out.below.size ?_; intro v8 w8 hown8 hg8 hn8 hat8))
                            have HG := Lib.hid (HDA.out.add hg8 hat8 hown8)
                            have HXS := Lib.hid ((HX4.out.old (.cells (evv ⟨(k : Nat), (m : Nat), 2⟩) 33)).grown hg8 (fun e => Nat.lt_irrefl _ (HV1E.out _ e.symm)))
                            clear hown8 hg8 hn8 hat8
                            clear ws9
                            have HI3 := Lib.hid (show ∀ j x, rs[j]? = some x → ∃ gg, (some ⟨g, 0, none⟩ : Option Addr) = some ⟨gg, 0, none⟩ ∧ w8.cell? ⟨gg, j, none⟩ = some (.int .i64 (x : Nat)) from fun j x hx => by
                              obtain ⟨A3, c3, hv3, hI3⟩ := il_own HG.out.own2
                              cases hv3
                              obtain ⟨g9, h1, _, _, h4⟩ := hI3 j x hx
                              exact ⟨g9, h1, h4⟩)
                            clear kb
                            go_loopw [18, 127] (fun v3 t127 wr => ∃ i : Nat, i ≤ rs.length ∧ t127 = .int .i64 i ∧ wr.ownsRow w8.heap.size 3 1 v3 (rsT l t rs i).length (il (rsT l t rs i)) ∧ Bel w8 wr) (fun _ t127 _ => rs.length - (intOf t127).toNat)
                            case atStart => exact ⟨0, Nat.zero_le _, rfl, World.ownsRow_nil _ _ _ _, Bel.refl _⟩
                            case round =>
                              obtain ⟨i, hi, rfl, ho3, hb3⟩ := hrel
                              have HO3 := Lib.hid ho3
                              have HB3 := Lib.hid hb3
                              have HRT := Lib.hid (rsT_len l t rs i)
                              have hrl := HRL.out
                              clear ho3 hb3
                              by_cases hli : i < rs.length
                              · have hli' : (i : Int) < rs.length := by omega
                                obtain ⟨x, hx⟩ : ∃ x, rs[i]? = some x := ⟨rs[i], List.getElem?_eq_getElem hli⟩
                                have hxk := HRM.out x (List.mem_of_getElem? hx)
                                obtain ⟨gg, hgA, hgc⟩ := HI3.out i x hx
                                cases hgA
                                have hgc2 := HB3.out.cell hgc
                                have hxn : (x : Int) < n := by omega
                                have hx0 : (0 : Int) ≤ (x : Int) := by omega
                                obtain ⟨⟨ak, at_, ao⟩, ha⟩ := HLW.out.get (show x < n by omega)
                                have hat_ := isEv_t (wrong_isEv (wrong_at HM.out ha))
                                obtain ⟨u, rfl⟩ := Int.eq_ofNat_of_zero_le hat_.1
                                have HTX := Lib.hid (show tZ l x = u by unfold tZ; rw [eZ_at ha]; rfl)
                                have G0 := fun (w' : World) (h : Bel wr w') => ((HG.out.below.trans (HB3.out.trans h)).box HBL.out).cell 0 (v := .slice (some ⟨bb, off, none⟩) n c) rfl
                                have G1 := fun (w' : World) (h : Bel wr w') => (HG.out.below.trans (HB3.out.trans h)).cell ((HLW.out.rng (show x < n by omega) ha).2 1 (.int .i64 u) rfl)
                                have G2 := fun (w' : World) (h : Bel wr w') => ((HB3.out.trans h).box HXS.out).cell 1 (v := .int .i64 t) rfl
                                have HX9 := Lib.hid hx
                                have HI9 := Lib.hid hli
                                clear hx hxk hgc ha hat_
                                go_wp2
                                by_cases hut : u = t
                                · have hq : ((u : Int) != (t : Int)) = false := by simp [hut]
                                  have HN9 := Lib.hid (rsT_no (l := l) (t := t) HX9.out (by rw [HTX.out, hut]; simp))
                                  clear hut
                                  (refine region_bel (by kernel_rfl) (by kernel_rfl) ?_; (repeat (first | ((with_reducible refine BigFrame.wpQuiet_skip ?_ ?_); exact rfl; simp only [Act.put, Act.eval, List.setIfInBounds_toArray, List.set_cons_zero, List.set_cons_succ, Array.getD_eq_getD_getElem?, List.getElem?_toArray, List.getElem?_cons_zero, List.getElem?_cons_succ, Option.getD_some]) | (refine q_move _ rfl rfl ?_; simp only [Act.put, Act.eval, List.setIfInBounds_toArray, List.set_cons_zero, List.set_cons_succ, Array.getD_eq_getD_getElem?, List.getElem?_toArray, List.getElem?_cons_zero, List.getElem?_cons_succ, Option.getD_some]) | (refine q_assign _ rfl rfl ?_; simp only [Act.put, Act.eval, List.setIfInBounds_toArray, List.set_cons_zero, List.set_cons_succ, Array.getD_eq_getD_getElem?, List.getElem?_toArray, List.getElem?_cons_zero, List.getElem?_cons_succ, Option.getD_some]) | (refine q_any rfl ?_; apply Exists.intro; refine ⟨fun w hw => ?_, ?_⟩; (have fct0 := G0 w hw; have fct1 := G1 w hw; have fct2 := G2 w hw; go_simp; first | exact ⟨rfl, rfl⟩ | rfl); simp only [Act.put, Act.eval, List.setIfInBounds_toArray, List.set_cons_zero, List.set_cons_succ, Array.getD_eq_getD_getElem?, List.getElem?_toArray, List.getElem?_cons_zero, List.getElem?_cons_succ, Option.getD_some]))); refine wpQuiet_nil ?_; intro w2 hw2)
                                  have HO4 := Lib.hid (own_bel HO3.out hw2)
                                  have HB4 := Lib.hid (HB3.out.trans hw2)
                                  clear hw2 G0 G1 G2
                                  go_wp2
                                  go_roundw
                                  case rel => exact ⟨i + 1, HI9.out, by go_num, by rw [HN9.out]; exact HO4.out, HB4.out⟩
                                  case measure => simp [intOf]; omega
                                · have hq : ((u : Int) != (t : Int)) = true := by simp; omega
                                  have HN9 := Lib.hid (rsT_yes (l := l) (t := t) HX9.out (by rw [HTX.out]; exact hut))
                                  clear hut
                                  (refine region_bel (by kernel_rfl) (by kernel_rfl) ?_; (repeat (first | ((with_reducible refine BigFrame.wpQuiet_skip ?_ ?_); exact rfl; simp only [Act.put, Act.eval, List.setIfInBounds_toArray, List.set_cons_zero, List.set_cons_succ, Array.getD_eq_getD_getElem?, List.getElem?_toArray, List.getElem?_cons_zero, List.getElem?_cons_succ, Option.getD_some]) | (refine q_move _ rfl rfl ?_; simp only [Act.put, Act.eval, List.setIfInBounds_toArray, List.set_cons_zero, List.set_cons_succ, Array.getD_eq_getD_getElem?, List.getElem?_toArray, List.getElem?_cons_zero, List.getElem?_cons_succ, Option.getD_some]) | (refine q_assign _ rfl rfl ?_; simp only [Act.put, Act.eval, List.setIfInBounds_toArray, List.set_cons_zero, List.set_cons_succ, Array.getD_eq_getD_getElem?, List.getElem?_toArray, List.getElem?_cons_zero, List.getElem?_cons_succ, Option.getD_some]) | (refine q_any rfl ?_; apply Exists.intro; refine ⟨fun w hw => ?_, ?_⟩; (have fct0 := G0 w hw; have fct1 := G1 w hw; have fct2 := G2 w hw; go_simp; first | exact ⟨rfl, rfl⟩ | rfl); simp only [Act.put, Act.eval, List.setIfInBounds_toArray, List.set_cons_zero, List.set_cons_succ, Array.getD_eq_getD_getElem?, List.getElem?_toArray, List.getElem?_cons_zero, List.getElem?_cons_succ, Option.getD_some]))); refine wpQuiet_nil ?_; intro w2 hw2)
                                  have HA4 := Lib.hid (own_alloc (own_bel HO3.out hw2) (.cells #[.int .i64 (x : Nat)] 3))
                                  have HB4 := Lib.hid ((HB3.out.trans hw2).alloc (.cells #[.int .i64 (x : Nat)] 3))
                                  clear hw2 G0 G1 G2
                                  go_wp2_with (at_builtin; refine wpList_append_own_at _ rfl (.tmp 139) (.tmp 141) _ rfl w8.heap.size 3 j0 _ 1 8 Try.underlying48 JI.out.1 JI.out.2.1 JI.out.2.2.1 JI.out.2.2.2 rfl (by omega) _ (rsT l t rs i).length _ rfl HA4.out ⟨w2.heap.size, 0, none⟩ 1 1 [.int .i64 (x : Nat)] rfl rfl (cell_one_new _ _ _) (by simp [Value.oneCell']) (by have := HRT.out; unfold maxLen; omega) (by have := HRT.out; omega) HB4.out.size ?_; intro v7 w7 hown7 hg7 hn7 hat7)
                                  refine ⟨⟨i + 1, HI9.out, by go_num, ?_, HB4.out.out.grown hg7 HB4.out.size (own_block_ge HA4.out)⟩, by simp [intOf]; omega⟩
                                  rw [HN9.out, List.length_append, il_app]
                                  exact hown7
                              · obtain rfl : i = rs.length := by omega
                                have HAL := Lib.hid (rsT_all l t rs)
                                have HO5 := HO3.out
                                have HA4 := Lib.hid (own_alloc HO3.out (.cells #[.int .i64 (k : Nat)] 3))
                                have HB4 := Lib.hid (HB3.out.alloc (.cells #[.int .i64 (k : Nat)] 3))
                                clear HO5 hi hli
                                go_wp2_with (at_builtin; refine wpList_append_own_at _ rfl (.tmp 144) (.tmp 146) _ rfl w8.heap.size 3 j0 _ 1 8 Try.underlying48 JI.out.1 JI.out.2.1 JI.out.2.2.1 JI.out.2.2.2 rfl (by omega) _ (rsT l t rs rs.length).length _ rfl HA4.out ⟨wr.heap.size, 0, none⟩ 1 1 [.int .i64 (k : Nat)] rfl rfl (cell_one_new _ _ _) (by simp [Value.oneCell']) (by have := HRT.out; unfold maxLen; omega) (by have := HRT.out; omega) HB4.out.size ?_; intro v9 w9 hown9 hg9 hn9 hat9)
                                have HF9 := Lib.hid (HG.out.put (rs' := (rs.filter fun a => decide (tZ l a ≠ t)) ++ [k]) (HB4.out.out.grown hg9 HB4.out.size (own_block_ge HA4.out)) (by rw [← HAL.out, List.length_append, il_app]; exact hown9))
                                refine ⟨⟨k + 1, by omega, by go_num, HWY.out.fin (by have := HS9.out; omega) (by rw [HTZ.out]; exact HF9.out)⟩, by simp [intOf]; omega⟩
                          · rw [hkn] at kb
                            have HWY := Lib.hid (way_no (n := n) HPX.out (rd_late HKZ.out HSK2.out HLT.out).1 (rd_late HKZ.out HSK2.out HLT.out).2.1 (by rw [(rd_late HKZ.out HSK2.out HLT.out).2.2, hkn]; rfl))
                            clear hkn
                            go_wp2_with (first | (first | (go_at_call 37; (with_reducible refine (kb).mono ?_); rintro e w' ⟨rfl, rfl⟩)))
                            have HG := Lib.hid HRF4.out.nochange
                            have HXS := Lib.hid HX4.out
                            clear ws9
                            have HI3 := Lib.hid (show ∀ j x, rs[j]? = some x → ∃ gg, (some ⟨g, 0, none⟩ : Option Addr) = some ⟨gg, 0, none⟩ ∧ w4.cell? ⟨gg, j, none⟩ = some (.int .i64 (x : Nat)) from fun j x hx => by
                              obtain ⟨A3, c3, hv3, hI3⟩ := il_own HG.out.own2
                              cases hv3
                              obtain ⟨g9, h1, _, _, h4⟩ := hI3 j x hx
                              exact ⟨g9, h1, h4⟩)
                            clear kb
                            go_loopw [18, 127] (fun v3 t127 wr => ∃ i : Nat, i ≤ rs.length ∧ t127 = .int .i64 i ∧ wr.ownsRow w4.heap.size 3 1 v3 (rsT l t rs i).length (il (rsT l t rs i)) ∧ Bel w4 wr) (fun _ t127 _ => rs.length - (intOf t127).toNat)
                            case atStart => exact ⟨0, Nat.zero_le _, rfl, World.ownsRow_nil _ _ _ _, Bel.refl _⟩
                            case round =>
                              obtain ⟨i, hi, rfl, ho3, hb3⟩ := hrel
                              have HO3 := Lib.hid ho3
                              have HB3 := Lib.hid hb3
                              have HRT := Lib.hid (rsT_len l t rs i)
                              have hrl := HRL.out
                              clear ho3 hb3
                              by_cases hli : i < rs.length
                              · have hli' : (i : Int) < rs.length := by omega
                                obtain ⟨x, hx⟩ : ∃ x, rs[i]? = some x := ⟨rs[i], List.getElem?_eq_getElem hli⟩
                                have hxk := HRM.out x (List.mem_of_getElem? hx)
                                obtain ⟨gg, hgA, hgc⟩ := HI3.out i x hx
                                cases hgA
                                have hgc2 := HB3.out.cell hgc
                                have hxn : (x : Int) < n := by omega
                                have hx0 : (0 : Int) ≤ (x : Int) := by omega
                                obtain ⟨⟨ak, at_, ao⟩, ha⟩ := HLW.out.get (show x < n by omega)
                                have hat_ := isEv_t (wrong_isEv (wrong_at HM.out ha))
                                obtain ⟨u, rfl⟩ := Int.eq_ofNat_of_zero_le hat_.1
                                have HTX := Lib.hid (show tZ l x = u by unfold tZ; rw [eZ_at ha]; rfl)
                                have G0 := fun (w' : World) (h : Bel wr w') => ((HG.out.below.trans (HB3.out.trans h)).box HBL.out).cell 0 (v := .slice (some ⟨bb, off, none⟩) n c) rfl
                                have G1 := fun (w' : World) (h : Bel wr w') => (HG.out.below.trans (HB3.out.trans h)).cell ((HLW.out.rng (show x < n by omega) ha).2 1 (.int .i64 u) rfl)
                                have G2 := fun (w' : World) (h : Bel wr w') => ((HB3.out.trans h).box HXS.out).cell 1 (v := .int .i64 t) rfl
                                have HX9 := Lib.hid hx
                                have HI9 := Lib.hid hli
                                clear hx hxk hgc ha hat_
                                go_wp2
                                by_cases hut : u = t
                                · have hq : ((u : Int) != (t : Int)) = false := by simp [hut]
                                  have HN9 := Lib.hid (rsT_no (l := l) (t := t) HX9.out (by rw [HTX.out, hut]; simp))
                                  clear hut
                                  (refine region_bel (by kernel_rfl) (by kernel_rfl) ?_; (repeat (first | ((with_reducible refine BigFrame.wpQuiet_skip ?_ ?_); exact rfl; simp only [Act.put, Act.eval, List.setIfInBounds_toArray, List.set_cons_zero, List.set_cons_succ, Array.getD_eq_getD_getElem?, List.getElem?_toArray, List.getElem?_cons_zero, List.getElem?_cons_succ, Option.getD_some]) | (refine q_move _ rfl rfl ?_; simp only [Act.put, Act.eval, List.setIfInBounds_toArray, List.set_cons_zero, List.set_cons_succ, Array.getD_eq_getD_getElem?, List.getElem?_toArray, List.getElem?_cons_zero, List.getElem?_cons_succ, Option.getD_some]) | (refine q_assign _ rfl rfl ?_; simp only [Act.put, Act.eval, List.setIfInBounds_toArray, List.set_cons_zero, List.set_cons_succ, Array.getD_eq_getD_getElem?, List.getElem?_toArray, List.getElem?_cons_zero, List.getElem?_cons_succ, Option.getD_some]) | (refine q_any rfl ?_; apply Exists.intro; refine ⟨fun w hw => ?_, ?_⟩; (have fct0 := G0 w hw; have fct1 := G1 w hw; have fct2 := G2 w hw; go_simp; first | exact ⟨rfl, rfl⟩ | rfl); simp only [Act.put, Act.eval, List.setIfInBounds_toArray, List.set_cons_zero, List.set_cons_succ, Array.getD_eq_getD_getElem?, List.getElem?_toArray, List.getElem?_cons_zero, List.getElem?_cons_succ, Option.getD_some]))); refine wpQuiet_nil ?_; intro w2 hw2)
                                  have HO4 := Lib.hid (own_bel HO3.out hw2)
                                  have HB4 := Lib.hid (HB3.out.trans hw2)
                                  clear hw2 G0 G1 G2
                                  go_wp2
                                  go_roundw
                                  case rel => exact ⟨i + 1, HI9.out, by go_num, by rw [HN9.out]; exact HO4.out, HB4.out⟩
                                  case measure => simp [intOf]; omega
                                · have hq : ((u : Int) != (t : Int)) = true := by simp; omega
                                  have HN9 := Lib.hid (rsT_yes (l := l) (t := t) HX9.out (by rw [HTX.out]; exact hut))
                                  clear hut
                                  (refine region_bel (by kernel_rfl) (by kernel_rfl) ?_; (repeat (first | ((with_reducible refine BigFrame.wpQuiet_skip ?_ ?_); exact rfl; simp only [Act.put, Act.eval, List.setIfInBounds_toArray, List.set_cons_zero, List.set_cons_succ, Array.getD_eq_getD_getElem?, List.getElem?_toArray, List.getElem?_cons_zero, List.getElem?_cons_succ, Option.getD_some]) | (refine q_move _ rfl rfl ?_; simp only [Act.put, Act.eval, List.setIfInBounds_toArray, List.set_cons_zero, List.set_cons_succ, Array.getD_eq_getD_getElem?, List.getElem?_toArray, List.getElem?_cons_zero, List.getElem?_cons_succ, Option.getD_some]) | (refine q_assign _ rfl rfl ?_; simp only [Act.put, Act.eval, List.setIfInBounds_toArray, List.set_cons_zero, List.set_cons_succ, Array.getD_eq_getD_getElem?, List.getElem?_toArray, List.getElem?_cons_zero, List.getElem?_cons_succ, Option.getD_some]) | (refine q_any rfl ?_; apply Exists.intro; refine ⟨fun w hw => ?_, ?_⟩; (have fct0 := G0 w hw; have fct1 := G1 w hw; have fct2 := G2 w hw; go_simp; first | exact ⟨rfl, rfl⟩ | rfl); simp only [Act.put, Act.eval, List.setIfInBounds_toArray, List.set_cons_zero, List.set_cons_succ, Array.getD_eq_getD_getElem?, List.getElem?_toArray, List.getElem?_cons_zero, List.getElem?_cons_succ, Option.getD_some]))); refine wpQuiet_nil ?_; intro w2 hw2)
                                  have HA4 := Lib.hid (own_alloc (own_bel HO3.out hw2) (.cells #[.int .i64 (x : Nat)] 3))
                                  have HB4 := Lib.hid ((HB3.out.trans hw2).alloc (.cells #[.int .i64 (x : Nat)] 3))
                                  clear hw2 G0 G1 G2
                                  go_wp2_with (at_builtin; refine wpList_append_own_at _ rfl (.tmp 139) (.tmp 141) _ rfl w4.heap.size 3 j0 _ 1 8 Try.underlying48 JI.out.1 JI.out.2.1 JI.out.2.2.1 JI.out.2.2.2 rfl (by omega) _ (rsT l t rs i).length _ rfl HA4.out ⟨w2.heap.size, 0, none⟩ 1 1 [.int .i64 (x : Nat)] rfl rfl (cell_one_new _ _ _) (by simp [Value.oneCell']) (by have := HRT.out; unfold maxLen; omega) (by have := HRT.out; omega) HB4.out.size ?_; intro v7 w7 hown7 hg7 hn7 hat7)
                                  refine ⟨⟨i + 1, HI9.out, by go_num, ?_, HB4.out.out.grown hg7 HB4.out.size (own_block_ge HA4.out)⟩, by simp [intOf]; omega⟩
                                  rw [HN9.out, List.length_append, il_app]
                                  exact hown7
                              · obtain rfl : i = rs.length := by omega
                                have HAL := Lib.hid (rsT_all l t rs)
                                have HO5 := HO3.out
                                have HA4 := Lib.hid (own_alloc HO3.out (.cells #[.int .i64 (k : Nat)] 3))
                                have HB4 := Lib.hid (HB3.out.alloc (.cells #[.int .i64 (k : Nat)] 3))
                                clear HO5 hi hli
                                go_wp2_with (at_builtin; refine wpList_append_own_at _ rfl (.tmp 144) (.tmp 146) _ rfl w4.heap.size 3 j0 _ 1 8 Try.underlying48 JI.out.1 JI.out.2.1 JI.out.2.2.1 JI.out.2.2.2 rfl (by omega) _ (rsT l t rs rs.length).length _ rfl HA4.out ⟨wr.heap.size, 0, none⟩ 1 1 [.int .i64 (k : Nat)] rfl rfl (cell_one_new _ _ _) (by simp [Value.oneCell']) (by have := HRT.out; unfold maxLen; omega) (by have := HRT.out; omega) HB4.out.size ?_; intro v9 w9 hown9 hg9 hn9 hat9)
                                have HF9 := Lib.hid (HG.out.put (rs' := (rs.filter fun a => decide (tZ l a ≠ t)) ++ [k]) (HB4.out.out.grown hg9 HB4.out.size (own_block_ge HA4.out)) (by rw [← HAL.out, List.length_append, il_app]; exact hown9))
                                refine ⟨⟨k + 1, by omega, by go_num, HWY.out.fin (by have := HS9.out; omega) (by rw [HTZ.out]; exact HF9.out)⟩, by simp [intOf]; omega⟩
                      · have HWY := Lib.hid (way_no (n := n) HPX.out (rd_skip HKZ.out (by rw [HSK.out, hep])).1 (rd_skip HKZ.out (by rw [HSK.out, hep])).2.1 (rd_skip HKZ.out (by rw [HSK.out, hep])).2.2)
                        clear hep
                        have HF9 := Lib.hid HRF4.out.nochange
                        go_wp2
                        go_roundw
                        case rel => exact ⟨k + 1, by omega, by go_num, HWY.out.fin (by have := HS9.out; omega) HF9.out⟩
                        case measure => simp [intOf]; omega
                  · have c0 := HX3.out.cell 0 (v := .int .i64 1) rfl
                    cases hkn : knP l pw k
                    · rw [hkn] at kb
                      have HWY := Lib.hid (way_yes (n := n) HPX.out (rd_many HKZ.out).1 (rd_many HKZ.out).2.1 (q := 2) (by rw [(rd_many HKZ.out).2.2, hkn]; rfl) (by decide) HEO.out)
                      clear hkn
                      have HDA := Lib.hid (HRF.out.bel ((Bel.refl w3).alloc (.cells (evv ⟨(k : Nat), (m : Nat), 2⟩) 33)))
                      have HNW := Lib.hid (Box.news (l := evl ⟨(k : Nat), (m : Nat), 2⟩) (Box.new w3 (evv ⟨(k : Nat), (m : Nat), 2⟩) 33))
                      go_wp2_with (first | (first | (go_at_call 37; (with_reducible refine (kb).mono ?_); rintro e w' ⟨rfl, rfl⟩)) | (refine build1 23 _ rfl rfl 33 i0 Try.underlying23 J.out.1 J.out.2.1 J.out.2.2.1 ⟨(k : Nat), (m : Nat), 2⟩ rfl ?_) | (at_builtin; refine wpList_append_own_at _ rfl (.tmp 107) (.tmp 111) _ rfl W.heap.size 33 i0 _ 3 24 Try.underlying23 J.out.1 J.out.2.1 J.out.2.2.1 J.out.2.2.2 rfl (by omega) _ (faT l n m k).length _ rfl HDA.out.own1 _ 1 1 (evl ⟨(k : Nat), (m : Nat), 2⟩) rfl rfl HNW.out (by simp [evl, Value.oneCell']) (by have := HFL.out; unfold maxLen; omega) (by have := HFL.out; omega) HDA.out.below.size ?_; intro v8 w8 hown8 hg8 hn8 hat8))
                      have HG := Lib.hid (HDA.out.add hg8 hat8 hown8)
                      have HXS := Lib.hid ((HX3.out.old (.cells (evv ⟨(k : Nat), (m : Nat), 2⟩) 33)).grown hg8 (fun e => Nat.lt_irrefl _ (HV1E.out _ e.symm)))
                      clear hown8 hg8 hn8 hat8
                      have HI3 := Lib.hid (show ∀ j x, rs[j]? = some x → ∃ gg, A2 = some ⟨gg, 0, none⟩ ∧ w8.cell? ⟨gg, j, none⟩ = some (.int .i64 (x : Nat)) from fun j x hx => by
                        obtain ⟨A3, c3, hv3, hI3⟩ := il_own HG.out.own2
                        cases hv3
                        obtain ⟨g9, h1, _, _, h4⟩ := hI3 j x hx
                        exact ⟨g9, h1, h4⟩)
                      clear kb
                      go_loopw [18, 127] (fun v3 t127 wr => ∃ i : Nat, i ≤ rs.length ∧ t127 = .int .i64 i ∧ wr.ownsRow w8.heap.size 3 1 v3 (rsT l t rs i).length (il (rsT l t rs i)) ∧ Bel w8 wr) (fun _ t127 _ => rs.length - (intOf t127).toNat)
                      case atStart => exact ⟨0, Nat.zero_le _, rfl, World.ownsRow_nil _ _ _ _, Bel.refl _⟩
                      case round =>
                        obtain ⟨i, hi, rfl, ho3, hb3⟩ := hrel
                        have HO3 := Lib.hid ho3
                        have HB3 := Lib.hid hb3
                        have HRT := Lib.hid (rsT_len l t rs i)
                        have hrl := HRL.out
                        clear ho3 hb3
                        by_cases hli : i < rs.length
                        · have hli' : (i : Int) < rs.length := by omega
                          obtain ⟨x, hx⟩ : ∃ x, rs[i]? = some x := ⟨rs[i], List.getElem?_eq_getElem hli⟩
                          have hxk := HRM.out x (List.mem_of_getElem? hx)
                          obtain ⟨gg, hgA, hgc⟩ := HI3.out i x hx
                          cases hgA
                          have hgc2 := HB3.out.cell hgc
                          have hxn : (x : Int) < n := by omega
                          have hx0 : (0 : Int) ≤ (x : Int) := by omega
                          obtain ⟨⟨ak, at_, ao⟩, ha⟩ := HLW.out.get (show x < n by omega)
                          have hat_ := isEv_t (wrong_isEv (wrong_at HM.out ha))
                          obtain ⟨u, rfl⟩ := Int.eq_ofNat_of_zero_le hat_.1
                          have HTX := Lib.hid (show tZ l x = u by unfold tZ; rw [eZ_at ha]; rfl)
                          have G0 := fun (w' : World) (h : Bel wr w') => ((HG.out.below.trans (HB3.out.trans h)).box HBL.out).cell 0 (v := .slice (some ⟨bb, off, none⟩) n c) rfl
                          have G1 := fun (w' : World) (h : Bel wr w') => (HG.out.below.trans (HB3.out.trans h)).cell ((HLW.out.rng (show x < n by omega) ha).2 1 (.int .i64 u) rfl)
                          have G2 := fun (w' : World) (h : Bel wr w') => ((HB3.out.trans h).box HXS.out).cell 1 (v := .int .i64 t) rfl
                          have HX9 := Lib.hid hx
                          have HI9 := Lib.hid hli
                          clear hx hxk hgc ha hat_
                          go_wp2
                          by_cases hut : u = t
                          · have hq : ((u : Int) != (t : Int)) = false := by simp [hut]
                            have HN9 := Lib.hid (rsT_no (l := l) (t := t) HX9.out (by rw [HTX.out, hut]; simp))
                            clear hut
                            (refine region_bel (by kernel_rfl) (by kernel_rfl) ?_; (repeat (first | ((with_reducible refine BigFrame.wpQuiet_skip ?_ ?_); exact rfl; simp only [Act.put, Act.eval, List.setIfInBounds_toArray, List.set_cons_zero, List.set_cons_succ, Array.getD_eq_getD_getElem?, List.getElem?_toArray, List.getElem?_cons_zero, List.getElem?_cons_succ, Option.getD_some]) | (refine q_move _ rfl rfl ?_; simp only [Act.put, Act.eval, List.setIfInBounds_toArray, List.set_cons_zero, List.set_cons_succ, Array.getD_eq_getD_getElem?, List.getElem?_toArray, List.getElem?_cons_zero, List.getElem?_cons_succ, Option.getD_some]) | (refine q_assign _ rfl rfl ?_; simp only [Act.put, Act.eval, List.setIfInBounds_toArray, List.set_cons_zero, List.set_cons_succ, Array.getD_eq_getD_getElem?, List.getElem?_toArray, List.getElem?_cons_zero, List.getElem?_cons_succ, Option.getD_some]) | (refine q_any rfl ?_; apply Exists.intro; refine ⟨fun w hw => ?_, ?_⟩; (have fct0 := G0 w hw; have fct1 := G1 w hw; have fct2 := G2 w hw; go_simp; first | exact ⟨rfl, rfl⟩ | rfl); simp only [Act.put, Act.eval, List.setIfInBounds_toArray, List.set_cons_zero, List.set_cons_succ, Array.getD_eq_getD_getElem?, List.getElem?_toArray, List.getElem?_cons_zero, List.getElem?_cons_succ, Option.getD_some]))); refine wpQuiet_nil ?_; intro w2 hw2)
                            have HO4 := Lib.hid (own_bel HO3.out hw2)
                            have HB4 := Lib.hid (HB3.out.trans hw2)
                            clear hw2 G0 G1 G2
                            go_wp2
                            go_roundw
                            case rel => exact ⟨i + 1, HI9.out, by go_num, by rw [HN9.out]; exact HO4.out, HB4.out⟩
                            case measure => simp [intOf]; omega
                          · have hq : ((u : Int) != (t : Int)) = true := by simp; omega
                            have HN9 := Lib.hid (rsT_yes (l := l) (t := t) HX9.out (by rw [HTX.out]; exact hut))
                            clear hut
                            (refine region_bel (by kernel_rfl) (by kernel_rfl) ?_; (repeat (first | ((with_reducible refine BigFrame.wpQuiet_skip ?_ ?_); exact rfl; simp only [Act.put, Act.eval, List.setIfInBounds_toArray, List.set_cons_zero, List.set_cons_succ, Array.getD_eq_getD_getElem?, List.getElem?_toArray, List.getElem?_cons_zero, List.getElem?_cons_succ, Option.getD_some]) | (refine q_move _ rfl rfl ?_; simp only [Act.put, Act.eval, List.setIfInBounds_toArray, List.set_cons_zero, List.set_cons_succ, Array.getD_eq_getD_getElem?, List.getElem?_toArray, List.getElem?_cons_zero, List.getElem?_cons_succ, Option.getD_some]) | (refine q_assign _ rfl rfl ?_; simp only [Act.put, Act.eval, List.setIfInBounds_toArray, List.set_cons_zero, List.set_cons_succ, Array.getD_eq_getD_getElem?, List.getElem?_toArray, List.getElem?_cons_zero, List.getElem?_cons_succ, Option.getD_some]) | (refine q_any rfl ?_; apply Exists.intro; refine ⟨fun w hw => ?_, ?_⟩; (have fct0 := G0 w hw; have fct1 := G1 w hw; have fct2 := G2 w hw; go_simp; first | exact ⟨rfl, rfl⟩ | rfl); simp only [Act.put, Act.eval, List.setIfInBounds_toArray, List.set_cons_zero, List.set_cons_succ, Array.getD_eq_getD_getElem?, List.getElem?_toArray, List.getElem?_cons_zero, List.getElem?_cons_succ, Option.getD_some]))); refine wpQuiet_nil ?_; intro w2 hw2)
                            have HA4 := Lib.hid (own_alloc (own_bel HO3.out hw2) (.cells #[.int .i64 (x : Nat)] 3))
                            have HB4 := Lib.hid ((HB3.out.trans hw2).alloc (.cells #[.int .i64 (x : Nat)] 3))
                            clear hw2 G0 G1 G2
                            go_wp2_with (at_builtin; refine wpList_append_own_at _ rfl (.tmp 139) (.tmp 141) _ rfl w8.heap.size 3 j0 _ 1 8 Try.underlying48 JI.out.1 JI.out.2.1 JI.out.2.2.1 JI.out.2.2.2 rfl (by omega) _ (rsT l t rs i).length _ rfl HA4.out ⟨w2.heap.size, 0, none⟩ 1 1 [.int .i64 (x : Nat)] rfl rfl (cell_one_new _ _ _) (by simp [Value.oneCell']) (by have := HRT.out; unfold maxLen; omega) (by have := HRT.out; omega) HB4.out.size ?_; intro v7 w7 hown7 hg7 hn7 hat7)
                            refine ⟨⟨i + 1, HI9.out, by go_num, ?_, HB4.out.out.grown hg7 HB4.out.size (own_block_ge HA4.out)⟩, by simp [intOf]; omega⟩
                            rw [HN9.out, List.length_append, il_app]
                            exact hown7
                        · obtain rfl : i = rs.length := by omega
                          have HAL := Lib.hid (rsT_all l t rs)
                          have HO5 := HO3.out
                          have HA4 := Lib.hid (own_alloc HO3.out (.cells #[.int .i64 (k : Nat)] 3))
                          have HB4 := Lib.hid (HB3.out.alloc (.cells #[.int .i64 (k : Nat)] 3))
                          clear HO5 hi hli
                          go_wp2_with (at_builtin; refine wpList_append_own_at _ rfl (.tmp 144) (.tmp 146) _ rfl w8.heap.size 3 j0 _ 1 8 Try.underlying48 JI.out.1 JI.out.2.1 JI.out.2.2.1 JI.out.2.2.2 rfl (by omega) _ (rsT l t rs rs.length).length _ rfl HA4.out ⟨wr.heap.size, 0, none⟩ 1 1 [.int .i64 (k : Nat)] rfl rfl (cell_one_new _ _ _) (by simp [Value.oneCell']) (by have := HRT.out; unfold maxLen; omega) (by have := HRT.out; omega) HB4.out.size ?_; intro v9 w9 hown9 hg9 hn9 hat9)
                          have HF9 := Lib.hid (HG.out.put (rs' := (rs.filter fun a => decide (tZ l a ≠ t)) ++ [k]) (HB4.out.out.grown hg9 HB4.out.size (own_block_ge HA4.out)) (by rw [← HAL.out, List.length_append, il_app]; exact hown9))
                          refine ⟨⟨k + 1, by omega, by go_num, HWY.out.fin (by have := HS9.out; omega) (by rw [HTZ.out]; exact HF9.out)⟩, by simp [intOf]; omega⟩
                    · rw [hkn] at kb
                      have HWY := Lib.hid (way_no (n := n) HPX.out (rd_many HKZ.out).1 (rd_many HKZ.out).2.1 (by rw [(rd_many HKZ.out).2.2, hkn]; rfl))
                      clear hkn
                      go_wp2_with (first | (first | (go_at_call 37; (with_reducible refine (kb).mono ?_); rintro e w' ⟨rfl, rfl⟩)))
                      have HG := Lib.hid HRF.out.nochange
                      have HXS := Lib.hid HX3.out
                      have HI3 := Lib.hid (show ∀ j x, rs[j]? = some x → ∃ gg, A2 = some ⟨gg, 0, none⟩ ∧ w3.cell? ⟨gg, j, none⟩ = some (.int .i64 (x : Nat)) from fun j x hx => by
                        obtain ⟨A3, c3, hv3, hI3⟩ := il_own HG.out.own2
                        cases hv3
                        obtain ⟨g9, h1, _, _, h4⟩ := hI3 j x hx
                        exact ⟨g9, h1, h4⟩)
                      clear kb
                      go_loopw [18, 127] (fun v3 t127 wr => ∃ i : Nat, i ≤ rs.length ∧ t127 = .int .i64 i ∧ wr.ownsRow w3.heap.size 3 1 v3 (rsT l t rs i).length (il (rsT l t rs i)) ∧ Bel w3 wr) (fun _ t127 _ => rs.length - (intOf t127).toNat)
                      case atStart => exact ⟨0, Nat.zero_le _, rfl, World.ownsRow_nil _ _ _ _, Bel.refl _⟩
                      case round =>
                        obtain ⟨i, hi, rfl, ho3, hb3⟩ := hrel
                        have HO3 := Lib.hid ho3
                        have HB3 := Lib.hid hb3
                        have HRT := Lib.hid (rsT_len l t rs i)
                        have hrl := HRL.out
                        clear ho3 hb3
                        by_cases hli : i < rs.length
                        · have hli' : (i : Int) < rs.length := by omega
                          obtain ⟨x, hx⟩ : ∃ x, rs[i]? = some x := ⟨rs[i], List.getElem?_eq_getElem hli⟩
                          have hxk := HRM.out x (List.mem_of_getElem? hx)
                          obtain ⟨gg, hgA, hgc⟩ := HI3.out i x hx
                          cases hgA
                          have hgc2 := HB3.out.cell hgc
                          have hxn : (x : Int) < n := by omega
                          have hx0 : (0 : Int) ≤ (x : Int) := by omega
                          obtain ⟨⟨ak, at_, ao⟩, ha⟩ := HLW.out.get (show x < n by omega)
                          have hat_ := isEv_t (wrong_isEv (wrong_at HM.out ha))
                          obtain ⟨u, rfl⟩ := Int.eq_ofNat_of_zero_le hat_.1
                          have HTX := Lib.hid (show tZ l x = u by unfold tZ; rw [eZ_at ha]; rfl)
                          have G0 := fun (w' : World) (h : Bel wr w') => ((HG.out.below.trans (HB3.out.trans h)).box HBL.out).cell 0 (v := .slice (some ⟨bb, off, none⟩) n c) rfl
                          have G1 := fun (w' : World) (h : Bel wr w') => (HG.out.below.trans (HB3.out.trans h)).cell ((HLW.out.rng (show x < n by omega) ha).2 1 (.int .i64 u) rfl)
                          have G2 := fun (w' : World) (h : Bel wr w') => ((HB3.out.trans h).box HXS.out).cell 1 (v := .int .i64 t) rfl
                          have HX9 := Lib.hid hx
                          have HI9 := Lib.hid hli
                          clear hx hxk hgc ha hat_
                          go_wp2
                          by_cases hut : u = t
                          · have hq : ((u : Int) != (t : Int)) = false := by simp [hut]
                            have HN9 := Lib.hid (rsT_no (l := l) (t := t) HX9.out (by rw [HTX.out, hut]; simp))
                            clear hut
                            (refine region_bel (by kernel_rfl) (by kernel_rfl) ?_; (repeat (first | ((with_reducible refine BigFrame.wpQuiet_skip ?_ ?_); exact rfl; simp only [Act.put, Act.eval, List.setIfInBounds_toArray, List.set_cons_zero, List.set_cons_succ, Array.getD_eq_getD_getElem?, List.getElem?_toArray, List.getElem?_cons_zero, List.getElem?_cons_succ, Option.getD_some]) | (refine q_move _ rfl rfl ?_; simp only [Act.put, Act.eval, List.setIfInBounds_toArray, List.set_cons_zero, List.set_cons_succ, Array.getD_eq_getD_getElem?, List.getElem?_toArray, List.getElem?_cons_zero, List.getElem?_cons_succ, Option.getD_some]) | (refine q_assign _ rfl rfl ?_; simp only [Act.put, Act.eval, List.setIfInBounds_toArray, List.set_cons_zero, List.set_cons_succ, Array.getD_eq_getD_getElem?, List.getElem?_toArray, List.getElem?_cons_zero, List.getElem?_cons_succ, Option.getD_some]) | (refine q_any rfl ?_; apply Exists.intro; refine ⟨fun w hw => ?_, ?_⟩; (have fct0 := G0 w hw; have fct1 := G1 w hw; have fct2 := G2 w hw; go_simp; first | exact ⟨rfl, rfl⟩ | rfl); simp only [Act.put, Act.eval, List.setIfInBounds_toArray, List.set_cons_zero, List.set_cons_succ, Array.getD_eq_getD_getElem?, List.getElem?_toArray, List.getElem?_cons_zero, List.getElem?_cons_succ, Option.getD_some]))); refine wpQuiet_nil ?_; intro w2 hw2)
                            have HO4 := Lib.hid (own_bel HO3.out hw2)
                            have HB4 := Lib.hid (HB3.out.trans hw2)
                            clear hw2 G0 G1 G2
                            go_wp2
                            go_roundw
                            case rel => exact ⟨i + 1, HI9.out, by go_num, by rw [HN9.out]; exact HO4.out, HB4.out⟩
                            case measure => simp [intOf]; omega
                          · have hq : ((u : Int) != (t : Int)) = true := by simp; omega
                            have HN9 := Lib.hid (rsT_yes (l := l) (t := t) HX9.out (by rw [HTX.out]; exact hut))
                            clear hut
                            (refine region_bel (by kernel_rfl) (by kernel_rfl) ?_; (repeat (first | ((with_reducible refine BigFrame.wpQuiet_skip ?_ ?_); exact rfl; simp only [Act.put, Act.eval, List.setIfInBounds_toArray, List.set_cons_zero, List.set_cons_succ, Array.getD_eq_getD_getElem?, List.getElem?_toArray, List.getElem?_cons_zero, List.getElem?_cons_succ, Option.getD_some]) | (refine q_move _ rfl rfl ?_; simp only [Act.put, Act.eval, List.setIfInBounds_toArray, List.set_cons_zero, List.set_cons_succ, Array.getD_eq_getD_getElem?, List.getElem?_toArray, List.getElem?_cons_zero, List.getElem?_cons_succ, Option.getD_some]) | (refine q_assign _ rfl rfl ?_; simp only [Act.put, Act.eval, List.setIfInBounds_toArray, List.set_cons_zero, List.set_cons_succ, Array.getD_eq_getD_getElem?, List.getElem?_toArray, List.getElem?_cons_zero, List.getElem?_cons_succ, Option.getD_some]) | (refine q_any rfl ?_; apply Exists.intro; refine ⟨fun w hw => ?_, ?_⟩; (have fct0 := G0 w hw; have fct1 := G1 w hw; have fct2 := G2 w hw; go_simp; first | exact ⟨rfl, rfl⟩ | rfl); simp only [Act.put, Act.eval, List.setIfInBounds_toArray, List.set_cons_zero, List.set_cons_succ, Array.getD_eq_getD_getElem?, List.getElem?_toArray, List.getElem?_cons_zero, List.getElem?_cons_succ, Option.getD_some]))); refine wpQuiet_nil ?_; intro w2 hw2)
                            have HA4 := Lib.hid (own_alloc (own_bel HO3.out hw2) (.cells #[.int .i64 (x : Nat)] 3))
                            have HB4 := Lib.hid ((HB3.out.trans hw2).alloc (.cells #[.int .i64 (x : Nat)] 3))
                            clear hw2 G0 G1 G2
                            go_wp2_with (at_builtin; refine wpList_append_own_at _ rfl (.tmp 139) (.tmp 141) _ rfl w3.heap.size 3 j0 _ 1 8 Try.underlying48 JI.out.1 JI.out.2.1 JI.out.2.2.1 JI.out.2.2.2 rfl (by omega) _ (rsT l t rs i).length _ rfl HA4.out ⟨w2.heap.size, 0, none⟩ 1 1 [.int .i64 (x : Nat)] rfl rfl (cell_one_new _ _ _) (by simp [Value.oneCell']) (by have := HRT.out; unfold maxLen; omega) (by have := HRT.out; omega) HB4.out.size ?_; intro v7 w7 hown7 hg7 hn7 hat7)
                            refine ⟨⟨i + 1, HI9.out, by go_num, ?_, HB4.out.out.grown hg7 HB4.out.size (own_block_ge HA4.out)⟩, by simp [intOf]; omega⟩
                            rw [HN9.out, List.length_append, il_app]
                            exact hown7
                        · obtain rfl : i = rs.length := by omega
                          have HAL := Lib.hid (rsT_all l t rs)
                          have HO5 := HO3.out
                          have HA4 := Lib.hid (own_alloc HO3.out (.cells #[.int .i64 (k : Nat)] 3))
                          have HB4 := Lib.hid (HB3.out.alloc (.cells #[.int .i64 (k : Nat)] 3))
                          clear HO5 hi hli
                          go_wp2_with (at_builtin; refine wpList_append_own_at _ rfl (.tmp 144) (.tmp 146) _ rfl w3.heap.size 3 j0 _ 1 8 Try.underlying48 JI.out.1 JI.out.2.1 JI.out.2.2.1 JI.out.2.2.2 rfl (by omega) _ (rsT l t rs rs.length).length _ rfl HA4.out ⟨wr.heap.size, 0, none⟩ 1 1 [.int .i64 (k : Nat)] rfl rfl (cell_one_new _ _ _) (by simp [Value.oneCell']) (by have := HRT.out; unfold maxLen; omega) (by have := HRT.out; omega) HB4.out.size ?_; intro v9 w9 hown9 hg9 hn9 hat9)
                          have HF9 := Lib.hid (HG.out.put (rs' := (rs.filter fun a => decide (tZ l a ≠ t)) ++ [k]) (HB4.out.out.grown hg9 HB4.out.size (own_block_ge HA4.out)) (by rw [← HAL.out, List.length_append, il_app]; exact hown9))
                          refine ⟨⟨k + 1, by omega, by go_num, HWY.out.fin (by have := HS9.out; omega) (by rw [HTZ.out]; exact HF9.out)⟩, by simp [intOf]; omega⟩
                · cases my
                  · have c0 := HX3.out.cell 0 (v := .int .i64 2) rfl
                    clear kb
                    go_wp2_with fail
                    refine (epoch_any w.heap.size n c _ l w3 pw k (HLW.out.bel HRF.out.below) HM.out (HRF.out.below.box HBL.out) hpwk (by omega)).mono ?_
                    rintro e4 w4 ⟨rfl, hb4⟩
                    have HRF4 := Lib.hid (HRF.out.bel (Bel.of hb4))
                    have HX4 := Lib.hid ((Bel.of hb4).box HX3.out)
                    clear hb4
                    cases hep : epP l pw k
                    · have HEP := Lib.hid hep
                      clear hep
                      have kb := known_any Bm O n r l _ w4 pw k (HRF4.out.below.box HBm.out) (HMT.out.grow HRF4.out.below) (by omega) (by omega)
                      cases hkn : knP l pw k
                      · rw [hkn] at kb
                        have HWY := Lib.hid (way_yes (n := n) HPX.out (wt_go (my := false) HKZ.out HEP.out).1 (wt_go (my := false) HKZ.out HEP.out).2.1 (q := 1) (by rw [(wt_go (my := false) HKZ.out HEP.out).2.2, hkn]; rfl) (by decide) HEO.out)
                        clear hkn
                        have HDA := Lib.hid (HRF4.out.bel ((Bel.refl w4).alloc (.cells (evv ⟨(k : Nat), (m : Nat), 1⟩) 33)))
                        have HNW := Lib.hid (Box.news (l := evl ⟨(k : Nat), (m : Nat), 1⟩) (Box.new w4 (evv ⟨(k : Nat), (m : Nat), 1⟩) 33))
                        go_wp2_with (first | (first | (go_at_call 37; (with_reducible refine (kb).mono ?_); rintro e w' ⟨rfl, rfl⟩)) | (refine build1 23 _ rfl rfl 33 i0 Try.underlying23 J.out.1 J.out.2.1 J.out.2.2.1 ⟨(k : Nat), (m : Nat), 1⟩ rfl ?_) | (at_builtin; refine wpList_append_own_at _ rfl (.tmp 68) (.tmp 72) _ rfl W.heap.size 33 i0 _ 3 24 Try.underlying23 J.out.1 J.out.2.1 J.out.2.2.1 J.out.2.2.2 rfl (by omega) _ (faT l n m k).length _ rfl HDA.out.own1 _ 1 1 (evl ⟨(k : Nat), (m : Nat), 1⟩) rfl rfl HNW.out (by simp [evl, Value.oneCell']) (by have := HFL.out; unfold maxLen; omega) (by have := HFL.out; omega) HDA.out.below.size ?_; intro v8 w8 hown8 hg8 hn8 hat8))
                        have HG := Lib.hid (HDA.out.add hg8 hat8 hown8)
                        have HXS := Lib.hid ((HX4.out.old (.cells (evv ⟨(k : Nat), (m : Nat), 1⟩) 33)).grown hg8 (fun e => Nat.lt_irrefl _ (HV1E.out _ e.symm)))
                        clear hown8 hg8 hn8 hat8
                        have HF9 := Lib.hid (HG.out)
                        refine ⟨⟨k + 1, by omega, by go_num, HWY.out.fin (by have := HS9.out; omega) HF9.out⟩, by simp [intOf]; omega⟩
                      · rw [hkn] at kb
                        cases hlt9 : ltP l rs k
                        · have HWY := Lib.hid (way_no (n := n) HPX.out (wt_go (my := false) HKZ.out HEP.out).1 (wt_go (my := false) HKZ.out HEP.out).2.1 (by rw [(wt_go (my := false) HKZ.out HEP.out).2.2, hkn, hlt9]; rfl))
                          clear hkn hlt9
                          go_wp2_with (first | (first | (go_at_call 37; (with_reducible refine (kb).mono ?_); rintro e w' ⟨rfl, rfl⟩)))
                          have HG := Lib.hid HRF4.out.nochange
                          have HXS := Lib.hid HX4.out
                          have HF9 := Lib.hid (HG.out)
                          go_roundw
                          case rel => exact ⟨k + 1, by omega, by go_num, HWY.out.fin (by have := HS9.out; omega) HF9.out⟩
                          case measure => simp [intOf]; omega
                        · have HWY := Lib.hid (way_yes (n := n) HPX.out (wt_go (my := false) HKZ.out HEP.out).1 (wt_go (my := false) HKZ.out HEP.out).2.1 (q := 3) (by rw [(wt_go (my := false) HKZ.out HEP.out).2.2, hkn, hlt9]; rfl) (by decide) HEO.out)
                          clear hkn hlt9
                          have HDA := Lib.hid (HRF4.out.bel ((Bel.refl w4).alloc (.cells (evv ⟨(k : Nat), (m : Nat), 3⟩) 33)))
                          have HNW := Lib.hid (Box.news (l := evl ⟨(k : Nat), (m : Nat), 3⟩) (Box.new w4 (evv ⟨(k : Nat), (m : Nat), 3⟩) 33))
                          go_wp2_with (first | (first | (go_at_call 37; (with_reducible refine (kb).mono ?_); rintro e w' ⟨rfl, rfl⟩)) | (refine build1 23 _ rfl rfl 33 i0 Try.underlying23 J.out.1 J.out.2.1 J.out.2.2.1 ⟨(k : Nat), (m : Nat), 3⟩ rfl ?_) | (at_builtin; refine wpList_append_own_at _ rfl (.tmp 75) (.tmp 79) _ rfl W.heap.size 33 i0 _ 3 24 Try.underlying23 J.out.1 J.out.2.1 J.out.2.2.1 J.out.2.2.2 rfl (by omega) _ (faT l n m k).length _ rfl HDA.out.own1 _ 1 1 (evl ⟨(k : Nat), (m : Nat), 3⟩) rfl rfl HNW.out (by simp [evl, Value.oneCell']) (by have := HFL.out; unfold maxLen; omega) (by have := HFL.out; omega) HDA.out.below.size ?_; intro v8 w8 hown8 hg8 hn8 hat8))
                          have HG := Lib.hid (HDA.out.add hg8 hat8 hown8)
                          have HXS := Lib.hid ((HX4.out.old (.cells (evv ⟨(k : Nat), (m : Nat), 3⟩) 33)).grown hg8 (fun e => Nat.lt_irrefl _ (HV1E.out _ e.symm)))
                          clear hown8 hg8 hn8 hat8
                          have HF9 := Lib.hid (HG.out)
                          refine ⟨⟨k + 1, by omega, by go_num, HWY.out.fin (by have := HS9.out; omega) HF9.out⟩, by simp [intOf]; omega⟩
                    · have HWY := Lib.hid (way_no (n := n) HPX.out (wt_skip HKZ.out hep).1 (wt_skip HKZ.out hep).2.1 (wt_skip HKZ.out hep).2.2)
                      clear hep
                      have HF9 := Lib.hid HRF4.out.nochange
                      go_wp2
                      go_roundw
                      case rel => exact ⟨k + 1, by omega, by go_num, HWY.out.fin (by have := HS9.out; omega) HF9.out⟩
                      case measure => simp [intOf]; omega
                  · have c0 := HX3.out.cell 0 (v := .int .i64 2) rfl
                    clear kb
                    go_wp2_with fail
                    refine (epoch_any w.heap.size n c _ l w3 pw k (HLW.out.bel HRF.out.below) HM.out (HRF.out.below.box HBL.out) hpwk (by omega)).mono ?_
                    rintro e4 w4 ⟨rfl, hb4⟩
                    have HRF4 := Lib.hid (HRF.out.bel (Bel.of hb4))
                    have HX4 := Lib.hid ((Bel.of hb4).box HX3.out)
                    clear hb4
                    cases hep : epP l pw k
                    · have HEP := Lib.hid hep
                      clear hep
                      have kb := known_any Bm O n r l _ w4 pw k (HRF4.out.below.box HBm.out) (HMT.out.grow HRF4.out.below) (by omega) (by omega)
                      cases hkn : knP l pw k
                      · rw [hkn] at kb
                        have HWY := Lib.hid (way_yes (n := n) HPX.out (wt_go (my := true) HKZ.out HEP.out).1 (wt_go (my := true) HKZ.out HEP.out).2.1 (q := 1) (by rw [(wt_go (my := true) HKZ.out HEP.out).2.2, hkn]; rfl) (by decide) HEO.out)
                        clear hkn
                        have HDA := Lib.hid (HRF4.out.bel ((Bel.refl w4).alloc (.cells (evv ⟨(k : Nat), (m : Nat), 1⟩) 33)))
                        have HNW := Lib.hid (Box.news (l := evl ⟨(k : Nat), (m : Nat), 1⟩) (Box.new w4 (evv ⟨(k : Nat), (m : Nat), 1⟩) 33))
                        go_wp2_with (first | (first | (go_at_call 37; (with_reducible refine (kb).mono ?_); rintro e w' ⟨rfl, rfl⟩)) | (refine build1 23 _ rfl rfl 33 i0 Try.underlying23 J.out.1 J.out.2.1 J.out.2.2.1 ⟨(k : Nat), (m : Nat), 1⟩ rfl ?_) | (at_builtin; refine wpList_append_own_at _ rfl (.tmp 68) (.tmp 72) _ rfl W.heap.size 33 i0 _ 3 24 Try.underlying23 J.out.1 J.out.2.1 J.out.2.2.1 J.out.2.2.2 rfl (by omega) _ (faT l n m k).length _ rfl HDA.out.own1 _ 1 1 (evl ⟨(k : Nat), (m : Nat), 1⟩) rfl rfl HNW.out (by simp [evl, Value.oneCell']) (by have := HFL.out; unfold maxLen; omega) (by have := HFL.out; omega) HDA.out.below.size ?_; intro v8 w8 hown8 hg8 hn8 hat8))
                        have HG := Lib.hid (HDA.out.add hg8 hat8 hown8)
                        have HXS := Lib.hid ((HX4.out.old (.cells (evv ⟨(k : Nat), (m : Nat), 1⟩) 33)).grown hg8 (fun e => Nat.lt_irrefl _ (HV1E.out _ e.symm)))
                        clear hown8 hg8 hn8 hat8
                        have HF9 := Lib.hid (HG.out.nil)
                        refine ⟨⟨k + 1, by omega, by go_num, HWY.out.fin (by have := HS9.out; omega) HF9.out⟩, by simp [intOf]; omega⟩
                      · rw [hkn] at kb
                        cases hlt9 : ltP l rs k
                        · have HWY := Lib.hid (way_no (n := n) HPX.out (wt_go (my := true) HKZ.out HEP.out).1 (wt_go (my := true) HKZ.out HEP.out).2.1 (by rw [(wt_go (my := true) HKZ.out HEP.out).2.2, hkn, hlt9]; rfl))
                          clear hkn hlt9
                          go_wp2_with (first | (first | (go_at_call 37; (with_reducible refine (kb).mono ?_); rintro e w' ⟨rfl, rfl⟩)))
                          have HG := Lib.hid HRF4.out.nochange
                          have HXS := Lib.hid HX4.out
                          have HF9 := Lib.hid (HG.out.nil)
                          go_roundw
                          case rel => exact ⟨k + 1, by omega, by go_num, HWY.out.fin (by have := HS9.out; omega) HF9.out⟩
                          case measure => simp [intOf]; omega
                        · have HWY := Lib.hid (way_yes (n := n) HPX.out (wt_go (my := true) HKZ.out HEP.out).1 (wt_go (my := true) HKZ.out HEP.out).2.1 (q := 3) (by rw [(wt_go (my := true) HKZ.out HEP.out).2.2, hkn, hlt9]; rfl) (by decide) HEO.out)
                          clear hkn hlt9
                          have HDA := Lib.hid (HRF4.out.bel ((Bel.refl w4).alloc (.cells (evv ⟨(k : Nat), (m : Nat), 3⟩) 33)))
                          have HNW := Lib.hid (Box.news (l := evl ⟨(k : Nat), (m : Nat), 3⟩) (Box.new w4 (evv ⟨(k : Nat), (m : Nat), 3⟩) 33))
                          go_wp2_with (first | (first | (go_at_call 37; (with_reducible refine (kb).mono ?_); rintro e w' ⟨rfl, rfl⟩)) | (refine build1 23 _ rfl rfl 33 i0 Try.underlying23 J.out.1 J.out.2.1 J.out.2.2.1 ⟨(k : Nat), (m : Nat), 3⟩ rfl ?_) | (at_builtin; refine wpList_append_own_at _ rfl (.tmp 75) (.tmp 79) _ rfl W.heap.size 33 i0 _ 3 24 Try.underlying23 J.out.1 J.out.2.1 J.out.2.2.1 J.out.2.2.2 rfl (by omega) _ (faT l n m k).length _ rfl HDA.out.own1 _ 1 1 (evl ⟨(k : Nat), (m : Nat), 3⟩) rfl rfl HNW.out (by simp [evl, Value.oneCell']) (by have := HFL.out; unfold maxLen; omega) (by have := HFL.out; omega) HDA.out.below.size ?_; intro v8 w8 hown8 hg8 hn8 hat8))
                          have HG := Lib.hid (HDA.out.add hg8 hat8 hown8)
                          have HXS := Lib.hid ((HX4.out.old (.cells (evv ⟨(k : Nat), (m : Nat), 3⟩) 33)).grown hg8 (fun e => Nat.lt_irrefl _ (HV1E.out _ e.symm)))
                          clear hown8 hg8 hn8 hat8
                          have HF9 := Lib.hid (HG.out.nil)
                          refine ⟨⟨k + 1, by omega, by go_num, HWY.out.fin (by have := HS9.out; omega) HF9.out⟩, by simp [intOf]; omega⟩
                    · have HWY := Lib.hid (way_no (n := n) HPX.out (wt_skip HKZ.out hep).1 (wt_skip HKZ.out hep).2.1 (wt_skip HKZ.out hep).2.2)
                      clear hep
                      have HF9 := Lib.hid HRF4.out.nochange
                      go_wp2
                      go_roundw
                      case rel => exact ⟨k + 1, by omega, by go_num, HWY.out.fin (by have := HS9.out; omega) HF9.out⟩
                      case measure => simp [intOf]; omega
          · obtain ⟨hx1, hx2, hx3⟩ := kX_no (l := l) (m := m) (k := k) (by rw [HKZ.out, HOZ.out]; exact hac)
            have HNX := Lib.hid (show FnR w W l n m (k + 1) u5 u9 _ _ _ (ewld wr ⟨ek, t, o⟩ 50) from ⟨by rw [faT_no hx1, hx2]; exact HR3.out, by rw [hx3], by rw [hx2], by rw [hx2]⟩)
            clear hx1 hx2 hx3
            have c0 := HX.out.cell 0 (v := .int .i64 ek) rfl
            have c2 := HX.out.cell 2 (v := .int .i64 o) rfl
            by_cases h2 : 2 < ek
            · clear hac
              go_wp2_with (first | (refine load_ev T36 _ rfl rfl rfl hR.out ?_) | (refine ewld_store T36 _ _ rfl rfl _ rfl rfl rfl ?_))
              go_roundw
              case rel => exact ⟨k + 1, by omega, by go_num, HNX.out⟩
              case measure => simp [intOf]; omega
            · have h3 : ¬ (o : Int) = (m : Int) := fun e => hac ⟨by omega, by omega⟩
              have h4 : ((o : Int) != (m : Int)) = true := by simpa using h3
              clear hac
              go_wp2_with (first | (refine load_ev T36 _ rfl rfl rfl hR.out ?_) | (refine ewld_store T36 _ _ rfl rfl _ rfl rfl rfl ?_))
              go_roundw
              case rel => exact ⟨k + 1, by omega, by go_num, HNX.out⟩
              case measure => simp [intOf]; omega
        · obtain rfl : k = n := by omega
          have HF9 := Lib.hid HR2.out.nil
          go_wp2
          go_roundw
          case rel => exact ⟨m + 1, by omega, by go_num, rfl, by rw [← faT_next]; exact HF9.out⟩
          case measure => simp [intOf]; omega
    · have HM8 := Lib.hid (show m = 8 by omega)
      have HSL := Lib.hid (show slS l n m = slT l l.length by rw [HM8.out, slS_all HM.out n (by rw [HN.out]; exact Nat.le_refl _), HN.out])
      have HFF := Lib.hid (show fflags l = gl (fkK l) l n by rw [fflags_ok HM.out, HN.out])
      obtain ⟨A1, c1, rfl, hs1, _, _⟩ := Sl.own HR.out.own1
      have HS1 := Lib.hid hs1
      have HOA := Lib.hid (show ∀ j, j < n → outT l (faT l n m 0) j (faT l n m 0).length = gl (fkK l) l (j + 1) from fun j hj => by rw [HM8.out]; exact outT_all HM.out hj (by rw [HN.out]; exact Nat.le_refl n))
      have HFL := Lib.hid (show (faT l n m 0).length ≤ 640 by rw [HM8.out]; have h1 := faT_len l n 8 0; omega)
      have cB := (HR.out.below.box HBL.out).cell 0 (v := .slice A n c) rfl
      have HRB := Lib.hid HR.out.below
      generalize faT l n m 0 = fa at *
      generalize hnf : fa.length = nf at *
      have HNF := Lib.hid hnf
      clear hs1 hnf
      go_wp2
      have H1 := Lib.hid (World.ownsRow_nil wr wr.heap.size 33 3)
      have HZ := Lib.hid (Bel.refl wr)
      generalize hws : wr = wS at *
      clear hws cB
      go_loopw [21, 157] (fun v3 t157 wr => ∃ j : Nat, j ≤ n ∧ t157 = .int .i64 j ∧ wr.ownsRow wS.heap.size 33 3 v3 (gl (fkK l) l j).length (evc (gl (fkK l) l j)) ∧ Bel wS wr) (fun _ t157 _ => n - (intOf t157).toNat)
      case atStart => exact ⟨0, Nat.zero_le _, rfl, World.ownsRow_nil _ _ _ _, Bel.refl _⟩
      case round =>
        obtain ⟨j, hj, rfl, ho3, hb3⟩ := hrel
        have HO3 := Lib.hid ho3
        have HB3 := Lib.hid hb3
        clear ho3 hb3
        by_cases hlt : j < n
        · have hlt' : (j : Int) < n := by omega
          go_wp2
          go_loopw [21, 162] (fun v3 t162 wr => ∃ i : Nat, i ≤ nf ∧ t162 = .int .i64 i ∧ wr.ownsRow wS.heap.size 33 3 v3 (outT l fa j i).length (evc (outT l fa j i)) ∧ Bel wS wr) (fun _ t162 _ => nf - (intOf t162).toNat)
          case atStart => exact ⟨0, Nat.zero_le _, rfl, by rw [outT_zero]; exact HO3.out, HB3.out⟩
          case round =>
            obtain ⟨i, hi, rfl, ho4, hb4⟩ := hrel
            have HO4 := Lib.hid ho4
            have HB4 := Lib.hid hb4
            have hnf640 : nf ≤ 640 := by have := HFL.out; have := HNF.out; omega
            clear ho4 hb4
            by_cases hli : i < nf
            · have hli' : (i : Int) < nf := by omega
              obtain ⟨fb, foff, ⟨fk_, fv_, fq_⟩, rfl, hfb, hfe, hfr⟩ := HS1.out.at_ hli
              have hR := Lib.hid (rangeAt_below HB4.out.out hfb hfr)
              have HX := Lib.hid (ewld_box wr ⟨fk_, fv_, fq_⟩ 33)
              have HXB := Lib.hid (ewld_below wr ⟨fk_, fv_, fq_⟩ 33)
              have HOL := Lib.hid (outT_len l fa j i)
              have c0 := HX.out.cell 0 (v := .int .i64 fk_) rfl
              by_cases hat9 : fk_ = (j : Int)
              · have hq : (fk_ == (j : Int)) = true := by simp [hat9]
                have HN9 := Lib.hid (outT_yes (l := l) hfe hat9)
                clear hfe hfr hat9
                have HA := Lib.hid (own_alloc (own_bel HO4.out HXB.out) (.cells (evv ⟨fk_, fv_, fq_⟩) 33))
                have HNW := Lib.hid (Box.news (l := evl ⟨fk_, fv_, fq_⟩) (Box.new (ewld wr ⟨fk_, fv_, fq_⟩ 33) (evv ⟨fk_, fv_, fq_⟩) 33))
                have HB5 := Lib.hid ((HB4.out.trans HXB.out).alloc (.cells (evv ⟨fk_, fv_, fq_⟩) 33))
                go_wp2_with (first | (refine load_ev TFl9 _ rfl rfl rfl hR.out ?_) | (refine ewld_store TFl9 _ _ rfl rfl _ rfl rfl rfl ?_) | (refine loadB _ _ rfl rfl rfl HX.out TFl9 ?_) | (refine build1 23 _ rfl rfl 33 i0 Try.underlying23 J.out.1 J.out.2.1 J.out.2.2.1 ⟨fk_, fv_, fq_⟩ rfl ?_) | (at_builtin; refine wpList_append_own_at _ rfl (.tmp 170) (.tmp 172) _ rfl wS.heap.size 33 i0 _ 3 24 Try.underlying23 J.out.1 J.out.2.1 J.out.2.2.1 J.out.2.2.2 rfl (by omega) _ (outT l fa j i).length _ rfl HA.out _ 1 1 (evl ⟨fk_, fv_, fq_⟩) rfl rfl HNW.out (by simp [evl, Value.oneCell']) (by have := HOL.out; have := HFL.out; have := HNF.out; unfold maxLen; omega) (by have := HOL.out; have := HFL.out; have := HNF.out; omega) HB5.out.size ?_; intro v8 w8 hown8 hg8 hn8 hat8))
                refine ⟨⟨i + 1, by omega, by go_num, ?_, HB5.out.out.grown hg8 HB5.out.size (own_block_ge HA.out)⟩, by simp [intOf]; omega⟩
                rw [HN9.out, List.length_append, evc_append]
                exact hown8
              · have hq : (fk_ == (j : Int)) = false := by simp [hat9]
                have HN9 := Lib.hid (outT_no (l := l) hfe hat9)
                clear hfe hfr hat9
                go_wp2_with (first | (refine load_ev TFl9 _ rfl rfl rfl hR.out ?_) | (refine ewld_store TFl9 _ _ rfl rfl _ rfl rfl rfl ?_))
                go_roundw
                case rel => exact ⟨i + 1, by omega, by go_num, by rw [HN9.out]; exact own_bel HO4.out HXB.out, HB4.out.trans HXB.out⟩
                case measure => simp [intOf]; omega
            · obtain rfl : i = nf := by omega
              have HF9 := Lib.hid (show outT l fa j i = gl (fkK l) l (j + 1) from HOA.out j hlt)
              go_wp2
              go_roundw
              case rel => exact ⟨j + 1, by omega, by go_num, by rw [← HF9.out]; exact HO4.out, HB4.out⟩
              case measure => simp [intOf]; omega
        · obtain rfl : j = n := by omega
          go_wp2
          go_ret2
          refine ⟨u21, by rw [HSL.out]; rfl, ?_, ((HBW.out.trans HRB.out).trans HB3.out).out⟩
          rw [HFF.out]; exact own_drop_alloc HO3.out (HBW.out.trans HRB.out).size
end Go.Proofs.Yteihildhlcggoaa

import Derived.Test.YtlcldcbdobgdbaaYGo
import Derived.Shelf.Abstract
import Derived.Test.YtlcldcbdobgdbaaYCi
set_option linter.all false
set_option maxRecDepth 100000
namespace Go.Proofs.Ytlcldcbdobgdbaa
open Go Go.RowKit

set_option maxHeartbeats 4000000 in
theorem explore_no {A : Option Addr} {n c : Nat} {P : List (List Ev)} {w : World} (h : Prg w A n P) (hnc : n ≤ c) (hcm : c ≤ maxLen) (h0 : evC P ≠ 0) (v : Value) :
    Calls Try.prog 38 #[.slice A n c, v] w fun e w' => e = .returned (.int .i64 (evC P)) ∧ Below w.heap.size w w' := by
  have HCK := Lib.hid (echeck_any pgcheck_any h hnc hcm)
  have hb : (evC P != 0) = true := by simpa using h0
  clear h hnc hcm h0
  go_enter Try.func38, Try.ntmps38
  go_wp2_with fail
  refine HCK.out.mono ?_
  rintro e1 w1 ⟨rfl, hb1⟩
  go_wp2
  go_ret
  exact ⟨rfl, hb1⟩
theorem map_new (w : World) : MapA (w.alloc (.map #[] 0)) w.heap.size [] := by
  show (w.heap.push (.map #[] 0))[w.heap.size]? = some (.map #[] 0)
  exact Array.getElem?_push_size
set_option maxHeartbeats 4000000 in
theorem explore_yes {σ : Type} {P : List (List Ev)} {W : World} {g : Nat} {cb : Array Value} {vis : σ → List Nat → σ × Bool} {sz : σ → Nat} {St : Nat → World → σ → (Nat → Prop) → Prop} {A : Option Addr} {n c : Nat} {w : World} {s : σ} {O : Nat → Prop}
    (h : Prg W A n P) (hnc : n ≤ c) (hcm : c ≤ maxLen) (h0 : evC P = 0) (hbw : Bel W w) (HV : ∀ M, w.heap.size ≤ M → VisC P W M g cb vis sz (St M)) (hs0 : sz s = 0)
    (hO : ∀ k, O k → W.heap.size ≤ k ∧ k < w.heap.size) (hs : ∀ M w', w.heap.size ≤ M → Bel w w' → St M w' s O) :
    Calls Try.prog 38 #[.slice A n c, .func (.func g) #[] cb] w fun e w' => e = .returned (.int .i64 0) ∧ ∃ M O', w.heap.size ≤ M ∧ St M w' (mdf (kidsW P) (keyW P) vis (totP P + 1) ([], s) []).2 O' ∧ KMO M O w w' := by
  have hok := evC_ok h0
  have h00 := chk_ok.2 hok
  have h10 : totP P ≤ 10 := by
    unfold evC at h0
    rw [if_neg (by omega)] at h0
    by_cases hh : 10 < (P.map (·.length)).sum
    · rw [if_pos hh] at h0; cases h0
    · unfold totP; omega
  have HCK := Lib.hid (echeck_any pgcheck_any (h.bel hbw) hnc hcm)
  have HP := Lib.hid h
  have HC := Lib.hid (And.intro hnc hcm)
  have HVV := Lib.hid HV
  have HO := Lib.hid hO
  have HS := Lib.hid hs
  have HB := Lib.hid hbw
  have H0 := Lib.hid (And.intro h0 (And.intro h00 (And.intro h10 hok)))
  clear h hnc hcm h0 hbw HV hO hs hok h00 h10
  go_enter Try.func38, Try.ntmps38
  go_wp2_with fail
  refine HCK.out.mono ?_
  rw [H0.out.1]
  rintro e1 w1 ⟨rfl, hb1⟩
  have HB1 := Lib.hid (Bel.of hb1)
  have hM : w.heap.size ≤ w1.heap.size := hb1.size
  have HM := Lib.hid hM
  have HMP := Lib.hid (map_new w1)
  have HB2 := Lib.hid ((Bel.refl w1).alloc (.map #[] 0))
  have HB3 := Lib.hid ((Bel.of hb1).alloc (.map #[] 0))
  have HG := Lib.hid (goon_x (HVV.out w1.heap.size hM) HP.out HC.out.1 HC.out.2 (Nat.le_trans HB.out.size hM) H0.out.2.1 H0.out.2.2.1 (totP P + 1) [] s [] O (.slice none 0 0) (w1.alloc (.map #[] 0)) ⟨trivial, by rw [hs0]; have h1 := H0.out.2.2.1; have h2 : (7 : Nat) ^ (totP P + 1) ≤ 7 ^ 11 := Nat.pow_le_pow_right (by omega) (by omega); have h3 : (7 : Nat) ^ 11 = 1977326743 := rfl; omega, fun x hx => by have := vl_tot H0.out.2.2.2 hx; simp at this; omega, HB.out.trans HB3.out, HS.out _ _ hM HB3.out, fun k hk => by
      have h1 := HO.out k hk; have h2 := HB3.out.size; exact ⟨h1.1, by omega, by omega⟩, HMP.out, (fun x hx => by cases hx), World.ownsRow_nil _ _ _ _, (fun k hk => by cases hk)⟩)
  clear hb1 hM
  have hmm := @run_makeMap Try.prog
  go_wp2_with fail
  refine HG.out.mono ?_
  rintro e2 w2 ⟨rfl, O', hst, _, _, _, _, hk⟩
  have HF := Lib.hid (And.intro hst hk)
  clear hst hk hmm
  go_wp2
  go_ret
  exact ⟨rfl, w1.heap.size, O', HM.out, HF.out.1, (KMO.of_bel HB3.out).trans (fun k hk => .inl hk) HF.out.2⟩
end Go.Proofs.Ytlcldcbdobgdbaa
set_option linter.all false
set_option maxRecDepth 100000
namespace Go.Proofs.Ytlcldcbdobgdbaa
open Go Go.RowKit Go.Shelf

theorem xv_endr {w : World} {B : Nat} {PV : Value} {m v h : Nat → Int} {d k : Bool} {LV : Value} {t : TypeId} (hb : Box w B (xV PV m v h d k LV) t) : w.rangeAt B 1 (endc m v h d k) := fun j u hj => by
  have hlt : j < 20 := (List.getElem?_eq_some_iff.1 hj).1
  have hc := hb.cell (1 + j) (v := xF PV m v h d k LV (1 + j)) (vs_get _ (by omega))
  rw [hc]
  have he : (endc m v h d k)[j]? = some (endF m v h d k j) := by
    have := vs_get (n := 20) (endF m v h d k) hlt
    rw [end_vs] at this
    simpa using this
  rw [he] at hj
  rw [← hj]
  unfold xF
  rw [if_neg (by omega), if_pos (by omega), Nat.add_sub_cancel_left]
theorem over_dk {P : List (List Ev)} (ws : List Nat) : overW P ws = (doneP P (goS P ps0 ws) || stuckP P (goS P ps0 ws)) := by
  unfold overW
  rw [Bool.eq_iff_iff, Bool.or_eq_true, Bool.not_eq_true']
  exact goes_end
end Go.Proofs.Ytlcldcbdobgdbaa
set_option linter.all false
set_option maxRecDepth 100000
namespace Go.Proofs.Ytlcldcbdobgdbaa
open Go Go.RowKit Go.Shelf

theorem end_info : (Try.prog.info? 33).map (fun i => (i.zero, i.size, i.bytes)) = some (some (.agg z20), 20, 152) := by kernel_rfl
theorem run_build_end (m v h : Nat → Int) (d k : Bool) (w : World) :
    (Instr.buildSlice 23 1 #[(0, .agg (endc m v h d k).toArray)]).run Try.prog w = .ok (.slice (some ⟨w.heap.size, 0, none⟩) 1 1) (w.alloc (.cells (endc m v h d k).toArray 33)) := by kernel_rfl
theorem l_build_end {ops : Array Oper} {rest : List Oper} {o : Oper} {a : Act} {w : World} {Q : Exit → Act → World → Prop} (x : Operand) (ho : o.op = .buildSlice 23 1 #[(0, x)]) (hgd : o.guard = none) {m v h : Nat → Int} {d k : Bool} (hx : a.eval x = .agg (endc m v h d k).toArray)
    (hw : wpList Try.prog ops Q rest (a.put o.dst (.slice (some ⟨w.heap.size, 0, none⟩) 1 1)) (w.alloc (.cells (endc m v h d k).toArray 33))) : wpList Try.prog ops Q (o :: rest) a w := by
  refine wpList_plain hgd fun _ hK' => ?_
  unfold Oper.wp execOp
  simp only [ho, Sem.run_bind, Sem.run_pure, Result.andThen_ok, List.map_toArray, List.map_cons, List.map_nil, hx, run_build_end]
  exact hK' _ _ hw
theorem endc_one (m v h : Nat → Int) (d k : Bool) : ∀ u ∈ endc m v h d k, u.oneCell' = true := fun u hu => by
  have := vs_all (n := 20) (g := endF m v h d k) endF_one
  rw [end_vs] at this
  simp only [List.all_toArray, List.all_eq_true] at this
  exact this u hu
theorem ens_snoc (xs : List (Array Value)) (x : Array Value) : ens (xs ++ [x]) = ens xs ++ x.toList := by unfold ens; rw [List.flatMap_append]; simp
structure EndS (NB M : Nat) (w : World) (s : List (Array Value)) (O : Nat → Prop) : Prop where
  v : ∃ v, Box w NB #[v] 23 ∧ w.ownsRow (M + 1) 33 20 v s.length (ens s) ∧ ∀ k, O k ↔ (k = NB ∨ v.ownBlock = some k)
theorem EndS.keep {NB M : Nat} {w w' : World} {s : List (Array Value)} {O : Nat → Prop} (h : EndS NB M w s O) (hN : NB < M) (k : KMO M (fun _ => False) w w') : EndS NB M w' s O := by
  obtain ⟨v, h1, h2, h3⟩ := h.v
  exact ⟨v, k.box h1 (by omega) (fun h => h), k.own h2 (fun _ _ h => h), h3⟩
set_option maxHeartbeats 8000000 in
theorem end_call {P : List (List Ev)} {NB M : Nat} (hN : NB < M) {ws : List Nat} {w : World} {s : List (Array Value)} {O : Nat → Prop} {PV LV : Value} (hcap : s.length < 1977326743)
    (hs : EndS NB M w s O) (hM : M < w.heap.size) :
    Calls Try.prog 39 #[.agg (xV PV (nat (goS P ps0 ws).mem) (nat (goS P ps0 ws).vol) (goS P ps0 ws).has (doneP P (goS P ps0 ws)) (stuckP P (goS P ps0 ws)) LV), .pointer (some ⟨NB, 0, none⟩)] w (VisPost M (visE P) (EndS NB M) w s ws O) := by
  have hov := over_dk (P := P) ws
  have hew : endW P ws = (endc (nat (goS P ps0 ws).mem) (nat (goS P ps0 ws).vol) (goS P ps0 ws).has (doneP P (goS P ps0 ws)) (stuckP P (goS P ps0 ws))).toArray := rfl
  generalize nat (goS P ps0 ws).mem = m at *
  generalize nat (goS P ps0 ws).vol = vl at *
  generalize (goS P ps0 ws).has = hh at *
  generalize doneP P (goS P ps0 ws) = dd at *
  generalize stuckP P (goS P ps0 ws) = kk at *
  have HEW := Lib.hid hew
  have HOV := Lib.hid hov
  have HCP := Lib.hid hcap
  have hX := Box.new w (xV PV m vl hh dd kk LV) 82
  have HB := Lib.hid ((Bel.refl w).alloc (.cells (xV PV m vl hh dd kk LV) 82))
  have hwf : NB < w.heap.size := by omega
  have HX := Lib.hid hX
  have HKS := Lib.hid (And.intro hN hM)
  have HS := Lib.hid hs
  clear hov hX hew hcap hs
  go_enter Try.func39, Try.ntmps39
  go_wp2_with (first | (refine loadB 82 _ rfl rfl rfl HX.out TXv ?_))
  refine (isover_any _).mono ?_
  rintro e1 w1 ⟨rfl, hb1⟩
  have HB1 := Lib.hid (HB.out.trans (Bel.of hb1))
  have HX1 := Lib.hid ((Bel.of hb1).box HX.out)
  have HS2 := Lib.hid (HS.out.keep HKS.out.1 (KMO.of_bel HB1.out))
  clear hb1
  cases ho : dd || kk
  · have HR := Lib.hid (show visE P s ws = (s, true) by unfold visE; rw [if_neg (by rw [HOV.out, ho]; simp)])
    go_wp2
    go_ret
    unfold VisPost
    rw [HR.out]
    exact ⟨rfl, O, HS2.out, fun k hk => .inl hk, fun k hk => by
      obtain ⟨v, h1, h2, h3⟩ := HS2.out.v
      rcases (h3 k).1 hk with rfl | h
      · exact h1.lt
      · exact (own_lt h2 h).2, KMO.of_bel HB1.out, HB1.out.block M HKS.out.2⟩
  · have HR := Lib.hid (show visE P s ws = (s ++ [(endc m vl hh dd kk).toArray], true) by unfold visE; rw [if_pos (by rw [HOV.out, ho]), HEW.out])
    obtain ⟨v, hv1, hv2, hv3⟩ := HS.out.v
    have HV3 := Lib.hid hv3
    have hb1 := (HB1.out.box hv1)
    have cv := hb1.cell 0 (v := v) rfl
    obtain ⟨i0, hi0, hz0, hz1, hz2⟩ := info_parts end_info
    have HBA := Lib.hid (HB1.out.alloc (.cells (endc m vl hh dd kk).toArray 33))
    have HOA := Lib.hid (own_bel hv2 HBA.out)
    have HOW := Lib.hid hv2
    have HVA := Lib.hid (HBA.out.box hv1)
    have HNW := Lib.hid (Box.new w1 (endc m vl hh dd kk).toArray 33)
    have HSZ := Lib.hid HBA.out.size
    clear hv1 hv2 hv3 hb1
    go_wp2_with (first | (refine load_row (l := endc m vl hh dd kk) (by exact TEnd) _ rfl rfl rfl (xv_endr HX1.out) ?_) | (refine l_build_end _ rfl rfl rfl ?_) | (at_builtin; refine wpList_append_own_at _ rfl (.tmp 6) (.tmp 9) _ rfl (M + 1) 33 i0 _ 20 152 Try.underlying23 hi0 hz0 hz1 hz2 rfl (by omega) v s.length (ens s) rfl HOA.out ⟨w1.heap.size, 0, none⟩ 1 1 (endc m vl hh dd kk) rfl rfl (fun j u hu => HNW.out.news (l := endc m vl hh dd kk) j u hu) (endc_one _ _ _ _ _) (by have := HCP.out; unfold maxLen; omega) (by have := HCP.out; omega) (by have := HSZ.out; have := HKS.out.2; omega) ?_; intro v7 w7 hown7 hg7 hn7 hat7; have HV7 := Lib.hid (HVA.out.grown hg7 (fun e => by have := (own_lt HOW.out e.symm).1; have := HKS.out.1; omega)); have h17 := own_one hown7) | (refine l_cell1 23 _ _ rfl rfl rfl rfl (by kernel_rfl) h17 (by rw [HV7.out.cell 0 rfl]; rfl) (HV7.out.frozen 0) ?_))
    go_ret
    unfold VisPost
    rw [HR.out]
    have hO7 := own_keep (w' := w7.setCell ⟨NB, 0, none⟩ v7) hown7 (fun g hg _ => heap_setCell_other w7 ⟨NB, 0, none⟩ g v7 (by have := (own_lt hown7 hg).1; have := HKS.out.1; dsimp only; omega))
    have hsz : (w7.setCell ⟨NB, 0, none⟩ v7).heap.size = w7.heap.size := by simp
    have h7 := hg7.size
    have h8 := HSZ.out
    have hblk : ∀ k, k < w.heap.size → k ≠ NB → v.ownBlock ≠ some k → (w7.setCell ⟨NB, 0, none⟩ v7).heap[k]? = w.heap[k]? := fun k hk h1 h2 =>
      (heap_setCell_other w7 ⟨NB, 0, none⟩ k v7 h1).trans ((hg7.block k (by omega) (fun e => h2 e.symm)).trans (HBA.out.block k hk))
    refine ⟨rfl, fun k => k = NB ∨ v7.ownBlock = some k, ⟨v7, HV7.out.set 0 v7, by rw [List.length_append, ens_snoc]; exact hO7, fun k => Iff.rfl⟩, fun k hk => ?_, fun k hk => ?_, ⟨hg7.os.trans HBA.out.os, hg7.tape.trans HBA.out.tape, hg7.output.trans HBA.out.output, by omega, fun k hk _ hn => hblk k hk (fun e => hn ((HV3.out k).2 (.inl e))) (fun e => hn ((HV3.out k).2 (.inr e)))⟩, hblk M HKS.out.2 (by have := HKS.out.1; omega) (fun e => by have := (own_lt HOW.out e).1; omega)⟩
    · rcases hk with rfl | hk
      · exact .inl ((HV3.out k).2 (.inl rfl))
      · rcases hat7 with h | h
        · rw [h] at hk; exact .inl ((HV3.out k).2 (.inr hk))
        · rw [h] at hk; have := Option.some.inj hk; exact .inr (by omega)
    · rcases hk with rfl | hk
      · omega
      · have := (own_lt hown7 hk).2; omega
end Go.Proofs.Ytlcldcbdobgdbaa

/- Contracts of the package trace: follow, Check, Held, Threads. | Contracts of the package trace: Check. -/
import Derived.Test.YtnjaeampnakbbaaTrace2
import Derived.Deep.MidRow
import Derived.Test.YtnjaeampnakbbaaTr
import Derived.Maps.AppendAt
set_option linter.all false
set_option maxRecDepth 100000
namespace Go.Proofs.Ytnjaeampnakbbaa
open Go.RowKit

/-- A slice of events, nil let in. -/
def Sl (w : World) (A : Option Addr) (n : Nat) (l : List Ev) : Prop :=
  l.length = n ∧ (0 < n → ∃ b off, A = some ⟨b, off, none⟩ ∧ b < w.heap.size ∧ w.rangeAt b off (evc l))
theorem Sl.below {N : Nat} {w w' : World} {A : Option Addr} {n : Nat} {l : List Ev} (h : Sl w A n l) (hb : Below N w w') (hN : w.heap.size ≤ N) : Sl w' A n l :=
  ⟨h.1, fun hn => by
    obtain ⟨b, off, hA, hlt, hr⟩ := h.2 hn
    exact ⟨b, off, hA, Nat.lt_of_lt_of_le hlt hb.size, rangeAt_below hb (by omega) hr⟩⟩
theorem range_part {w : World} {b off : Nat} {xs ys : List Value} {k : Nat} (h : w.rangeAt b off xs) (hy : ∀ j v, ys[j]? = some v → xs[k + j]? = some v) : w.rangeAt b (off + k) ys := fun j v hv => by
  have := h (k + j) v (hy j v hv)
  rwa [← Nat.add_assoc] at this
theorem evl_at {l : List Ev} {i : Nat} {e : Ev} (h : l[i]? = some e) (j : Nat) (v : Value) (hv : (evl e)[j]? = some v) : (evc l)[i * 3 + j]? = some v := by
  obtain ⟨h0, h1, h2⟩ := evc_get l i e h
  match j, hv with
  | 0, hv => simp [evl] at hv; subst hv; simpa using h0
  | 1, hv => simp [evl] at hv; subst hv; exact h1
  | 2, hv => simp [evl] at hv; subst hv; exact h2
  | j + 3, hv => simp [evl] at hv
theorem Sl.at_ {w : World} {A : Option Addr} {n : Nat} {l : List Ev} (h : Sl w A n l) {i : Nat} (hi : i < n) :
    ∃ b off e, A = some ⟨b, off, none⟩ ∧ b < w.heap.size ∧ l[i]? = some e ∧ w.rangeAt b (off + i * 3) (evl e) := by
  obtain ⟨b, off, hA, hlt, hr⟩ := h.2 (by omega)
  have hl : i < l.length := by rw [h.1]; exact hi
  exact ⟨b, off, l[i], hA, hlt, List.getElem?_eq_getElem hl, range_part hr fun j v hv => evl_at (List.getElem?_eq_getElem hl) j v hv⟩
theorem res_ctt {P : Program} {w : World} {fn : Func} {p u v : Tmp} {ty : TypeId} (h : fn.results = #[.cell p ty, .tmp u, .tmp v]) {tmps : Array Value} {B : Nat} {c : Array Value} {t : TypeId} (hp : tmps.getD p undef = .pointer (some ⟨B, 0, none⟩)) (hb : Box w B c t) (hT : RowTy P ty c.size) :
    (results fn tmps).run P w = .ok (.tuple #[.agg c, tmps.getD u undef, tmps.getD v undef]) w := by
  obtain ⟨d, hu, hd, hi⟩ := hT
  have hp' : tmps[p]?.getD undef = .pointer (some ⟨B, 0, none⟩) := by rw [← Array.getD_eq_getD_getElem?]; exact hp
  simp [results, h, hp', asAddr, Sem.run_pure, Result.andThen_ok, run_loadVar_row w B t ty c (0, 0) d hb hu (by cases d <;> simp_all [TypeDesc.isRow]) hi, Sem.run_bind]
def fol (l : List Ev) : Array Value := if (check l).2 = 0 then stv l else z18
structure FRel (w : World) (l : List Ev) (i : Nat) (wr : World) : Prop where
  res : Box wr w.heap.size z18 89
  now : Box wr (w.heap.size + 1) (stv (l.take i)) 89
  below : Below w.heap.size w wr
  chk : chk [] l = chk (l.take i) (l.drop i)
  fit : Fit (l.take i)

set_option maxHeartbeats 4000000 in
theorem follow_any (A : Option Addr) (n c : Nat) (l : List Ev) (w : World) (hl : Sl w A n l) :
    Calls Try.prog 49 #[.slice A n c] w fun e w' => e = .returned (.tuple #[.agg (fol l), .int .i64 (check l).1, .int .i64 (check l).2]) ∧ Below w.heap.size w w' := by
  obtain ⟨b1, b2, hB, hs⟩ := boxes2 w #[.bool false, .bool false, .bool false, .bool false, .bool false, .bool false, .bool false, .bool false, .bool false, .bool false, .bool false, .bool false, .int .i64 0, .int .i64 0, .int .i64 0, .int .i64 0, .int .i64 0, .int .i64 0] #[.bool false, .bool false, .bool false, .bool false, .bool false, .bool false, .bool false, .bool false, .bool false, .bool false, .bool false, .bool false, .int .i64 0, .int .i64 0, .int .i64 0, .int .i64 0, .int .i64 0, .int .i64 0] 89 89
  obtain ⟨d1, hD, hsD⟩ := boxes1 w #[.bool false, .bool false, .bool false, .bool false, .bool false, .bool false, .bool false, .bool false, .bool false, .bool false, .bool false, .bool false, .int .i64 0, .int .i64 0, .int .i64 0, .int .i64 0, .int .i64 0, .int .i64 0] 89
  by_cases hn : 80 < n
  · have hc : check l = (0, 2) := by unfold check; rw [if_pos (by rw [hl.1]; exact hn)]
    have hf : fol l = z18 := by unfold fol; rw [hc]; rfl
    rw [hc, hf]
    have HD := Lib.hid hD
    clear hc hf b1 b2 hB hs hD hsD
    have hn' : (80 : Int) < n := by omega
    generalize hW : w.alloc (.cells #[.bool false, .bool false, .bool false, .bool false, .bool false, .bool false, .bool false, .bool false, .bool false, .bool false, .bool false, .bool false, .int .i64 0, .int .i64 0, .int .i64 0, .int .i64 0, .int .i64 0, .int .i64 0] 89) = W at *
    go_enter Try.func49, Try.ntmps49
    go_wp2_with (refine storeB _ _ _ rfl rfl rfl rfl d1 rfl T52 (st18_all (fun _ => false) (fun _ => false) (fun _ _ => false)) ?_)
    refine bodyPost_ret (res_ctt Try.results49 rfl (d1.setRow z18) T52) rfl ⟨rfl, ?_⟩
    (repeat (first | exact HD.out | with_reducible exact Below.refl _ _ | with_reducible refine Below.alloc ?_ (by first | omega | (simp; omega) | (simp; done)) _ | with_reducible refine below_setRow' ?_ _ _ (by omega) | with_reducible refine Below.setCell ?_ (by first | omega | (dsimp only; omega) | (simp; omega) | (simp; done)) _ | with_reducible refine Below.drew ?_ | with_reducible refine bdrewN ?_ _))
  · have hn80 : n ≤ 80 := by omega
    have hc : check l = chk [] l := by unfold check; rw [if_neg (by rw [hl.1]; omega)]
    have HC := Lib.hid hc
    generalize hW : ((w.alloc (.cells #[.bool false, .bool false, .bool false, .bool false, .bool false, .bool false, .bool false, .bool false, .bool false, .bool false, .bool false, .bool false, .int .i64 0, .int .i64 0, .int .i64 0, .int .i64 0, .int .i64 0, .int .i64 0] 89)).alloc (.cells #[.bool false, .bool false, .bool false, .bool false, .bool false, .bool false, .bool false, .bool false, .bool false, .bool false, .bool false, .bool false, .int .i64 0, .int .i64 0, .int .i64 0, .int .i64 0, .int .i64 0, .int .i64 0] 89)) = W at *
    have hnow : Box (W.setCell ⟨w.heap.size + 1, 0, none⟩ (.bool true)) (w.heap.size + 1) (stv (l.take 0)) 89 := b2.set 0 (.bool true)
    have hres : Box (W.setCell ⟨w.heap.size + 1, 0, none⟩ (.bool true)) w.heap.size z18 89 := b1.set_ne _ _ (by simp)
    have hbel : Below w.heap.size w (W.setCell ⟨w.heap.size + 1, 0, none⟩ (.bool true)) := hB.setCell (by simp) _
    have H0 := Lib.hid (FRel.mk hres hnow hbel (by simp) (by simpa using Fit.nil) : FRel w l 0 _)
    have n1 := b2.cell 0 (v := .bool false) rfl
    have g1 := b2.frozen 0
    clear hres hnow hbel hc b1 hB hs d1 hD hsD b2
    go_enter Try.func49, Try.ntmps49
    go_wp2
    go_loopw [17] (fun t wr => ∃ i : Nat, i ≤ n ∧ t = .int .i64 i ∧ FRel w l i wr) (fun t _ => n - (intOf t).toNat)
    case atStart => exact ⟨0, by omega, rfl, H0.out⟩
    case round =>
      obtain ⟨i, hi, rfl, hr⟩ := hrel
      by_cases hlt : i < n
      · obtain ⟨bb, off, e, rfl, hbb, he, hrg⟩ := hl.at_ hlt
        have hlt' : (i : Int) < n := by omega
        have hch := chk_step he
        have hR := Lib.hid (rangeAt_below hr.below hbb hrg)
        have HR := Lib.hid hr
        have HE := Lib.hid he
        have HL := Lib.hid hl
        have hu := Try.underlying45
        have HH := Lib.hid hch
        clear hr he hl hrg hch H0
        have bx := (Box.new wr #[.int .i64 0, .int .i64 0, .int .i64 0] 45)
        have bx' := bx.setRow (evv e)
        clear n1 g1
        have hnow : Box ((wr.alloc (.cells #[.int .i64 0, .int .i64 0, .int .i64 0] 45)).setRow wr.heap.size (evv e)) (w.heap.size + 1) (stv (l.take i)) 89 := (HR.out.now.old _).setRow_ne _ _ (by have := HR.out.now.lt; omega)
        have hres : Box ((wr.alloc (.cells #[.int .i64 0, .int .i64 0, .int .i64 0] 45)).setRow wr.heap.size (evv e)) w.heap.size z18 89 := (HR.out.res.old _).setRow_ne _ _ (by have := HR.out.res.lt; omega)
        have hbel : Below w.heap.size w ((wr.alloc (.cells #[.int .i64 0, .int .i64 0, .int .i64 0] 45)).setRow wr.heap.size (evv e)) := below_setRow' (HR.out.below.alloc HR.out.below.size _) _ _ HR.out.below.size
        have HB := Lib.hid hbel
        have HN := Lib.hid hnow
        have HS := Lib.hid hres
        clear hbel hnow hres
        cases hw : (wrong (l.take i) e != 0)
        · have h0 : wrong (l.take i) e = 0 := by simpa using hw
          have H0 := Lib.hid h0
          clear h0
          go_wp2_with (first | (refine wpList_load_mid rfl _ _ rfl bb (off + i * 3) rfl (evl e) _ hR.out Try.underlying45 rfl (by kernel_rfl) ?_) | (refine storeB _ _ _ rfl rfl rfl rfl bx rfl T36 (evv_all _) ?_) | (refine loadB _ _ rfl rfl rfl bx' T36 ?_))
          refine (refusal_any (w.heap.size + 1) (l.take i) HR.out.fit e _ HN.out).mono ?_
          rintro e' w2 ⟨rfl, hb2⟩
          have hx2 := bx'.below hb2 bx'.lt
          have HN2 := Lib.hid (HN.out.below hb2 HN.out.lt)
          have HS2 := Lib.hid (HS.out.below hb2 HS.out.lt)
          have HB2 := Lib.hid (HB.out.trans (hb2.mono HB.out.size))
          clear hb2
          go_wp2_with (refine loadB _ _ rfl rfl rfl hx2 T36 ?_)
          refine (apply_stv (w.heap.size + 1) (l.take i) e H0.out _ HN2.out).mono ?_
          rintro e' w3 ⟨rfl, ht⟩
          have HT := Lib.hid ht
          clear ht
          go_wp2
          go_roundw
          case rel =>
            have htk : l.take (i + 1) = l.take i ++ [e] := by
              have hi' := (List.getElem?_eq_some_iff.1 HE.out)
              rw [List.take_succ_eq_append_getElem hi'.1, hi'.2]
            refine ⟨i + 1, by omega, by go_num, ⟨(HT.out.2.block _ HS2.out.lt (by simp)).trans HS2.out, by rw [htk]; exact HT.out.1, HB2.out.grown HT.out.2 HB2.out.size (by simp), ?_, by rw [htk]; exact HR.out.fit.snoc (wrong_isEv H0.out)⟩⟩
            rw [HR.out.chk, HH.out, H0.out]
            simp
          case measure => simp [intOf]; omega
        · have hfin : check l = ((i : Int), wrong (l.take i) e) := by
            rw [HC.out, HR.out.chk, HH.out, if_pos (by simpa using hw)]
          have hfo : fol l = z18 := by
            unfold fol; rw [hfin, if_neg (by simpa using hw)]
          have HF := Lib.hid hfin
          have HO := Lib.hid hfo
          clear hfin hfo
          go_wp2_with (first | (refine wpList_load_mid rfl _ _ rfl bb (off + i * 3) rfl (evl e) _ hR.out Try.underlying45 rfl (by kernel_rfl) ?_) | (refine storeB _ _ _ rfl rfl rfl rfl bx rfl T36 (evv_all _) ?_) | (refine loadB _ _ rfl rfl rfl bx' T36 ?_))
          refine (refusal_any (w.heap.size + 1) (l.take i) HR.out.fit e _ HN.out).mono ?_
          rintro e' w2 ⟨rfl, hb2⟩
          have hs2 := HS.out.below hb2 HS.out.lt
          have HB2 := Lib.hid (HB.out.trans (hb2.mono HB.out.size))
          clear hb2
          go_wp2_with (refine storeB _ _ _ rfl rfl rfl rfl hs2 rfl T52 (st18_all (fun _ => false) (fun _ => false) (fun _ _ => false)) ?_)
          refine bodyPost_ret (res_ctt Try.results49 rfl (hs2.setRow z18) T52) rfl ⟨?_, ?_⟩
          · rw [HF.out, HO.out]; rfl
          · (repeat (first | exact HB2.out | with_reducible exact Below.refl _ _ | with_reducible refine Below.alloc ?_ (by first | omega | (simp; omega) | (simp; done)) _ | with_reducible refine below_setRow' ?_ _ _ (by omega) | with_reducible refine Below.setCell ?_ (by first | omega | (dsimp only; omega) | (simp; omega) | (simp; done)) _ | with_reducible refine Below.drew ?_ | with_reducible refine bdrewN ?_ _))
      · obtain rfl : i = n := by omega
        have hfin : check l = (0, 0) := by
          rw [HC.out, hr.chk, ← hl.1]; exact chk_end l
        have hfo : fol l = stv (l.take i) := by
          unfold fol; rw [hfin, if_pos rfl, ← hl.1, List.take_length]
        have HF := Lib.hid hfin
        have HO := Lib.hid hfo
        have h1 := hr.now
        have h2 := hr.res
        have HB2 := Lib.hid hr.below
        clear hfin hfo hr n1 g1 hl
        go_wp2_with (first | (refine loadB _ _ rfl rfl rfl h1 T52 ?_) | (refine storeB _ _ _ rfl rfl rfl rfl h2 rfl T52 (st18_all _ _ _) ?_))
        refine bodyPost_ret (res_ctt Try.results49 rfl (h2.setRow (stv (l.take i))) T52) rfl ⟨?_, ?_⟩
        · rw [HF.out, HO.out]; rfl
        · (repeat (first | exact HB2.out | with_reducible exact Below.refl _ _ | with_reducible refine Below.alloc ?_ (by first | omega | (simp; omega) | (simp; done)) _ | with_reducible refine below_setRow' ?_ _ _ (by omega) | with_reducible refine Below.setCell ?_ (by first | omega | (dsimp only; omega) | (simp; omega) | (simp; done)) _ | with_reducible refine Below.drew ?_ | with_reducible refine bdrewN ?_ _))
end Go.Proofs.Ytnjaeampnakbbaa
namespace Go.Proofs.Ytnjaeampnakbbaa
open Go.RowKit

section
variable {P : Program} {ops : Array Oper} {rest : List Oper} {o : Oper} {a : Act} {w : World} {Q : Exit → Act → World → Prop}
theorem storeT {ty : TypeId} {n : Nat} (hT : RowTy P ty n) (x y : Operand) (ho : o.op = .store ty x y) (hgd : o.guard = none) {c' : Array Value} (hy : a.eval y = .agg c') (hn : c'.size = n) {B : Nat} (hx : a.eval x = .pointer (some ⟨B, 0, none⟩))
    {c : Array Value} {t : TypeId} (hb : Box w B c t) (hs : c.size = n) (h1 : c'.all (·.oneCell') = true) (h : wpList P ops Q rest (a.put o.dst undef) (w.setRow B c')) : wpList P ops Q (o :: rest) a w :=
  storeB ty x y ho hgd hx hy hb (by rw [hs, hn]) (by rw [hn]; exact hT) h1 h
theorem loadT {ty : TypeId} {n : Nat} (hT : RowTy P ty n) (x : Operand) (ho : o.op = .load ty x) (hgd : o.guard = none) {B : Nat} (hx : a.eval x = .pointer (some ⟨B, 0, none⟩)) {c : Array Value} {t : TypeId} (hb : Box w B c t) (hs : c.size = n)
    (h : wpList P ops Q rest (a.put o.dst (.agg c)) w) : wpList P ops Q (o :: rest) a w :=
  loadB ty x ho hgd hx hb (by rw [hs]; exact hT) h
end
theorem fol_size (l : List Ev) : (fol l).size = 18 := by unfold fol; split <;> rfl
theorem fol_all (l : List Ev) : (fol l).all (·.oneCell') = true := by
  unfold fol; split
  · exact st18_all _ _ _
  · exact st18_all _ _ _

set_option maxHeartbeats 1000000 in
theorem check_any (A : Option Addr) (n c : Nat) (l : List Ev) (w : World) (hl : Sl w A n l) :
    Calls Try.prog 34 #[.slice A n c] w fun e w' => e = .returned (.tuple #[.int .i64 (check l).1, .int .i64 (check l).2]) ∧ Below w.heap.size w w' := by
  have HL := Lib.hid hl
  clear hl
  go_enter Try.func34, Try.ntmps34
  go_wp2_with fail
  refine (follow_any A n c l _ HL.out).mono ?_
  rintro e w1 ⟨rfl, hb⟩
  have HB := Lib.hid hb
  clear hb
  have bx := Lib.hid (Box.new w1 #[.bool false, .bool false, .bool false, .bool false, .bool false, .bool false, .bool false, .bool false, .bool false, .bool false, .bool false, .bool false, .int .i64 0, .int .i64 0, .int .i64 0, .int .i64 0, .int .i64 0, .int .i64 0] 89)
  have hz := fol_size l
  have HZ := Lib.hid hz
  clear hz
  go_wp2_with (refine storeT T52 _ _ rfl rfl rfl HZ.out rfl bx.out rfl (fol_all l) ?_)
  go_ret2
  exact ⟨rfl, below_setRow' (HB.out.alloc HB.out.size _) _ _ HB.out.size⟩

theorem own_block_ge {w : World} {base : Nat} {e : TypeId} {size n : Nat} {v : Value} {xs : List Value} (h : w.ownsRow base e size v n xs) : ∀ k, v.ownBlock = some k → base ≤ k := by
  intro k hk
  rcases h.2 with ⟨rfl, _⟩ | ⟨g, cap, cur, rfl, hg, _⟩
  · cases hk
  · simp [Value.ownBlock] at hk; omega
theorem own_alloc {w : World} {base : Nat} {e : TypeId} {size n : Nat} {v : Value} {xs : List Value} (h : w.ownsRow base e size v n xs) (o : Obj) : (w.alloc o).ownsRow base e size v n xs :=
  h.kept (World.grownBy_alloc w o none) (by
    cases hv : v.ownBlock
    · exact .inl rfl
    · exact .inr (by simp))
end Go.Proofs.Ytnjaeampnakbbaa

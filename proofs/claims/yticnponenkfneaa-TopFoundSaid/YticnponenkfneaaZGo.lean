import Derived.ArgAppend
import Derived.Test.YticnponenkfneaaZRe
import Derived.Test.YticnponenkfneaaZAe
import Derived.Test.YticnponenkfneaaZRpR
set_option linter.all false
set_option maxRecDepth 100000
namespace Go.Proofs.Yticnponenkfneaa
open Go Go.RowKit

structure KMO (M : Nat) (O : Nat → Prop) (w w' : World) : Prop where
  os : w'.os = w.os
  tape : w'.tape = w.tape
  output : w'.output = w.output
  size : w.heap.size ≤ w'.heap.size
  blk : ∀ k, k < w.heap.size → k ≠ M → ¬ O k → w'.heap[k]? = w.heap[k]?
theorem KMO.of_bel {M : Nat} {O : Nat → Prop} {w w' : World} (h : Bel w w') : KMO M O w w' := ⟨h.os, h.tape, h.output, h.size, fun k hk _ _ => h.block k hk⟩
theorem KMO.trans {M : Nat} {O O1 : Nat → Prop} {w w1 w2 : World} (h : KMO M O w w1) (hO : ∀ k, O1 k → O k ∨ w.heap.size ≤ k) (k : KMO M O1 w1 w2) : KMO M O w w2 :=
  ⟨k.os.trans h.os, k.tape.trans h.tape, k.output.trans h.output, Nat.le_trans h.size k.size, fun j hj hM hn =>
    (k.blk j (Nat.lt_of_lt_of_le hj h.size) hM (fun hO1 => (hO j hO1).elim hn fun hge => by omega)).trans (h.blk j hj hM hn)⟩
theorem KMO.below {M N : Nat} {O : Nat → Prop} {w w' : World} (h : KMO M O w w') (hN : N ≤ w.heap.size) (hM : N ≤ M) (hO : ∀ k, O k → N ≤ k) : Below N w w' :=
  ⟨h.os, h.tape, h.output, h.size, fun k hk => h.blk k (by omega) (by omega) (fun ho => by have := hO k ho; omega)⟩
theorem KMO.box {M : Nat} {O : Nat → Prop} {w w' : World} (h : KMO M O w w') {B : Nat} {c : Array Value} {t : TypeId} (hb : Box w B c t) (hM : B ≠ M) (hO : ¬ O B) : Box w' B c t := (h.blk B hb.lt hM hO).trans hb
theorem KMO.own {M : Nat} {O : Nat → Prop} {w w' : World} (h : KMO M O w w') {e : TypeId} {size n : Nat} {v : Value} {xs : List Value} (hw : w.ownsRow (M + 1) e size v n xs) (hO : ∀ k, v.ownBlock = some k → ¬ O k) : w'.ownsRow (M + 1) e size v n xs :=
  own_keep hw fun g hg hlt => h.blk g hlt (by have := (own_lt hw hg).1; omega) (hO g hg)
theorem KMO.aset {M : Nat} {O : Nat → Prop} {w w' : World} (h : KMO M O w w') (ps : List (Array Value)) : KMO M O w (aset w' M ps) :=
  ⟨h.os, h.tape, h.output, by rw [aset_size]; exact h.size, fun k hk hM hn => (aset_other w' M ps hM).trans (h.blk k hk hM hn)⟩

theorem run_append_fresh {w : World} {base : Nat} {A : Option Addr} {n c : Nat} {xs : List Value} (hown : w.ownsRow base 3 1 (.slice A n c) n xs) {u : Int} {B : Nat} (hB : w.cell? ⟨B, 0, none⟩ = some (.int .i64 u)) (hn : n ≤ 1000) (ty : TypeId) :
    ∃ v' w', (Builtin.append_ #[36, 36] ty #[.slice A n n, .slice (some ⟨B, 0, none⟩) 1 1]).run Try.prog w = .ok v' w' ∧ w'.ownsRow w.heap.size 3 1 v' (n + 1) (xs ++ [.int .i64 u]) ∧ Bel w w' := by
  obtain ⟨i0, hi0, hz0, hz1, hz2⟩ := info_parts qint_info
  have hnews : ∀ (j : Nat) (x : Value), [Value.int .i64 u][j]? = some x → w.cell? ((⟨B, 0, none⟩ : Addr).add j) = some x := fun j x hj => by
    match j, hj with
    | 0, hj => simp at hj; subst hj; simpa [Addr.add] using hB
  rcases hown.2 with ⟨h1, h2⟩ | ⟨g, cap, cur, h1, h2, h3, h4, h5, h6, h7⟩
  · simp only [Value.slice.injEq] at h1
    obtain ⟨rfl, rfl, rfl⟩ := h1
    have hx : xs = [] := List.eq_nil_of_length_eq_zero (by rw [hown.1])
    subst hx
    obtain ⟨v', w', hr, h2, h3, _, _⟩ := run_append_own_at (P := Try.prog) w w.heap.size 36 ty 3 i0 _ 1 8 Try.underlying36 hi0 hz0 hz1 hz2 rfl (by omega) (.slice none 0 0) 0 [] (World.ownsRow_nil _ _ _ _) ⟨B, 0, none⟩ 1 1 [.int .i64 u] rfl hnews (by simp [Value.oneCell']) (by unfold maxLen; omega) (by omega) (Nat.le_refl _)
    exact ⟨v', w', hr, h2, (Below.refl _ w).grown h3 (Nat.le_refl _) (fun k hk => by cases hk)⟩
  · simp only [Value.slice.injEq, true_and] at h1
    obtain ⟨rfl, rfl⟩ := h1
    obtain ⟨v', w', hr, h2, h3⟩ := run_append_arg_grows (P := Try.prog) w 36 ty 3 i0 _ 1 8 Try.underlying36 hi0 hz0 hz1 hz2 rfl (by omega) ⟨g, 0, none⟩ n n xs hown.1 (hown.cells (g := g) rfl) ⟨B, 0, none⟩ 1 1 [.int .i64 u] rfl hnews (by omega) (by unfold maxLen; omega) (by omega)
    exact ⟨v', w', hr, h2, (Below.refl _ w).grown h3 (Nat.le_refl _) (fun k hk => by cases hk)⟩
theorem wp_append_fresh {o : Oper} {a : Act} {K : Act → World → Prop} {Q : Exit → Act → World → Prop} {w : World} (s x : Operand) (ho : o.op = .call { callee := .builtin .append, args := #[s, x], argTypes := #[36, 36] })
    {base : Nat} {A : Option Addr} {n c : Nat} {xs : List Value} (hown : w.ownsRow base 3 1 (.slice A n c) n xs) {u : Int} {B : Nat} (hB : w.cell? ⟨B, 0, none⟩ = some (.int .i64 u)) (hn : n ≤ 1000) (hs : a.eval s = .slice A n n) (hx : a.eval x = .slice (some ⟨B, 0, none⟩) 1 1)
    (h : ∀ v' w', w'.ownsRow w.heap.size 3 1 v' (n + 1) (xs ++ [.int .i64 u]) → Bel w w' → K (a.put o.dst v') w') : o.wp Try.prog a w K Q := by
  obtain ⟨v', w', hr, h2, h3⟩ := run_append_fresh hown hB hn o.type
  unfold Oper.wp execOp
  simp only [ho, resolve, invoke, builtin, Sem.run_bind, Sem.run_pure, Result.andThen_ok, List.map_toArray, List.map_cons, List.map_nil, hs, hx, hr]
  exact h v' w' h2 h3
theorem own_form {w : World} {base n : Nat} {v : Value} {ws : List Nat} (h : w.ownsRow base 3 1 v n (intq (pks ws))) : ∃ A c, v = .slice A n c ∧ SI w A n (pks ws) ∧ n ≤ c ∧ c ≤ maxLen := by
  have hl : (pks ws).length = n := by have := h.1; simp [intq] at this; omega
  rcases h.2 with ⟨rfl, rfl⟩ | ⟨g, cap, cur, rfl, hb, hg, hn, hc, hs, ht⟩
  · exact ⟨none, 0, rfl, ⟨hl, fun h => absurd h (Nat.lt_irrefl 0)⟩, Nat.le_refl _, Nat.zero_le _⟩
  · refine ⟨_, cap, rfl, ⟨hl, fun _ => ⟨g, 0, rfl, fun i hi => ?_⟩⟩, hn, hc⟩
    have hbx : Box w g cur 3 := hg
    rw [Nat.zero_add]
    refine hbx.cell i ?_
    have h9 : (cur.toList.take (n * 1))[i]? = (intq (pks ws))[i]? := by rw [ht]
    rw [List.getElem?_take_of_lt (by omega)] at h9
    rw [← Array.getElem?_toList, h9]
    unfold intq
    rw [List.getElem?_map, List.getElem?_eq_getElem (by omega)]
    rfl

theorem mdf_go {κ σ : Type} {kids : List Nat → List Nat} {K : List Nat → κ} {vis : σ → List Nat → σ × Bool} {n : Nat} {V : List κ} {s : σ} {w : List Nat} (h : K w ∉ V) (hv : (vis s w).2 = true) :
    mdf kids K vis (n + 1) (V, s) w = (kids w).foldl (fun st t => mdf kids K vis n st (w ++ [t])) (V ++ [K w], (vis s w).1) := by
  conv => lhs; unfold mdf
  simp only [if_neg h, if_pos hv]
theorem foldl_le {α β : Type} {f : β → α → β} {z : β → Nat} {c : Nat} (h : ∀ b a, z (f b a) ≤ z b + c) : ∀ (l : List α) (b : β), z (l.foldl f b) ≤ z b + l.length * c
  | [], b => by simp
  | a :: l, b => by
    have h1 := foldl_le h l (f b a)
    have h2 := h b a
    rw [List.foldl_cons, List.length_cons, Nat.succ_mul]
    omega
theorem mdf_sz {κ σ : Type} {kids : List Nat → List Nat} {K : List Nat → κ} {vis : σ → List Nat → σ × Bool} {sz : σ → Nat} (hk : ∀ w, (kids w).length ≤ 6) (hv : ∀ s w, sz (vis s w).1 ≤ sz s + 1) :
    ∀ (n : Nat) (st : List κ × σ) (w : List Nat), sz (mdf kids K vis n st w).2 ≤ sz st.2 + 7 ^ n
  | 0, st, w => Nat.le_add_right _ _
  | n + 1, st, w => by
    have hp : 0 < 7 ^ n := Nat.pow_pos (by omega)
    have hs : 7 ^ (n + 1) = 7 ^ n * 7 := Nat.pow_succ ..
    have h1 := hv st.2 w
    unfold mdf
    split
    · omega
    · split
      · have h2 := foldl_le (z := fun st : List κ × σ => sz st.2) (c := 7 ^ n) (f := fun st t => mdf kids K vis n st (w ++ [t])) (fun b a => mdf_sz hk hv n b _) (kids w) (st.1 ++ [K w], (vis st.2 w).1)
        have h3 := Nat.mul_le_mul_right (7 ^ n) (hk w)
        simp only at h2
        omega
      · simp only
        omega
theorem key_form {P : List (List Ev)} (hP : OkP P) {ws : List Nat} (h : VlP P ps0 ws) : StI (keyW P ws) := by
  have hk := go_ok hP h
  refine ⟨_, _, rfl, fun t => by have := hk.le t; have := hP.len t; omega, fun e he => ?_⟩
  have hm := leastL_may (hk.may hP)
  obtain ⟨i, hi⟩ := List.getElem?_of_mem he
  have hE := wrong_isEv (((may_iff _).1 hm).2 i e hi)
  have h1 := isEv_t hE
  have h2 := isEv_o hE
  unfold nobj at h2
  unfold In64
  refine ⟨?_, ?_, ?_⟩
  all_goals (repeat' split at h2) <;> omega

section
variable {σ : Type} (P : List (List Ev)) (W : World) (M g : Nat) (cb : Array Value) (vis : σ → List Nat → σ × Bool) (sz : σ → Nat) (St : World → σ → (Nat → Prop) → Prop)
def VisPost (w : World) (s : σ) (ws : List Nat) (O : Nat → Prop) (e : Ending) (w' : World) : Prop :=
  e = .returned (.bool (vis s ws).2) ∧ ∃ O', St w' (vis s ws).1 O' ∧ (∀ k, O' k → O k ∨ w.heap.size ≤ k) ∧ (∀ k, O' k → k < w'.heap.size) ∧ KMO M O w w' ∧ w'.heap[M]? = w.heap[M]?
structure VisC : Prop where
  step : ∀ s w, sz (vis s w).1 ≤ sz s + 1
  enters : ∀ args w, (callFunc g args).run Try.prog w = .ok (.enter g args) w
  keep : ∀ w w' s O, St w s O → Bel W w → KMO M (fun _ => False) w w' → St w' s O
  call : ∀ ws w s O PV LV, VlP P ps0 ws → sz s < 1977326743 → St w s O → Bel W w → M < w.heap.size → (∀ k, O k → W.heap.size ≤ k ∧ k < w.heap.size ∧ k ≠ M) → w.ownsRow (M + 1) 3 1 PV ws.length (intq (pks ws)) → (∀ k, PV.ownBlock = some k → ¬ O k) → LVal w LV (goS P ps0 ws).L →
    Calls Try.prog g (#[.agg (xV PV (nat (goS P ps0 ws).mem) (nat (goS P ps0 ws).vol) (goS P ps0 ws).has (doneP P (goS P ps0 ws)) (stuckP P (goS P ps0 ws)) LV)] ++ cb) w (VisPost M vis St w s ws O)
structure GoR (n : Nat) (V : List (Array Value)) (s : σ) (ws : List Nat) (O : Nat → Prop) (PV : Value) (w : World) : Prop where
  vl : VlP P ps0 ws
  cap : sz s + 7 ^ n ≤ 1977326743
  fuel : ∀ x, VlP P ps0 (ws ++ x) → x.length < n
  bel : Bel W w
  st : St w s O
  ob : ∀ k, O k → W.heap.size ≤ k ∧ k < w.heap.size ∧ k ≠ M
  mp : MapA w M V
  mks : ∀ x ∈ V, StI x
  pv : w.ownsRow (M + 1) 3 1 PV ws.length (intq (pks ws))
  pn : ∀ k, PV.ownBlock = some k → ¬ O k
def WalkPost (r : List (Array Value) × σ) (w : World) (O : Nat → Prop) (e : Ending) (w' : World) : Prop :=
  e = .returned (.tuple #[]) ∧ ∃ O', St w' r.2 O' ∧ MapA w' M r.1 ∧ (∀ x ∈ r.1, StI x) ∧ (∀ k, O' k → O k ∨ w.heap.size ≤ k) ∧ (∀ k, O' k → k < w'.heap.size) ∧ KMO M O w w'
def xpV (A : Option Addr) (n c : Nat) : Array Value := #[.slice A n c, .map (some M), .func (.func g) #[] cb]
end
theorem xV_one {PV : Value} {m v h : Nat → Int} {d k : Bool} {LV : Value} (h1 : PV.oneCell' = true) (h2 : LV.oneCell' = true) : (xV PV m v h d k LV).all (·.oneCell') = true := vs_all fun i => by
  unfold xF
  split
  · exact h1
  · split
    · exact endF_one _
    · exact h2
theorem run_build_x (B : Option Addr) (n d : Nat) (A : Option Addr) (q c : Nat) (m v h : Nat → Int) (x y : Bool) (w : World) :
    (Instr.build 53 #[(0, .slice B n d), (1, .agg (endc m v h x y).toArray), (2, .slice A q c)]).run Try.prog w = .ok (.agg (xV (.slice B n d) m v h x y (.slice A q c))) w := by kernel_rfl
theorem l_build_x {ops : Array Oper} {rest : List Oper} {o : Oper} {a : Act} {w : World} {Q : Exit → Act → World → Prop} (x y z : Operand) (ho : o.op = .build 53 #[(0, x), (1, y), (2, z)]) (hgd : o.guard = none)
    {B : Option Addr} {n d : Nat} {A : Option Addr} {q c : Nat} {m v h : Nat → Int} {dd kk : Bool} (hx : a.eval x = .slice B n d) (hy : a.eval y = .agg (endc m v h dd kk).toArray) (hz : a.eval z = .slice A q c)
    (hw : wpList Try.prog ops Q rest (a.put o.dst (.agg (xV (.slice B n d) m v h dd kk (.slice A q c)))) w) : wpList Try.prog ops Q (o :: rest) a w := by
  refine wpList_plain hgd fun _ hK' => ?_
  unfold Oper.wp execOp
  simp only [ho, List.map_toArray, List.map_cons, List.map_nil, hx, hy, hz, Sem.run_bind, run_build_x, Sem.run_pure, Result.andThen_ok]
  exact hK' _ _ hw
structure LpR {σ : Type} (P : List (List Ev)) (M : Nat) (vis : σ → List Nat → σ × Bool) (St : World → σ → (Nat → Prop) → Prop) (n : Nat) (ws : List Nat) (st0 : List (Array Value) × σ) (O : Nat → Prop) (w8 : World) (i : Nat) (wr : World) : Prop where
  ex : ∃ O', St wr (((kidsW P ws).take i).foldl (fun st t => mdf (kidsW P) (keyW P) vis n st (ws ++ [t])) st0).2 O' ∧ MapA wr M (((kidsW P ws).take i).foldl (fun st t => mdf (kidsW P) (keyW P) vis n st (ws ++ [t])) st0).1 ∧
    (∀ x ∈ (((kidsW P ws).take i).foldl (fun st t => mdf (kidsW P) (keyW P) vis n st (ws ++ [t])) st0).1, StI x) ∧ (∀ k, O' k → O k ∨ w8.heap.size ≤ k) ∧ (∀ k, O' k → k < wr.heap.size) ∧ KMO M O w8 wr
theorem TXp : RowTy Try.prog 87 3 := ⟨_, Try.underlying87, rfl, by kernel_rfl⟩
set_option maxHeartbeats 16000000 in
theorem goon_x {σ : Type} {P : List (List Ev)} {W : World} {M g : Nat} {cb : Array Value} {vis : σ → List Nat → σ × Bool} {sz : σ → Nat} {St : World → σ → (Nat → Prop) → Prop} (HV : VisC P W M g cb vis sz St)
    {A : Option Addr} {nP c : Nat} (hP : Prg W A nP P) (hnc : nP ≤ c) (hcm : c ≤ maxLen) (hM : W.heap.size ≤ M) (h0 : chkP P = 0) (h10 : totP P ≤ 10) :
    ∀ (n : Nat) (V : List (Array Value)) (s : σ) (ws : List Nat) (O : Nat → Prop) (PV : Value) (w : World), GoR P W M sz St n V s ws O PV w →
      Calls Try.prog 35 #[.agg (xpV M g cb A nP c), PV] w (WalkPost M St (mdf (kidsW P) (keyW P) vis n (V, s) ws) w O) := by
  intro n
  induction n with
  | zero =>
    intro V s ws O PV w h
    have := h.fuel [] (by rw [List.append_nil]; exact h.vl)
    exact absurd this (Nat.not_lt_zero _)
  | succ n ih =>
    intro V s ws O PV w h
    have hok := chk_ok.1 h0
    have HOK := Lib.hid hok
    have HH := Lib.hid h
    have HIH := Lib.hid ih
    have HVV := Lib.hid HV
    have HPR := Lib.hid hP
    have HC := Lib.hid (And.intro hnc (And.intro hcm (And.intro hM (And.intro h0 h10))))
    have hE := HV.enters
    have hws : ws.length ≤ 10 := Nat.le_trans (vl_tot hok h.vl) h10
    have HWS := Lib.hid hws
    obtain ⟨B, d, hpv, hsi, hnd, hdm⟩ := own_form h.pv
    subst hpv
    have HSI := Lib.hid (And.intro hsi (And.intro hnd hdm))
    have hX := Box.new w (xpV M g cb A nP c) 87
    have HX := Lib.hid hX
    have HW1 := Lib.hid ((Bel.refl w).alloc (.cells (xpV M g cb A nP c) 87))
    have cx0 := hX.cell 0 (v := .slice A nP c) rfl
    clear hok h ih HV hP hnc hcm hM h0 h10 hws hsi hnd hdm hX
    go_enter Try.func35, Try.ntmps35
    go_wp2_with fail
    refine (pgrun_c A nP c P B ws.length d (pks ws) _ (HPR.out.bel (HH.out.bel.trans HW1.out)) HC.out.1 HC.out.2.1 (HSI.out.1.keep HW1.out) HSI.out.2.1 HSI.out.2.2).mono ?_
    rintro e1 w1 ⟨v, x, l, cd, rfl, hR, hown, hb1⟩
    have HRUN := Lib.hid (show x = endP P (goS P ps0 ws) ∧ l = (goS P ps0 ws).L ∧ cd = 0 by
      rw [← run_pks HH.out.vl]
      rcases hR with ⟨h1, _⟩ | ⟨_, h2, _⟩ | ⟨_, _, h3, h4, h5⟩
      · exact absurd HC.out.2.2.2.1 h1
      · have := HWS.out; simp [pks] at h2; omega
      · exact ⟨h3, h4, h5⟩)
    obtain ⟨hx1, hx2, hx3⟩ := HRUN.out
    subst hx1 hx2 hx3
    obtain ⟨LA, lc, rfl, hsl, hlc, hlm⟩ := Sl.own hown
    have HLV := Lib.hid (SlX.own (X := M) (Y := M) hown hsl (by have := HH.out.mp.lt; simp; omega) (by have := HH.out.mp.lt; simp; omega))
    have HLC := Lib.hid (And.intro hlc hlm)
    have HB1 := Lib.hid (HW1.out.trans (Bel.of hb1))
    have HX1 := Lib.hid ((Bel.of hb1).box HX.out)
    have HSZ := Lib.hid (show w.heap.size < w1.heap.size from HX1.out.lt)
    generalize (goS P ps0 ws).L.length = q at *
    clear hR hown hb1 hsl hlc hlm HRUN HX HW1 cx0
    obtain ⟨m, hm⟩ : ∃ m, nat (goS P ps0 ws).mem = m := ⟨_, rfl⟩
    obtain ⟨vl, hvl⟩ : ∃ m, nat (goS P ps0 ws).vol = m := ⟨_, rfl⟩
    obtain ⟨hs, hhs⟩ : ∃ m, (goS P ps0 ws).has = m := ⟨_, rfl⟩
    obtain ⟨dd, hdd⟩ : ∃ m, doneP P (goS P ps0 ws) = m := ⟨_, rfl⟩
    obtain ⟨kk, hkk⟩ : ∃ m, stuckP P (goS P ps0 ws) = m := ⟨_, rfl⟩
    have hen : endP P (goS P ps0 ws) = (endc m vl hs dd kk).toArray := by unfold endP; rw [hm, hvl, hhs, hdd, hkk]
    rw [hen]
    have HEQ := Lib.hid (And.intro hm (And.intro hvl (And.intro hhs (And.intro hdd hkk))))
    clear hm hvl hhs hdd hkk hen
    go_upto_region 2 with (first | (refine storeB 33 _ _ rfl rfl rfl rfl (Box.new w1 z20 33) rfl (by exact TEnd) (by rw [← end_vs]; exact vs_all endF_one) ?_))
    change Code.wp _ _ _ _ ((w1.alloc (.cells z20 33)).setRow w1.heap.size (endc m vl hs dd kk).toArray)
    have HE2 := Lib.hid ((Box.new w1 z20 33).setRow (endc m vl hs dd kk).toArray)
    have hb2 : Bel w1 ((w1.alloc (.cells z20 33)).setRow w1.heap.size (endc m vl hs dd kk).toArray) := ((Bel.refl w1).alloc (.cells z20 33)).setRow w1.heap.size (Nat.le_refl _) _
    have HB2 := Lib.hid (HB1.out.trans hb2)
    have HX2 := Lib.hid (hb2.box HX1.out)
    have HLV2 := Lib.hid (HLV.out.bel hb2)
    clear HB1 HX1 HLV hb2
    generalize (w1.alloc (.cells z20 33)).setRow w1.heap.size (endc m vl hs dd kk).toArray = w2 at *
    generalize w1.heap.size = E at *
    go_upto_region 3 with (first | (refine loadB 33 _ rfl rfl rfl HE2.out (by exact TEnd) ?_) | (refine l_build_x (.tmp 21) (.tmp 22) (.tmp 23) rfl rfl rfl rfl rfl ?_) | (refine storeB 53 _ _ rfl rfl rfl rfl (Box.new w2 (xV (.slice none 0 0) (fun _ => 0) (fun _ => 0) (fun _ => 0) false false (.slice none 0 0)) 53) rfl TXv (xV_one rfl rfl) ?_))
    change Code.wp _ _ _ _ ((w2.alloc (.cells (xV (.slice none 0 0) (fun _ => 0) (fun _ => 0) (fun _ => 0) false false (.slice none 0 0)) 53)).setRow w2.heap.size (xV (.slice B ws.length d) m vl hs dd kk (.slice LA q lc)))
    have HV3 := Lib.hid ((Box.new w2 (xV (.slice none 0 0) (fun _ => 0) (fun _ => 0) (fun _ => 0) false false (.slice none 0 0)) 53).setRow (xV (.slice B ws.length d) m vl hs dd kk (.slice LA q lc)))
    have hb3 : Bel w2 ((w2.alloc (.cells (xV (.slice none 0 0) (fun _ => 0) (fun _ => 0) (fun _ => 0) false false (.slice none 0 0)) 53)).setRow w2.heap.size (xV (.slice B ws.length d) m vl hs dd kk (.slice LA q lc))) := ((Bel.refl w2).alloc _).setRow w2.heap.size (Nat.le_refl _) _
    have HB3 := Lib.hid (HB2.out.trans hb3)
    have HX3 := Lib.hid (hb3.box HX2.out)
    have HLV3 := Lib.hid (HLV2.out.bel hb3)
    have HB2X := HB2
    clear HB2 HX2 HLV2 hb3 HE2
    simp only [Act.put, Act.eval, List.setIfInBounds_toArray, List.set_cons_zero, List.set_cons_succ, Array.getD_eq_getD_getElem?, List.getElem?_toArray, List.getElem?_cons_zero, List.getElem?_cons_succ, Option.getD_some]
    generalize (w2.alloc (.cells (xV (.slice none 0 0) (fun _ => 0) (fun _ => 0) (fun _ => 0) false false (.slice none 0 0)) 53)).setRow w2.heap.size (xV (.slice B ws.length d) m vl hs dd kk (.slice LA q lc)) = w3 at *
    have HXB := Lib.hid (show w.heap.size ≤ w2.heap.size from HB2X.out.size)
    generalize w2.heap.size = X2 at *
    have hkc := key_cnt HH.out.vl
    have HRE := Lib.hid (reached_any least_any (m := m) (v := vl) (h := hs) (d := dd) (k := kk) (HSI.out.1.keep HB3.out) HSI.out.2.1 HSI.out.2.2 (fun t ht => by have := vl_lt HH.out.vl t ht; have := HOK.out.six; omega) HWS.out ⟨LA, q, lc, rfl, HLV3.out.sl, HLC.out.1, HLC.out.2⟩ ((go_ok HOK.out HH.out.vl).may HOK.out) (by have := go_len HOK.out HH.out.vl; have := HWS.out; omega))
    rw [← hkc] at HRE
    clear hkc
    go_wp2_with (first | (refine loadB 53 _ rfl rfl rfl HV3.out TXv ?_))
    refine HRE.out.mono ?_
    rintro e4 w4 ⟨rfl, hb4⟩
    go_upto_region 4 with (first | (refine storeB 131 _ _ rfl rfl rfl rfl (Box.new w4 (stV (fun _ => 0) []) 131) rfl (TStv _ _) (vs_all fun _ => rfl) ?_))
    change Code.wp _ _ _ _ ((w4.alloc (.cells (stV (fun _ => 0) []) 131)).setRow w4.heap.size (keyW P ws))
    have HS5 := Lib.hid ((Box.new w4 (stV (fun _ => 0) []) 131).setRow (keyW P ws))
    have hb5 : Bel w3 ((w4.alloc (.cells (stV (fun _ => 0) []) 131)).setRow w4.heap.size (keyW P ws)) := (Bel.of hb4).trans (((Bel.refl w4).alloc _).setRow w4.heap.size (Nat.le_refl _) _)
    have HB5 := Lib.hid (HB3.out.trans hb5)
    have hX5 := hb5.box HX3.out
    have HX5 := Lib.hid hX5
    have HV5 := Lib.hid (hb5.box HV3.out)
    have HLV5 := Lib.hid (HLV3.out.bel hb5)
    have HMP := Lib.hid (HH.out.mp.bel HB5.out)
    have hKS : StI (keyW P ws) := key_form HOK.out HH.out.vl
    have HKS := Lib.hid hKS
    clear HB3 HX3 HLV3 hb4 hb5 HV3 HRE hKS
    simp only [Act.put, Act.eval, List.setIfInBounds_toArray, List.set_cons_zero, List.set_cons_succ, Array.getD_eq_getD_getElem?, List.getElem?_toArray, List.getElem?_cons_zero, List.getElem?_cons_succ, Option.getD_some]
    generalize (w4.alloc (.cells (stV (fun _ => 0) []) 131)).setRow w4.heap.size (keyW P ws) = w5 at *
    generalize w4.heap.size = KB at *
    have cx1 := hX5.cell 1 (v := .map (some M)) rfl
    obtain ⟨b, hlk, hbi⟩ := run_look_a st_keyT HMP.out HH.out.mks HKS.out
    have HBI := Lib.hid hbi
    clear hX5 hbi
    cases b
    · have HNI := Lib.hid (show keyW P ws ∉ V from fun hm => by have := HBI.out.2 hm; cases this)
      have hML : M < w.heap.size := HH.out.mp.lt
      have hX6 : Box (aset w5 M (V ++ [keyW P ws])) w.heap.size (xpV M g cb A nP c) 87 := (aset_other w5 M (V ++ [keyW P ws]) (by omega)).trans HX5.out
      have HX6 := Lib.hid hX6
      have HV6 := Lib.hid (show Box (aset w5 M (V ++ [keyW P ws])) X2 (xV (.slice B ws.length d) m vl hs dd kk (.slice LA q lc)) 53 from (aset_other w5 M (V ++ [keyW P ws]) (by have := HXB.out; omega)).trans HV5.out)
      have cx2 := hX6.cell 2 (v := .func (.func g) #[] cb) rfl
      clear hX6
      go_wp2_with (first | (refine loadB 131 _ rfl rfl rfl HS5.out (TStv _ _) ?_) | (refine updA st_keyT _ _ _ rfl rfl rfl rfl rfl HMP.out HH.out.mks HKS.out HNI.out ?_) | (refine loadB 53 _ rfl rfl rfl HV6.out TXv ?_))
      have HK6 := Lib.hid ((KMO.of_bel (M := M) (O := O) HB5.out).aset (V ++ [keyW P ws]))
      have HKF := Lib.hid ((KMO.of_bel (M := M) (O := fun _ => False) HB5.out).aset (V ++ [keyW P ws]))
      have HBW6 := Lib.hid (show Bel W (aset w5 M (V ++ [keyW P ws])) from HH.out.bel.out.trans (HK6.out.below HH.out.bel.size HC.out.2.2.1 fun k hk => (HH.out.ob k hk).1))
      have HM6 := Lib.hid (aset_map (w := w5) (V ++ [keyW P ws]) HMP.out.lt)
      have HLV6 := Lib.hid (SlX.keep (w' := aset w5 M (V ++ [keyW P ws])) HLV5.out (by rw [aset_size]; exact Nat.le_refl _) (fun b hb _ => aset_other w5 M (V ++ [keyW P ws]) hb))
      have HPV6 := Lib.hid (HK6.out.own HH.out.pv HH.out.pn)
      have hcall := HVV.out.call ws _ s O (.slice B ws.length d) (.slice LA q lc) HH.out.vl (by have h1 := HH.out.cap; have h2 : 0 < 7 ^ (n + 1) := Nat.pow_pos (by omega); omega) (HVV.out.keep w _ s O HH.out.st HH.out.bel HKF.out) HBW6.out HM6.out.lt (fun k hk => ⟨(HH.out.ob k hk).1, Nat.lt_of_lt_of_le (HH.out.ob k hk).2.1 HK6.out.size, (HH.out.ob k hk).2.2⟩) HPV6.out HH.out.pn ⟨LA, q, lc, rfl, HLV6.out.sl, HLC.out.1, HLC.out.2⟩
      rw [HEQ.out.1, HEQ.out.2.1, HEQ.out.2.2.1, HEQ.out.2.2.2.1, HEQ.out.2.2.2.2] at hcall
      refine hcall.mono ?_
      clear hcall
      rintro e7 w7 ⟨rfl, O7, hst7, ho7, hl7, hk7, hm7⟩
      have HST7 := Lib.hid hst7
      have HO7 := Lib.hid (show ∀ k, O7 k → O k ∨ w.heap.size ≤ k from fun k hk => (ho7 k hk).imp id fun h => Nat.le_trans HK6.out.size h)
      have HL7 := Lib.hid hl7
      have hs6 : w.heap.size < (aset w5 M (V ++ [keyW P ws])).heap.size := HX6.out.lt
      have HOX := Lib.hid (show ¬ O7 w.heap.size from fun ho => by
        rcases ho7 _ ho with h | h
        · have := (HH.out.ob _ h).2.1; omega
        · omega)
      have HPN7 := Lib.hid (show ∀ k, (Value.slice B ws.length d).ownBlock = some k → ¬ O7 k from fun k hk ho => by
        rcases ho7 _ ho with h | h
        · exact HH.out.pn k hk h
        · have := (own_lt HH.out.pv hk).2; omega)
      have HK7 := Lib.hid (HK6.out.trans (fun k hk => .inl hk) hk7)
      have HM7 := Lib.hid (HM6.out.blk hm7)
      have HX7 := Lib.hid (hk7.box HX6.out (by omega) (fun ho => by have := (HH.out.ob _ ho).2.1; omega))
      have HPV7 := Lib.hid (hk7.own HPV6.out HH.out.pn)
      have HMK7 := Lib.hid (show ∀ x ∈ V ++ [keyW P ws], StI x from fun x hx => by
        rcases List.mem_append.1 hx with hx | hx
        · exact HH.out.mks x hx
        · rw [List.mem_singleton.1 hx]; exact HKS.out)
      clear hs6 hst7 ho7 hl7 hk7 hm7 HK6 HKF HBW6 HM6 HLV6 HPV6 HX6 HV6 cx2 HLV5 HS5 HV5 HX5 HMP HB5 hlk HBI cx1 HEQ HXB
      cases hvb : (vis s ws).2
      · have HR := Lib.hid (show mdf (kidsW P) (keyW P) vis (n + 1) (V, s) ws = (V ++ [keyW P ws], (vis s ws).1) by unfold mdf; rw [if_neg HNI.out, if_neg (by rw [hvb]; simp)])
        go_wp2
        go_end0
        refine ⟨rfl, O7, ?_⟩
        rw [HR.out]
        exact ⟨HST7.out, HM7.out, HMK7.out, HO7.out, HL7.out, HK7.out⟩
      · have HR := Lib.hid (show mdf (kidsW P) (keyW P) vis (n + 1) (V, s) ws = (kidsW P ws).foldl (fun st t => mdf (kidsW P) (keyW P) vis n st (ws ++ [t])) (V ++ [keyW P ws], (vis s ws).1) from mdf_go HNI.out hvb)
        have HBW7 := Lib.hid (show Bel W w7 from HH.out.bel.out.trans (HK7.out.below HH.out.bel.size HC.out.2.2.1 fun k hk => (HH.out.ob k hk).1))
        obtain ⟨B', d', he, hsi7, hnd7, hdm7⟩ := own_form HPV7.out
        obtain ⟨rfl, rfl⟩ : B' = B ∧ d' = d := by injection he with h1 h2 h3; exact ⟨h1.symm, h3.symm⟩
        have HSI7 := Lib.hid (And.intro hsi7 (And.intro hnd7 hdm7))
        have cx0 := HX7.out.cell 0 (v := .slice A nP c) rfl
        clear he hsi7 hnd7 hdm7 HSI
        go_wp2_with fail
        refine (able_yes pgcheck_any (HPR.out.bel HBW7.out) HC.out.1 HC.out.2.1 HSI7.out.1 HSI7.out.2.1 HSI7.out.2.2 HC.out.2.2.2.1 (by have := HWS.out; omega)).mono ?_
        rintro e8 w8 ⟨v8, rfl, ho8, hb8⟩
        rw [run_pks HH.out.vl] at ho8
        have hkw : ablL P (goS P ps0 ws) P.length = kidsW P ws := rfl
        rw [hkw] at ho8
        have HKL := Lib.hid (show (kidsW P ws).length ≤ 6 by rw [← hkw]; exact Nat.le_trans (ablL_len P _ _) HOK.out.six)
        have hM7 := HM7.out.lt
        have HO8 := Lib.hid (own_drop_alloc ho8 (show M + 1 ≤ w7.heap.size by omega))
        have HN8 := Lib.hid (show ∀ k, v8.ownBlock = some k → ¬ O7 k from fun k hk hk7 => by have := (own_lt ho8 hk).1; have := HL7.out k hk7; omega)
        obtain ⟨KA, kc, rfl, hks, hknc, hkcm⟩ := own_form ho8
        have HB8 := Lib.hid (Bel.of hb8)
        generalize (kidsW P ws).length = nk at *
        have hnk6 : (nk : Int) ≤ 6 := by have := HKL.out; omega
        clear ho8 hks hkw hb8 cx0
        go_wp2
        go_loopw [48] (fun t wr => ∃ i : Nat, i ≤ nk ∧ t = .int .i64 i ∧ LpR P M vis St n ws (V ++ [keyW P ws], (vis s ws).1) O7 w8 i wr) (fun t _ => nk - (intOf t).toNat)
        case atStart => exact ⟨0, by omega, rfl, ⟨O7, HVV.out.keep w7 w8 _ O7 HST7.out HBW7.out (KMO.of_bel HB8.out), HM7.out.bel HB8.out, HMK7.out, fun k hk => .inl hk, fun k hk => Nat.lt_of_lt_of_le (HL7.out k hk) HB8.out.size, KMO.of_bel (Bel.refl w8)⟩⟩
        case round =>
          obtain ⟨i, hi, rfl, hr⟩ := hrel
          have HL := Lib.hid hr
          clear hr
          by_cases hlt : i < nk
          · obtain ⟨Oi, hst, hmp, hmk, ho, hol, hkm⟩ := HL.out.ex
            have HSTi := Lib.hid hst
            have HMPi := Lib.hid hmp
            have HMKi := Lib.hid hmk
            have HOi := Lib.hid ho
            have HOLi := Lib.hid hol
            have HKMi := Lib.hid hkm
            obtain ⟨KA', kc', he, hsi8, _, _⟩ := own_form (hkm.own HO8.out HN8.out)
            obtain ⟨rfl, rfl⟩ : KA' = KA ∧ kc' = kc := by injection he with h1 h2 h3; exact ⟨h1.symm, h3.symm⟩
            obtain ⟨b, o, rfl, hc⟩ := hsi8.2 (by omega)
            have hci := hc i hlt
            have HNK := Lib.hid (show (kidsW P ws).length = nk by have := hsi8.1; simpa [pks] using this)
            have htl : i < (kidsW P ws).length := by have := HNK.out; omega
            rw [show (pks (kidsW P ws))[i]?.getD 0 = (((kidsW P ws)[i] : Nat) : Int) by unfold pks; rw [List.getElem?_map, List.getElem?_eq_getElem htl]; rfl] at hci
            have HU := Lib.hid (List.getElem_mem htl)
            have HSUC := Lib.hid (show (kidsW P ws).take (i + 1) = (kidsW P ws).take i ++ [(kidsW P ws)[i]] from List.take_succ_eq_append_getElem htl)
            have HXr := Lib.hid (hkm.box (HB8.out.box HX7.out) (by omega) HOX.out)
            have HPVr := Lib.hid (hkm.own (own_bel HPV7.out HB8.out) HPN7.out)
            have HBF := fun (w9 : World) (h9 : Below wr.heap.size wr w9) => (HXr.out.bel (Bel.of h9))
            clear hst hmp hmk ho hol hkm he hsi8 hc
            generalize (kidsW P ws)[i] = u at *
            clear htl
            have hnd := HSI7.out.2.1
            have hndi : (ws.length : Int) ≤ d' := by omega
            go_upto_region 11 with fail
            refine region_growT 10 (by kernel_rfl) ?_
            (repeat (first | ((first | refine wpT_goN 0 (by simp only [List.getElem?_toArray, List.getElem?_cons_zero, List.getElem?_cons_succ] <;> rfl) (by decide +kernel) (by decide +kernel) (by kernel_rfl) (by rfl) (by exact fun _ _ _ _ h => h) (Nat.le_refl _) ?_ | refine wpT_goN 1 (by simp only [List.getElem?_toArray, List.getElem?_cons_zero, List.getElem?_cons_succ] <;> rfl) (by decide +kernel) (by decide +kernel) (by kernel_rfl) (by rfl) (by exact fun _ _ _ _ h => h) (Nat.le_refl _) ?_ | refine wpT_goN 2 (by simp only [List.getElem?_toArray, List.getElem?_cons_zero, List.getElem?_cons_succ] <;> rfl) (by decide +kernel) (by decide +kernel) (by kernel_rfl) (by rfl) (by exact fun _ _ _ _ h => h) (Nat.le_refl _) ?_ | refine wpT_goN 3 (by simp only [List.getElem?_toArray, List.getElem?_cons_zero, List.getElem?_cons_succ] <;> rfl) (by decide +kernel) (by decide +kernel) (by kernel_rfl) (by rfl) (by exact fun _ _ _ _ h => h) (Nat.le_refl _) ?_ | refine wpT_goN 4 (by simp only [List.getElem?_toArray, List.getElem?_cons_zero, List.getElem?_cons_succ] <;> rfl) (by decide +kernel) (by decide +kernel) (by kernel_rfl) (by rfl) (by exact fun _ _ _ _ h => h) (Nat.le_refl _) ?_ | refine wpT_goN 5 (by simp only [List.getElem?_toArray, List.getElem?_cons_zero, List.getElem?_cons_succ] <;> rfl) (by decide +kernel) (by decide +kernel) (by kernel_rfl) (by rfl) (by exact fun _ _ _ _ h => h) (Nat.le_refl _) ?_ | refine wpT_goN 6 (by simp only [List.getElem?_toArray, List.getElem?_cons_zero, List.getElem?_cons_succ] <;> rfl) (by decide +kernel) (by decide +kernel) (by kernel_rfl) (by rfl) (by exact fun _ _ _ _ h => h) (Nat.le_refl _) ?_ | refine wpT_goN 7 (by simp only [List.getElem?_toArray, List.getElem?_cons_zero, List.getElem?_cons_succ] <;> rfl) (by decide +kernel) (by decide +kernel) (by kernel_rfl) (by rfl) (by exact fun _ _ _ _ h => h) (Nat.le_refl _) ?_); apply Exists.intro; refine ⟨fun w1 h1 => ?_, ?_⟩; (first | exact g_move _ rfl | exact g_assign _ rfl | exact g_load _ _ rfl TXp rfl (HBF w1 h1) | (go_simp; first | exact ⟨rfl, rfl⟩ | rfl)); simp only [Act.put, Act.eval, List.setIfInBounds_toArray, List.set_cons_zero, List.set_cons_succ, Array.getD_eq_getD_getElem?, List.getElem?_toArray, List.getElem?_cons_zero, List.getElem?_cons_succ, Option.getD_some]) | ((first | refine wpT_skip 0 (by simp only [List.getElem?_toArray, List.getElem?_cons_zero, List.getElem?_cons_succ] <;> rfl) (by decide +kernel) (by decide +kernel) (by kernel_rfl) (by rfl) (by exact fun _ _ _ _ h => h) (Nat.le_refl _) ?_ | refine wpT_skip 1 (by simp only [List.getElem?_toArray, List.getElem?_cons_zero, List.getElem?_cons_succ] <;> rfl) (by decide +kernel) (by decide +kernel) (by kernel_rfl) (by rfl) (by exact fun _ _ _ _ h => h) (Nat.le_refl _) ?_ | refine wpT_skip 2 (by simp only [List.getElem?_toArray, List.getElem?_cons_zero, List.getElem?_cons_succ] <;> rfl) (by decide +kernel) (by decide +kernel) (by kernel_rfl) (by rfl) (by exact fun _ _ _ _ h => h) (Nat.le_refl _) ?_ | refine wpT_skip 3 (by simp only [List.getElem?_toArray, List.getElem?_cons_zero, List.getElem?_cons_succ] <;> rfl) (by decide +kernel) (by decide +kernel) (by kernel_rfl) (by rfl) (by exact fun _ _ _ _ h => h) (Nat.le_refl _) ?_ | refine wpT_skip 4 (by simp only [List.getElem?_toArray, List.getElem?_cons_zero, List.getElem?_cons_succ] <;> rfl) (by decide +kernel) (by decide +kernel) (by kernel_rfl) (by rfl) (by exact fun _ _ _ _ h => h) (Nat.le_refl _) ?_ | refine wpT_skip 5 (by simp only [List.getElem?_toArray, List.getElem?_cons_zero, List.getElem?_cons_succ] <;> rfl) (by decide +kernel) (by decide +kernel) (by kernel_rfl) (by rfl) (by exact fun _ _ _ _ h => h) (Nat.le_refl _) ?_ | refine wpT_skip 6 (by simp only [List.getElem?_toArray, List.getElem?_cons_zero, List.getElem?_cons_succ] <;> rfl) (by decide +kernel) (by decide +kernel) (by kernel_rfl) (by rfl) (by exact fun _ _ _ _ h => h) (Nat.le_refl _) ?_ | refine wpT_skip 7 (by simp only [List.getElem?_toArray, List.getElem?_cons_zero, List.getElem?_cons_succ] <;> rfl) (by decide +kernel) (by decide +kernel) (by kernel_rfl) (by rfl) (by exact fun _ _ _ _ h => h) (Nat.le_refl _) ?_); simp only [Act.put, Act.eval, List.setIfInBounds_toArray, List.set_cons_zero, List.set_cons_succ, Array.getD_eq_getD_getElem?, List.getElem?_toArray, List.getElem?_cons_zero, List.getElem?_cons_succ, Option.getD_some]) | ((first | refine wpT_goA 0 (by simp only [List.getElem?_toArray, List.getElem?_cons_zero, List.getElem?_cons_succ] <;> rfl) (by decide +kernel) (by decide +kernel) (by kernel_rfl) (by rfl) (by exact fun _ _ _ _ h => h) ?_ | refine wpT_goA 1 (by simp only [List.getElem?_toArray, List.getElem?_cons_zero, List.getElem?_cons_succ] <;> rfl) (by decide +kernel) (by decide +kernel) (by kernel_rfl) (by rfl) (by exact fun _ _ _ _ h => h) ?_ | refine wpT_goA 2 (by simp only [List.getElem?_toArray, List.getElem?_cons_zero, List.getElem?_cons_succ] <;> rfl) (by decide +kernel) (by decide +kernel) (by kernel_rfl) (by rfl) (by exact fun _ _ _ _ h => h) ?_ | refine wpT_goA 3 (by simp only [List.getElem?_toArray, List.getElem?_cons_zero, List.getElem?_cons_succ] <;> rfl) (by decide +kernel) (by decide +kernel) (by kernel_rfl) (by rfl) (by exact fun _ _ _ _ h => h) ?_ | refine wpT_goA 4 (by simp only [List.getElem?_toArray, List.getElem?_cons_zero, List.getElem?_cons_succ] <;> rfl) (by decide +kernel) (by decide +kernel) (by kernel_rfl) (by rfl) (by exact fun _ _ _ _ h => h) ?_ | refine wpT_goA 5 (by simp only [List.getElem?_toArray, List.getElem?_cons_zero, List.getElem?_cons_succ] <;> rfl) (by decide +kernel) (by decide +kernel) (by kernel_rfl) (by rfl) (by exact fun _ _ _ _ h => h) ?_ | refine wpT_goA 6 (by simp only [List.getElem?_toArray, List.getElem?_cons_zero, List.getElem?_cons_succ] <;> rfl) (by decide +kernel) (by decide +kernel) (by kernel_rfl) (by rfl) (by exact fun _ _ _ _ h => h) ?_ | refine wpT_goA 7 (by simp only [List.getElem?_toArray, List.getElem?_cons_zero, List.getElem?_cons_succ] <;> rfl) (by decide +kernel) (by decide +kernel) (by kernel_rfl) (by rfl) (by exact fun _ _ _ _ h => h) ?_); apply Exists.intro; refine ⟨fun w1 => ?_, ?_⟩; (first | exact a_move _ rfl | exact a_assign _ rfl | (go_simp; first | exact ⟨rfl, rfl⟩ | rfl)); simp only [Act.put, Act.eval, List.setIfInBounds_toArray, List.set_cons_zero, List.set_cons_succ, Array.getD_eq_getD_getElem?, List.getElem?_toArray, List.getElem?_cons_zero, List.getElem?_cons_succ, Option.getD_some])))
            obtain ⟨i0, hi0, hz0, hz1, hz2⟩ := info_parts qint_info
            (refine wpT_one 8 (by decide +kernel) ?_; intro y1 hy1; refine op_wanted (by simp only [List.getElem?_toArray, List.getElem?_cons_zero, List.getElem?_cons_succ] <;> rfl) rfl ?_)
            refine wp_build_int 36 (.tmp 59) rfl 3 i0 Try.underlying36 hi0 hz0 hz1 (u : Int) rfl ?_
            refine ⟨Below.alloc (Below.refl _ _) hy1.size _, ?_⟩
            simp only [Act.put, Act.eval, List.setIfInBounds_toArray, List.set_cons_zero, List.set_cons_succ, Array.getD_eq_getD_getElem?, List.getElem?_toArray, List.getElem?_cons_zero, List.getElem?_cons_succ, Option.getD_some]
            have hbx := Box.new y1 #[.int .i64 (u : Int)] 3
            have hE1 := hy1.alloc (.cells #[.int .i64 (u : Int)] 3)
            generalize y1.heap.size = yb at *
            generalize y1.alloc (.cells #[.int .i64 (u : Int)] 3) = y2 at *
            (refine wpT_one 9 (by decide +kernel) ?_; intro y3 hy3; refine op_wanted (by simp only [List.getElem?_toArray, List.getElem?_cons_zero, List.getElem?_cons_succ] <;> rfl) rfl ?_)
            have hE3 := hE1.trans hy3
            refine wp_append_fresh (.tmp 58) (.tmp 60) rfl (own_bel HPVr.out hE3) ((hy3.box hbx).cell 0 rfl) (by have := HWS.out; omega) rfl rfl ?_
            intro v4 y4 ho4 hb4
            have hE4 := hE3.trans hb4
            refine ⟨hb4.out.mono hE3.size, ?_⟩
            simp only [Act.put, Act.eval, List.setIfInBounds_toArray, List.set_cons_zero, List.set_cons_succ, Array.getD_eq_getD_getElem?, List.getElem?_toArray, List.getElem?_cons_zero, List.getElem?_cons_succ, Option.getD_some]
            refine wpT_last (by decide +kernel) (by decide +kernel) (by simp only [List.getElem?_toArray, List.getElem?_cons_zero, List.getElem?_cons_succ] <;> rfl) rfl ?_
            intro y5 hy5
            have hE5 := hE4.trans hy5
            have hWO7 : ∀ k, O7 k → W.heap.size ≤ k ∧ k ≠ M := fun k hk => by
              rcases HO7.out k hk with h | h
              · exact ⟨(HH.out.ob k h).1, (HH.out.ob k h).2.2⟩
              · have := HH.out.bel.size; exact ⟨by omega, by omega⟩
            have hWOi : ∀ k, Oi k → W.heap.size ≤ k ∧ k ≠ M := fun k hk => by
              rcases HOi.out k hk with h | h
              · exact hWO7 k h
              · have := HB8.out.size; have := HBW7.out.size; exact ⟨by omega, by omega⟩
            have hBWr : Bel W wr := (HBW7.out.trans HB8.out).out.trans (HKMi.out.below (by have := HB8.out.size; have := HBW7.out.size; omega) HC.out.2.2.1 fun k hk => (hWO7 k hk).1)
            have hBW5 : Bel W y5 := hBWr.trans hE5
            have HCAP := Lib.hid (show sz (((kidsW P ws).take i).foldl (fun st t => mdf (kidsW P) (keyW P) vis n st (ws ++ [t])) (V ++ [keyW P ws], (vis s ws).1)).2 + 7 ^ n ≤ 1977326743 from by
              have hk6 : ∀ w, (kidsW P w).length ≤ 6 := fun w => Nat.le_trans (ablL_len P _ _) HOK.out.six
              have h1 := foldl_le (z := fun st : List (Array Value) × σ => sz st.2) (c := 7 ^ n) (f := fun st t => mdf (kidsW P) (keyW P) vis n st (ws ++ [t])) (fun b a => mdf_sz hk6 HVV.out.step n b _) ((kidsW P ws).take i) (V ++ [keyW P ws], (vis s ws).1)
              have h2 := HVV.out.step s ws
              have h3 := HH.out.cap
              have h4 : 7 ^ (n + 1) = 7 ^ n * 7 := Nat.pow_succ ..
              have hp : 0 < 7 ^ n := Nat.pow_pos (by omega)
              have h5 : ((kidsW P ws).take i).length ≤ 5 := by
                have h6 := hk6 ws
                rw [List.length_take]
                have h7 := HNK.out
                omega
              have h6 := Nat.mul_le_mul_right (7 ^ n) h5
              simp only at h1
              omega)
            go_simp
            refine (HIH.out _ _ (ws ++ [u]) Oi v4 y5 ⟨vl_snoc.2 ⟨HH.out.vl, HU.out⟩, HCAP.out, fun x hx => by have := HH.out.fuel (u :: x) (by simpa [List.append_assoc] using hx); simp at this; omega, hBW5, HVV.out.keep wr y5 _ Oi HSTi.out hBWr (KMO.of_bel hE5), fun k hk => ⟨(hWOi k hk).1, Nat.lt_of_lt_of_le (HOLi.out k hk) hE5.size, (hWOi k hk).2⟩, HMPi.out.bel hE5, HMKi.out, ?_, fun k hk ho => by have h1 := (own_lt ho4 hk).1; have h2 := HOLi.out k ho; have h3 := hE3.size; omega⟩).mono ?_
            · rw [List.length_append, show intq (pks (ws ++ [u])) = intq (pks ws) ++ [.int .i64 (u : Int)] by simp [intq, pks]]
              exact own_bel (own_drop_alloc ho4 (by have h1 := HMPi.out.lt; have h3 := hE3.size; omega)) hy5
            · rintro e6 y6 ⟨rfl, O6, hst6, hmp6, hmk6, ho6, hl6, hk6⟩
              intro y7 hy7
              have hBW6 : Bel W y6 := hBW5.out.trans (hk6.below hBW5.size HC.out.2.2.1 fun k hk => (hWOi k hk).1)
              have HFIN := Lib.hid (show LpR P M vis St n ws (V ++ [keyW P ws], (vis s ws).1) O7 w8 (i + 1) y7 from ⟨by
                rw [HSUC.out, List.foldl_append]
                exact ⟨O6, HVV.out.keep y6 y7 _ O6 hst6 hBW6 (KMO.of_bel hy7), hmp6.bel hy7, hmk6, fun k hk => by
                  rcases ho6 k hk with h | h
                  · exact HOi.out k h
                  · have h1 := hE5.size; have h2 := HKMi.out.size; exact .inr (by omega), fun k hk => Nat.lt_of_lt_of_le (hl6 k hk) hy7.size,
                  HKMi.out.trans HOi.out (((KMO.of_bel hE5).trans (fun k hk => .inl hk) hk6).trans (O1 := Oi) (fun k hk => .inl hk) (KMO.of_bel hy7))⟩⟩)
              clear hst6 hmp6 hmk6 ho6 hl6 hk6 hy7 hBW6
              go_wp2
              go_roundw
              case rel => exact ⟨i + 1, by omega, by go_num, HFIN.out⟩
              case measure => simp [intOf]; omega
          · obtain rfl : i = nk := by omega
            obtain ⟨Oi, hst, hmp, hmk, ho, hol, hkm⟩ := HL.out.ex
            have hln : (kidsW P ws).length = i := by
              have := HO8.out.1
              simpa [intq, pks] using this
            rw [List.take_of_length_le (by omega)] at hst hmp hmk
            have HFIN := Lib.hid (And.intro hst (And.intro hmp (And.intro hmk (And.intro ho (And.intro hol hkm)))))
            clear hst hmp hmk ho hol hkm hln
            go_wp2
            go_end0
            refine ⟨rfl, Oi, ?_⟩
            rw [HR.out]
            refine ⟨HFIN.out.1, HFIN.out.2.1, HFIN.out.2.2.1, fun k hk => ?_, HFIN.out.2.2.2.2.1, HK7.out.trans HO7.out ((KMO.of_bel HB8.out).trans (fun k hk => .inl hk) HFIN.out.2.2.2.2.2)⟩
            rcases HFIN.out.2.2.2.1 k hk with h | h
            · exact HO7.out k h
            · have h1 := HB8.out.size; have h2 := HK7.out.size; exact .inr (by omega)
    · have hin : keyW P ws ∈ V := HBI.out.1 rfl
      have HR := Lib.hid (show mdf (kidsW P) (keyW P) vis (n + 1) (V, s) ws = (V, s) by unfold mdf; rw [if_pos hin])
      go_wp2_with (first | (refine loadB 131 _ rfl rfl rfl HS5.out (TStv _ _) ?_))
      go_end0
      refine ⟨rfl, O, ?_⟩
      rw [HR.out]
      exact ⟨HVV.out.keep w w5 s O HH.out.st HH.out.bel (KMO.of_bel HB5.out), HMP.out, HH.out.mks, fun k hk => .inl hk, fun k hk => Nat.lt_of_lt_of_le (HH.out.ob k hk).2.1 HB5.out.size, KMO.of_bel HB5.out⟩
end Go.Proofs.Yticnponenkfneaa

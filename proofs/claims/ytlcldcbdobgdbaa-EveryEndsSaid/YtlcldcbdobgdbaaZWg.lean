import Derived.Test.YtlcldcbdobgdbaaZWe
import Derived.Test.YtlcldcbdobgdbaaZKeepPg
set_option linter.all false
set_option maxRecDepth 100000
namespace Go.Proofs.Ytlcldcbdobgdbaa
open Go Go.RowKit Go.Shelf

theorem mem_entsK {p : Array Value} {b : Nat} : ∀ {ps : List (Array Value)} {k : Nat}, aE p b ∈ entsA k ps ↔ k ≤ b ∧ ps[b - k]? = some p
  | [], k => by simp [entsA]
  | q :: ps, k => by
    simp only [entsA, List.mem_cons, mem_entsK (ps := ps)]
    constructor
    · rintro (h | ⟨h1, h2⟩)
      · simp only [aE, MapEntry.mk.injEq, Value.agg.injEq, true_and] at h
        obtain ⟨rfl, rfl⟩ := h
        exact ⟨Nat.le_refl _, by rw [Nat.sub_self]; rfl⟩
      · refine ⟨by omega, ?_⟩
        rw [show b - k = (b - (k + 1)) + 1 by omega, List.getElem?_cons_succ]
        exact h2
    · rintro ⟨h1, h2⟩
      rcases Nat.eq_or_lt_of_le h1 with rfl | h
      · rw [Nat.sub_self, List.getElem?_cons_zero, Option.some.injEq] at h2
        subst h2
        exact .inl rfl
      · rw [show b - k = (b - (k + 1)) + 1 by omega, List.getElem?_cons_succ] at h2
        exact .inr ⟨h, h2⟩
theorem aM_at {p : Array Value} {b : Nat} {ps : List (Array Value)} : aE p b ∈ (aM ps).toList ↔ ps[b]? = some p := by
  unfold aM
  rw [List.toList_toArray, mem_entsK]
  simp
theorem left_new {es : Array MapEntry} {seen : Array Nat} {b : Nat} (h : (leftOf es (seen.push b)).size < (leftOf es seen).size) : seen.contains b = false := by
  refine Bool.eq_false_iff.2 fun hc => ?_
  have : leftOf es (seen.push b) = leftOf es seen := by
    unfold leftOf
    congr 1
    funext e
    rw [contains_push]
    cases he : (e.born == b)
    · simp
    · have : e.born = b := by simpa using he
      rw [this, hc]; rfl
  rw [this] at h
  exact Nat.lt_irrefl _ h
structure EdS (P : List (List Ev)) (ps : List (Array Value)) (seen : Array Nat) (ds : List (Array Value)) : Prop where
  seen : ∀ p b, ps[b]? = some p → (seen.contains b = true ↔ p ∈ ds)
  ne : ds.Pairwise (· ≠ ·)
  sub : ∀ d ∈ ds, d ∈ ps
theorem EdS.push {P : List (List Ev)} {ps : List (Array Value)} {seen : Array Nat} {ds : List (Array Value)} (h : EdS P ps seen ds) (hn : ps.Pairwise (· ≠ ·)) {p : Array Value} {b : Nat} (hp : ps[b]? = some p) (hb : seen.contains b = false) : EdS P ps (seen.push b) (ds ++ [p]) ∧ p ∉ ds := by
  have hnd : p ∉ ds := fun hm => by rw [(h.seen p b hp).2 hm] at hb; cases hb
  refine ⟨⟨fun q c hq => ?_, List.pairwise_append.2 ⟨h.ne, List.pairwise_singleton _ _, fun a ha x hx => ?_⟩, fun d hd => ?_⟩, hnd⟩
  · rw [contains_push, List.mem_append, List.mem_singleton, Bool.or_eq_true, beq_iff_eq, h.seen q c hq]
    have hcb : c = b ↔ q = p := by
      constructor
      · rintro rfl; rw [hp] at hq; exact (Option.some.inj hq).symm
      · rintro rfl
        have hlc := (List.getElem?_eq_some_iff.1 hq).1
        exact (List.getElem?_inj hlc hn).1 (hq.trans hp.symm)
    constructor
    · rintro (g | g)
      · first | exact .inl g | exact .inr (hcb.1 g)
      · first | exact .inr (hcb.1 g) | exact .inl g
    · rintro (g | g)
      · first | exact .inl g | exact .inr g
      · first | exact .inr (hcb.2 g) | exact .inl (hcb.2 g)
  · rw [List.mem_singleton.1 hx]
    exact fun e => hnd (e ▸ ha)
  · rcases List.mem_append.1 hd with g | g
    · exact h.sub d g
    · rw [List.mem_singleton.1 g]; exact List.mem_of_getElem? hp
theorem EdS.all {P : List (List Ev)} {ps : List (Array Value)} {seen : Array Nat} {ds : List (Array Value)} (h : EdS P ps seen ds) (ha : AllSeen (aM ps) seen) (a : Array Value) : a ∈ ds ↔ a ∈ ps := by
  refine ⟨h.sub a, fun hm => ?_⟩
  obtain ⟨b, hb⟩ := List.getElem?_of_mem hm
  exact (h.seen a b hb).1 (ha _ (aM_at.2 hb))
def sortE (ds : List (Array Value)) : List (Array Value) := ds.foldl (fun xs e => insR enLt e xs) []
theorem sortE_snoc (ds : List (Array Value)) (p : Array Value) : sortE (ds ++ [p]) = insR enLt p (sortE ds) := by unfold sortE; rw [List.foldl_append]; rfl
theorem ins_len {α : Type} {r : α → α → Bool} {x : α} (xs : List α) : (insR r x xs).length = xs.length + 1 := by
  rw [insR_split, List.length_append, List.length_cons, List.length_take, List.length_drop]
  have := insK_le (r := r) (x := x) xs
  omega
theorem sort_len : ∀ ds : List (Array Value), (sortE ds).length = ds.length := fun ds => by
  have h : ∀ (ds xs : List (Array Value)), (ds.foldl (fun xs e => insR enLt e xs) xs).length = ds.length + xs.length := by
    intro ds
    induction ds with
    | nil => intro xs; simp
    | cons d ds ih => intro xs; rw [List.foldl_cons, ih, ins_len, List.length_cons]; omega
  have := h ds []
  simpa [sortE] using this
theorem ins_at {ls : List En} {x : En} {k : Nat} (hk : k ≤ ls.length) (hl : ∀ j y, j < k → ls[j]? = some y → enLt (enA y) (enA x) = true) (ha : ∀ y, ls[k]? = some y → enLt (enA y) (enA x) = false) :
    insR enLt (enA x) (ls.map enA) = (ls.take k ++ x :: ls.drop k).map enA := by
  have e : insK enLt (enA x) (ls.map enA) = k := insK_is (by rw [List.length_map]; exact hk)
    (fun j y hj hy => by
      rw [List.getElem?_map] at hy
      cases h : ls[j]? with
      | none => rw [h] at hy; cases hy
      | some z => rw [h] at hy; obtain rfl := Option.some.inj hy; exact hl j z hj h)
    (fun y hy => by
      rw [List.getElem?_map] at hy
      cases h : ls[k]? with
      | none => rw [h] at hy; cases hy
      | some z => rw [h] at hy; obtain rfl := Option.some.inj hy; exact ha z h)
  rw [insR_split, e]
  simp
theorem enRow_app (a b : List En) : enRow (a ++ b) = enRow a ++ enRow b := by unfold enRow; rw [List.flatMap_append]
theorem enRow_cons (x : En) (b : List En) : enRow (x :: b) = (enA x).toList ++ enRow b := rfl
theorem enRow_one (L : List En) : ∀ u ∈ enRow L, u.oneCell' = true := fun u hu => by
  unfold enRow at hu
  obtain ⟨x, _, hx⟩ := List.mem_flatMap.1 hu
  have := enA_one x
  rw [Array.all_eq_true] at this
  have hx' : u ∈ (enA x) := by simpa [enA] using hx
  obtain ⟨i, hi, rfl⟩ := Array.mem_iff_getElem.1 hx'
  exact this i hi
theorem endlessE (y x : En) {b : Bool} (hb : enLt (enA y) (enA x) = b) (w : World) : Calls Try.prog 48 #[.agg (enA y), .agg (enA x)] w fun e w' => e = .returned (.bool b) ∧ Below w.heap.size w w' := by
  subst hb; exact endless_any _ _ _ _ _ _ _ _ _ _ w
theorem run_build_en (x : En) (w : World) :
    (Instr.buildSlice 23 1 #[(0, .agg (enA x))]).run Try.prog w = .ok (.slice (some ⟨w.heap.size, 0, none⟩) 1 1) (w.alloc (.cells (enA x) 33)) := run_build_end _ _ _ _ _ w
theorem wp_build_en {o : Oper} {a : Act} {K : Act → World → Prop} {Q : Exit → Act → World → Prop} {w : World} (x : Operand) (ho : o.op = .buildSlice 23 1 #[(0, x)]) (y : En) (hx : a.eval x = .agg (enA y))
    (h : K (a.put o.dst (.slice (some ⟨w.heap.size, 0, none⟩) 1 1)) (w.alloc (.cells (enA y) 33))) : o.wp Try.prog a w K Q := by
  unfold Oper.wp execOp
  simp only [ho, Sem.run_bind, Sem.run_pure, Result.andThen_ok, List.map_toArray, List.map_cons, List.map_nil, hx, run_build_en]
  exact h
theorem run_append_full {w : World} {A : Option Addr} {k m c : Nat} {olds news : List Value} (hlo : olds.length = k * 20) (hA : Src w A k olds) (B : Addr) (hl : news.length = m * 20) (hB : ∀ j u, news[j]? = some u → w.cell? (B.add j) = some u) (h1 : ∀ u ∈ news, u.oneCell' = true) (hm : 0 < m) (hs : k + m ≤ 4000000000) (ty : TypeId) :
    ∃ v' w', (Builtin.append_ #[23, 23] ty #[.slice A k k, .slice (some B) m c]).run Try.prog w = .ok v' w' ∧ w'.ownsRow w.heap.size 33 20 v' (k + m) (olds ++ news) ∧ Bel w w' := by
  obtain ⟨i0, hi0, hz0, hz1, hz2⟩ := info_parts end_info
  rcases hA with ⟨rfl, rfl, rfl⟩ | ⟨ad, rfl, h⟩
  · obtain ⟨v', w', hr, h2, h3, _, _⟩ := run_append_own_at (P := Try.prog) w w.heap.size 23 ty 33 i0 _ 20 152 Try.underlying23 hi0 hz0 hz1 hz2 rfl (by omega) (.slice none 0 0) 0 [] (World.ownsRow_nil _ _ _ _) B m c news hl hB h1 (by unfold maxLen; omega) (by omega) (Nat.le_refl _)
    exact ⟨v', w', hr, h2, (Below.refl _ w).grown h3 (Nat.le_refl _) (fun k hk => by cases hk)⟩
  · obtain ⟨v', w', hr, h2, h3⟩ := run_append_arg_grows (P := Try.prog) w 23 ty 33 i0 _ 20 152 Try.underlying23 hi0 hz0 hz1 hz2 rfl (by omega) ad k k olds hlo h B m c news hl hB (by omega) (by unfold maxLen; omega) (by omega)
    exact ⟨v', w', hr, h2, (Below.refl _ w).grown h3 (Nat.le_refl _) (fun k hk => by cases hk)⟩
theorem wp_append_full {o : Oper} {a : Act} {K : Act → World → Prop} {Q : Exit → Act → World → Prop} {w : World} (s x : Operand) (ho : o.op = .call { callee := .builtin .append, args := #[s, x], argTypes := #[23, 23] })
    {A : Option Addr} {k m c : Nat} {olds news : List Value} (hlo : olds.length = k * 20) (hA : Src w A k olds) (B : Addr) (hl : news.length = m * 20) (hB : ∀ j u, news[j]? = some u → w.cell? (B.add j) = some u) (h1 : ∀ u ∈ news, u.oneCell' = true) (hm : 0 < m) (hs : k + m ≤ 4000000000) (hsv : a.eval s = .slice A k k) (hx : a.eval x = .slice (some B) m c)
    (h : ∀ v' w', w'.ownsRow w.heap.size 33 20 v' (k + m) (olds ++ news) → Bel w w' → K (a.put o.dst v') w') : o.wp Try.prog a w K Q := by
  obtain ⟨v', w', hr, h2, h3⟩ := run_append_full hlo hA B (c := c) hl hB h1 hm hs o.type
  unfold Oper.wp execOp
  simp only [ho, resolve, invoke, builtin, Sem.run_bind, Sem.run_pure, Result.andThen_ok, List.map_toArray, List.map_cons, List.map_nil, hsv, hx, hr]
  exact h v' w' h2 h3
theorem src_zero (w : World) (A : Option Addr) : Src w A 0 [] := by
  cases A with
  | none => exact .inl ⟨rfl, rfl, rfl⟩
  | some ad => exact .inr ⟨ad, rfl, fun j u h => by simp at h⟩
theorem row_take (L : List En) {k : Nat} (hk : k ≤ L.length) : enRow (L.take k) = (enRow L).take (k * 20) ∧ enRow (L.drop k) = (enRow L).drop (k * 20) := by
  have e : enRow L = enRow (L.take k) ++ enRow (L.drop k) := by rw [← enRow_app, List.take_append_drop]
  have hl : (enRow (L.take k)).length = k * 20 := by rw [row_len, List.length_take]; congr 1; omega
  rw [e]
  exact ⟨by rw [← hl, List.take_left], by rw [← hl, List.drop_left]⟩
theorem own_src_drop {w : World} {base n k c g : Nat} {L : List En} (h : w.ownsRow base 33 20 (.slice (some ⟨g, 0, none⟩) n c) n (enRow L)) (hk : k ≤ n) : Src w (some ⟨g, k * 20, none⟩) (n - k) (enRow (L.drop k)) := by
  have hln := own_enE h
  refine .inr ⟨_, rfl, fun j u hu => ?_⟩
  rw [(row_take L (by omega)).2, List.getElem?_drop] at hu
  have hj := (List.getElem?_eq_some_iff.1 hu).1
  rw [row_len] at hj
  have : (⟨g, k * 20, none⟩ : Addr).add j = ⟨g, k * 20 + j, none⟩ := by unfold Addr.add; split <;> simp_all
  rw [this, (own_cell20 h (by omega)).1]
  exact hu
theorem own_src_take {w : World} {base n k c g : Nat} {L : List En} (h : w.ownsRow base 33 20 (.slice (some ⟨g, 0, none⟩) n c) n (enRow L)) (hk : k ≤ n) : Src w (some ⟨g, 0, none⟩) k (enRow (L.take k)) := by
  have hln := own_enE h
  refine .inr ⟨_, rfl, fun j u hu => ?_⟩
  rw [(row_take L (by omega)).1] at hu
  have hj := (List.getElem?_eq_some_iff.1 hu).1
  rw [List.length_take, row_len] at hj
  have hu := (List.getElem?_take_of_lt (by omega : j < k * 20)).symm.trans hu
  have : (⟨g, 0, none⟩ : Addr).add j = ⟨g, j, none⟩ := by unfold Addr.add; split <;> simp_all
  rw [this, (own_cell20 h (by omega)).1]
  exact hu
theorem row_take_len {L : List En} {k : Nat} (hk : k ≤ L.length) : (enRow (L.take k)).length = k * 20 := by rw [row_len, List.length_take]; congr 1; omega
theorem row_drop_len (L : List En) (k : Nat) : (enRow (L.drop k)).length = (L.length - k) * 20 := by rw [row_len, List.length_drop]
structure EdR (P : List (List Ev)) (ps : List (Array Value)) (MB IB : Nat) (w1 : World) (v : Value) (wr : World) : Prop where
  ex : ∃ seen ds ls, Itr wr IB MB (aM ps) ps.length seen ∧ EdS P ps seen ds ∧ sortE ds = ls.map enA ∧ wr.ownsRow (IB + 1) 33 20 v ls.length (enRow ls)
  bel : Bel w1 wr
theorem nodup_le {α : Type} : ∀ {ds ps : List α}, ds.Pairwise (· ≠ ·) → (∀ d ∈ ds, d ∈ ps) → ds.length ≤ ps.length
  | [], ps, _, _ => Nat.zero_le _
  | d :: ds, ps, h, hs => by
    classical
    obtain ⟨h1, h2⟩ := List.pairwise_cons.1 h
    have hd := hs d (List.mem_cons_self ..)
    have := nodup_le (ds := ds) (ps := ps.erase d) h2 fun a ha => (List.mem_erase_of_ne (fun e => h1 a ha e.symm)).2 (hs a (List.mem_cons_of_mem _ ha))
    rw [List.length_erase_of_mem hd] at this
    have hp := List.length_pos_of_mem hd
    rw [List.length_cons]
    omega
def REndsPost (w : World) (P : List (List Ev)) (e : Ending) (w' : World) : Prop :=
  ∃ v ls, e = .returned v ∧ EndsOk P (ls.map enA) ∧ w'.ownsRow w.heap.size 33 20 v ls.length (enRow ls) ∧ Below w.heap.size w w'
theorem isEnd_enA {P : List (List Ev)} {x : Array Value} (h : IsEnd P x) : ∃ y : En, x = enA y := by
  obtain ⟨m, v, hh, d, k, rfl⟩ := h.form
  exact ⟨⟨m, v, hh, d, k⟩, rfl⟩
set_option maxHeartbeats 32000000 in
theorem rends_any (A : Option Addr) (n c : Nat) (P : List (List Ev)) (w : World) (h : Prg w A n P) (hnc : n ≤ c) (hcm : c ≤ maxLen) (h0 : evC P = 0) : Calls Try.prog 18 #[.slice A n c] w (REndsPost w P) := by
  have hok := evC_ok h0
  have HP := Lib.hid h
  have HC := Lib.hid (And.intro hnc (And.intro hcm hok))
  have HMD := Lib.hid (wf_ends hok (Nat.le_succ (totP P)))
  have HTT := Lib.hid (show totP P ≤ 10 from evC_tot h0)
  have hb1 := Box.new (w.alloc (.map #[] 0)) #[.map (some w.heap.size)] 87
  rw [World.size_alloc] at hb1
  have hb2 : Bel w ((w.alloc (.map #[] 0)).alloc (.cells #[.map (some w.heap.size)] 87)) := ((Bel.refl w).alloc _).alloc _
  have hm1 : MapA ((w.alloc (.map #[] 0)).alloc (.cells #[.map (some w.heap.size)] 87)) w.heap.size [] := (heap_alloc_old _ _ (by rw [World.size_alloc]; omega)).trans (heap_alloc_new w _)
  have hsz : ((w.alloc (.map #[] 0)).alloc (.cells #[.map (some w.heap.size)] 87)).heap.size = w.heap.size + 2 := by rw [World.size_alloc, World.size_alloc]
  have HB1 := Lib.hid hb1
  have HB2 := Lib.hid hb2
  have HM1 := Lib.hid hm1
  have HSZ := Lib.hid hsz
  clear h hnc hcm hb1 hb2 hm1 hsz hok h0
  have hmm := @run_makeMap Try.prog
  go_enter Try.func18, Try.ntmps18
  go_upto_region 2 with fail
  clear hmm
  generalize (w.alloc (.map #[] 0)).alloc (.cells #[.map (some w.heap.size)] 87) = w0 at *
  have HWK := Lib.hid (walk0_any (en_tel HP.out HC.out.1 HC.out.2.1 HC.out.2.2 (HB := w.heap.size + 1) (MB := w.heap.size)) HP.out HC.out.1 HC.out.2.1 HC.out.2.2 (fun k hk => by subst hk; exact Nat.le_refl _) [] w0 HB2.out
    ⟨HB1.out, HM1.out, by omega, fun x hx => (by cases hx)⟩ (fun k hk => by have := HSZ.out; omega))
  clear HB1 HM1
  go_wp2_with fail
  refine HWK.out.mono ?_
  clear HWK
  rintro e1 w1 ⟨rfl, hst, hk⟩
  have HBF := Lib.hid (show Bel w w1 from HB2.out.out.trans (hk.below (by have := HSZ.out; omega) (fun k hk => by omega)))
  obtain ⟨ps, hps⟩ : ∃ ps, (fldS (visA P) (runW P (totP P + 1) []) []).1 = ps := ⟨_, rfl⟩
  rw [hps] at HMD hst
  have HMB := Lib.hid (show w1.heap[w.heap.size]? = some (.map (aM ps) ps.length) from hst.m)
  have HPI := Lib.hid (show ps.length ≤ 1977326743 from by
    have h1 := HMD.out.2.2
    have h2 : 7 ^ (totP P + 1) ≤ 7 ^ 11 := Nat.pow_le_pow_right (by omega) (by have := HTT.out; omega)
    have h3 : 7 ^ 11 = 1977326743 := by decide
    omega)
  have cm := hst.b.cell 0 (v := .map (some w.heap.size)) rfl
  have HLW := Lib.hid (show w.heap.size < w1.heap.size from hst.m.lt)
  have H1 := Lib.hid (show Itr (w1.alloc (.mapIter (some w.heap.size) ps.length #[] ps.length)) w1.heap.size w.heap.size (aM ps) ps.length #[] from ⟨heap_alloc_new w1 _, (heap_alloc_old _ _ HLW.out).trans HMB.out⟩)
  have HB0 := Lib.hid ((Bel.refl w1).alloc (.mapIter (some w.heap.size) ps.length #[] ps.length))
  clear hst hk hps HB2 HSZ HTT
  go_wp2_with (refine rangeNew Try.underlying87 _ rfl rfl rfl HMB.out ?_)
  go_frame
  clear cm
  go_loopw [4] (fun v wr => EdR P ps w.heap.size w1.heap.size w1 v wr) (fun _ wr => wr.rangeLeft w.heap.size w1.heap.size)
  case atStart => exact ⟨⟨#[], [], [], H1.out, ⟨fun p b _ => by simp, List.Pairwise.nil, fun d hd => (by cases hd)⟩, rfl, World.ownsRow_nil _ _ _ _⟩, HB0.out⟩
  case round =>
    obtain ⟨⟨seen, ds, ls, hI, hS, hso, hown⟩, hbr⟩ := hrel
    have HI := Lib.hid hI
    have HS := Lib.hid hS
    have HSO := Lib.hid hso
    have HOW := Lib.hid hown
    have HBR := Lib.hid hbr
    obtain ⟨A1, c1, rfl, hnc1, _⟩ := row_slice hown
    have hnl : ls.length ≤ 1977326743 := by
      have h1 : ls.length = ds.length := by rw [← sort_len ds, hso, List.length_map]
      have h2 : ds.length ≤ ps.length := nodup_le hS.ne hS.sub
      have := HPI.out
      omega
    have hnlI : (ls.length : Int) ≤ 1977326743 := by omega
    have hncI : (ls.length : Int) ≤ c1 := by omega
    have HNL := Lib.hid hnl
    have HNC := Lib.hid hnc1
    clear hI hS hso hown hbr H1 HB0 hnl hnc1
    go_wp2_with (refine nextMap _ rfl rfl rfl HI.out (aM_old ps) ?_ ?_)
    · intro hall
      have HOK := Lib.hid (show EndsOk P (ls.map enA) from by
        rw [← HSO.out]
        exact ends_made (fun a => (HS.out.all hall a).trans (HMD.out.2.1 a)) HS.out.ne)
      clear hall
      go_wp2
      go_ret
      exact ⟨_, ls, rfl, HOK.out, own_drop_alloc HOW.out (by have := HLW.out; omega), (HBF.out.trans HBR.out).out⟩
    · intro e kv vv w5 he hkv hvv hI2 hg hlt5
      obtain ⟨p, b, rfl, hp⟩ := aM_in he
      obtain ⟨x, rfl⟩ := isEnd_enA ((HMD.out.2.1 p).1 hp)
      obtain rfl : Value.agg (enA x) = kv := hkv
      obtain rfl : Value.bool true = vv := hvv
      have HEM := Lib.hid he
      have HI2 := Lib.hid hI2
      have HLT := Lib.hid hlt5
      have HPU := Lib.hid (HS.out.push HMD.out.1 (aM_at.1 he) (left_new hlt5)).1
      have HB5 := Lib.hid (show Bel w1 w5 from Bel.of (HBR.out.out.grown hg HBR.out.size (by intro j hj; cases hj; exact Nat.le_refl _)))
      have HO5 := Lib.hid (own_keep HOW.out fun g hg' hlt => hg.block g hlt (fun e => by have := (own_lt HOW.out hg').1; cases e; omega))
      have HLT5 := Lib.hid (show w1.heap.size < w5.heap.size from (Array.getElem?_eq_some_iff.1 hI2.it).1)
      clear he hI2 hlt5 hg hp
      have HY0 := Lib.hid (Box.new w5 z20 33)
      have HX6 := Lib.hid (HY0.out.setRow (enA x))
      have hbw : Bel w5 ((w5.alloc (.cells z20 33)).setRow w5.heap.size (enA x)) := ((Bel.refl w5).alloc _).setRow w5.heap.size (Nat.le_refl _) _
      have HI6 := Lib.hid (HI2.out.grown hbw)
      have HB6 := Lib.hid (HB5.out.trans hbw)
      have HO6 := Lib.hid (own_bel HO5.out hbw)
      have HS6 := Lib.hid (show w1.heap.size + 1 ≤ ((w5.alloc (.cells z20 33)).setRow w5.heap.size (enA x)).heap.size from by have := HLT5.out; have := hbw.size; omega)
      go_upto_region 7 with (first | (refine entryMap _ rfl rfl rfl HI2.out HEM.out (aM_nodup ps) (kv := .agg (enA x)) (vv := .bool true) rfl rfl ?_) | (refine storeB 33 _ _ rfl rfl rfl rfl HY0.out rfl (by exact TEnd) (enA_one x) ?_))
      change Code.wp _ _ _ _ ((w5.alloc (.cells z20 33)).setRow w5.heap.size (enA x))
      clear hbw HY0 HO5 HB5 HI2
      generalize (w5.alloc (.cells z20 33)).setRow w5.heap.size (enA x) = w6 at *
      generalize w5.heap.size = X at *
      obtain ⟨nl, hnl⟩ : ∃ nl, ls.length = nl := ⟨_, rfl⟩
      have HLN := Lib.hid hnl
      rw [hnl] at HNL HNC hnlI hncI HO6 ⊢
      clear hnl
      go_wp2
      go_loopw [6] (fun t wi => ∃ k : Nat, k ≤ nl ∧ t = .int .i64 k ∧ Hid (∀ j y, j < k → ls[j]? = some y → enLt (enA y) (enA x) = true) ∧ Bel w6 wi) (fun t _ => nl - (intOf t).toNat)
      case atStart => exact ⟨0, by omega, rfl, (show ∀ j y, j < 0 → ls[j]? = some y → enLt (enA y) (enA x) = true from fun j y h => by omega), Bel.refl _⟩
      case round =>
        obtain ⟨k, hk, rfl, HD, hr⟩ := hrel
        have HR := Lib.hid hr
        have HXr := hr.box HX6.out
        clear hr
        by_cases hkn : k < nl
        · have hkn' : (k : Int) < nl := by omega
          have hA : ∃ g, A1 = some ⟨g, 0, none⟩ := by
            rcases HO6.out.2 with ⟨_, h0⟩ | ⟨g, _, _, hv, _⟩
            · omega
            · cases hv; exact ⟨g, rfl⟩
          obtain ⟨g, rfl⟩ := hA
          have hlk : k < ls.length := by rw [HLN.out]; exact hkn
          have HF := Lib.hid (fun (w9 : World) (h9 : Bel wr w9) => own_range (own_bel HO6.out (HR.out.trans h9)) hlk)
          have HYK := Lib.hid (List.getElem?_eq_getElem hlk)
          generalize ls[k] = y at *
          obtain ⟨bv, hbv⟩ : ∃ bv, enLt (enA y) (enA x) = bv := ⟨_, rfl⟩
          have HBV := Lib.hid hbv
          clear hlk hbv
          go_upto_region 8 with fail
          (refine region_bel (by kernel_rfl) (by kernel_rfl) ?_; (repeat (first | ((with_reducible refine BigFrame.wpQuiet_skip ?_ ?_); exact rfl; simp only [Act.put, Act.eval, List.setIfInBounds_toArray, List.set_cons_zero, List.set_cons_succ, Array.getD_eq_getD_getElem?, List.getElem?_toArray, List.getElem?_cons_zero, List.getElem?_cons_succ, Option.getD_some]) | (refine q_move _ rfl rfl ?_; simp only [Act.put, Act.eval, List.setIfInBounds_toArray, List.set_cons_zero, List.set_cons_succ, Array.getD_eq_getD_getElem?, List.getElem?_toArray, List.getElem?_cons_zero, List.getElem?_cons_succ, Option.getD_some]) | (refine q_assign _ rfl rfl ?_; simp only [Act.put, Act.eval, List.setIfInBounds_toArray, List.set_cons_zero, List.set_cons_succ, Array.getD_eq_getD_getElem?, List.getElem?_toArray, List.getElem?_cons_zero, List.getElem?_cons_succ, Option.getD_some]) | (refine q_load _ _ rfl rfl rfl HXr TEnd ?_; simp only [Act.put, Act.eval, List.setIfInBounds_toArray, List.set_cons_zero, List.set_cons_succ, Array.getD_eq_getD_getElem?, List.getElem?_toArray, List.getElem?_cons_zero, List.getElem?_cons_succ, Option.getD_some]) | (refine q_load_mid _ _ rfl rfl rfl HF.out (TEndx y) (enA y) rfl ?_; simp only [Act.put, Act.eval, List.setIfInBounds_toArray, List.set_cons_zero, List.set_cons_succ, Array.getD_eq_getD_getElem?, List.getElem?_toArray, List.getElem?_cons_zero, List.getElem?_cons_succ, Option.getD_some]) | (refine q_any rfl ?_; apply Exists.intro; refine ⟨fun w hw => ?_, ?_⟩; (go_simp; first | exact ⟨rfl, rfl⟩ | rfl | (go_at_call 48; (with_reducible refine (endlessE y x HBV.out _).mono ?_); rintro e w' ⟨rfl, hb⟩; exact ⟨rfl, hw.call hb⟩)); simp only [Act.put, Act.eval, List.setIfInBounds_toArray, List.set_cons_zero, List.set_cons_succ, Array.getD_eq_getD_getElem?, List.getElem?_toArray, List.getElem?_cons_zero, List.getElem?_cons_succ, Option.getD_some]))); refine wpQuiet_nil ?_; intro w2 hw2)
          cases bv
          · have HAT := Lib.hid (show ∀ y, ls[k]? = some y → enLt (enA y) (enA x) = false from fun z hz => by rw [HYK.out] at hz; obtain rfl := Option.some.inj hz; exact HBV.out)
            have HBE := Lib.hid (HR.out.trans hw2)
            clear hw2 HF HYK HBV HXr HR
            go_upto_region 10 with fail
            have HPF := fun (w9 : World) (h9 : Below w2.heap.size w2 w9) => ((Bel.of h9).box (HBE.out.box HX6.out))
            obtain ⟨i0, hi0, hz0, hz1, hz2⟩ := info_parts end_info
            have HKL := Lib.hid (show k ≤ ls.length by rw [HLN.out]; omega)
            have HO2 := Lib.hid (own_bel HO6.out HBE.out)
            have hkc : (k : Int) ≤ c1 := by omega
            have hck : c1 ≠ k := by have := HNC.out; omega
            have hknl : (k : Int) ≤ nl := by omega
            have HSR := Lib.hid (own_src_drop HO2.out (Nat.le_of_lt hkn))
            have HDR := Lib.hid (own_src_take HO2.out (Nat.le_of_lt hkn))
            refine region_grow (by kernel_rfl) ?_
            (repeat (first | ((first | refine wpG_go 0 (by simp only [List.getElem?_toArray, List.getElem?_cons_zero, List.getElem?_cons_succ] <;> rfl) (by decide +kernel) (by decide +kernel) (by kernel_rfl) (by rfl) (by exact fun _ _ _ _ h => h) (Nat.le_refl _) ?_ | refine wpG_go 1 (by simp only [List.getElem?_toArray, List.getElem?_cons_zero, List.getElem?_cons_succ] <;> rfl) (by decide +kernel) (by decide +kernel) (by kernel_rfl) (by rfl) (by exact fun _ _ _ _ h => h) (Nat.le_refl _) ?_ | refine wpG_go 2 (by simp only [List.getElem?_toArray, List.getElem?_cons_zero, List.getElem?_cons_succ] <;> rfl) (by decide +kernel) (by decide +kernel) (by kernel_rfl) (by rfl) (by exact fun _ _ _ _ h => h) (Nat.le_refl _) ?_ | refine wpG_go 3 (by simp only [List.getElem?_toArray, List.getElem?_cons_zero, List.getElem?_cons_succ] <;> rfl) (by decide +kernel) (by decide +kernel) (by kernel_rfl) (by rfl) (by exact fun _ _ _ _ h => h) (Nat.le_refl _) ?_ | refine wpG_go 4 (by simp only [List.getElem?_toArray, List.getElem?_cons_zero, List.getElem?_cons_succ] <;> rfl) (by decide +kernel) (by decide +kernel) (by kernel_rfl) (by rfl) (by exact fun _ _ _ _ h => h) (Nat.le_refl _) ?_ | refine wpG_go 6 (by simp only [List.getElem?_toArray, List.getElem?_cons_zero, List.getElem?_cons_succ] <;> rfl) (by decide +kernel) (by decide +kernel) (by kernel_rfl) (by rfl) (by exact fun _ _ _ _ h => h) (Nat.le_refl _) ?_ | refine wpG_go 7 (by simp only [List.getElem?_toArray, List.getElem?_cons_zero, List.getElem?_cons_succ] <;> rfl) (by decide +kernel) (by decide +kernel) (by kernel_rfl) (by rfl) (by exact fun _ _ _ _ h => h) (Nat.le_refl _) ?_ | refine wpG_go 8 (by simp only [List.getElem?_toArray, List.getElem?_cons_zero, List.getElem?_cons_succ] <;> rfl) (by decide +kernel) (by decide +kernel) (by kernel_rfl) (by rfl) (by exact fun _ _ _ _ h => h) (Nat.le_refl _) ?_); apply Exists.intro; refine ⟨fun w1 h1 => ?_, ?_⟩; (first | exact g_move _ rfl | exact g_assign _ rfl | exact g_load _ _ rfl TEnd rfl (HPF w1 h1) | (go_simp; first | exact ⟨rfl, rfl⟩ | rfl)); simp only [Act.put, Act.eval, List.setIfInBounds_toArray, List.set_cons_zero, List.set_cons_succ, Array.getD_eq_getD_getElem?, List.getElem?_toArray, List.getElem?_cons_zero, List.getElem?_cons_succ, Option.getD_some]) | ((first | refine wpG_skip 0 (by simp only [List.getElem?_toArray, List.getElem?_cons_zero, List.getElem?_cons_succ] <;> rfl) (by decide +kernel) (by decide +kernel) (by kernel_rfl) (by rfl) (by exact fun _ _ _ _ h => h) (Nat.le_refl _) ?_ | refine wpG_skip 1 (by simp only [List.getElem?_toArray, List.getElem?_cons_zero, List.getElem?_cons_succ] <;> rfl) (by decide +kernel) (by decide +kernel) (by kernel_rfl) (by rfl) (by exact fun _ _ _ _ h => h) (Nat.le_refl _) ?_ | refine wpG_skip 2 (by simp only [List.getElem?_toArray, List.getElem?_cons_zero, List.getElem?_cons_succ] <;> rfl) (by decide +kernel) (by decide +kernel) (by kernel_rfl) (by rfl) (by exact fun _ _ _ _ h => h) (Nat.le_refl _) ?_ | refine wpG_skip 3 (by simp only [List.getElem?_toArray, List.getElem?_cons_zero, List.getElem?_cons_succ] <;> rfl) (by decide +kernel) (by decide +kernel) (by kernel_rfl) (by rfl) (by exact fun _ _ _ _ h => h) (Nat.le_refl _) ?_ | refine wpG_skip 4 (by simp only [List.getElem?_toArray, List.getElem?_cons_zero, List.getElem?_cons_succ] <;> rfl) (by decide +kernel) (by decide +kernel) (by kernel_rfl) (by rfl) (by exact fun _ _ _ _ h => h) (Nat.le_refl _) ?_ | refine wpG_skip 6 (by simp only [List.getElem?_toArray, List.getElem?_cons_zero, List.getElem?_cons_succ] <;> rfl) (by decide +kernel) (by decide +kernel) (by kernel_rfl) (by rfl) (by exact fun _ _ _ _ h => h) (Nat.le_refl _) ?_ | refine wpG_skip 7 (by simp only [List.getElem?_toArray, List.getElem?_cons_zero, List.getElem?_cons_succ] <;> rfl) (by decide +kernel) (by decide +kernel) (by kernel_rfl) (by rfl) (by exact fun _ _ _ _ h => h) (Nat.le_refl _) ?_ | refine wpG_skip 8 (by simp only [List.getElem?_toArray, List.getElem?_cons_zero, List.getElem?_cons_succ] <;> rfl) (by decide +kernel) (by decide +kernel) (by kernel_rfl) (by rfl) (by exact fun _ _ _ _ h => h) (Nat.le_refl _) ?_); simp only [Act.put, Act.eval, List.setIfInBounds_toArray, List.set_cons_zero, List.set_cons_succ, Array.getD_eq_getD_getElem?, List.getElem?_toArray, List.getElem?_cons_zero, List.getElem?_cons_succ, Option.getD_some])))
            generalize hAB : (if c1 = k then (some ⟨g, 0, none⟩ : Option Addr) else some ⟨g, k * 20, none⟩) = AB at *
            obtain rfl : some (⟨g, k * 20, none⟩ : Addr) = AB := by rw [← hAB, if_neg hck]
            clear hAB
            have HBZ := Lib.hid HBE.out
            have hC0 : Bel w2 w2 := Bel.refl _
            (refine wpG_one 5 (by decide +kernel) ?_; intro y1 hy1; refine op_wanted (by simp only [List.getElem?_toArray, List.getElem?_cons_zero, List.getElem?_cons_succ] <;> rfl) rfl ?_)
            have hE1 := hC0.trans hy1
            refine wp_build_en (.tmp 36) rfl x rfl ⟨Below.alloc (Below.refl _ _) hE1.size _, ?_⟩
            simp only [Act.put, Act.eval, List.setIfInBounds_toArray, List.set_cons_zero, List.set_cons_succ, Array.getD_eq_getD_getElem?, List.getElem?_toArray, List.getElem?_cons_zero, List.getElem?_cons_succ, Option.getD_some]
            have bx := Box.new y1 (enA x) 33
            have hxb : w2.heap.size ≤ y1.heap.size := hE1.size
            have hC2 := hE1.alloc (.cells (enA x) 33)
            generalize y1.heap.size = X1 at *
            generalize y1.alloc (.cells (enA x) 33) = u1 at *
            (refine wpG_one 9 (by decide +kernel) ?_; intro y2 hy2; refine op_wanted (by simp only [List.getElem?_toArray, List.getElem?_cons_zero, List.getElem?_cons_succ] <;> rfl) rfl ?_)
            have hE2 := hC2.trans hy2
            have bx := hy2.box bx
            refine wp_append_src (.tmp 37) (.tmp 40) 23 rfl w2.heap.size 33 i0 _ 20 152 Try.underlying23 hi0 hz0 hz1 hz2 rfl (by omega) _ 1 (enA x).toList rfl (own_lit bx hxb 1 20 (by unfold maxLen; omega) rfl) (some ⟨g, k * 20, none⟩) (nl - k) (c1 - k) (enRow (ls.drop k)) rfl (by rw [row_drop_len, HLN.out]) (HSR.out.keep hE2) (enRow_one _) (by unfold maxLen; omega) (by omega) hE2.size ?_
            intro v9 u9 ho9 hg9 hat9
            refine ⟨grown_below hg9 (own_lit bx hxb 1 20 (by unfold maxLen; omega) rfl) (Nat.le_refl _) hE2.size, ?_⟩
            simp only [Act.put, Act.eval, List.setIfInBounds_toArray, List.set_cons_zero, List.set_cons_succ, Array.getD_eq_getD_getElem?, List.getElem?_toArray, List.getElem?_cons_zero, List.getElem?_cons_succ, Option.getD_some]
            have hC9 : Bel w2 u9 := Bel.of (hE2.out.trans (grown_below hg9 (own_lit bx hxb 1 20 (by unfold maxLen; omega) rfl) (Nat.le_refl _) hE2.size))
            clear hg9 hat9 bx
            obtain ⟨g9, c9, rfl, _, _, _, hcl9⟩ := row_cells ho9 (by omega)
            (refine wpG_one 10 (by decide +kernel) ?_; intro y3 hy3; refine op_wanted (by simp only [List.getElem?_toArray, List.getElem?_cons_zero, List.getElem?_cons_succ] <;> rfl) rfl ?_)
            have hE3 := hC9.trans hy3
            refine wp_append_full (.tmp 35) (.tmp 41) rfl (olds := enRow (ls.take k)) (row_take_len HKL.out) (HDR.out.keep hE3) ⟨g9, 0, none⟩ ho9.1 (fun j u hu => by
              have : (⟨g9, 0, none⟩ : Addr).add j = ⟨g9, j, none⟩ := by unfold Addr.add; split <;> simp_all
              rw [this]
              exact hy3.cell (hcl9 j u hu)) (fun u hu => by
              rcases List.mem_append.1 hu with hu | hu
              · exact enRow_one [x] u (by rw [enRow_cons]; exact List.mem_append_left _ hu)
              · exact (enRow_one _) u hu) (by omega) (by omega) rfl rfl ?_
            intro v10 u10 ho10 hb10
            refine ⟨hb10.out.mono hE3.size, ?_⟩
            simp only [Act.put, Act.eval, List.setIfInBounds_toArray, List.set_cons_zero, List.set_cons_succ, Array.getD_eq_getD_getElem?, List.getElem?_toArray, List.getElem?_cons_zero, List.getElem?_cons_succ, Option.getD_some]
            have hC10 := hE3.trans hb10
            (repeat (first | ((first | refine wpG_go 11 (by simp only [List.getElem?_toArray, List.getElem?_cons_zero, List.getElem?_cons_succ] <;> rfl) (by decide +kernel) (by decide +kernel) (by kernel_rfl) (by rfl) (by exact fun _ _ _ _ h => h) hC10.size ?_); apply Exists.intro; refine ⟨fun w1 h1 => ?_, ?_⟩; (first | exact g_move _ rfl | exact g_assign _ rfl | (go_simp; first | exact ⟨rfl, rfl⟩ | rfl)); simp only [Act.put, Act.eval, List.setIfInBounds_toArray, List.set_cons_zero, List.set_cons_succ, Array.getD_eq_getD_getElem?, List.getElem?_toArray, List.getElem?_cons_zero, List.getElem?_cons_succ, Option.getD_some]) | ((first | refine wpG_skip 11 (by simp only [List.getElem?_toArray, List.getElem?_cons_zero, List.getElem?_cons_succ] <;> rfl) (by decide +kernel) (by decide +kernel) (by kernel_rfl) (by rfl) (by exact fun _ _ _ _ h => h) hC10.size ?_); simp only [Act.put, Act.eval, List.setIfInBounds_toArray, List.set_cons_zero, List.set_cons_succ, Array.getD_eq_getD_getElem?, List.getElem?_toArray, List.getElem?_cons_zero, List.getElem?_cons_succ, Option.getD_some])))
            (refine wpG_done (by decide +kernel) ?_ _; intro wz hwz; try simp only [Act.put, Act.eval, List.setIfInBounds_toArray, List.set_cons_zero, List.set_cons_succ, Array.getD_eq_getD_getElem?, List.getElem?_toArray, List.getElem?_cons_zero, List.getElem?_cons_succ, Option.getD_some])
            have HWZ := Lib.hid (HBZ.out.trans (hC10.trans hwz))
            have HFN := Lib.hid (show EdR P ps w.heap.size w1.heap.size w1 v10 wz from ⟨⟨seen.push b, ds ++ [enA x], ls.take k ++ x :: ls.drop k, HI6.out.grown HWZ.out, HPU.out, by rw [sortE_snoc, HSO.out]; exact ins_at HKL.out HD.out HAT.out, by
              have h1 := own_bel (own_drop_alloc ho10 (b := w1.heap.size + 1) (by have := HS6.out; have := HBZ.out.size; have := hE3.size; omega)) hwz
              rw [enRow_app, enRow_cons]
              have e1 : (ls.take k ++ x :: ls.drop k).length = k + (1 + ((nl - k))) := by
                rw [List.length_append, List.length_take, List.length_cons, List.length_drop, HLN.out]
                have := HKL.out
                have := HLN.out
                omega
              rw [e1]
              skip
              exact h1⟩, HB6.out.trans HWZ.out⟩)
            have HIZ := Lib.hid (HI6.out.grown HWZ.out)
            clear ho10 hb10 hwz ho9 hcl9 hC10 hE3 hy3 hC9 hE2 hy2 hC2 hE1 hy1 hC0 hxb
            go_wp2
            go_roundw
            case rel => exact HFN.out
            case measure =>
              rw [HIZ.out.left, HI.out.left]; exact HLT.out
          · have HDN := Lib.hid (show ∀ j y, j < k + 1 → ls[j]? = some y → enLt (enA y) (enA x) = true from fun j z hj hz => by
              rcases Nat.lt_succ_iff_lt_or_eq.1 hj with hj | rfl
              · exact HD.out j z hj hz
              · rw [HYK.out] at hz; obtain rfl := Option.some.inj hz; exact HBV.out)
            have HBE := Lib.hid (HR.out.trans hw2)
            clear hw2 HF HYK HBV HXr HR
            go_wp2
            go_roundw
            case rel => exact ⟨k + 1, by omega, by go_num, HDN, HBE.out⟩
            case measure => simp [intOf]; omega
        · obtain rfl : k = nl := by omega
          have HAT := Lib.hid (show ∀ y, ls[k]? = some y → enLt (enA y) (enA x) = false from fun z hz => by rw [List.getElem?_eq_none (by rw [HLN.out]; exact Nat.le_refl _)] at hz; cases hz)
          go_upto_region 8 with fail
          (refine region_bel (by kernel_rfl) (by kernel_rfl) ?_; (repeat (first | ((with_reducible refine BigFrame.wpQuiet_skip ?_ ?_); exact rfl; simp only [Act.put, Act.eval, List.setIfInBounds_toArray, List.set_cons_zero, List.set_cons_succ, Array.getD_eq_getD_getElem?, List.getElem?_toArray, List.getElem?_cons_zero, List.getElem?_cons_succ, Option.getD_some]) | (refine q_move _ rfl rfl ?_; simp only [Act.put, Act.eval, List.setIfInBounds_toArray, List.set_cons_zero, List.set_cons_succ, Array.getD_eq_getD_getElem?, List.getElem?_toArray, List.getElem?_cons_zero, List.getElem?_cons_succ, Option.getD_some]) | (refine q_assign _ rfl rfl ?_; simp only [Act.put, Act.eval, List.setIfInBounds_toArray, List.set_cons_zero, List.set_cons_succ, Array.getD_eq_getD_getElem?, List.getElem?_toArray, List.getElem?_cons_zero, List.getElem?_cons_succ, Option.getD_some]) | (refine q_any rfl ?_; apply Exists.intro; refine ⟨fun w hw => ?_, ?_⟩; (go_simp; first | exact ⟨rfl, rfl⟩ | rfl); simp only [Act.put, Act.eval, List.setIfInBounds_toArray, List.set_cons_zero, List.set_cons_succ, Array.getD_eq_getD_getElem?, List.getElem?_toArray, List.getElem?_cons_zero, List.getElem?_cons_succ, Option.getD_some]))); refine wpQuiet_nil ?_; intro w2 hw2)
          have HBE := Lib.hid (HR.out.trans hw2)
          clear hw2 HXr HR
          go_upto_region 10 with fail
          rcases HO6.out.2 with ⟨hv, _⟩ | ⟨g, _, _, hv, _⟩
          · cases hv
            have HPF := fun (w9 : World) (h9 : Below w2.heap.size w2 w9) => ((Bel.of h9).box (HBE.out.box HX6.out))
            obtain ⟨i0, hi0, hz0, hz1, hz2⟩ := info_parts end_info
            have HKL := Lib.hid (show 0 ≤ ls.length by rw [HLN.out]; omega)
            have HO2 := Lib.hid (own_bel HO6.out HBE.out)
            have HDZ := Lib.hid (show ls.drop 0 = [] from List.drop_eq_nil_of_le (by rw [HLN.out]; exact Nat.le_refl _))
            refine region_grow (by kernel_rfl) ?_
            (repeat (first | ((first | refine wpG_go 0 (by simp only [List.getElem?_toArray, List.getElem?_cons_zero, List.getElem?_cons_succ] <;> rfl) (by decide +kernel) (by decide +kernel) (by kernel_rfl) (by rfl) (by exact fun _ _ _ _ h => h) (Nat.le_refl _) ?_ | refine wpG_go 1 (by simp only [List.getElem?_toArray, List.getElem?_cons_zero, List.getElem?_cons_succ] <;> rfl) (by decide +kernel) (by decide +kernel) (by kernel_rfl) (by rfl) (by exact fun _ _ _ _ h => h) (Nat.le_refl _) ?_ | refine wpG_go 2 (by simp only [List.getElem?_toArray, List.getElem?_cons_zero, List.getElem?_cons_succ] <;> rfl) (by decide +kernel) (by decide +kernel) (by kernel_rfl) (by rfl) (by exact fun _ _ _ _ h => h) (Nat.le_refl _) ?_ | refine wpG_go 3 (by simp only [List.getElem?_toArray, List.getElem?_cons_zero, List.getElem?_cons_succ] <;> rfl) (by decide +kernel) (by decide +kernel) (by kernel_rfl) (by rfl) (by exact fun _ _ _ _ h => h) (Nat.le_refl _) ?_ | refine wpG_go 4 (by simp only [List.getElem?_toArray, List.getElem?_cons_zero, List.getElem?_cons_succ] <;> rfl) (by decide +kernel) (by decide +kernel) (by kernel_rfl) (by rfl) (by exact fun _ _ _ _ h => h) (Nat.le_refl _) ?_ | refine wpG_go 6 (by simp only [List.getElem?_toArray, List.getElem?_cons_zero, List.getElem?_cons_succ] <;> rfl) (by decide +kernel) (by decide +kernel) (by kernel_rfl) (by rfl) (by exact fun _ _ _ _ h => h) (Nat.le_refl _) ?_ | refine wpG_go 7 (by simp only [List.getElem?_toArray, List.getElem?_cons_zero, List.getElem?_cons_succ] <;> rfl) (by decide +kernel) (by decide +kernel) (by kernel_rfl) (by rfl) (by exact fun _ _ _ _ h => h) (Nat.le_refl _) ?_ | refine wpG_go 8 (by simp only [List.getElem?_toArray, List.getElem?_cons_zero, List.getElem?_cons_succ] <;> rfl) (by decide +kernel) (by decide +kernel) (by kernel_rfl) (by rfl) (by exact fun _ _ _ _ h => h) (Nat.le_refl _) ?_); apply Exists.intro; refine ⟨fun w1 h1 => ?_, ?_⟩; (first | exact g_move _ rfl | exact g_assign _ rfl | exact g_load _ _ rfl TEnd rfl (HPF w1 h1) | (go_simp; first | exact ⟨rfl, rfl⟩ | rfl)); simp only [Act.put, Act.eval, List.setIfInBounds_toArray, List.set_cons_zero, List.set_cons_succ, Array.getD_eq_getD_getElem?, List.getElem?_toArray, List.getElem?_cons_zero, List.getElem?_cons_succ, Option.getD_some]) | ((first | refine wpG_skip 0 (by simp only [List.getElem?_toArray, List.getElem?_cons_zero, List.getElem?_cons_succ] <;> rfl) (by decide +kernel) (by decide +kernel) (by kernel_rfl) (by rfl) (by exact fun _ _ _ _ h => h) (Nat.le_refl _) ?_ | refine wpG_skip 1 (by simp only [List.getElem?_toArray, List.getElem?_cons_zero, List.getElem?_cons_succ] <;> rfl) (by decide +kernel) (by decide +kernel) (by kernel_rfl) (by rfl) (by exact fun _ _ _ _ h => h) (Nat.le_refl _) ?_ | refine wpG_skip 2 (by simp only [List.getElem?_toArray, List.getElem?_cons_zero, List.getElem?_cons_succ] <;> rfl) (by decide +kernel) (by decide +kernel) (by kernel_rfl) (by rfl) (by exact fun _ _ _ _ h => h) (Nat.le_refl _) ?_ | refine wpG_skip 3 (by simp only [List.getElem?_toArray, List.getElem?_cons_zero, List.getElem?_cons_succ] <;> rfl) (by decide +kernel) (by decide +kernel) (by kernel_rfl) (by rfl) (by exact fun _ _ _ _ h => h) (Nat.le_refl _) ?_ | refine wpG_skip 4 (by simp only [List.getElem?_toArray, List.getElem?_cons_zero, List.getElem?_cons_succ] <;> rfl) (by decide +kernel) (by decide +kernel) (by kernel_rfl) (by rfl) (by exact fun _ _ _ _ h => h) (Nat.le_refl _) ?_ | refine wpG_skip 6 (by simp only [List.getElem?_toArray, List.getElem?_cons_zero, List.getElem?_cons_succ] <;> rfl) (by decide +kernel) (by decide +kernel) (by kernel_rfl) (by rfl) (by exact fun _ _ _ _ h => h) (Nat.le_refl _) ?_ | refine wpG_skip 7 (by simp only [List.getElem?_toArray, List.getElem?_cons_zero, List.getElem?_cons_succ] <;> rfl) (by decide +kernel) (by decide +kernel) (by kernel_rfl) (by rfl) (by exact fun _ _ _ _ h => h) (Nat.le_refl _) ?_ | refine wpG_skip 8 (by simp only [List.getElem?_toArray, List.getElem?_cons_zero, List.getElem?_cons_succ] <;> rfl) (by decide +kernel) (by decide +kernel) (by kernel_rfl) (by rfl) (by exact fun _ _ _ _ h => h) (Nat.le_refl _) ?_); simp only [Act.put, Act.eval, List.setIfInBounds_toArray, List.set_cons_zero, List.set_cons_succ, Array.getD_eq_getD_getElem?, List.getElem?_toArray, List.getElem?_cons_zero, List.getElem?_cons_succ, Option.getD_some])))
            skip
            have HBZ := Lib.hid HBE.out
            have hC0 : Bel w2 w2 := Bel.refl _
            (refine wpG_one 5 (by decide +kernel) ?_; intro y1 hy1; refine op_wanted (by simp only [List.getElem?_toArray, List.getElem?_cons_zero, List.getElem?_cons_succ] <;> rfl) rfl ?_)
            have hE1 := hC0.trans hy1
            refine wp_build_en (.tmp 36) rfl x rfl ⟨Below.alloc (Below.refl _ _) hE1.size _, ?_⟩
            simp only [Act.put, Act.eval, List.setIfInBounds_toArray, List.set_cons_zero, List.set_cons_succ, Array.getD_eq_getD_getElem?, List.getElem?_toArray, List.getElem?_cons_zero, List.getElem?_cons_succ, Option.getD_some]
            have bx := Box.new y1 (enA x) 33
            have hxb : w2.heap.size ≤ y1.heap.size := hE1.size
            have hC2 := hE1.alloc (.cells (enA x) 33)
            generalize y1.heap.size = X1 at *
            generalize y1.alloc (.cells (enA x) 33) = u1 at *
            (refine wpG_one 9 (by decide +kernel) ?_; intro y2 hy2; refine op_wanted (by simp only [List.getElem?_toArray, List.getElem?_cons_zero, List.getElem?_cons_succ] <;> rfl) rfl ?_)
            have hE2 := hC2.trans hy2
            have bx := hy2.box bx
            refine wp_append_src (.tmp 37) (.tmp 40) 23 rfl w2.heap.size 33 i0 _ 20 152 Try.underlying23 hi0 hz0 hz1 hz2 rfl (by omega) _ 1 (enA x).toList rfl (own_lit bx hxb 1 20 (by unfold maxLen; omega) rfl) none 0 0 [] rfl rfl (src_zero _ _) (fun u hu => (by cases hu)) (by unfold maxLen; omega) (by omega) hE2.size ?_
            intro v9 u9 ho9 hg9 hat9
            refine ⟨grown_below hg9 (own_lit bx hxb 1 20 (by unfold maxLen; omega) rfl) (Nat.le_refl _) hE2.size, ?_⟩
            simp only [Act.put, Act.eval, List.setIfInBounds_toArray, List.set_cons_zero, List.set_cons_succ, Array.getD_eq_getD_getElem?, List.getElem?_toArray, List.getElem?_cons_zero, List.getElem?_cons_succ, Option.getD_some]
            have hC9 : Bel w2 u9 := Bel.of (hE2.out.trans (grown_below hg9 (own_lit bx hxb 1 20 (by unfold maxLen; omega) rfl) (Nat.le_refl _) hE2.size))
            clear hg9 hat9 bx
            obtain ⟨g9, c9, rfl, _, _, _, hcl9⟩ := row_cells ho9 (by omega)
            (refine wpG_one 10 (by decide +kernel) ?_; intro y3 hy3; refine op_wanted (by simp only [List.getElem?_toArray, List.getElem?_cons_zero, List.getElem?_cons_succ] <;> rfl) rfl ?_)
            have hE3 := hC9.trans hy3
            refine wp_append_full (.tmp 35) (.tmp 41) rfl (olds := []) rfl (src_zero _ _) ⟨g9, 0, none⟩ ho9.1 (fun j u hu => by
              have : (⟨g9, 0, none⟩ : Addr).add j = ⟨g9, j, none⟩ := by unfold Addr.add; split <;> simp_all
              rw [this]
              exact hy3.cell (hcl9 j u hu)) (fun u hu => by
              rcases List.mem_append.1 hu with hu | hu
              · exact enRow_one [x] u (by rw [enRow_cons]; exact List.mem_append_left _ hu)
              · exact (fun u hu => (by cases hu)) u hu) (by omega) (by omega) rfl rfl ?_
            intro v10 u10 ho10 hb10
            refine ⟨hb10.out.mono hE3.size, ?_⟩
            simp only [Act.put, Act.eval, List.setIfInBounds_toArray, List.set_cons_zero, List.set_cons_succ, Array.getD_eq_getD_getElem?, List.getElem?_toArray, List.getElem?_cons_zero, List.getElem?_cons_succ, Option.getD_some]
            have hC10 := hE3.trans hb10
            (repeat (first | ((first | refine wpG_go 11 (by simp only [List.getElem?_toArray, List.getElem?_cons_zero, List.getElem?_cons_succ] <;> rfl) (by decide +kernel) (by decide +kernel) (by kernel_rfl) (by rfl) (by exact fun _ _ _ _ h => h) hC10.size ?_); apply Exists.intro; refine ⟨fun w1 h1 => ?_, ?_⟩; (first | exact g_move _ rfl | exact g_assign _ rfl | (go_simp; first | exact ⟨rfl, rfl⟩ | rfl)); simp only [Act.put, Act.eval, List.setIfInBounds_toArray, List.set_cons_zero, List.set_cons_succ, Array.getD_eq_getD_getElem?, List.getElem?_toArray, List.getElem?_cons_zero, List.getElem?_cons_succ, Option.getD_some]) | ((first | refine wpG_skip 11 (by simp only [List.getElem?_toArray, List.getElem?_cons_zero, List.getElem?_cons_succ] <;> rfl) (by decide +kernel) (by decide +kernel) (by kernel_rfl) (by rfl) (by exact fun _ _ _ _ h => h) hC10.size ?_); simp only [Act.put, Act.eval, List.setIfInBounds_toArray, List.set_cons_zero, List.set_cons_succ, Array.getD_eq_getD_getElem?, List.getElem?_toArray, List.getElem?_cons_zero, List.getElem?_cons_succ, Option.getD_some])))
            (refine wpG_done (by decide +kernel) ?_ _; intro wz hwz; try simp only [Act.put, Act.eval, List.setIfInBounds_toArray, List.set_cons_zero, List.set_cons_succ, Array.getD_eq_getD_getElem?, List.getElem?_toArray, List.getElem?_cons_zero, List.getElem?_cons_succ, Option.getD_some])
            have HWZ := Lib.hid (HBZ.out.trans (hC10.trans hwz))
            have HFN := Lib.hid (show EdR P ps w.heap.size w1.heap.size w1 v10 wz from ⟨⟨seen.push b, ds ++ [enA x], ls.take 0 ++ x :: ls.drop 0, HI6.out.grown HWZ.out, HPU.out, by rw [sortE_snoc, HSO.out]; exact ins_at HKL.out HD.out HAT.out, by
              have h1 := own_bel (own_drop_alloc ho10 (b := w1.heap.size + 1) (by have := HS6.out; have := HBZ.out.size; have := hE3.size; omega)) hwz
              rw [enRow_app, enRow_cons]
              have e1 : (ls.take 0 ++ x :: ls.drop 0).length = 0 + (1 + (0)) := by
                rw [List.length_append, List.length_take, List.length_cons, List.length_drop, HLN.out]
                have := HKL.out
                have := HLN.out
                omega
              rw [e1]
              rw [HDZ.out]; rw [show enRow ([] : List En) = [] from rfl, show enRow (ls.take 0) = [] from rfl]
              exact h1⟩, HB6.out.trans HWZ.out⟩)
            have HIZ := Lib.hid (HI6.out.grown HWZ.out)
            clear ho10 hb10 hwz ho9 hcl9 hC10 hE3 hy3 hC9 hE2 hy2 hC2 hE1 hy1 hC0 hxb
            go_wp2
            go_roundw
            case rel => exact HFN.out
            case measure =>
              rw [HIZ.out.left, HI.out.left]; exact HLT.out
          · cases hv
            have HPF := fun (w9 : World) (h9 : Below w2.heap.size w2 w9) => ((Bel.of h9).box (HBE.out.box HX6.out))
            obtain ⟨i0, hi0, hz0, hz1, hz2⟩ := info_parts end_info
            have HKL := Lib.hid (show k ≤ ls.length by rw [HLN.out]; omega)
            have HO2 := Lib.hid (own_bel HO6.out HBE.out)
            have hkc : (k : Int) ≤ c1 := by omega
            have HDR := Lib.hid (own_src_take HO2.out (Nat.le_refl k))
            have HDZ := Lib.hid (show ls.drop k = [] from List.drop_eq_nil_of_le (by rw [HLN.out]; exact Nat.le_refl _))
            refine region_grow (by kernel_rfl) ?_
            (repeat (first | ((first | refine wpG_go 0 (by simp only [List.getElem?_toArray, List.getElem?_cons_zero, List.getElem?_cons_succ] <;> rfl) (by decide +kernel) (by decide +kernel) (by kernel_rfl) (by rfl) (by exact fun _ _ _ _ h => h) (Nat.le_refl _) ?_ | refine wpG_go 1 (by simp only [List.getElem?_toArray, List.getElem?_cons_zero, List.getElem?_cons_succ] <;> rfl) (by decide +kernel) (by decide +kernel) (by kernel_rfl) (by rfl) (by exact fun _ _ _ _ h => h) (Nat.le_refl _) ?_ | refine wpG_go 2 (by simp only [List.getElem?_toArray, List.getElem?_cons_zero, List.getElem?_cons_succ] <;> rfl) (by decide +kernel) (by decide +kernel) (by kernel_rfl) (by rfl) (by exact fun _ _ _ _ h => h) (Nat.le_refl _) ?_ | refine wpG_go 3 (by simp only [List.getElem?_toArray, List.getElem?_cons_zero, List.getElem?_cons_succ] <;> rfl) (by decide +kernel) (by decide +kernel) (by kernel_rfl) (by rfl) (by exact fun _ _ _ _ h => h) (Nat.le_refl _) ?_ | refine wpG_go 4 (by simp only [List.getElem?_toArray, List.getElem?_cons_zero, List.getElem?_cons_succ] <;> rfl) (by decide +kernel) (by decide +kernel) (by kernel_rfl) (by rfl) (by exact fun _ _ _ _ h => h) (Nat.le_refl _) ?_ | refine wpG_go 6 (by simp only [List.getElem?_toArray, List.getElem?_cons_zero, List.getElem?_cons_succ] <;> rfl) (by decide +kernel) (by decide +kernel) (by kernel_rfl) (by rfl) (by exact fun _ _ _ _ h => h) (Nat.le_refl _) ?_ | refine wpG_go 7 (by simp only [List.getElem?_toArray, List.getElem?_cons_zero, List.getElem?_cons_succ] <;> rfl) (by decide +kernel) (by decide +kernel) (by kernel_rfl) (by rfl) (by exact fun _ _ _ _ h => h) (Nat.le_refl _) ?_ | refine wpG_go 8 (by simp only [List.getElem?_toArray, List.getElem?_cons_zero, List.getElem?_cons_succ] <;> rfl) (by decide +kernel) (by decide +kernel) (by kernel_rfl) (by rfl) (by exact fun _ _ _ _ h => h) (Nat.le_refl _) ?_); apply Exists.intro; refine ⟨fun w1 h1 => ?_, ?_⟩; (first | exact g_move _ rfl | exact g_assign _ rfl | exact g_load _ _ rfl TEnd rfl (HPF w1 h1) | (go_simp; first | exact ⟨rfl, rfl⟩ | rfl)); simp only [Act.put, Act.eval, List.setIfInBounds_toArray, List.set_cons_zero, List.set_cons_succ, Array.getD_eq_getD_getElem?, List.getElem?_toArray, List.getElem?_cons_zero, List.getElem?_cons_succ, Option.getD_some]) | ((first | refine wpG_skip 0 (by simp only [List.getElem?_toArray, List.getElem?_cons_zero, List.getElem?_cons_succ] <;> rfl) (by decide +kernel) (by decide +kernel) (by kernel_rfl) (by rfl) (by exact fun _ _ _ _ h => h) (Nat.le_refl _) ?_ | refine wpG_skip 1 (by simp only [List.getElem?_toArray, List.getElem?_cons_zero, List.getElem?_cons_succ] <;> rfl) (by decide +kernel) (by decide +kernel) (by kernel_rfl) (by rfl) (by exact fun _ _ _ _ h => h) (Nat.le_refl _) ?_ | refine wpG_skip 2 (by simp only [List.getElem?_toArray, List.getElem?_cons_zero, List.getElem?_cons_succ] <;> rfl) (by decide +kernel) (by decide +kernel) (by kernel_rfl) (by rfl) (by exact fun _ _ _ _ h => h) (Nat.le_refl _) ?_ | refine wpG_skip 3 (by simp only [List.getElem?_toArray, List.getElem?_cons_zero, List.getElem?_cons_succ] <;> rfl) (by decide +kernel) (by decide +kernel) (by kernel_rfl) (by rfl) (by exact fun _ _ _ _ h => h) (Nat.le_refl _) ?_ | refine wpG_skip 4 (by simp only [List.getElem?_toArray, List.getElem?_cons_zero, List.getElem?_cons_succ] <;> rfl) (by decide +kernel) (by decide +kernel) (by kernel_rfl) (by rfl) (by exact fun _ _ _ _ h => h) (Nat.le_refl _) ?_ | refine wpG_skip 6 (by simp only [List.getElem?_toArray, List.getElem?_cons_zero, List.getElem?_cons_succ] <;> rfl) (by decide +kernel) (by decide +kernel) (by kernel_rfl) (by rfl) (by exact fun _ _ _ _ h => h) (Nat.le_refl _) ?_ | refine wpG_skip 7 (by simp only [List.getElem?_toArray, List.getElem?_cons_zero, List.getElem?_cons_succ] <;> rfl) (by decide +kernel) (by decide +kernel) (by kernel_rfl) (by rfl) (by exact fun _ _ _ _ h => h) (Nat.le_refl _) ?_ | refine wpG_skip 8 (by simp only [List.getElem?_toArray, List.getElem?_cons_zero, List.getElem?_cons_succ] <;> rfl) (by decide +kernel) (by decide +kernel) (by kernel_rfl) (by rfl) (by exact fun _ _ _ _ h => h) (Nat.le_refl _) ?_); simp only [Act.put, Act.eval, List.setIfInBounds_toArray, List.set_cons_zero, List.set_cons_succ, Array.getD_eq_getD_getElem?, List.getElem?_toArray, List.getElem?_cons_zero, List.getElem?_cons_succ, Option.getD_some])))
            generalize (if c1 = k then (some ⟨g, 0, none⟩ : Option Addr) else some ⟨g, k * 20, none⟩) = AB at *
            have HBZ := Lib.hid HBE.out
            have hC0 : Bel w2 w2 := Bel.refl _
            (refine wpG_one 5 (by decide +kernel) ?_; intro y1 hy1; refine op_wanted (by simp only [List.getElem?_toArray, List.getElem?_cons_zero, List.getElem?_cons_succ] <;> rfl) rfl ?_)
            have hE1 := hC0.trans hy1
            refine wp_build_en (.tmp 36) rfl x rfl ⟨Below.alloc (Below.refl _ _) hE1.size _, ?_⟩
            simp only [Act.put, Act.eval, List.setIfInBounds_toArray, List.set_cons_zero, List.set_cons_succ, Array.getD_eq_getD_getElem?, List.getElem?_toArray, List.getElem?_cons_zero, List.getElem?_cons_succ, Option.getD_some]
            have bx := Box.new y1 (enA x) 33
            have hxb : w2.heap.size ≤ y1.heap.size := hE1.size
            have hC2 := hE1.alloc (.cells (enA x) 33)
            generalize y1.heap.size = X1 at *
            generalize y1.alloc (.cells (enA x) 33) = u1 at *
            (refine wpG_one 9 (by decide +kernel) ?_; intro y2 hy2; refine op_wanted (by simp only [List.getElem?_toArray, List.getElem?_cons_zero, List.getElem?_cons_succ] <;> rfl) rfl ?_)
            have hE2 := hC2.trans hy2
            have bx := hy2.box bx
            refine wp_append_src (.tmp 37) (.tmp 40) 23 rfl w2.heap.size 33 i0 _ 20 152 Try.underlying23 hi0 hz0 hz1 hz2 rfl (by omega) _ 1 (enA x).toList rfl (own_lit bx hxb 1 20 (by unfold maxLen; omega) rfl) AB 0 (c1 - k) [] rfl rfl (src_zero _ _) (fun u hu => (by cases hu)) (by unfold maxLen; omega) (by omega) hE2.size ?_
            intro v9 u9 ho9 hg9 hat9
            refine ⟨grown_below hg9 (own_lit bx hxb 1 20 (by unfold maxLen; omega) rfl) (Nat.le_refl _) hE2.size, ?_⟩
            simp only [Act.put, Act.eval, List.setIfInBounds_toArray, List.set_cons_zero, List.set_cons_succ, Array.getD_eq_getD_getElem?, List.getElem?_toArray, List.getElem?_cons_zero, List.getElem?_cons_succ, Option.getD_some]
            have hC9 : Bel w2 u9 := Bel.of (hE2.out.trans (grown_below hg9 (own_lit bx hxb 1 20 (by unfold maxLen; omega) rfl) (Nat.le_refl _) hE2.size))
            clear hg9 hat9 bx
            obtain ⟨g9, c9, rfl, _, _, _, hcl9⟩ := row_cells ho9 (by omega)
            (refine wpG_one 10 (by decide +kernel) ?_; intro y3 hy3; refine op_wanted (by simp only [List.getElem?_toArray, List.getElem?_cons_zero, List.getElem?_cons_succ] <;> rfl) rfl ?_)
            have hE3 := hC9.trans hy3
            refine wp_append_full (.tmp 35) (.tmp 41) rfl (olds := enRow (ls.take k)) (row_take_len HKL.out) (HDR.out.keep hE3) ⟨g9, 0, none⟩ ho9.1 (fun j u hu => by
              have : (⟨g9, 0, none⟩ : Addr).add j = ⟨g9, j, none⟩ := by unfold Addr.add; split <;> simp_all
              rw [this]
              exact hy3.cell (hcl9 j u hu)) (fun u hu => by
              rcases List.mem_append.1 hu with hu | hu
              · exact enRow_one [x] u (by rw [enRow_cons]; exact List.mem_append_left _ hu)
              · exact (fun u hu => (by cases hu)) u hu) (by omega) (by omega) rfl rfl ?_
            intro v10 u10 ho10 hb10
            refine ⟨hb10.out.mono hE3.size, ?_⟩
            simp only [Act.put, Act.eval, List.setIfInBounds_toArray, List.set_cons_zero, List.set_cons_succ, Array.getD_eq_getD_getElem?, List.getElem?_toArray, List.getElem?_cons_zero, List.getElem?_cons_succ, Option.getD_some]
            have hC10 := hE3.trans hb10
            (repeat (first | ((first | refine wpG_go 11 (by simp only [List.getElem?_toArray, List.getElem?_cons_zero, List.getElem?_cons_succ] <;> rfl) (by decide +kernel) (by decide +kernel) (by kernel_rfl) (by rfl) (by exact fun _ _ _ _ h => h) hC10.size ?_); apply Exists.intro; refine ⟨fun w1 h1 => ?_, ?_⟩; (first | exact g_move _ rfl | exact g_assign _ rfl | (go_simp; first | exact ⟨rfl, rfl⟩ | rfl)); simp only [Act.put, Act.eval, List.setIfInBounds_toArray, List.set_cons_zero, List.set_cons_succ, Array.getD_eq_getD_getElem?, List.getElem?_toArray, List.getElem?_cons_zero, List.getElem?_cons_succ, Option.getD_some]) | ((first | refine wpG_skip 11 (by simp only [List.getElem?_toArray, List.getElem?_cons_zero, List.getElem?_cons_succ] <;> rfl) (by decide +kernel) (by decide +kernel) (by kernel_rfl) (by rfl) (by exact fun _ _ _ _ h => h) hC10.size ?_); simp only [Act.put, Act.eval, List.setIfInBounds_toArray, List.set_cons_zero, List.set_cons_succ, Array.getD_eq_getD_getElem?, List.getElem?_toArray, List.getElem?_cons_zero, List.getElem?_cons_succ, Option.getD_some])))
            (refine wpG_done (by decide +kernel) ?_ _; intro wz hwz; try simp only [Act.put, Act.eval, List.setIfInBounds_toArray, List.set_cons_zero, List.set_cons_succ, Array.getD_eq_getD_getElem?, List.getElem?_toArray, List.getElem?_cons_zero, List.getElem?_cons_succ, Option.getD_some])
            have HWZ := Lib.hid (HBZ.out.trans (hC10.trans hwz))
            have HFN := Lib.hid (show EdR P ps w.heap.size w1.heap.size w1 v10 wz from ⟨⟨seen.push b, ds ++ [enA x], ls.take k ++ x :: ls.drop k, HI6.out.grown HWZ.out, HPU.out, by rw [sortE_snoc, HSO.out]; exact ins_at HKL.out HD.out HAT.out, by
              have h1 := own_bel (own_drop_alloc ho10 (b := w1.heap.size + 1) (by have := HS6.out; have := HBZ.out.size; have := hE3.size; omega)) hwz
              rw [enRow_app, enRow_cons]
              have e1 : (ls.take k ++ x :: ls.drop k).length = k + (1 + (0)) := by
                rw [List.length_append, List.length_take, List.length_cons, List.length_drop, HLN.out]
                have := HKL.out
                have := HLN.out
                omega
              rw [e1]
              rw [HDZ.out]; rw [show enRow ([] : List En) = [] from rfl]
              exact h1⟩, HB6.out.trans HWZ.out⟩)
            have HIZ := Lib.hid (HI6.out.grown HWZ.out)
            clear ho10 hb10 hwz ho9 hcl9 hC10 hE3 hy3 hC9 hE2 hy2 hC2 hE1 hy1 hC0 hxb
            go_wp2
            go_roundw
            case rel => exact HFN.out
            case measure =>
              rw [HIZ.out.left, HI.out.left]; exact HLT.out
end Go.Proofs.Ytlcldcbdobgdbaa

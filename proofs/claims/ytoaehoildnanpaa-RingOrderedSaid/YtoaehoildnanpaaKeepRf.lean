/- A trace's graph as pairs of numbers; what the start of a trace tells; locks taken upwards make no ring. -/
import Derived.Test.YtoaehoildnanpaaRgF
import Derived.Test.YtoaehoildnanpaaKeepRg
import Derived.Test.YtoaehoildnanpaaRgK
set_option linter.all false
set_option maxRecDepth 100000
namespace Go.Proofs.Ytoaehoildnanpaa
open Go Go.RowKit

def edL (l : List Ev) : List (Int × Int) := (prsA (fun a b => edge l a b) 5).map intp
theorem edL_mem {l : List Ev} {x : Int × Int} : x ∈ edL l ↔ ∃ a b : Nat, x = ((a : Int), (b : Int)) ∧ a < 5 ∧ b < 5 ∧ edge l a b = true := by
  unfold edL
  rw [List.mem_map]
  constructor
  · rintro ⟨⟨a, b⟩, hp, rfl⟩
    obtain ⟨h1, h2, h3⟩ := mem_prsA.1 hp
    exact ⟨a, b, rfl, h1, h2, h3⟩
  · rintro ⟨a, b, rfl, h1, h2, h3⟩
    exact ⟨(a, b), mem_prsA.2 ⟨h1, h2, h3⟩, rfl⟩
theorem edL_in (l : List Ev) : (edL l).any qbad = false := by
  rw [List.any_eq_false]
  intro x hx
  obtain ⟨a, b, rfl, h1, h2, _⟩ := edL_mem.1 hx
  rw [qbad_in, inB_yes (by omega) (by omega), inB_yes (by omega) (by omega)]
  simp
theorem edL_len (l : List Ev) : (edL l).length ≤ 6480 := by
  unfold edL
  rw [List.length_map]
  exact prs_small (n := 5) (i := 5) (j := 0) (by omega) (by omega) (by omega)
theorem edge_take {l : List Ev} {k : Nat} {a b : Int} (h : edge (l.take k) a b = true) : edge l a b = true := by
  unfold edge at h ⊢
  rw [List.any_eq_true] at h ⊢
  obtain ⟨i, hi, h⟩ := h
  have hi := List.mem_range.1 hi
  rw [List.length_take] at hi
  refine ⟨i, List.mem_range.2 (by omega), ?_⟩
  have e1 : evA (l.take k) i = evA l i := by unfold evA; rw [List.getElem?_take_of_lt (by omega)]
  have e2 : (l.take k).take i = l.take i := by rw [List.take_take, Nat.min_eq_left (by omega)]
  unfold edgeAt at h ⊢
  rwa [e1, e2] at h
theorem edL_take {l : List Ev} (k : Nat) : ∀ x ∈ edL (l.take k), x ∈ edL l := fun x hx => by
  obtain ⟨a, b, rfl, h1, h2, h3⟩ := edL_mem.1 hx
  exact edL_mem.2 ⟨a, b, rfl, h1, h2, edge_take h3⟩
def GphQ (w : World) (l : List Ev) (e : Ending) (w' : World) : Prop :=
  ∃ A c, e = .returned (.tuple #[.slice A (edL l).length c, .int .i64 0]) ∧ SlQ w' A (edL l).length (edL l) ∧ (edL l).length ≤ c ∧ c ≤ maxLen ∧ Below w.heap.size w w'
theorem graph_q (A : Option Addr) (n c : Nat) (l : List Ev) (w : World) (hl : Sl w A n l) (hnc : n ≤ c) (hc : c ≤ 9223372036854775807) (hm : may l = 0) : Calls Try.prog 12 #[.slice A n c] w (GphQ w l) :=
  (graph_ok A n c l w hl hnc hc hm).mono fun e w' ⟨v, h1, h2, h3⟩ => by
    rw [prc_qrc] at h2
    obtain ⟨A1, c1, rfl, hs, hn, hm⟩ := SlQ.own h2
    have e : (prsA (fun a b => edge l a b) 5).length = (edL l).length := by unfold edL; rw [List.length_map]
    rw [e] at h1 hs hn
    exact ⟨A1, c1, h1, hs, hn, hm, h3⟩

/-! Locks taken upwards. -/
theorem hset_high {f : Nat → Bool} {o a : Nat} (ho : o < 5) (ha : a < 5) (h : hset f / 2 ^ o = 0) (hf : f a = true) : a < o := by
  have key : ∀ (b0 b1 b2 b3 b4 : Bool) (o a : Fin 5), hs5 b0 b1 b2 b3 b4 / 2 ^ o.val = 0 → (match a.val with | 0 => b0 | 1 => b1 | 2 => b2 | 3 => b3 | _ => b4) = true → a.val < o.val := by decide +kernel
  refine key (f 0) (f 1) (f 2) (f 3) (f 4) ⟨o, ho⟩ ⟨a, ha⟩ h ?_
  match a, ha with
  | 0, _ => exact hf
  | 1, _ => exact hf
  | 2, _ => exact hf
  | 3, _ => exact hf
  | 4, _ => exact hf
/-- Event i, if it acquires, acquires above all that its thread has. -/
def UpAt (l : List Ev) (i : Nat) : Prop := ∀ (e : Ev) (o : Nat), l[i]? = some e → e.k = 3 → e.o = o → o < 5 → held (l.take i) e.t / 2 ^ o = 0
theorem up_ring {l : List Ev} (h : ∀ i, i < l.length → UpAt l i) {r : List Nat} (hr : RingOk (Pq (edL l)) r) : r = [] := by
  apply Classical.byContradiction
  intro hne
  refine rank_cyc (f := id) (fun a b hab => ?_) r (ringOk_cyc hr hne)
  obtain ⟨a', b', hx, h1, h2, h3⟩ := edL_mem.1 (of_decide_eq_true hab)
  have ha : a' = a := by have := congrArg Prod.fst hx; simp at this; omega
  have hb : b' = b := by have := congrArg Prod.snd hx; simp at this; omega
  subst ha; subst hb
  unfold edge at h3
  rw [List.any_eq_true] at h3
  obtain ⟨i, hi, h3⟩ := h3
  have hi := List.mem_range.1 hi
  have he : l[i]? = some l[i] := List.getElem?_eq_getElem hi
  unfold edgeAt at h3
  rw [evA_at he] at h3
  simp only [Bool.and_eq_true, beq_iff_eq] at h3
  obtain ⟨⟨h4, h5⟩, h6⟩ := h3
  have h7 := h i hi l[i] b' he h4 h5 h2
  exact hset_high h2 h1 h7 (decide_eq_true h6)
end Go.Proofs.Ytoaehoildnanpaa

/- Contracts of the package trace: Check. -/
import Derived.Test.YtipjgcklnceohaaTrace3
import Derived.Test.YtipjgcklnceohaaTr2
import Derived.Maps.AppendAt
set_option linter.all false
set_option maxRecDepth 100000
namespace Go.Proofs.Ytipjgcklnceohaa
open Go.RowKit

section
variable {P : Program} {ops : Array Oper} {rest : List Oper} {o : Oper} {a : Act} {w : World} {Q : Exit → Act → World → Prop}
theorem storeT {ty : TypeId} {n : Nat} (hT : RowTy P ty n) (x y : Operand) (ho : o.op = .store ty x y) (hgd : o.guard = none) {c' : Array Value} (hy : a.eval y = .agg c') (hn : c'.size = n) {B : Nat} (hx : a.eval x = .pointer (some ⟨B, 0, none⟩))
    {c : Array Value} {t : TypeId} (hb : Box w B c t) (hs : c.size = n) (h1 : c'.all (·.oneCell') = true) (h : wpList P ops Q rest (a.put o.dst undef) (w.setRow B c')) : wpList P ops Q (o :: rest) a w :=
  storeB ty x y ho hgd hx hy hb (by rw [hs, hn]) (by rw [hn]; exact hT) h1 h
theorem loadT {ty : TypeId} {n : Nat} (hT : RowTy P ty n) (x : Operand) (ho : o.op = .load ty x) (hgd : o.guard = none) {B : Nat} (hx : a.eval x = .pointer (some ⟨B, 0, none⟩)) {c : Array Value} {t : TypeId} (hb : Box w B c t) (hs : c.size = n)
    (h : wpList P ops Q rest (a.put o.dst (.agg c)) w) : wpList P ops Q (o :: rest) a w :=
  loadB ty x ho hgd hx hb (by rw [hs]; exact hT) h
end
theorem fol_size (l : List Ev) : (fol l).size = 18 := by unfold fol; split <;> rfl
theorem fol_all (l : List Ev) : (fol l).all (·.oneCell') = true := by
  unfold fol; split
  · exact st18_all _ _ _
  · exact st18_all _ _ _

set_option maxHeartbeats 1000000 in
theorem check_any (A : Option Addr) (n c : Nat) (l : List Ev) (w : World) (hl : Sl w A n l) :
    Calls Try.prog 25 #[.slice A n c] w fun e w' => e = .returned (.tuple #[.int .i64 (check l).1, .int .i64 (check l).2]) ∧ Below w.heap.size w w' := by
  have HL := Lib.hid hl
  clear hl
  go_enter Try.func25, Try.ntmps25
  go_wp2_with fail
  refine (follow_any A n c l _ HL.out).mono ?_
  rintro e w1 ⟨rfl, hb⟩
  have HB := Lib.hid hb
  clear hb
  have bx := Lib.hid (Box.new w1 #[.bool false, .bool false, .bool false, .bool false, .bool false, .bool false, .bool false, .bool false, .bool false, .bool false, .bool false, .bool false, .int .i64 0, .int .i64 0, .int .i64 0, .int .i64 0, .int .i64 0, .int .i64 0] 85)
  have hz := fol_size l
  have HZ := Lib.hid hz
  clear hz
  go_wp2_with (refine storeT T52 _ _ rfl rfl rfl HZ.out rfl bx.out rfl (fol_all l) ?_)
  go_ret2
  exact ⟨rfl, below_setRow' (HB.out.alloc HB.out.size _) _ _ HB.out.size⟩

theorem own_block_ge {w : World} {base : Nat} {e : TypeId} {size n : Nat} {v : Value} {xs : List Value} (h : w.ownsRow base e size v n xs) : ∀ k, v.ownBlock = some k → base ≤ k := by
  intro k hk
  rcases h.2 with ⟨rfl, _⟩ | ⟨g, cap, cur, rfl, hg, _⟩
  · cases hk
  · simp [Value.ownBlock] at hk; omega
theorem own_alloc {w : World} {base : Nat} {e : TypeId} {size n : Nat} {v : Value} {xs : List Value} (h : w.ownsRow base e size v n xs) (o : Obj) : (w.alloc o).ownsRow base e size v n xs :=
  h.kept (World.grownBy_alloc w o none) (by
    cases hv : v.ownBlock
    · exact .inl rfl
    · exact .inr (by simp))
end Go.Proofs.Ytipjgcklnceohaa

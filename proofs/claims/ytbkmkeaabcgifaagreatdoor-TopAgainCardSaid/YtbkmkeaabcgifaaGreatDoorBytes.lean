/- Rows of bytes of the call's own: their text, and what is appended. -/
import Derived.Test.YtbkmkeaabcgifaaGreatDoorChr
import Derived.Test.YtbkmkeaabcgifaaGreatDoorAppend
import Derived.Test.YtbkmkeaabcgifaaGreatDoorKeepTw
set_option linter.all false
set_option maxRecDepth 100000
namespace Go.Proofs.YtbkmkeaabcgifaaGreatDoor
open Go Go.RowKit

def u8s (l : List UInt8) : List Value := l.map fun b => .int .u8 (b.toNat : Int)
theorem u8s_append (l m : List UInt8) : u8s (l ++ m) = u8s l ++ u8s m := by simp [u8s]
theorem u8s_one (l : List UInt8) : ∀ v ∈ u8s l, v.oneCell' = true := by
  intro v hv
  simp only [u8s, List.mem_map] at hv
  obtain ⟨b, _, rfl⟩ := hv
  rfl
theorem u8_info : (Tryz.prog.info? 5).map (fun i => (i.zero, i.size, i.bytes)) = some (some (.int .u8 0), 1, 1) := by kernel_rfl
theorem push_all (l : List UInt8) (r : List UInt8) : ((l.map fun b => (b.toNat : Int)).foldl (fun r n => r.push (UInt8.ofNat n.toNat)) (str r)) = str (r ++ l) := by
  induction l generalizing r with
  | nil => simp
  | cons b l ih =>
    simp only [List.map_cons, List.foldl_cons]
    have : (str r).push (UInt8.ofNat ((b.toNat : Int).toNat)) = str (r ++ [b]) := by
      apply ByteArray.ext
      simp [str]
    rw [this, ih, List.append_assoc]
    rfl
/-- The text of a row of bytes. -/
theorem own_string {w : World} {base : Nat} {v : Value} {n : Nat} {l : List UInt8} (h : w.ownsRow base 5 1 v n (u8s l)) (h0 : 0 < n) :
    (convert 52 9 v).run Tryz.prog w = .ok (.string (str l)) w := by
  rcases h.2 with ⟨_, hn⟩ | ⟨g, cap, cur, rfl, _, hg, hnc, _, hs, ht⟩
  · omega
  · rw [run_convert_bytes_string w _ _ 5 _ _ _ Tryz.underlying52 Tryz.underlying5 Tryz.underlying9]
    have hb : Box w g cur 5 := hg
    rw [Nat.mul_one] at ht hs
    have hl : (loadCells ⟨g, 0, none⟩ n).run Tryz.prog w = .ok ((l.map fun b => (b.toNat : Int)).map (Value.int .u8)).toArray w := by
      have hlen : (u8s l).length = n := by have := h.1; omega
      have := run_loadCells_list (P := Tryz.prog) w ⟨g, 0, none⟩ (u8s l) (fun j v hv => by
        have hadd : (⟨g, 0, none⟩ : Addr).add j = ⟨g, j, none⟩ := by unfold Addr.add; split <;> simp_all
        rw [hadd]
        refine hb.cell j ?_
        rw [← ht, List.getElem?_take] at hv
        split at hv
        · simpa using hv
        · cases hv)
      rw [hlen] at this
      rw [this, List.map_map]
      rfl
    rw [run_bytesToString w ⟨g, 0, none⟩ n cap _ hl]
    have := push_all l []
    rw [List.nil_append] at this
    rw [← this]
    rfl
/-- 'string(row)' as an operation. -/
theorem convOwn {ops : Array Oper} {rest : List Oper} {o : Oper} {a : Act} {w : World} {Q : Exit → Act → World → Prop} (x : Operand) (ho : o.op = .convert 52 9 x) (hgd : o.guard = none) {base : Nat} {v : Value} {n : Nat} {xs : List Value} (l : List UInt8)
    (hv : a.eval x = v) (h : w.ownsRow base 5 1 v n xs) (hx : xs = u8s l) (h0 : 0 < n) (hk : wpList Tryz.prog ops Q rest (a.put o.dst (.string (str l))) w) : wpList Tryz.prog ops Q (o :: rest) a w := by
  subst hx
  refine wpList_plain hgd fun _ hK => ?_
  unfold Oper.wp execOp
  simp only [ho, hv, own_string h h0, Sem.run_bind, Sem.run_pure, Result.andThen_ok]
  exact hK _ _ hk
end Go.Proofs.YtbkmkeaabcgifaaGreatDoor

/-
  The draws of addresses by the cursor: each hands back some address by value.
  Conditions: the bytes lie below the cursor's block.
-/
import Derived.Test.YtbohkohccnieiaaDraw
import Derived.Test.YtbohkohccnieiaaTrio
import Derived.Test.YtbohkohccnieiaaAdr
namespace Go.Proofs.Ytbohkohccnieiaa.Draw
open Go Go.RowKit Go.Proofs.Ytbohkohccnieiaa.Adr

def I64 (z : Int) : Prop := -9223372036854775808 ≤ z ∧ z ≤ 9223372036854775807
/-- An address by value. -/
def IsAdr (e : Ending) : Prop := ∃ h p q : Int, I64 h ∧ I64 p ∧ I64 q ∧ e = .returned (Value.agg #[Value.int IntKind.i64 (h), Value.int IntKind.i64 (p), Value.int IntKind.i64 (q)])
theorem trio_only {T b p : Nat} {x y z : Value} {w w' : World} (h : Trio T b x y z w) (ho : Only p w w') (hne : b ≠ p) : Trio T b x y z w' := ho.heap h hne
theorem Only.setNew {p : Nat} {w w' : World} (h : Only p w w') {a : Addr} (ha : w.heap.size ≤ a.block) (v : Value) : Only p w (w'.setCell a v) :=
  ⟨h.os, h.tape, h.output, by show w.heap.size ≤ (w'.heap.modify a.block _).size; rw [Array.size_modify]; exact h.size, fun k hk hp => (heap_setCell_other w' _ k v (by omega)).trans (h.block k hk hp)⟩
theorem Cur.only_new {T B p : Nat} {w : World} (h : Cur T B p w) {a : Addr} (ha : a.block ≠ p) (hB : B ≤ a.block) (v : Value) : Cur T B p (w.setCell a v) :=
  h.on (q := a.block) (by have := (Only.refl a.block w); exact ⟨rfl, rfl, rfl, by show w.heap.size ≤ (w.heap.modify a.block _).size; rw [Array.size_modify]; exact Nat.le_refl _, fun k _ hk => heap_setCell_other w _ k v hk⟩) (Ne.symm ha) hB

set_option maxRecDepth 100000 in
theorem raw4 (B p : Nat) (w : World) (hc : Cur 89 B p w) :
    Calls Try.prog 82 #[.pointer (some ⟨p, 0, none⟩)] w fun e w' => IsInt e ∧ Cur 89 B p w' ∧ Only p w w' := by
  go_enter Try.func82, Try.ntmps82
  go_wp2_with (go_at_call 39; refine (int_new B p [-1, 0, 9, 10, 99, 100, 9223372036854775807, -9223372036854775808] _ _ _ rfl _ _ rfl hc (by decide) (by decide)).mono ?_; rintro e w2 ⟨⟨y, hy, rfl⟩, hc2, ho2⟩)
  go_ret
  exact ⟨isInt_of hy (by decide), hc2, ho2⟩

end Go.Proofs.Ytbohkohccnieiaa.Draw

/-
  The draws of addresses by the cursor: each hands back some address by value.
  Conditions: the bytes lie below the cursor's block.
-/
import Derived.Test.YtldpgkbemgpacaaDraws
import Derived.Test.YtldpgkbemgpacaaTrio
import Derived.Test.YtldpgkbemgpacaaAdr
namespace Go.Proofs.Ytldpgkbemgpacaa.Draw
open Go Go.RowKit Go.Proofs.Ytldpgkbemgpacaa.Adr

def I64 (z : Int) : Prop := -9223372036854775808 ≤ z ∧ z ≤ 9223372036854775807
/-- An address by value. -/
def IsAdr (e : Ending) : Prop := ∃ h p q : Int, I64 h ∧ I64 p ∧ I64 q ∧ e = .returned (Value.agg #[Value.int IntKind.i64 (h), Value.int IntKind.i64 (p), Value.int IntKind.i64 (q)])
theorem trio_only {T b p : Nat} {x y z : Value} {w w' : World} (h : Trio T b x y z w) (ho : Only p w w') (hne : b ≠ p) : Trio T b x y z w' := ho.heap h hne
theorem Only.setNew {p : Nat} {w w' : World} (h : Only p w w') {a : Addr} (ha : w.heap.size ≤ a.block) (v : Value) : Only p w (w'.setCell a v) :=
  ⟨h.os, h.tape, h.output, by show w.heap.size ≤ (w'.heap.modify a.block _).size; rw [Array.size_modify]; exact h.size, fun k hk hp => (heap_setCell_other w' _ k v (by omega)).trans (h.block k hk hp)⟩
theorem Cur.only_new {T B p : Nat} {w : World} (h : Cur T B p w) {a : Addr} (ha : a.block ≠ p) (hB : B ≤ a.block) (v : Value) : Cur T B p (w.setCell a v) :=
  h.on (q := a.block) (by have := (Only.refl a.block w); exact ⟨rfl, rfl, rfl, by show w.heap.size ≤ (w.heap.modify a.block _).size; rw [Array.size_modify]; exact Nat.le_refl _, fun k _ hk => heap_setCell_other w _ k v hk⟩) (Ne.symm ha) hB

set_option maxRecDepth 100000 in
theorem draw4 (B p : Nat) (w : World) (hc : Cur 91 B p w) :
    Calls Try.prog 47 #[.pointer (some ⟨p, 0, none⟩)] w fun e w' => IsAdr e ∧ Cur 91 B p w' ∧ Only p w w' := by
  have hp := hc.lt
  have hBp := hc.1
  have tA := Trio.new 26 (.int .i64 0) (.int .i64 0) (.int .i64 0) w
  have hc0 : Cur 91 B p (w.alloc (.cells #[.int .i64 0, .int .i64 0, .int .i64 0] 26)) := hc.below ((Below.refl _ _).alloc (Nat.le_refl _) _)
  have ho0 := (Only.refl p w).alloc (.cells #[.int .i64 0, .int .i64 0, .int .i64 0] 26)
  go_enter Try.func47, Try.ntmps47
  go_wp2_with fail
  go_at_call 40
  refine (below_any B p _ _ hc0 (by omega) (by omega)).mono ?_
  rintro e w1 ⟨⟨x, hx, rfl⟩, hc1, ho1⟩
  go_wp2_with fail
  go_at_call 40
  refine (below_any B p _ _ hc1 (by omega) (by omega)).mono ?_
  rintro e w2 ⟨⟨y, hy, rfl⟩, hc2, ho2⟩
  go_wp2_with fail
  go_at_call 40
  refine (below_any B p _ _ hc2 (by omega) (by omega)).mono ?_
  rintro e w3 ⟨⟨z, hz, rfl⟩, hc3, ho3⟩
  have hx3 : x < 3 := hx
  have hy3 : y < 3 := hy
  have hz3 : z < 3 := hz
  clear hx hy hz
  have hO := ((ho0.trans ho1).trans ho2).trans ho3
  have tF := trio_only tA ((ho1.trans ho2).trans ho3) (by omega)
  obtain ⟨a0, a1, a2⟩ := tF.cells
  obtain ⟨f0, f1, f2⟩ := tF.frozen
  clear tA hc0 hc1 hc2 ho0 ho1 ho2 ho3 hc
  go_wp2
  have g0 := (tF.set0 (.int .i64 (1 + x))).cells.1
  have g1 := ((tF.set0 (.int .i64 (1 + x))).set1 (.int .i64 y)).cells.2.1
  have g2 := (((tF.set0 (.int .i64 (1 + x))).set1 (.int .i64 y)).set2 (.int .i64 z)).cells.2.2
  refine bodyPost_ret (v := (Value.agg #[Value.int IntKind.i64 (1 + x), Value.int IntKind.i64 (y), Value.int IntKind.i64 (z)])) (by simp [results, Try.results47, go_sem, g0, g1, g2]) rfl ⟨⟨_, _, _, ⟨by omega, by omega⟩, ⟨by omega, by omega⟩, ⟨by omega, by omega⟩, rfl⟩, ?_, ((hO.setNew (Nat.le_refl _) _).setNew (Nat.le_refl _) _).setNew (Nat.le_refl _) _⟩
  exact ((hc3.only_new (by simp; omega) (by simp; omega) _).only_new (by simp; omega) (by simp; omega) _).only_new (by simp; omega) (by simp; omega) _

end Go.Proofs.Ytldpgkbemgpacaa.Draw

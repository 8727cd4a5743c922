/-
  A block of three cells of the call's own: its cells, what a write makes of it.
  Conditions: none; nothing of the program stands here.
-/
import Derived.Below
import Derived.OneCell
import Derived.Laws.Rows
namespace Go.Proofs.Ytagnhfalmefbhaa.Adr
open Go Go.RowKit

/-- Block b holds three cells. -/
def Trio (T : TypeId) (b : Nat) (x y z : Value) (w : World) : Prop := w.heap[b]? = some (.cells #[x, y, z] T (0, 0))
section
variable {T : TypeId} {b B : Nat} {x y z : Value} {w w' : World}
theorem Trio.new (T : TypeId) (x y z : Value) (w : World) : Trio T w.heap.size x y z (w.alloc (.cells #[x, y, z] T)) := by
  show (w.heap.push _)[w.heap.size]? = _
  simp
theorem Trio.lt (h : Trio T b x y z w) : b < w.heap.size := (Array.getElem?_eq_some_iff.1 h).1
theorem Trio.below (h : Trio T b x y z w) (hb : Below w.heap.size w w') : Trio T b x y z w' := (hb.block b h.lt).trans h
theorem Trio.alloc (h : Trio T b x y z w) (o : Obj) : Trio T b x y z (w.alloc o) := h.below ((Below.refl _ _).alloc (Nat.le_refl _) _)
theorem Trio.drew (h : Trio T b x y z w) : Trio T b x y z w.drew := h
theorem Trio.cells (h : Trio T b x y z w) : w.cell? ⟨b, 0, none⟩ = some x ∧ w.cell? ⟨b, 1, none⟩ = some y ∧ w.cell? ⟨b, 2, none⟩ = some z := by
  unfold Trio at h
  refine ⟨?_, ?_, ?_⟩ <;> simp [World.cell?, h]
theorem Trio.frozen (h : Trio T b x y z w) : w.frozen? ⟨b, 0, none⟩ = false ∧ w.frozen? ⟨b, 1, none⟩ = false ∧ w.frozen? ⟨b, 2, none⟩ = false :=
  ⟨frozen_of_row w b 0 _ _ h, frozen_of_row w b 1 _ _ h, frozen_of_row w b 2 _ _ h⟩
theorem Trio.set0 (h : Trio T b x y z w) (u : Value) : Trio T b u y z (w.setCell ⟨b, 0, none⟩ u) := by
  have := heap_setCell_same w b 0 _ _ u h; simpa [Trio] using this
theorem Trio.set1 (h : Trio T b x y z w) (u : Value) : Trio T b x u z (w.setCell ⟨b, 1, none⟩ u) := by
  have := heap_setCell_same w b 1 _ _ u h; simpa [Trio] using this
theorem Trio.set2 (h : Trio T b x y z w) (u : Value) : Trio T b x y u (w.setCell ⟨b, 2, none⟩ u) := by
  have := heap_setCell_same w b 2 _ _ u h; simpa [Trio] using this
theorem Trio.other (h : Trio T b x y z w) {a : Addr} (u : Value) (hne : b ≠ a.block) : Trio T b x y z (w.setCell a u) := (heap_setCell_other w a b u hne).trans h
theorem Trio.cellAt {f : Nat → Value} (h : Trio T b (f 0) (f 1) (f 2) w) {j : Nat} (hj : j < 3) : w.cell? ⟨b, j, none⟩ = some (f j) := by
  obtain ⟨c0, c1, c2⟩ := h.cells
  have hj3 : j = 0 ∨ j = 1 ∨ j = 2 := by omega
  rcases hj3 with rfl | rfl | rfl <;> assumption
theorem Trio.frozenAt (h : Trio T b x y z w) (j : Nat) : w.frozen? ⟨b, j, none⟩ = false := frozen_of_row w b j _ _ h
theorem Trio.setAt {f g : Nat → Value} (h : Trio T b (f 0) (f 1) (f 2) w) {j : Nat} (hj : j < 3) (hg : ∀ k, k ≠ j → g k = f k) : Trio T b (g 0) (g 1) (g 2) (w.setCell ⟨b, j, none⟩ (g j)) := by
  have hj3 : j = 0 ∨ j = 1 ∨ j = 2 := by omega
  rcases hj3 with rfl | rfl | rfl
  · rw [hg 1 (by omega), hg 2 (by omega)]; exact h.set0 _
  · rw [hg 0 (by omega), hg 2 (by omega)]; exact h.set1 _
  · rw [hg 0 (by omega), hg 1 (by omega)]; exact h.set2 _
end
end Go.Proofs.Ytagnhfalmefbhaa.Adr

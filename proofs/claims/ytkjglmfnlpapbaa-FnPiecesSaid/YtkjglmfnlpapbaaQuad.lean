/-
  A block of four cells of the call's own: its cells, what a write makes of it.
  Conditions: none; nothing of the program stands here.
-/
import Derived.Below
import Derived.OneCell
import Derived.Laws.Rows
import Derived.Deep.Draws
namespace Go.Proofs.Ytkjglmfnlpapbaa.Res
open Go Go.RowKit

/-- Block b holds four cells. -/
def Quad (T : TypeId) (b : Nat) (x0 x1 x2 x3 : Value) (w : World) : Prop := w.heap[b]? = some (.cells #[x0, x1, x2, x3] T (0, 0))
section
variable {T : TypeId} {b B : Nat} {x0 x1 x2 x3 : Value} {w w' : World}
theorem Quad.new (T : TypeId) (x0 x1 x2 x3 : Value) (w : World) : Quad T w.heap.size x0 x1 x2 x3 (w.alloc (.cells #[x0, x1, x2, x3] T)) := by
  show (w.heap.push _)[w.heap.size]? = _
  simp
theorem Quad.lt (h : Quad T b x0 x1 x2 x3 w) : b < w.heap.size := (Array.getElem?_eq_some_iff.1 h).1
theorem Quad.below (h : Quad T b x0 x1 x2 x3 w) (hb : Below w.heap.size w w') : Quad T b x0 x1 x2 x3 w' := (hb.block b h.lt).trans h
theorem Quad.under (h : Quad T b x0 x1 x2 x3 w) (hb : Below B w w') (hB : b < B) : Quad T b x0 x1 x2 x3 w' := (hb.block b hB).trans h
theorem Quad.alloc (h : Quad T b x0 x1 x2 x3 w) (o : Obj) : Quad T b x0 x1 x2 x3 (w.alloc o) := h.below ((Below.refl _ _).alloc (Nat.le_refl _) _)
theorem Quad.drewN (h : Quad T b x0 x1 x2 x3 w) (n : Nat) : Quad T b x0 x1 x2 x3 (w.drewN n) := h
theorem Quad.drew (h : Quad T b x0 x1 x2 x3 w) : Quad T b x0 x1 x2 x3 w.drew := h
theorem Quad.cells (h : Quad T b x0 x1 x2 x3 w) : w.cell? ⟨b, 0, none⟩ = some x0 ∧ w.cell? ⟨b, 1, none⟩ = some x1 ∧ w.cell? ⟨b, 2, none⟩ = some x2 ∧ w.cell? ⟨b, 3, none⟩ = some x3 := by
  unfold Quad at h
  refine ⟨?_, ?_, ?_, ?_⟩ <;> simp [World.cell?, h]
theorem Quad.frozen (h : Quad T b x0 x1 x2 x3 w) : w.frozen? ⟨b, 0, none⟩ = false ∧ w.frozen? ⟨b, 1, none⟩ = false ∧ w.frozen? ⟨b, 2, none⟩ = false ∧ w.frozen? ⟨b, 3, none⟩ = false :=
  ⟨frozen_of_row w b 0 _ _ h, frozen_of_row w b 1 _ _ h, frozen_of_row w b 2 _ _ h, frozen_of_row w b 3 _ _ h⟩
theorem Quad.set0 (h : Quad T b x0 x1 x2 x3 w) (u : Value) : Quad T b u x1 x2 x3 (w.setCell ⟨b, 0, none⟩ u) := by
  have := heap_setCell_same w b 0 _ _ u h; simpa [Quad] using this
theorem Quad.set1 (h : Quad T b x0 x1 x2 x3 w) (u : Value) : Quad T b x0 u x2 x3 (w.setCell ⟨b, 1, none⟩ u) := by
  have := heap_setCell_same w b 1 _ _ u h; simpa [Quad] using this
theorem Quad.set2 (h : Quad T b x0 x1 x2 x3 w) (u : Value) : Quad T b x0 x1 u x3 (w.setCell ⟨b, 2, none⟩ u) := by
  have := heap_setCell_same w b 2 _ _ u h; simpa [Quad] using this
theorem Quad.set3 (h : Quad T b x0 x1 x2 x3 w) (u : Value) : Quad T b x0 x1 x2 u (w.setCell ⟨b, 3, none⟩ u) := by
  have := heap_setCell_same w b 3 _ _ u h; simpa [Quad] using this
end
end Go.Proofs.Ytkjglmfnlpapbaa.Res
